/- Whose each connection is: what the acts of a step make of it. -/
import Derived.Test.YtgeneknaekoinaaUCap
namespace Go.Proofs.Ytgeneknaekoinaa
open Go.ChangeShapes Go.WideShapes Go.ChangeAt Go.RowKit
set_option linter.unusedVariables false

/-- The connections rise by their numbers, all below how many were asked for; a resting one is nobody's. -/
structure Al (p : Pm) (O : List Int) : Prop where
  len : (O.length : Int) = p.asked
  rise : p.R.Pairwise (fun r s => r.c < s.c)
  below : ∀ r ∈ p.R, 0 ≤ r.c ∧ r.c < p.asked
  rest : ∀ r ∈ p.R, r.st = 2 → O.getD r.c.toNat 0 = -1
/-- What one act makes of the owners; none: it may not be. -/
def ownS (O : List Int) (a : Ac) : Option (List Int) :=
  if a.k = 1 then (if a.c = (O.length : Int) then some (O ++ [a.w]) else none)
  else if a.k = 2 then (if 0 ≤ a.c ∧ a.c < (O.length : Int) ∧ O.getD a.c.toNat 0 = -1 then some (O.set a.c.toNat a.w) else none)
  else if a.k = 5 then (if 0 ≤ a.c ∧ a.c < (O.length : Int) then some (O.set a.c.toNat (-1)) else none)
  else some O
def ownL : List Int → List Ac → Option (List Int)
  | O, [] => some O
  | O, a :: A => match ownS O a with | some O' => ownL O' A | none => none
theorem ownL_app {O O' : List Int} {A B : List Ac} (h : ownL O A = some O') : ownL O (A ++ B) = ownL O' B := by
  induction A generalizing O with
  | nil => simp [ownL] at h; subst h; rfl
  | cons a A ih =>
    unfold ownL at h
    split at h
    · rename_i O1 h1
      show (match ownS O a with | some O' => ownL O' (A ++ B) | none => none) = _
      rw [h1]
      exact ih h
    · simp at h
theorem ownL_take {O O' : List Int} {A : List Ac} (h : ownL O A = some O') : ∀ k, k ≤ A.length → ∃ O1, ownL O (A.take k) = some O1 := by
  induction A generalizing O with
  | nil => intro k hk; exact ⟨O, by simp [ownL]⟩
  | cons a A ih =>
    intro k hk
    unfold ownL at h
    split at h
    · rename_i O1 h1
      cases k with
      | zero => exact ⟨O, rfl⟩
      | succ k =>
        obtain ⟨O2, h2⟩ := ih h k (by simpa using hk)
        refine ⟨O2, ?_⟩
        show ownL O (a :: A.take k) = _
        unfold ownL
        rw [h1]
        exact h2
    · simp at h
theorem ownL_step {O O' O1 : List Int} {A : List Ac} {k : Nat} {a : Ac} (h : ownL O A = some O') (h1 : ownL O (A.take k) = some O1) (ha : A[k]? = some a) : ∃ O2, ownS O1 a = some O2 ∧ ownL O (A.take (k + 1)) = some O2 := by
  have e : A.take (k + 1) = A.take k ++ [a] := by rw [List.take_add_one, ha]; rfl
  have hk : k < A.length := (List.getElem?_eq_some_iff.1 ha).1
  obtain ⟨O2, h2⟩ := ownL_take h (k + 1) hk
  refine ⟨O2, ?_, h2⟩
  rw [e, ownL_app h1] at h2
  unfold ownL at h2
  split at h2
  · rename_i O3 h3
    simp [ownL] at h2
    subst h2
    exact h3
  · simp at h2
theorem getD_set_ne {O : List Int} {i j : Nat} {x : Int} (h : i ≠ j) : (O.set i x).getD j 0 = O.getD j 0 := by simp [List.getD, List.getElem?_set_ne h]
theorem getD_set_self {O : List Int} {i : Nat} {x : Int} (h : i < O.length) : (O.set i x).getD i 0 = x := by simp [List.getD, h]
section
variable {p : Pm} {O : List Int}
theorem rise_at {L : List Rk} (h : L.Pairwise (fun r s => r.c < s.c)) {i j : Nat} {r s : Rk} (hi : L[i]? = some r) (hj : L[j]? = some s) (e : r.c = s.c) : i = j := by
  obtain ⟨hi1, hi2⟩ := List.getElem?_eq_some_iff.1 hi
  obtain ⟨hj1, hj2⟩ := List.getElem?_eq_some_iff.1 hj
  rcases Nat.lt_trichotomy i j with x | x | x
  · have := List.pairwise_iff_getElem.1 h i j hi1 hj1 x
    rw [hi2, hj2] at this; omega
  · exact x
  · have := List.pairwise_iff_getElem.1 h j i hj1 hi1 x
    rw [hi2, hj2] at this; omega
/-- A row in its place with the same number. -/
theorem rise_set {L : List Rk} (h : L.Pairwise (fun r s => r.c < s.c)) {i : Nat} {r s : Rk} (hi : L[i]? = some r) (e : s.c = r.c) : (L.set i s).Pairwise (fun r s => r.c < s.c) := by
  rw [List.pairwise_iff_getElem] at h ⊢
  intro a b ha hb hab
  rw [List.length_set] at ha hb
  obtain ⟨hi1, hi2⟩ := List.getElem?_eq_some_iff.1 hi
  have g : ∀ k (hk : k < L.length), ((L.set i s)[k]'(by rw [List.length_set]; exact hk)).c = L[k].c := fun k hk => by
    rw [List.getElem_set]
    split
    · rename_i e2; subst e2; rw [e, hi2]
    · rfl
  rw [g a ha, g b hb]
  exact h a b ha hb hab
theorem rise_snoc {L : List Rk} {s : Rk} (h : L.Pairwise (fun r s => r.c < s.c)) (hb : ∀ r ∈ L, r.c < s.c) : (L ++ [s]).Pairwise (fun r s => r.c < s.c) := by
  rw [List.pairwise_append]
  exact ⟨h, by simp, fun a ha b hb' => by simp at hb'; subst hb'; exact hb a ha⟩
theorem mem_set_at {L : List Rk} {i : Nat} {s t : Rk} (h : t ∈ L.set i s) : t = s ∨ ∃ j, j ≠ i ∧ L[j]? = some t := by
  obtain ⟨j, hj, e⟩ := List.getElem_of_mem h
  rw [List.length_set] at hj
  rw [List.getElem_set] at e
  split at e
  · exact .inl e.symm
  · rename_i hne
    exact .inr ⟨j, fun x => hne x.symm, by rw [List.getElem?_eq_getElem hj, e]⟩
/-- Giving keeps it. -/
theorem Al.give (h : Al p O) {now who : Int} (hg : gvB p now = true) : ∃ O', ownS O (gvA p now who) = some O' ∧ Al (gvP p now who) O' := by
  rcases lat_cases p now with hi | ⟨i, r, hi, hr⟩
  · have hf : ¬ p.cap ≤ (p.R.length : Int) := by unfold gvB at hg; rw [decide_eq_true_eq] at hg; omega
    have e1 : gvA p now who = ⟨1, p.asked, who⟩ := by unfold gvA; rw [if_pos hi, if_neg hf]
    have e3 : gvP p now who = { p with asked := p.asked + 1, R := p.R ++ [⟨p.asked, 0, who, now, 0, 0⟩] } := by unfold gvP; rw [if_pos hi, if_neg hf]
    rw [e1, e3]
    refine ⟨O ++ [who], by unfold ownS; rw [if_pos rfl, if_pos h.len.symm], ⟨by dsimp only; rw [List.length_append]; simp; exact h.len, rise_snoc h.rise (fun r hr => (h.below r hr).2), fun r hr => ?_, fun r hr hs => ?_⟩⟩
    · dsimp only at hr ⊢
      rcases List.mem_append.1 hr with x | x
      · have := h.below r x; omega
      · simp at x; subst x
        have : 0 ≤ p.asked := by rw [← h.len]; omega
        dsimp only; omega
    · dsimp only at hr
      rcases List.mem_append.1 hr with x | x
      · have b := h.below r x
        have l := h.len
        have hlt : r.c.toNat < O.length := by omega
        rw [← h.rest r x hs]
        simp [List.getD, List.getElem?_append_left hlt]
      · simp at x; subst x; simp at hs
  · have hn : ¬ lat p now = -1 := by rw [hi]; omega
    have hgd : p.R.getD (lat p now).toNat ⟨0, 0, 0, 0, 0, 0⟩ = r := by rw [hi, Int.toNat_natCast, List.getD_eq_getElem?_getD, hr]; rfl
    have e1 : gvA p now who = ⟨2, r.c, who⟩ := by unfold gvA; rw [if_neg hn, hgd]
    have e3 : gvP p now who = { p with R := p.R.set i (reR r who) } := by unfold gvP; rw [if_neg hn, hgd, hi, Int.toNat_natCast]
    have hst : r.st = 2 := by
      have key : ∀ k, k ≤ p.R.length → ∀ j : Nat, bst p now p.R k = (j : Int) → ∀ s, p.R[j]? = some s → s.st = 2 := by
        intro k
        induction k with
        | zero => intro _ j hj; simp [bst] at hj
        | succ k ih =>
          intro hk j hj s hs
          rw [bst_succ (get_ok (show k < p.R.length by omega))] at hj
          split at hj
          · rename_i ht
            have : k = j := by omega
            subst this
            rw [get_ok (show k < p.R.length by omega)] at hs
            cases hs
            unfold tkB at ht
            simp at ht
            exact ht.1.1
          · exact ih (by omega) j hj s hs
      exact key _ (Nat.le_refl _) i hi r hr
    have hm := List.mem_of_getElem? hr
    have b := h.below r hm
    have l := h.len
    have hlt : r.c.toNat < O.length := by omega
    rw [e1, e3]
    refine ⟨O.set r.c.toNat who, ?_, ⟨by rw [List.length_set]; exact h.len, rise_set h.rise hr rfl, fun t ht => ?_, fun t ht hs => ?_⟩⟩
    · unfold ownS
      rw [if_neg (show ¬ (2 : Int) = 1 by omega), if_pos (show (2 : Int) = 2 from rfl), if_pos ⟨b.1, by dsimp only; omega, h.rest r hm hst⟩]
    · rcases mem_set_at ht with e | ⟨j, _, hj⟩
      · subst e; exact b
      · exact h.below t (List.mem_of_getElem? hj)
    · rcases mem_set_at ht with e | ⟨j, hne, hj⟩
      · subst e; simp [reR] at hs
      · have bt := h.below t (List.mem_of_getElem? hj)
        have : r.c.toNat ≠ t.c.toNat := fun e => hne (rise_at h.rise hj hr (by omega))
        rw [getD_set_ne this]
        exact h.rest t (List.mem_of_getElem? hj) hs
theorem Al.q (h : Al p O) (Q : List Int) : Al { p with Q := Q } O := ⟨h.len, h.rise, h.below, h.rest⟩
theorem Al.serve : ∀ (n : Nat) {p : Pm} {O : List Int} {now : Int}, p.Q.length = n → Al p O → ∃ O', ownL O (svA p now) = some O' ∧ Al (svP p now) O'
  | 0, p, O, now, hn, h => by
    have hq := List.eq_nil_of_length_eq_zero hn
    rw [(sv_nil hq).1, (sv_nil hq).2]
    exact ⟨O, rfl, h⟩
  | n + 1, p, O, now, hn, h => by
    cases hg : gvB p now with
    | false =>
      rw [(sv_stop hg).1, (sv_stop hg).2]
      exact ⟨O, rfl, h⟩
    | true =>
      obtain ⟨q, Q, hq⟩ := List.exists_cons_of_length_eq_add_one hn
      rw [(sv_go hg hq).1, (sv_go hg hq).2]
      obtain ⟨O1, h1, h2⟩ := h.give (who := q) hg
      obtain ⟨O2, h3, h4⟩ := Al.serve n (p := { gvP p now q with Q := Q }) (O := O1) (now := now) (by rw [hq] at hn; simpa using hn) (h2.q Q)
      refine ⟨O2, ?_, h4⟩
      unfold ownL
      rw [h1]
      exact h3
/-- A row taken out. -/
theorem Al.rm (h : Al p O) (i : Nat) : Al (rmP p i) O := ⟨h.len, h.rise.sublist (List.eraseIdx_sublist _ _), fun r hr => h.below r (List.mem_of_mem_eraseIdx hr), fun r hr => h.rest r (List.mem_of_mem_eraseIdx hr)⟩
/-- One that is let go is nobody's. -/
theorem Al.free (h : Al p O) {c : Int} (hc : 0 ≤ c) : Al p (O.set c.toNat (-1)) := by
  refine ⟨by rw [List.length_set]; exact h.len, h.rise, h.below, fun r hr hs => ?_⟩
  by_cases e : c.toNat = r.c.toNat
  · have b := h.below r hr
    have l := h.len
    rw [e, getD_set_self (by omega)]
  · rw [getD_set_ne e]
    exact h.rest r hr hs
theorem Al.close (h : Al p O) {r : Rk} {w : Int} (hr : 0 ≤ r.c ∧ r.c < p.asked) : ∃ O', ownS O ⟨5, r.c, w⟩ = some O' ∧ Al p O' := by
  refine ⟨O.set r.c.toNat (-1), ?_, h.free hr.1⟩
  unfold ownS
  have l := h.len
  rw [if_neg (show ¬ (5 : Int) = 1 by omega), if_neg (show ¬ (5 : Int) = 2 by omega), if_pos (show (5 : Int) = 5 from rfl), if_pos ⟨hr.1, by dsimp only; omega⟩]
/-- One that rests, where it is nobody's. -/
theorem Al.rs (h : Al p O) {i : Nat} {r : Rk} {now : Int} (hr : p.R[i]? = some r) (ho : O.getD r.c.toNat 0 = -1) : Al (rsP p i r now) O := by
  refine ⟨h.len, rise_set h.rise hr rfl, fun t ht => ?_, fun t ht hs => ?_⟩
  · rcases mem_set_at ht with e | ⟨j, _, hj⟩
    · subst e; exact h.below r (List.mem_of_getElem? hr)
    · exact h.below t (List.mem_of_getElem? hj)
  · rcases mem_set_at ht with e | ⟨j, hne, hj⟩
    · subst e; exact ho
    · exact h.rest t (List.mem_of_getElem? hj) hs
theorem Al.closes (h : Al p O) : ∀ (L : List Rk), (∀ r ∈ L, 0 ≤ r.c ∧ r.c < p.asked) → ∃ O', ownL O (L.map clA) = some O' ∧ Al p O' := by
  intro L
  induction L generalizing O with
  | nil => intro _; exact ⟨O, rfl, h⟩
  | cons r L ih =>
    intro hL
    obtain ⟨O1, h1, h2⟩ := h.close (w := -1) (hL r (by simp))
    obtain ⟨O2, h3, h4⟩ := ih h2 (fun s hs => hL s (List.mem_cons_of_mem _ hs))
    refine ⟨O2, ?_, h4⟩
    show ownL O (clA r :: L.map clA) = _
    unfold ownL
    rw [show ownS O (clA r) = some O1 from h1]
    exact h3
end
/-- The owners ahead of a step's acts. -/
def own0 (p : Pm) (O : List Int) (kd now who : Int) : List Int := if dsB p kd now who then O.set who.toNat (-1) else O
theorem Al.does {p : Pm} {O : List Int} (h : Al p O) (kd now who : Int) : (dsB p kd now who = true → 0 ≤ who ∧ who < (O.length : Int)) ∧ ∃ O', ownL (own0 p O kd now who) (dsA p kd now who) = some O' ∧ Al (dsP p kd now who) O' := by
  have l := h.len
  have inC : ∀ {c : Int} {i : Nat} {r : Rk}, idx (isC c) p.R = (i : Int) → p.R[i]? = some r → r.c = c := fun {c i r} hi hr => by
    rcases idx_cases (isC c) p.R with ⟨x, -⟩ | ⟨j, s, x, hs, hq, -⟩
    · omega
    · have : i = j := by omega
      subst this
      rw [hr] at hs
      cases hs
      unfold isC at hq
      simpa using hq
  have dn : ∀ keep, (dnE p now who = 0 → 0 ≤ who ∧ who < (O.length : Int)) ∧ ∃ O', ownL (if (dnE p now who == 0) = true then O.set who.toNat (-1) else O) (dnA p now who keep) = some O' ∧ Al (dnP p now who keep) O' := fun keep => by
    by_cases he : dnE p now who = 0
    · have hf : mom now = true ∧ ∃ (i : Nat) (r : Rk), idx (isC who) p.R = (i : Int) ∧ p.R[i]? = some r := by
        unfold dnE at he
        split at he
        · rename_i hm
          refine ⟨hm, ?_⟩
          split at he
          · rename_i hi
            rcases idx_cases (isC who) p.R with ⟨x, -⟩ | ⟨i, r, x, hr, -⟩
            · exact absurd x hi.1
            · exact ⟨i, r, x, hr⟩
          · omega
        · omega
      obtain ⟨hm, i, r, hi, hr⟩ := hf
      have hc := inC hi hr
      have b := h.below r (List.mem_of_getElem? hr)
      rw [hc] at b
      refine ⟨fun _ => ⟨b.1, by omega⟩, ?_⟩
      rw [if_pos (by rw [he]; rfl)]
      have hfr := h.free (c := who) b.1
      unfold dnA dnP
      rw [if_pos he, if_pos he]
      unfold dn0 dn1
      rw [hi, rowC_of hi hr, Int.toNat_natCast]
      split
      · obtain ⟨O', h1, h2⟩ := Al.serve _ (now := now) rfl (hfr.rs (i := i) (r := r) (now := now) hr (by rw [hc, getD_set_self (by omega)]))
        exact ⟨O', h1, h2⟩
      · obtain ⟨O1, h1, h2⟩ := hfr.close (r := r) (w := -1) (by rw [hc]; exact b)
        rw [hc] at h1
        obtain ⟨O2, h3, h4⟩ := Al.serve _ (now := now) rfl (h2.rm i)
        refine ⟨O2, ?_, h4⟩
        show ownL _ (⟨5, who, -1⟩ :: svA (rmP p i) now) = _
        unfold ownL
        rw [h1]
        exact h3
    · refine ⟨fun x => absurd x he, ?_⟩
      rw [if_neg (by simpa using he)]
      unfold dnA dnP
      rw [if_neg he, if_neg he]
      exact ⟨O, rfl, h⟩
  unfold own0
  by_cases n0 : kd = 0
  · subst n0
    refine ⟨fun x => by simp [dsB] at x, ?_⟩
    have e : dsB p 0 now who = false := rfl
    rw [e, if_neg (by simp)]
    show ∃ O', ownL O (as0 p now who) = some O' ∧ Al (askP p now who) O'
    unfold as0
    by_cases he : askE p now who = 0
    · rw [if_pos he]
      cases hg : gvB p now with
      | true =>
        have ea : askA p now who = gvA p now who := by unfold askA; rw [he, hg]; rfl
        have ep : askP p now who = gvP p now who := by unfold askP; rw [he, hg]; rfl
        rw [ea, ep]
        obtain ⟨O1, h1, h2⟩ := h.give (who := who) hg
        exact ⟨O1, by unfold ownL; rw [h1]; rfl, h2⟩
      | false =>
        by_cases hp : (p.Q.length : Int) < p.pend
        · have ea : askA p now who = ⟨3, -1, who⟩ := by unfold askA; rw [he, hg, if_neg (by simp), if_neg (by simp), if_pos hp]
          have ep : askP p now who = { p with Q := p.Q ++ [who] } := by unfold askP; rw [he, hg, if_neg (by simp), if_neg (by simp), if_pos hp]
          rw [ea, ep]
          exact ⟨O, by unfold ownL ownS; simp [ownL], h.q _⟩
        · have ea : askA p now who = ⟨4, -1, who⟩ := by unfold askA; rw [he, hg, if_neg (by simp), if_neg (by simp), if_neg hp]
          have ep : askP p now who = p := by unfold askP; rw [he, hg, if_neg (by simp), if_neg (by simp), if_neg hp]
          rw [ea, ep]
          exact ⟨O, by unfold ownL ownS; simp [ownL], h⟩
    · rw [if_neg he]
      unfold askP
      rw [if_pos he]
      exact ⟨O, rfl, h⟩
  by_cases n1 : kd = 1
  · subst n1
    refine ⟨fun x => by simp [dsB] at x, ?_⟩
    rw [show dsB p 1 now who = false from rfl, if_neg (by simp)]
    refine ⟨O, rfl, ?_⟩
    show Al (upP p who) O
    unfold upP
    split
    · rename_i hb
      rcases idx_cases (isC who) p.R with ⟨hi, -⟩ | ⟨i, r, hi, hr, -⟩
      · unfold upB at hb; rw [hi] at hb; simp at hb
      · rw [hi, rowC_of hi hr, Int.toNat_natCast]
        refine ⟨h.len, rise_set h.rise hr rfl, fun t ht => ?_, fun t ht hs => ?_⟩
        · rcases mem_set_at ht with e | ⟨j, _, hj⟩
          · subst e; exact h.below r (List.mem_of_getElem? hr)
          · exact h.below t (List.mem_of_getElem? hj)
        · rcases mem_set_at ht with e | ⟨j, hne, hj⟩
          · subst e; simp [upR] at hs
          · exact h.rest t (List.mem_of_getElem? hj) hs
    · exact h
  by_cases n2 : kd = 2
  · subst n2
    rw [show dsB p 2 now who = (gnE p now who == 0) from rfl, show dsA p 2 now who = gnA p now who from rfl, show dsP p 2 now who = gnP p now who from rfl]
    by_cases he : gnE p now who = 0
    · have hf : mom now = true ∧ ∃ (i : Nat) (r : Rk), idx (isC who) p.R = (i : Int) ∧ p.R[i]? = some r := by
        unfold gnE at he
        split at he
        · rename_i hm
          refine ⟨hm, ?_⟩
          split at he
          · omega
          · rename_i hi
            rcases idx_cases (isC who) p.R with ⟨x, -⟩ | ⟨i, r, x, hr, -⟩
            · exact absurd x hi
            · exact ⟨i, r, x, hr⟩
        · omega
      obtain ⟨hm, i, r, hi, hr⟩ := hf
      have hc := inC hi hr
      have b := h.below r (List.mem_of_getElem? hr)
      rw [hc] at b
      refine ⟨fun _ => ⟨b.1, by omega⟩, ?_⟩
      unfold gnA gnP
      rw [if_pos (show (gnE p now who == 0) = true by rw [he]; rfl), if_pos he, if_pos he, hi, Int.toNat_natCast]
      exact Al.serve _ rfl ((h.free (c := who) b.1).rm i)
    · refine ⟨fun x => absurd (by simpa using x) he, ?_⟩
      rw [if_neg (by simpa using he)]
      unfold gnA gnP
      rw [if_neg he, if_neg he]
      exact ⟨O, rfl, h⟩
  by_cases n3 : kd = 3
  · subst n3
    rw [show dsB p 3 now who = (dnE p now who == 0) from rfl, show dsA p 3 now who = dnA p now who true from rfl, show dsP p 3 now who = dnP p now who true from rfl]
    exact ⟨fun x => (dn true).1 (by simpa using x), (dn true).2⟩
  by_cases n4 : kd = 4
  · subst n4
    rw [show dsB p 4 now who = (dnE p now who == 0) from rfl, show dsA p 4 now who = dnA p now who false from rfl, show dsP p 4 now who = dnP p now who false from rfl]
    exact ⟨fun x => (dn false).1 (by simpa using x), (dn false).2⟩
  have e2 : dsB p kd now who = false := by unfold dsB; rw [if_neg n2, if_neg (by omega)]
  rw [e2]
  refine ⟨fun x => by simp at x, ?_⟩
  rw [if_neg (by simp)]
  by_cases n5 : kd = 5
  · subst n5
    rw [show dsA p 5 now who = drA p now who from rfl, show dsP p 5 now who = drP p now who from rfl]
    unfold drA drP
    by_cases he : drE p now who = 0
    · rw [if_pos he, if_pos he]
      unfold dr0 dr1
      by_cases hq : 0 ≤ idx (isN who) p.Q
      · rw [if_pos hq, if_pos hq]
        exact Al.serve _ rfl (show Al (qmP p (idx (isN who) p.Q).toNat) O from h.q _)
      · rw [if_neg hq, if_neg hq]
        have hi : idx (isW who) p.R ≠ -1 := by
          unfold drE at he
          split at he
          · split at he
            · rename_i x; exact x.resolve_left hq
            · omega
          · omega
        rcases idx_cases (isW who) p.R with ⟨x, -⟩ | ⟨i, r, x, hr, -⟩
        · exact absurd x hi
        · rw [x, rowW_of x hr, Int.toNat_natCast]
          obtain ⟨O1, h1, h2⟩ := h.close (r := r) (w := who) (h.below r (List.mem_of_getElem? hr))
          obtain ⟨O2, h3, h4⟩ := Al.serve _ (now := now) rfl (h2.rm i)
          refine ⟨O2, ?_, h4⟩
          show ownL _ (⟨5, r.c, who⟩ :: svA (rmP p i) now) = _
          unfold ownL
          rw [h1]
          exact h3
    · rw [if_neg he, if_neg he]
      exact ⟨O, rfl, h⟩
  · have e1 : dsA p kd now who = exA p now := by unfold dsA; rw [if_neg n0, if_neg n1, if_neg n2, if_neg n3, if_neg n4, if_neg n5]
    have e3 : dsP p kd now who = exP p now := by unfold dsP; rw [if_neg n0, if_neg n1, if_neg n2, if_neg n3, if_neg n4, if_neg n5]
    rw [e1, e3]
    unfold exA exP
    split
    · obtain ⟨O1, h1, h2⟩ := h.closes (p.R.filter (exB p now)) (fun r hr => h.below r (List.mem_filter.1 hr).1)
      have h3 : Al (ex1 p now) O1 := ⟨h2.len, h2.rise.sublist List.filter_sublist, fun r hr => h2.below r (List.mem_filter.1 hr).1, fun r hr => h2.rest r (List.mem_filter.1 hr).1⟩
      obtain ⟨O2, h4, h5⟩ := Al.serve _ (now := now) rfl h3
      refine ⟨O2, ?_, h5⟩
      rw [show exC p now p.R = (p.R.filter (exB p now)).map clA from rfl, ownL_app h1]
      exact h4
    · exact ⟨O, rfl, h⟩
end Go.Proofs.Ytgeneknaekoinaa
