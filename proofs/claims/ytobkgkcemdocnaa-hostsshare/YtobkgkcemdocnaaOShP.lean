/- HostsShare: what is kept, as a relation of lists. -/
import Derived.Test.YtobkgkcemdocnaaOTot
namespace Go.Proofs.Ytobkgkcemdocnaa
open Go.ChangeShapes Go.WideShapes Go.ChangeAt Go.RowKit

/-- No host is used ahead of its moment, and never more than the share is ejected. -/
structure Jn (n : Nat) (sh t : Int) (L : List HR) (O : List Int) : Prop where
  len : L.length = n
  on : O.length = 16
  out : ∀ (i : Nat) (r : HR), L[i]? = some r → O.getD i 0 ≤ t ∨ (r.e = true ∧ r.u = O.getD i 0)
  few : 100 * (nE L : Int) ≤ sh * (n : Int)
theorem nE_br (m : Int) (L : List HR) : nE (brS m L) ≤ nE L := by
  unfold nE brS
  rw [List.countP_map]
  apply List.countP_mono_left
  intro r _ h
  simp only [Function.comp_apply] at h
  unfold brR at h
  split at h
  · simp at h
  · exact h
theorem Jn.br {n : Nat} {sh now t : Int} {L : List HR} {O : List Int} (h : Jn n sh now L O) (ht : now ≤ t) : Jn n sh t (brS t L) O := by
  refine ⟨by rw [brS_len]; exact h.len, h.on, fun i r hr => ?_, ?_⟩
  · unfold brS at hr
    rw [List.getElem?_map, Option.map_eq_some_iff] at hr
    obtain ⟨r0, h0, rfl⟩ := hr
    rcases h.out i r0 h0 with x | ⟨x, y⟩
    · left; omega
    · unfold brR
      by_cases hq : rst t r0 = true
      · left
        unfold rst at hq
        rw [Bool.and_eq_true, decide_eq_true_eq] at hq
        omega
      · right
        rw [if_neg hq]
        exact ⟨x, y⟩
  · have := nE_br t L
    have := h.few
    omega
theorem nE_set1 {L : List HR} {i : Nat} {r r' : HR} (hr : L[i]? = some r) (h0 : r.e = false) (h1 : r'.e = true) : nE (L.set i r') = nE L + 1 := by
  obtain ⟨hi, hx⟩ := List.getElem?_eq_some_iff.1 hr
  unfold nE
  rw [List.countP_set hi, hx, h0, h1]
  simp
theorem Jn.res {n : Nat} {fl bs lo sh t : Int} {L : List HR} {O : List Int} (h : Jn n sh t L O) {i : Nat} {r : HR} (hr : L[i]? = some r) (hn : n ≤ 16) (ok : Bool) :
    Jn n sh t (L.set i (resR fl bs lo sh t L r ok)) (if resB fl sh L r ok then O.set i (latI t (span bs lo (r.t + 1))) else O) ∧ (resB fl sh L r ok = true → ok = false ∧ O.getD i 0 ≤ t ∧ resR fl bs lo sh t L r ok = ejR bs lo t r) := by
  obtain ⟨hi, hx⟩ := List.getElem?_eq_some_iff.1 hr
  have hi2 : i < O.length := by rw [h.on, ← h.len] at *; have := h.len; omega
  cases hB : resB fl sh L r ok with
  | true =>
    unfold resB at hB
    rw [Bool.and_eq_true, Bool.and_eq_true] at hB
    obtain ⟨⟨he, hk⟩, hj⟩ := hB
    have he' : r.e = false := by simpa using he
    have hk' : ok = false := by simpa using hk
    subst hk'
    have hR : resR fl bs lo sh t L r false = ejR bs lo t r := by unfold resR; rw [he', hj]; rfl
    have hO : O.getD i 0 ≤ t := by
      rcases h.out i r hr with x | ⟨x, _⟩
      · exact x
      · rw [he'] at x; cases x
    rw [hR, if_pos rfl]
    refine ⟨⟨by rw [List.length_set]; exact h.len, by rw [List.length_set]; exact h.on, fun k r0 h0 => ?_, ?_⟩, fun _ => ⟨rfl, hO, rfl⟩⟩
    · by_cases hk : k = i
      · subst hk
        rw [List.getElem?_set_self hi] at h0
        simp only [Option.some.injEq] at h0
        subst h0
        right
        refine ⟨rfl, ?_⟩
        rw [List.getD_eq_getElem?_getD, List.getElem?_set_self hi2]
        rfl
      · rw [List.getElem?_set_ne (fun x => hk x.symm)] at h0
        rw [List.getD_eq_getElem?_getD, List.getElem?_set_ne (fun x => hk x.symm), ← List.getD_eq_getElem?_getD]
        exact h.out k r0 h0
    · rw [nE_set1 hr he' rfl]
      unfold ejB roomB at hj
      rw [Bool.and_eq_true, decide_eq_true_eq, h.len] at hj
      have := hj.2
      omega
  | false =>
    rw [if_neg (by simp)]
    have he2 : (resR fl bs lo sh t L r ok).e = r.e := by
      unfold resR
      cases he : r.e with
      | true => simp [he]
      | false =>
        cases hk : ok with
        | true => simp
        | false =>
          have hj : ejB fl sh L r = false := by unfold resB at hB; rw [he, hk] at hB; simpa using hB
          rw [hj]; simp
    refine ⟨⟨by rw [List.length_set]; exact h.len, h.on, fun k r0 h0 => ?_, by rw [nE_set hr he2]; exact h.few⟩, fun x => by cases x⟩
    by_cases hk : k = i
    · subst hk
      rw [List.getElem?_set_self hi] at h0
      simp only [Option.some.injEq] at h0
      subst h0
      rcases h.out k r hr with x | ⟨x, y⟩
      · exact .inl x
      · right
        have : resR fl bs lo sh t L r ok = r := by unfold resR; rw [x]; rfl
        rw [this]
        exact ⟨x, y⟩
    · rw [List.getElem?_set_ne (fun x => hk x.symm)] at h0
      exact h.out k r0 h0
theorem nums_mem {p : HR → Bool} {L : List HR} : ∀ (k : Nat) (x : Int), x ∈ nums p L k → ∃ (i : Nat) (r : HR), i < k ∧ x = (i : Int) ∧ L[i]? = some r ∧ p r = true
  | 0, x, h => by simp [nums] at h
  | k + 1, x, h => by
    have h2 : x ∈ nums p L k ++ (match L[k]? with | some r => if p r then [(k : Int)] else [] | none => []) := h
    rcases List.mem_append.1 h2 with h3 | h3
    · obtain ⟨i, r, a, b, c, d⟩ := nums_mem k x h3
      exact ⟨i, r, by omega, b, c, d⟩
    · cases hr : L[k]? with
      | none => rw [hr] at h3; simp at h3
      | some r =>
        rw [hr] at h3
        by_cases hp : p r = true
        · simp only [hp, if_true] at h3
          simp at h3
          exact ⟨k, r, by omega, h3, hr, hp⟩
        · simp [hp] at h3
/-- Of those that may be used. -/
theorem Jn.use {n : Nat} {sh t : Int} {L : List HR} {O : List Int} (h : Jn n sh t L O) {j : Nat} (hj : j < (nums usa L n).length) : ∃ i : Nat, i < n ∧ (nums usa L n).getD j 0 = (i : Int) ∧ O.getD i 0 ≤ t := by
  have hm : (nums usa L n).getD j 0 ∈ nums usa L n := by
    rw [List.getD_eq_getElem?_getD, List.getElem?_eq_getElem hj]
    exact List.getElem_mem hj
  obtain ⟨i, r, a, b, c, d⟩ := nums_mem n _ hm
  refine ⟨i, a, b, ?_⟩
  rcases h.out i r c with x | ⟨x, _⟩
  · exact x
  · unfold usa at d; rw [x] at d; simp at d
/-- The array of moments. -/
abbrev outO (O : List Int) : Obj := .cells (O.map (fun x => Value.int .i64 x)).toArray 40 (0, 0)
theorem out_cell {w : World} {o : Nat} {O : List Int} (h : w.heap[o]? = some (outO O)) {i : Nat} (hi : i < O.length) : w.cell? ⟨o, i, none⟩ = some (.int .i64 (O.getD i 0)) := by
  rw [cell_of h, List.getElem?_toArray, List.getElem?_map, List.getElem?_eq_getElem hi, List.getD_eq_getElem?_getD, List.getElem?_eq_getElem hi]
  rfl
theorem out_set {o : Nat} {O : List Int} {w : World} {P : Nat → Prop} (h : Blk o (outO O) w P) (i : Nat) (x : Int) : Does (Blk o (outO (O.set i x))) P w (w.setCell ⟨o, i, none⟩ (.int .i64 x)) :=
  ⟨P, ⟨by rw [hp_set h.1 i _, List.setIfInBounds_toArray, ← List.map_set], h.2⟩, (Fr.set _ _ _ _).mono (fun k _ e => (h.2 k).2 e), fun _ hk => .inl hk⟩
end Go.Proofs.Ytobkgkcemdocnaa
