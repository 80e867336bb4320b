/- A world's calls: what each tells, and what the world is behind it. -/
import Derived.Test.YtpgbpfdgbajhlaaOpen
namespace Go.Proofs.Ytpgbpfdgbajhlaa
open Go.ChangeShapes Go.WideShapes Go.ChangeAt Go.RowKit

section
variable {W : World} {c : Nat} {S : List Cn} {dr : List Int} {own : Nat → Option Tag} {ph : Nat → Ph} {mo mc : Option Nat} {fo fc : Int → Option Value} {dv : Value} {dg : Option Nat} {i : Nat} {x : Cn} {k : Int}

def fresh (k : Int) : Cn := ⟨k, true, false, [], [], 0⟩

theorem get_push {S : List Cn} {y z : Cn} {j : Nat} (h : (S ++ [y])[j]? = some z) : (j = S.length ∧ z = y) ∨ (j < S.length ∧ S[j]? = some z) := by
  by_cases hj : j < S.length
  · rw [List.getElem?_append_left hj] at h; exact .inr ⟨hj, h⟩
  · rw [List.getElem?_append_right (by omega)] at h
    have : j - S.length = 0 := by
      have := (List.getElem?_eq_some_iff.1 h).1
      simp at this; omega
    rw [this] at h
    exact .inl ⟨by omega, by simpa using h.symm⟩

theorem WObj.push (h : WObj W c S dr own ph mo mc fo fc dv dg) {W' : World} {own' : Nat → Option Tag} {bo bc nb : Nat} (hno : ∀ x ∈ S, x.num ≠ k) (hs : W.heap.size ≤ W'.heap.size) (ho : ∀ b t, own b = some t → own' b = some t) (hlow : ∀ b t, own' b = some t → b < W'.heap.size)
    (keep : ∀ b t, own b = some t → t ≠ .ob → t ≠ .om → t ≠ .cm → W'.heap[b]? = W.heap[b]?) (hblk : W'.heap[c]? = some (.cells #[.map (some bo), .map (some bc), dv] 61 (0, 0))) (to : own' bo = some .om) (tc : own' bc = some .cm)
    (po : PM W' bo (upd fo k (some (ptr nb))) 1024) (pc : PM W' bc fc (S.length + 1)) (tn : own' nb = some (.cn S.length)) (hnew : W'.heap[nb]? = some (.cells Fresh 72 (0, 0))) :
    WObj W' c (S ++ [fresh k]) dr own' (fun j => if j = S.length then ⟨nb, .slice none 0 0, .slice none 0 0, none, none⟩ else ph j) (some bo) (some bc) (upd fo k (some (ptr nb))) fc dv dg := by
  refine ⟨hblk, ho _ _ h.tag, hlow, h.drw.frame hs (fun g hg => keep _ _ (h.dtag g hg) nofun nofun nofun), fun g hg => ho _ _ (h.dtag g hg), .inr ⟨bo, bc, rfl, rfl, to, tc, po, by simpa using pc⟩, ?_, ?_, ?_⟩
  · intro j y hy
    rcases get_push hy with ⟨rfl, rfl⟩ | ⟨hj, hy⟩
    · simp only [if_true]
      exact ⟨Row.nil _ _, nofun, fun _ => ⟨hnew, tn, Row.nil _ _, nofun⟩⟩
    · simp only [if_neg (show j ≠ S.length by omega)]
      exact (h.ent j y hy).frame hs ho (fun _ e => keep _ _ e nofun nofun nofun) (fun _ e => keep _ _ e nofun nofun nofun) (fun _ e => keep _ _ e nofun nofun nofun)
  · intro j y hy
    rcases get_push hy with ⟨rfl, rfl⟩ | ⟨hj, hy⟩
    · simp only [if_true]
      exact ⟨fun _ => ⟨by simp [upd, fresh], (h.fn k hno).2⟩, fun e => by simp [fresh] at e⟩
    · simp only [if_neg (show j ≠ S.length by omega)]
      have := h.fs j y hy
      rw [show upd fo k (some (ptr nb)) y.num = fo y.num by simp [upd, hno y (List.mem_of_getElem? hy)]]
      exact this
  · intro j hj
    have h1 := h.fn j (fun y hy => hj y (by simp [hy]))
    have h2 : j ≠ k := fun e => hj (fresh k) (by simp) (by rw [e]; rfl)
    exact ⟨by simp [upd, h2, h1.1], h1.2⟩

theorem WObj.shut {bo bc : Nat} (h : WObj W c S dr own ph (some bo) (some bc) fo fc dv dg) (hS : SOk S dr) {W' : World} (hx : S[i]? = some x) (hs : W.heap.size ≤ W'.heap.size) (keep : ∀ b t, own b = some t → t ≠ .om → t ≠ .cm → W'.heap[b]? = W.heap[b]?)
    (to : own bo = some .om) (tc : own bc = some .cm) (po : PM W' bo (upd fo x.num none) 1024) (pc : PM W' bc (upd fc x.num (some (ph i).sv)) S.length) :
    WObj W' c (S.set i { x with isOpen := false }) dr own ph (some bo) (some bc) (upd fo x.num none) (upd fc x.num (some (ph i).sv)) dv dg := by
  have hil : i < S.length := (List.getElem?_eq_some_iff.1 hx).1
  have hget : ∀ (j : Nat) (y : Cn), (S.set i { x with isOpen := false })[j]? = some y → (j = i ∧ y = { x with isOpen := false }) ∨ (j ≠ i ∧ S[j]? = some y) := by
    intro j y hy
    rw [List.getElem?_set] at hy
    by_cases hj : i = j
    · subst hj
      rw [if_pos rfl, if_pos hil] at hy
      exact .inl ⟨rfl, (Option.some.inj hy).symm⟩
    · rw [if_neg hj] at hy
      exact .inr ⟨fun e => hj e.symm, hy⟩
  have hnum : ∀ (j : Nat) (y : Cn), j ≠ i → S[j]? = some y → y.num ≠ x.num := by
    intro j y hj hy e
    have hjl : j < S.length := (List.getElem?_eq_some_iff.1 hy).1
    have e1 : (S.map Cn.num)[j]? = (S.map Cn.num)[i]? := by rw [List.getElem?_map, List.getElem?_map, hy, hx]; simp [e]
    exact hj ((List.getElem?_inj (by simpa using hjl) hS.nums).1 e1)
  refine ⟨(keep _ _ h.tag nofun nofun).trans h.blk, h.tag, fun b t e => Nat.lt_of_lt_of_le (h.low b t e) hs, h.drw.frame hs (fun g hg => keep _ _ (h.dtag g hg) nofun nofun), h.dtag, .inr ⟨bo, bc, rfl, rfl, to, tc, po, by simpa using pc⟩, ?_, ?_, ?_⟩
  · intro j y hy
    rcases hget j y hy with ⟨rfl, rfl⟩ | ⟨hj, hy⟩
    · have he := (h.ent _ _ hx).frame hs (fun _ _ e => e) (fun _ e => keep _ _ e nofun nofun) (fun _ e => keep _ _ e nofun nofun) (fun _ e => keep _ _ e nofun nofun)
      exact ⟨he.row, he.stag, nofun⟩
    · exact (h.ent j y hy).frame hs (fun _ _ e => e) (fun _ e => keep _ _ e nofun nofun) (fun _ e => keep _ _ e nofun nofun) (fun _ e => keep _ _ e nofun nofun)
  · intro j y hy
    rcases hget j y hy with ⟨rfl, rfl⟩ | ⟨hj, hy⟩
    · exact ⟨nofun, fun _ => ⟨by simp [upd], by simp [upd]⟩⟩
    · have hne := hnum j y hj hy
      have := h.fs j y hy
      rw [show upd fo x.num none y.num = fo y.num by simp [upd, hne], show upd fc x.num (some (ph i).sv) y.num = fc y.num by simp [upd, hne]]
      exact this
  · intro j hj
    have h1 := h.fn j (fun y hy e => by
      obtain ⟨n, hn, rfl⟩ := List.getElem_of_mem hy
      by_cases en : n = i
      · subst en
        have ex : S[n] = x := by
          have := List.getElem?_eq_getElem hn
          rw [hx] at this
          exact (Option.some.inj this).symm
        exact hj { x with isOpen := false } (List.mem_of_getElem? (i := n) (by rw [List.getElem?_set, if_pos rfl, if_pos hil])) (by rw [← e, ex])
      · exact hj _ (List.mem_of_getElem? (i := n) (by rw [List.getElem?_set, if_neg (fun h => en h.symm)]; exact List.getElem?_eq_getElem hn)) e)
    have h2 : j ≠ x.num := fun e => hj { x with isOpen := false } (List.mem_of_getElem? (i := i) (by rw [List.getElem?_set, if_pos rfl, if_pos hil])) e.symm
    exact ⟨by simp [upd, h2, h1.1], by simp [upd, h2, h1.2]⟩

theorem SOk.push (hS : SOk S dr) (hno : ∀ x ∈ S, x.num ≠ k) (hk : 0 ≤ k) (hk2 : k ≤ 9223372036854775807) (hc : (S.filter Cn.isOpen).length < 1024) (hs : S.length < 70368744177664) : SOk (S ++ [fresh k]) dr := by
  have hm : ∀ (P : Cn → Prop), (∀ x ∈ S, P x) → P (fresh k) → ∀ x ∈ S ++ [fresh k], P x := by
    intro P h1 h2 x hx
    rcases List.mem_append.1 hx with h | h
    · exact h1 x h
    · rw [List.mem_singleton.1 h]; exact h2
  refine ⟨?_, hm _ hS.low ⟨hk, hk2⟩, hm _ hS.wlen (by simp [fresh]), hm _ hS.rm (by simp [fresh]), ?_, hm _ hS.slen (by simp [fresh]), by simp; omega, hS.draws, hS.dlow⟩
  · rw [List.map_append, List.nodup_append]
    refine ⟨hS.nums, by simp, ?_⟩
    intro a ha b hb e
    obtain ⟨y, hy, rfl⟩ := List.mem_map.1 ha
    simp only [List.map_cons, List.map_nil, List.mem_singleton] at hb
    exact hno y hy (by rw [e, hb]; rfl)
  · rw [List.filter_append]
    simp [fresh]; omega
theorem filter_shut_le (p : Cn → Bool) : ∀ (S : List Cn) (i : Nat) (x' : Cn), p x' = false → ((S.set i x').filter p).length ≤ (S.filter p).length
  | [], _, _, _ => by simp
  | y :: S, 0, x', e => by
    simp only [List.set_cons_zero, List.filter_cons, e, Bool.false_eq_true, if_false]
    split <;> simp
  | y :: S, i + 1, x', e => by
    have ih := filter_shut_le p S i x' e
    simp only [List.set_cons_succ, List.filter_cons]
    split <;> simp [ih]
theorem SOk.shut (hS : SOk S dr) (hx : S[i]? = some x) : SOk (S.set i { x with isOpen := false }) dr := by
  have hm := List.mem_of_getElem? hx
  refine ⟨by rw [map_set_same Cn.num S i x { x with isOpen := false } hx rfl]; exact hS.nums, fun y hy => ?_, fun y hy => ?_, fun y hy => ?_, Nat.le_trans (filter_shut_le _ _ _ _ rfl) hS.cnt, fun y hy => ?_, by rw [List.length_set]; exact hS.size, hS.draws, hS.dlow⟩
  · rcases SOk.mem hy with rfl | hy
    · exact hS.low x hm
    · exact hS.low y hy
  · rcases SOk.mem hy with rfl | hy
    · exact hS.wlen x hm
    · exact hS.wlen y hy
  · rcases SOk.mem hy with rfl | hy
    · exact hS.rm x hm
    · exact hS.rm y hy
  · rcases SOk.mem hy with rfl | hy
    · exact hS.slen x hm
    · exact hS.slen y hy
end
end Go.Proofs.Ytpgbpfdgbajhlaa
