/- The pool and the document's pool: asked, gone, dropped. -/
import Derived.Test.YtgeneknaekoinaaURl4
namespace Go.Proofs.Ytgeneknaekoinaa
open Go.ChangeShapes Go.WideShapes Go.ChangeAt Go.RowKit
set_option linter.unusedVariables false

section
variable {p : Pm} {q : Rm}
theorem Rel.ask (h : Rel p q) (now who : Int) : askE p now who = rkE q now who ∧ askA p now who = rkA q now who ∧ Rel (askP p now who) (rkP q now who) := by
  have eE : askE p now who = rkE q now who := by
    unfold askE rkE
    rw [h.whose, h.Q]
    have : (0 ≤ idx (isN who) p.Q) = (idx (isN who) p.Q ≠ -1) := by
      apply propext
      rcases idx_neg (isN who) p.Q with e | ⟨i, e, -⟩ <;> rw [e] <;> constructor <;> intro x <;> omega
    simp only [this]
  obtain ⟨gA, gB, gR⟩ := h.give now who
  refine ⟨eE, ?_, ?_⟩
  · unfold askA rkA
    rw [eE, gA, gB, h.Q, h.pend]
  · unfold askP rkP
    rw [eE, gB, h.Q, h.pend]
    split
    · exact h
    · split
      · exact gR
      · split
        · have := h.q' (p.Q ++ [who])
          rw [h.pend] at this
          exact this
        · exact h
theorem Rel.gone (h : Rel p q) (now c : Int) : gnE p now c = rnE q now c ∧ gnW p now c = rnW q now c ∧ gnA p now c = rnA q now c ∧ Rel (gnP p now c) (rnP q now c) := by
  have eE : gnE p now c = rnE q now c := by unfold gnE rnE; rw [h.place]
  unfold gnW rnW gnA rnA gnP rnP
  rw [← eE]
  by_cases e0 : gnE p now c = 0
  · have hne : idx (isC c) p.R ≠ -1 := by
      intro x
      unfold gnE at e0
      rw [x] at e0
      cases hm : mom now <;> rw [hm] at e0 <;> simp at e0
    rcases idx_cases (isC c) p.R with ⟨e, -⟩ | ⟨i, r, e, hr, hf, -⟩
    · exact absurd e hne
    · have hc : r.c = c := by unfold isC at hf; simpa using hf
      obtain ⟨s, hs, -, a2, -, a4, a5⟩ := h.at hr
      have ec := (h.con hr hs).1
      rw [hc] at ec
      have hcut := h.cut hr
      rw [hc] at hcut
      obtain ⟨sA, sR⟩ := Rel.serve _ (now := now) rfl hcut
      rw [if_pos e0, if_pos e0, if_pos e0, if_pos e0, if_pos e0, if_pos e0, rowC_of e hr, ec, e, Int.toNat_natCast]
      refine ⟨rfl, ?_, sA, sR⟩
      by_cases h2 : r.st = 2
      · rw [if_pos (by omega)]; exact (a5 h2).2
      · rw [if_neg (by omega)]; exact (a4 h2).symm
  · rw [if_neg e0, if_neg e0, if_neg e0, if_neg e0, if_neg e0, if_neg e0]
    exact ⟨rfl, rfl, rfl, h⟩
end
end Go.Proofs.Ytgeneknaekoinaa
