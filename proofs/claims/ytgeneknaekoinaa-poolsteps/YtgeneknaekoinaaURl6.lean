/- The pool and the document's pool: dropped, there. -/
import Derived.Test.YtgeneknaekoinaaURl5
namespace Go.Proofs.Ytgeneknaekoinaa
open Go.ChangeShapes Go.WideShapes Go.ChangeAt Go.RowKit
set_option linter.unusedVariables false

section
variable {p : Pm} {q : Rm}
theorem Rel.drop (h : Rel p q) (now who : Int) : drE p now who = rdE q now who ∧ drA p now who = rdA q now who ∧ Rel (drP p now who) (rdP q now who) := by
  have eE : drE p now who = rdE q now who := by
    unfold drE rdE
    rw [h.whose, h.Q]
    cases mom now with
    | false => rfl
    | true =>
      rw [if_pos rfl, if_pos rfl]
      rcases idx_neg (isN who) p.Q with e | ⟨i, e, -⟩
      · by_cases x : idx (isO who) q.L = -1
        · rw [if_neg (by rw [e, x]; simp), if_pos ⟨e, x⟩]
        · rw [if_pos (.inr x), if_neg (fun y => x y.2)]
      · rw [if_pos (.inl (by omega)), if_neg (fun y => by omega)]
  refine ⟨eE, ?_⟩
  unfold drA rdA drP rdP
  rw [← eE]
  by_cases e0 : drE p now who = 0
  · rw [if_pos e0, if_pos e0, if_pos e0, if_pos e0]
    rcases idx_neg (isN who) p.Q with e | ⟨i, e, -⟩
    · have hne : idx (isW who) p.R ≠ -1 := by
        intro x
        unfold drE at e0
        rw [x, e] at e0
        cases hm : mom now <;> rw [hm] at e0 <;> simp at e0
      rcases idx_cases (isW who) p.R with ⟨e', -⟩ | ⟨j, r, e', hr, hf, -⟩
      · exact absurd e' hne
      · obtain ⟨s, hs, a1, -⟩ := h.at hr
        have eo : conO q who = s := conO_of (by rw [← h.whose]; exact e') hs
        have d1 : dr1 p who = rmP p j := by unfold dr1; rw [if_neg (by omega), e', Int.toNat_natCast]
        have d0 : dr0 p who = [⟨5, r.c, who⟩] := by unfold dr0; rw [if_neg (by omega), rowW_of e' hr]
        have f1 : rd1 q who = cutP q r.c := by unfold rd1; rw [h.Q, if_pos e, eo, a1]
        have f0 : rd0 q who = [⟨5, r.c, who⟩] := by unfold rd0; rw [h.Q, if_pos e, eo, a1]
        obtain ⟨sA, sR⟩ := Rel.serve _ (now := now) rfl (h.cut hr)
        rw [d1, d0, f1, f0, sA]
        exact ⟨rfl, sR⟩
    · have d1 : dr1 p who = { p with Q := p.Q.eraseIdx i } := by unfold dr1 qmP; rw [if_pos (by omega), e, Int.toNat_natCast]
      have d0 : dr0 p who = [] := by unfold dr0; rw [if_pos (by omega)]
      have f1 : rd1 q who = { q with Q := p.Q.eraseIdx i } := by unfold rd1; rw [h.Q, if_neg (by omega), e, Int.toNat_natCast]
      have f0 : rd0 q who = [] := by unfold rd0; rw [h.Q, if_neg (by omega)]
      obtain ⟨sA, sR⟩ := Rel.serve _ (now := now) rfl (h.q' (p.Q.eraseIdx i))
      rw [d1, d0, f1, f0, sA]
      exact ⟨rfl, sR⟩
  · rw [if_neg e0, if_neg e0, if_neg e0, if_neg e0]
    exact ⟨rfl, h⟩
end
end Go.Proofs.Ytgeneknaekoinaa
