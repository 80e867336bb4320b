/- Things side by side, bracketed otherwise. -/
import Derived.Test.YtjfpdenakgifgaaASay
namespace Go.Proofs.Ytjfpdenakgifgaa
open Go.ChangeShapes Go.WideShapes Go.ChangeAt Go.RowKit
set_option linter.unusedVariables false

theorem Two.assoc {A B C : Thing} {w : World} {P : Nat → Prop} (h : Two (Two A B) C w P) : Two A (Two B C) w P := by
  obtain ⟨P1, P3, ⟨Pa, Pb, h1, h2, h3, h4⟩, h5, h6, h7⟩ := h
  refine ⟨Pa, fun k => Pb k ∨ P3 k, h1, ⟨Pb, P3, h2, h5, fun k hk => h6 k ((h4 k).2 (.inr hk)), fun k => Iff.rfl⟩, fun k hk x => ?_, fun k => ?_⟩
  · rcases x with x | x
    · exact h3 k hk x
    · exact h6 k ((h4 k).2 (.inl hk)) x
  · rw [h7 k, h4 k, or_assoc]
theorem Top.assoc {A B C : Thing} {W w : World} (h : Top (Two (Two A B) C) W w) : Top (Two A (Two B C)) W w := by
  obtain ⟨P, h1, h2, h3⟩ := h
  exact ⟨P, h1.assoc, h2, h3⟩
end Go.Proofs.Ytjfpdenakgifgaa
