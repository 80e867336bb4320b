/- Things side by side, bracketed otherwise. -/
import Derived.Test.YtjfpdenakgifgaaASay
namespace Go.Proofs.Ytjfpdenakgifgaa
open Go.ChangeShapes Go.WideShapes Go.ChangeAt Go.RowKit
set_option linter.unusedVariables false

theorem Two.assoc {A B C : Thing} {w : World} {P : Nat → Prop} (h : Two (Two A B) C w P) : Two A (Two B C) w P := by
  obtain ⟨P1, P3, ⟨Pa, Pb, h1, h2, h3, h4⟩, h5, h6, h7⟩ := h
  refine ⟨Pa, fun k => Pb k ∨ P3 k, h1, ⟨Pb, P3, h2, h5, fun k hk => h6 k ((h4 k).2 (.inr hk)), fun k => Iff.rfl⟩, fun k hk x => ?_, fun k => ?_⟩
  · rcases x with x | x
    · exact h3 k hk x
    · exact h6 k ((h4 k).2 (.inl hk)) x
  · rw [h7 k, h4 k, or_assoc]
theorem Top.assoc {A B C : Thing} {W w : World} (h : Top (Two (Two A B) C) W w) : Top (Two A (Two B C)) W w := by
  obtain ⟨P, h1, h2, h3⟩ := h
  exact ⟨P, h1.assoc, h2, h3⟩
theorem wnA_len {p : Rq} (k : QOk p) (id : Int) : (wnA p id).length ≤ 10 := by
  unfold wnA
  have := (k.fg id).r9
  rw [List.length_append, lgA_len, ids_len]
  simp; omega
theorem dsA_len {p : Rq} (k : QOk p) (kd now id why : Int) (al : Bool) : (dsA p kd now id why al).length ≤ 100 := by
  have h9 := k.r9
  unfold dsA
  split
  · unfold faA; split
    · have := flA_len p id why al; omega
    · simp
  split
  · unfold heA; split
    · unfold heA0
      have := wnA_len k id
      split
      · omega
      split
      · rw [lgA_len]; simp
      split
      · rw [List.length_append, lgA_len]; simp [bgA]
      · omega
    · simp
  · unfold tmA; split
    · split
      · rw [List.length_append, lgA_len, ids_len]; simp [anA]; omega
      · rw [List.length_append]
        have h1 := llF_len p now al (ltL p now)
        have h2 := ltL_len p now
        have h3 : (hgA (llF p now al (ltL p now)).1 now al).length ≤ 1 := by unfold hgA; split <;> simp [bgA]
        omega
    · simp
end Go.Proofs.Ytjfpdenakgifgaa
