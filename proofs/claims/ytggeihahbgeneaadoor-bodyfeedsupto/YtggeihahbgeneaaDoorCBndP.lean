/- How many bytes a decoder tells: never more than it has room for. -/
import Derived.Test.YtggeihahbgeneaaDoorCFeed3
namespace Go.Proofs.YtggeihahbgeneaaDoor
open Go.ChangeShapes Go.WideShapes Go.ChangeAt Go.RowKit

theorem end_room (d : Dz) (s : ByteArray) : (dEnd d s).2.left + (dEnd d s).2.room ≤ d.left + d.room := by
  unfold dEnd dSized dRead dTrl
  repeat' split
  all_goals first | exact Nat.le_refl _ | (dsimp only; omega)
theorem next_room (d : Dz) (c : UInt8) : (dNext d c).2.1.length + ((dNext d c).2.2.left + (dNext d c).2.2.room) ≤ d.left + d.room := by
  unfold dNext
  split
  · simp only [List.length_singleton]; omega
  · split
    · simp
    · split
      · have := end_room { d with line := [], ending := false } (sS d.line)
        simpa using this
      · repeat' split
        all_goals simp
theorem bytes_room : ∀ (l : List UInt8) (d : Dz), (dBytes d l).2.2.1.length + ((dBytes d l).2.2.2.left + (dBytes d l).2.2.2.room) ≤ d.left + d.room
  | [], d => by simp [dBytes]
  | c :: r, d => by
    have h1 := next_room d c
    rw [dBytes]
    split
    · exact h1
    · split
      · exact h1
      · have := bytes_room r (dNext d c).2.2
        simp only [List.length_append]
        omega
theorem bytes_full : ∀ (l : List UInt8) (d : Dz), (dBytes d l).2.1 = l.length ∨ (dBytes d l).1 ≠ 0 ∨ (dBytes d l).2.2.2.whole = true
  | [], _ => .inl rfl
  | c :: r, d => by
    rw [dBytes]
    split
    · exact .inr (.inl ‹_›)
    · split
      · exact .inr (.inr ‹_›)
      · rcases bytes_full r (dNext d c).2.2 with h | h
        · exact .inl (by simp [h])
        · exact .inr h
end Go.Proofs.YtggeihahbgeneaaDoor
