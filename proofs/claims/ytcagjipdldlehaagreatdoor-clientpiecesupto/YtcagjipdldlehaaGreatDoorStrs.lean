/- Rows of texts; two of them held against one another. -/
import Derived.Test.YtcagjipdldlehaaGreatDoorApp
import Derived.Deep.QuietTactic
import Derived.BigQuiet
namespace Go.Proofs.YtcagjipdldlehaaGreatDoor
open Go.ChangeShapes Go.WideShapes Go.ChangeAt Go.RowKit

/-- The slice v reads as the texts A. -/
def Strs (W : World) (v : Value) (A : List ByteArray) : Prop := ∃ (a : Option Addr) (c : Nat), v = .slice a A.length c ∧ ∀ j (h : j < A.length), ∃ g, a = some ⟨g, 0, none⟩ ∧ g < W.heap.size ∧ W.cell? ⟨g, j, none⟩ = some (.string A[j])
def sc (A : List ByteArray) : List Value := A.map Value.string
theorem sc_len (A : List ByteArray) : (sc A).length = A.length := by simp [sc]
theorem sc_snoc (A : List ByteArray) (x : ByteArray) : sc (A ++ [x]) = sc A ++ [.string x] := by simp [sc]
theorem Strs.of_row {W : World} {base : Nat} {v : Value} {A : List ByteArray} (h : Row W base 9 v (sc A)) : Strs W v A := by
  obtain ⟨a, c, rfl, _, _⟩ := h.shape
  rw [sc_len] at h
  refine ⟨a, c, by rw [sc_len], fun j hj => ?_⟩
  obtain ⟨g, rfl, hc⟩ := h.cell (j := j) (by rw [sc_len]; exact hj)
  refine ⟨g, rfl, (h.lt rfl).2, ?_⟩
  rw [hc]
  simp [sc, hj]
theorem Strs.below {W W' : World} {v : Value} {A : List ByteArray} (h : Strs W v A) (hb : Below W.heap.size W W') : Strs W' v A := by
  obtain ⟨a, c, rfl, hc⟩ := h
  refine ⟨a, c, rfl, fun j hj => ?_⟩
  obtain ⟨g, h1, h2, h3⟩ := hc j hj
  exact ⟨g, h1, Nat.lt_of_lt_of_le h2 hb.size, (hb.cell (p := ⟨g, j, none⟩) h2).trans h3⟩
theorem below_drewN (w : World) (n : Nat) : Below w.heap.size w (w.drewN n) := ⟨rfl, rfl, rfl, Nat.le_refl _, fun _ _ => rfl⟩

theorem bytes_eq (a b : ByteArray) : (a.toList == b.toList) = decide (a = b) := by
  rw [Lib.toList_data, Lib.toList_data, beq_list, Bool.eq_iff_iff]
  simp only [decide_eq_true_eq]
  constructor
  · intro h
    cases a; cases b
    simp only [ByteArray.mk.injEq]
    exact Array.toList_inj.1 h
  · rintro rfl; rfl
theorem take_snocA (A : List ByteArray) (k : Nat) (h : k < A.length) : A.take (k + 1) = A.take k ++ [A[k]] := List.take_succ_eq_append_getElem h

end Go.Proofs.YtcagjipdldlehaaGreatDoor
