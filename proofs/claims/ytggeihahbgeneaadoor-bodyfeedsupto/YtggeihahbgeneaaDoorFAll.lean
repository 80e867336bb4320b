/- The values of a name: the program's, the document's. -/
import Derived.Test.YtggeihahbgeneaaDoorFCheck
import Derived.Test.YtggeihahbgeneaaDoorLst
namespace Go.Proofs.YtggeihahbgeneaaDoor
open Go.ChangeShapes Go.WideShapes Go.ChangeAt Go.RowKit

/-- Has a field the name n? -/
def nmB (n : ByteArray) (f : ByteArray × ByteArray) : Bool := sameB f.1.data.toList n.data.toList
def allS (A : List (ByteArray × ByteArray)) (n : ByteArray) : List ByteArray := (A.filter (nmB n)).map (·.2)
/-- Every text of the list is short, and there are not many. -/
def Sm (A : List (ByteArray × ByteArray)) : Prop := A.length ≤ 1048576 ∧ ∀ f ∈ A, f.1.size ≤ 1048576 ∧ f.2.size ≤ 1048576
theorem Sm.at {A : List (ByteArray × ByteArray)} (h : Sm A) (k : Nat) (hk : k < A.length) : A[k].1.size ≤ 1048576 ∧ A[k].2.size ≤ 1048576 := h.2 _ (List.getElem_mem hk)
theorem take_snocF {α : Type} (A : List α) (k : Nat) (h : k < A.length) : A.take (k + 1) = A.take k ++ [A[k]] := List.take_succ_eq_append_getElem h
theorem allS_snoc (A : List (ByteArray × ByteArray)) (n a b : ByteArray) (f : ByteArray × ByteArray) (hf : f = (a, b)) (k : Nat) (hk : k < A.length) (he : A[k] = f) : allS (A.take (k + 1)) n = if nmB n f then allS (A.take k) n ++ [b] else allS (A.take k) n := by
  subst hf
  rw [take_snocF A k hk, he]
  unfold allS
  rw [List.filter_append]
  by_cases h : nmB n (a, b) = true
  · rw [if_pos h, List.filter_cons_of_pos h]; simp
  · rw [if_neg h, List.filter_cons_of_neg h]; simp
theorem allS_len (A : List (ByteArray × ByteArray)) (n : ByteArray) (k : Nat) : (allS (A.take k) n).length ≤ A.length := by
  unfold allS
  rw [List.length_map]
  exact Nat.le_trans (List.length_filter_le _ _) (by rw [List.length_take]; omega)
theorem low_beq (a n : ByteArray) (v : ByteArray) : ((lowS a).toList == (lowS n).toList) = nmB n (a, v) := same_eq a n

theorem Row.lower {W : World} {base base2 : Nat} {e : TypeId} {v : Value} {xs : List Value} (h : Row W base e v xs) (hb : base2 ≤ base) : Row W base2 e v xs := by
  refine ⟨h.1, ?_⟩
  rcases h.2 with x | ⟨g, cap, cur, rfl, h1, r⟩
  · exact .inl x
  · exact .inr ⟨g, cap, cur, rfl, Nat.le_trans hb h1, r⟩
end Go.Proofs.YtggeihahbgeneaaDoor
