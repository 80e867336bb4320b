/- The document's list of a text's elements. -/
import Derived.Test.YtekkhjlipijmcaaGreatDoorLst
namespace Go.Proofs.YtekkhjlipijmcaaGreatDoor
open Go.ChangeShapes Go.WideShapes Go.ChangeAt Go.RowKit

theorem ext_one (s : ByteArray) (k : Nat) (h : k < s.size) : (s.extract k (k + 1)).data.toList = [s[k]] := by
  rw [ext_list, drop_cons s k h, show k + 1 - k = 1 by omega]
  rfl
theorem ext_one_size (s : ByteArray) (k : Nat) (h : k < s.size) : (s.extract k (k + 1)).size = 1 := by rw [ext_size]; omega
/-- What the pass still tells from the byte k on. -/
def rest (s : ByteArray) (t : ByteArray) (q sk : Bool) (k : Nat) : List ByteArray := (refL t.data.toList q sk (s.data.toList.drop k)).map sS
def elemS (t : ByteArray) : List ByteArray := if (trimS t).size = 0 then [] else [trimS t]
theorem elemS_eq (t : ByteArray) : (elem t.data.toList).map sS = elemS t := by
  unfold elemS elem
  rw [trimS_eq, sS_size]
  by_cases h0 : trimB t.data.toList = []
  · rw [if_pos h0, h0]; rfl
  · rw [if_neg h0, if_neg (by intro e; exact h0 (List.eq_nil_of_length_eq_zero e))]; rfl
theorem rest_end {s t : ByteArray} {q sk : Bool} {k : Nat} (h : s.size ≤ k) : rest s t q sk k = elemS t := by
  unfold rest
  rw [drop_end s k h, refL, elemS_eq]
theorem rest_cut {s t : ByteArray} {k : Nat} (h : k < s.size) (hc : s[k] = 44) : rest s t false false k = elemS t ++ rest s ⟨#[]⟩ false false (k + 1) := by
  unfold rest
  rw [drop_cons s k h, refL, if_pos ⟨hc, rfl⟩, List.map_append, elemS_eq]
theorem rest_next {s t : ByteArray} {q sk : Bool} {k : Nat} (h : k < s.size) (hc : ¬ (s[k] = 44 ∧ q = false)) {q' sk' : Bool} (hn : nx q sk s[k] = (q', sk')) : rest s t q sk k = rest s (t ++ s.extract k (k + 1)) q' sk' (k + 1) := by
  unfold rest
  rw [drop_cons s k h, refL, if_neg hc, hn, app_list, ext_one s k h]
theorem slice_one (s : ByteArray) (k : Nat) (h : k < s.size) (W : World) : (Instr.slice 9 (.string s) (some (.int .i64 (k : Int))) (some (.int .i64 ((k : Int) + 1))) none).run Tryz.prog W = .ok (.string (s.extract k (k + 1))) W := by
  rw [run_slice_string (P := Tryz.prog) W 9 s .i64 .i64 k (k + 1) Tryz.underlying9 (by omega) (by omega) (by omega)]
  rfl
theorem elemS_len (t : ByteArray) : (elemS t).length ≤ 1 := by unfold elemS; split <;> simp

end Go.Proofs.YtekkhjlipijmcaaGreatDoor
