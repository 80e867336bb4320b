/- The program's list of a text's elements. -/
import Derived.Test.YtekkhjlipijmcaaGreatDoorPend
import Derived.Test.YtekkhjlipijmcaaGreatDoorStrs
namespace Go.Proofs.YtekkhjlipijmcaaGreatDoor
open Go.ChangeShapes Go.WideShapes Go.ChangeAt Go.RowKit

def sS (l : List UInt8) : ByteArray := ⟨l.toArray⟩
theorem sS_list (l : List UInt8) : (sS l).data.toList = l := by simp [sS]
theorem sS_size (l : List UInt8) : (sS l).size = l.length := by rw [← size_len, sS_list]
theorem sS_of (s : ByteArray) : sS s.data.toList = s := by cases s; simp [sS]
/-- The elements, as texts. -/
def listS (l : List UInt8) : List ByteArray := (listB l).map sS
theorem listS_len (l : List UInt8) : (listS l).length ≤ l.length := by unfold listS; rw [List.length_map]; exact listB_len l
theorem trimS_eq (s : ByteArray) : trimS s = sS (trimB s.data.toList) := rfl

theorem ext_take (t : ByteArray) (e : Nat) : (t.extract 0 e).data.toList = t.data.toList.take e := by rw [ext_list, List.drop_zero, Nat.sub_zero]
theorem ext_drop (t : ByteArray) (e : Nat) : (t.extract e t.size).data.toList = t.data.toList.drop e := by
  rw [ext_list]
  exact List.take_of_length_le (by rw [List.length_drop, size_len]; omega)
theorem drop_min (t : ByteArray) (e : Nat) : t.data.toList.drop (min (e + 1) t.size) = t.data.toList.drop (e + 1) := by
  by_cases h : e + 1 ≤ t.size
  · rw [Nat.min_eq_left h]
  · rw [Nat.min_eq_right (by omega), drop_end t _ (Nat.le_refl _), drop_end t _ (by omega)]

/-- One part more: the element that it adds, if it is not empty, and what is left. -/
theorem list_step (t : ByteArray) (h : 0 < t.size) (m : Nat) (hm : m = min (pend false false t.data.toList + 1) t.size) :
    listS t.data.toList = (if (trimS (t.extract 0 (pend false false t.data.toList))).size = 0 then [] else [trimS (t.extract 0 (pend false false t.data.toList))]) ++ listS (t.extract m t.size).data.toList := by
  have hn : t.data.toList ≠ [] := fun e => by have := size_len t; rw [e] at this; simp at this; omega
  unfold listS
  rw [listB_cons hn, List.map_append, ext_drop, hm, drop_min]
  congr 1
  rw [trimS_eq, ext_take, sS_size]
  unfold elem
  by_cases h0 : trimB (t.data.toList.take (pend false false t.data.toList)) = []
  · rw [if_pos h0, h0]; rfl
  · rw [if_neg h0, if_neg (by intro e; exact h0 (List.eq_nil_of_length_eq_zero e))]; rfl

end Go.Proofs.YtekkhjlipijmcaaGreatDoor
