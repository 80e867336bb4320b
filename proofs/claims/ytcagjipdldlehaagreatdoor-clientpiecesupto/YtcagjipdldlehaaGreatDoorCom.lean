/- Small laws on texts that all the walks take. -/
import Derived.Test.YtcagjipdldlehaaGreatDoorPure
import Derived.Test.YtcagjipdldlehaaGreatDoorRows
import Derived.WalkKit
import Derived.ProofKit
import Derived.OpenShut
import Derived.Below
import Derived.Outline
namespace Go.Proofs.YtcagjipdldlehaaGreatDoor
open Go.ChangeShapes Go.WideShapes Go.ChangeAt Go.RowKit

theorem ret_bool {a b : Bool} (h : a = b) : Ending.returned (.bool a) = .returned (.bool b) := by rw [h]
theorem ret_int {k : IntKind} {a b : Int} (h : a = b) : Ending.returned (.int k a) = .returned (.int k b) := by rw [h]
theorem byte_lt (c : UInt8) : c.toNat < 256 := UInt8.toNat_lt c

theorem hide {p : Prop} (h : p) : Hid p := h
theorem take_snoc (s : ByteArray) (k : Nat) (h : k < s.size) : s.data.toList.take (k + 1) = s.data.toList.take k ++ [s[k]] := by
  rw [List.take_succ_eq_append_getElem (by simpa using h)]; rfl
theorem take_all (s : ByteArray) (k : Nat) (h : s.size ≤ k) : s.data.toList.take k = s.data.toList := List.take_of_length_le (by simpa using h)
theorem all_snoc (p : UInt8 → Bool) (s : ByteArray) (k : Nat) (h : k < s.size) : (s.data.toList.take (k + 1)).all p = ((s.data.toList.take k).all p && p s[k]) := by
  rw [take_snoc s k h, List.all_append]; simp
theorem all_no (p : UInt8 → Bool) (s : ByteArray) (k : Nat) (h : k < s.size) (hp : p s[k] = false) : s.data.toList.all p = false := by
  cases e : s.data.toList.all p with
  | false => rfl
  | true =>
    have := List.all_eq_true.1 e s[k] (by exact List.getElem_mem (by simpa using h) (l := s.data.toList))
    rw [hp] at this
    cases this
theorem size_len (s : ByteArray) : s.data.toList.length = s.size := by simp
theorem isEmpty_size (s : ByteArray) : s.data.toList.isEmpty = decide (s.size = 0) := by
  rw [← size_len]; cases s.data.toList <;> simp

theorem byte_eqI (a b : UInt8) : (((a.toNat : Int)) == (b.toNat : Int)) = (a == b) := by
  rw [Bool.eq_iff_iff]
  simp only [beq_iff_eq, Int.natCast_inj]
  exact UInt8.toNat_inj

theorem beq_list (a b : List UInt8) : (a == b) = decide (a = b) := by rw [Bool.eq_iff_iff]; simp
theorem ext_list (t : ByteArray) (i j : Nat) : (t.extract i j).data.toList = (t.data.toList.drop i).take (j - i) := by
  rw [ByteArray.data_extract, Array.toList_extract, List.extract_eq_take_drop]
theorem ext_size (t : ByteArray) (i j : Nat) : (t.extract i j).size = min j t.size - i := ByteArray.size_extract
theorem app_list (a b : ByteArray) : (a ++ b).data.toList = a.data.toList ++ b.data.toList := by rw [ByteArray.data_append]; simp
theorem app_size (a b : ByteArray) : (a ++ b).size = a.size + b.size := ByteArray.size_append
def strLen : Value → Nat
  | .string t => t.size
  | _ => 0
theorem head_list (t : ByteArray) (h : 0 < t.size) : t.data.toList = t[0] :: (t.extract 1 t.size).data.toList := by
  rw [ext_list]
  have : t.data.toList.length = t.size := size_len t
  cases e : t.data.toList with
  | nil => rw [e] at this; simp at this; omega
  | cons a r =>
    have h2 : t.data.toList[0]? = some t[0] := by rw [List.getElem?_eq_getElem (by omega)]; rfl
    rw [e] at h2 this
    simp only [List.length_cons] at this
    simp only [List.getElem?_cons_zero, Option.some.injEq] at h2
    rw [h2, List.drop_succ_cons, List.drop_zero, List.take_of_length_le (by omega)]
theorem last_list (t : ByteArray) (h : 0 < t.size) : t.data.toList = (t.extract 0 (t.size - 1)).data.toList ++ [t[t.size - 1]] := by
  have := take_snoc t (t.size - 1) (by omega)
  rw [Nat.sub_add_cancel h, take_all t t.size (Nat.le_refl _)] at this
  rw [ext_list, List.drop_zero, Nat.sub_zero]
  exact this
theorem nil_list (t : ByteArray) (h : ¬ 0 < t.size) : t.data.toList = [] := List.eq_nil_of_length_eq_zero (by rw [size_len]; omega)
end Go.Proofs.YtcagjipdldlehaaGreatDoor
