/- Values and trimmed texts: the program's and the document's. -/
import Derived.Test.YthbhkgdijoiceaaDoorTok
namespace Go.Proofs.YthbhkgdijoiceaaDoor
open Go.ChangeShapes Go.WideShapes Go.ChangeAt Go.RowKit

theorem token_pos {s : ByteArray} {k : Nat} (hk : s.size ≤ k) (h : (s.data.toList.take k).all tokc = true) : decide (0 < s.size) = tokenB s.data.toList := by
  rw [take_all s k hk] at h
  unfold tokenB
  rw [h, isEmpty_size, Bool.eq_iff_iff]
  simp only [Bool.true_and, Bool.not_eq_true', decide_eq_true_eq, decide_eq_false_iff_not]
  omega

def trimS (s : ByteArray) : ByteArray := ⟨(trimB s.data.toList).toArray⟩
theorem trim_size (s : ByteArray) : (trimS s).size ≤ s.size := by
  have := trimB_le s.data.toList
  rw [size_len] at this
  exact this
theorem clone_any (s : ByteArray) (w : World) (hs : s.size ≤ 281474976710656) :
    Calls Tryd.prog 46 #[.string s] w fun e w' => e = .returned (.string s) ∧ Below w.heap.size w w' := by
  go_enter Tryd.func46, Tryd.ntmps46
  go_wp2_with (go_at_call 63; refine (Tryd.stringslite_Clone _ _ hs).mono ?_; rintro e w' ⟨rfl, hb⟩)
  go_ret
  exact ⟨rfl, hb⟩
theorem value_end {s r : ByteArray} {k : Nat} (hk : s.size ≤ k) (h : (s.data.toList.take k).all valc = true) (hr : trimS s = r) : (s.toList == r.toList) = valueB s.data.toList := by
  rw [take_all s k hk] at h
  subst hr
  unfold valueB
  rw [h, Lib.toList_data, Lib.toList_data, beq_list]
  rfl

theorem ltrim_blank {t : ByteArray} (h : 0 < t.size) (hb : blankc t[0] = true) : ltrim t.data.toList = ltrim (t.extract 1 t.size).data.toList := by
  rw [head_list t h, ltrim_cons, if_pos hb]
theorem ltrim_stop {t : ByteArray} (h : 0 < t.size) (hb : blankc t[0] = false) : ltrim t.data.toList = t.data.toList := by
  rw [head_list t h, ltrim_cons, if_neg (by rw [hb]; simp)]
theorem rtrim_blank {t : ByteArray} (h : 0 < t.size) (hb : blankc t[t.size - 1] = true) : rtrim t.data.toList = rtrim (t.extract 0 (t.size - 1)).data.toList := by
  rw [last_list t h, rtrim_snoc, if_pos hb]
theorem rtrim_stop {t : ByteArray} (h : 0 < t.size) (hb : blankc t[t.size - 1] = false) : rtrim t.data.toList = t.data.toList := by
  rw [last_list t h, rtrim_snoc, if_neg (by rw [hb]; simp)]
theorem trim_end {s t : ByteArray} (h : rtrim (ltrim s.data.toList) = rtrim t.data.toList) (h2 : rtrim t.data.toList = t.data.toList) : Ending.returned (.string t) = .returned (.string (trimS s)) := by
  have e : trimS s = t := by
    unfold trimS
    rw [trimB_eq, trim_comm, h, h2]
  rw [e]

theorem valc_ref (c : UInt8) : valc c = (decide (c.toNat = 9) || (decide (32 ≤ c.toNat) && decide (c.toNat ≤ 126)) || decide (128 ≤ c.toNat)) := by
  rw [Bool.eq_iff_iff]
  simp only [valc, Bool.or_eq_true, Bool.and_eq_true, Bool.not_eq_true', decide_eq_true_eq, decide_eq_false_iff_not]
  omega
theorem value_ends {s : ByteArray} {k : Nat} (hk : s.size ≤ k) (h : (s.data.toList.take k).all valc = true) (h0 : 0 < s.size) : (!blankc s[0] && !blankc s[s.size - 1]) = valueB s.data.toList := by
  rw [take_all s k hk] at h
  unfold valueB
  rw [h, Bool.true_and, Bool.eq_iff_iff]
  simp only [Bool.and_eq_true, Bool.not_eq_true', decide_eq_true_eq]
  rw [trim_id]
  have e1 : s.data.toList.head? = some s[0] := by rw [head_list s h0]; rfl
  have e2 : s.data.toList.getLast? = some s[s.size - 1] := by rw [last_list s h0]; simp
  rw [e1, e2]
  simp
theorem value_nil {s : ByteArray} (h0 : ¬ 0 < s.size) : true = valueB s.data.toList := by
  rw [nil_list s h0]; simp [valueB, trimB_eq, ltrim, rtrim]

end Go.Proofs.YthbhkgdijoiceaaDoor
