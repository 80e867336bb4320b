/- Values and trimmed texts: the program's and the document's. -/
import Derived.Test.YtalihfohdejalaaDoorTok
namespace Go.Proofs.YtalihfohdejalaaDoor
open Go.ChangeShapes Go.WideShapes Go.ChangeAt Go.RowKit

theorem token_pos {s : ByteArray} {k : Nat} (hk : s.size ≤ k) (h : (s.data.toList.take k).all tokc = true) : decide (0 < s.size) = tokenB s.data.toList := by
  rw [take_all s k hk] at h
  unfold tokenB
  rw [h, isEmpty_size, Bool.eq_iff_iff]
  simp only [Bool.true_and, Bool.not_eq_true', decide_eq_true_eq, decide_eq_false_iff_not]
  omega

def trimS (s : ByteArray) : ByteArray := ⟨(trimB s.data.toList).toArray⟩
theorem trim_size (s : ByteArray) : (trimS s).size ≤ s.size := by
  have := trimB_le s.data.toList
  rw [size_len] at this
  exact this
theorem strim_any (s : ByteArray) (w : World) (hs : s.size ≤ maxLen) :
    Calls Tryd.prog 56 #[.string s, .string ⟨#[9, 32]⟩] w fun e w' => e = .returned (.string (trimS s)) ∧ Below w.heap.size w w' :=
  Any.strings_Trim_laid Tryd.lays160 (by kernel_rfl) s ⟨#[9, 32]⟩ w hs (by decide) (ascii_of_all (by decide))
theorem clone_any (s : ByteArray) (w : World) (hs : s.size ≤ 281474976710656) :
    Calls Tryd.prog 41 #[.string s] w fun e w' => e = .returned (.string s) ∧ Below w.heap.size w w' := by
  go_enter Tryd.func41, Tryd.ntmps41
  go_wp2_with (go_at_call 51; refine (Tryd.stringslite_Clone _ _ hs).mono ?_; rintro e w' ⟨rfl, hb⟩)
  go_ret
  exact ⟨rfl, hb⟩
theorem trim_any (s : ByteArray) (w : World) (hs : s.size ≤ 281474976710656) :
    Calls Tryd.prog 49 #[.string s] w fun e w' => e = .returned (.string (trimS s)) ∧ Below w.heap.size w w' := by
  have hz : (trimS s).size ≤ 281474976710656 := Nat.le_trans (trim_size s) hs
  have hm : s.size ≤ maxLen := by unfold maxLen; omega
  generalize hr : trimS s = r at hz ⊢
  have hT : ∀ w, Calls Tryd.prog 56 #[.string s, .string ⟨#[9, 32]⟩] w fun e w' => e = .returned (.string r) ∧ Below w.heap.size w w' := fun w => hr ▸ strim_any s w hm
  have HT := hide hT
  clear hr hT
  go_enter Tryd.func49, Tryd.ntmps49
  go_wp2_with (first | (go_at_call 56; refine (HT.out _).mono ?_; rintro e w1 ⟨rfl, hb1⟩) | (go_at_call 41; refine (clone_any _ _ hz).mono ?_; rintro e w2 ⟨rfl, hb2⟩))
  go_ret
  exact ⟨rfl, hb1.trans (hb2.mono hb1.size)⟩

/-! ### Values -/
theorem value_end {s r : ByteArray} {k : Nat} (hk : s.size ≤ k) (h : (s.data.toList.take k).all valc = true) (hr : trimS s = r) : (s.toList == r.toList) = valueB s.data.toList := by
  rw [take_all s k hk] at h
  subst hr
  unfold valueB
  rw [h, Lib.toList_data, Lib.toList_data, beq_list]
  rfl

theorem ltrim_blank {t : ByteArray} (h : 0 < t.size) (hb : blankc t[0] = true) : ltrim t.data.toList = ltrim (t.extract 1 t.size).data.toList := by
  rw [head_list t h, ltrim_cons, if_pos hb]
theorem ltrim_stop {t : ByteArray} (h : 0 < t.size) (hb : blankc t[0] = false) : ltrim t.data.toList = t.data.toList := by
  rw [head_list t h, ltrim_cons, if_neg (by rw [hb]; simp)]
theorem rtrim_blank {t : ByteArray} (h : 0 < t.size) (hb : blankc t[t.size - 1] = true) : rtrim t.data.toList = rtrim (t.extract 0 (t.size - 1)).data.toList := by
  rw [last_list t h, rtrim_snoc, if_pos hb]
theorem rtrim_stop {t : ByteArray} (h : 0 < t.size) (hb : blankc t[t.size - 1] = false) : rtrim t.data.toList = t.data.toList := by
  rw [last_list t h, rtrim_snoc, if_neg (by rw [hb]; simp)]
theorem trim_end {s t : ByteArray} (h : rtrim (ltrim s.data.toList) = rtrim t.data.toList) (h2 : rtrim t.data.toList = t.data.toList) : Ending.returned (.string t) = .returned (.string (trimS s)) := by
  have e : trimS s = t := by
    unfold trimS
    rw [trimB_eq, trim_comm, h, h2]
  rw [e]

set_option maxHeartbeats 400000 in
theorem rtrim_any (s : ByteArray) (w : World) (hs : s.size ≤ maxLen) :
    Calls Tryd.prog 47 #[.string s] w fun e w' => e = .returned (.string (trimS s)) ∧ w = w' := by
  unfold maxLen at hs
  go_enter Tryd.func47, Tryd.ntmps47
  go_wp2
  go_loop [0] (fun v => ∃ t : ByteArray, v = .string t ∧ t.size ≤ s.size ∧ Hid (ltrim s.data.toList = ltrim t.data.toList)) (fun v => strLen v)
  case atStart => exact ⟨s, rfl, Nat.le_refl _, rfl⟩
  case round =>
    obtain ⟨t, rfl, ht, H⟩ := hrel
    by_cases h0 : 0 < t.size
    · cases hb : blankc t[0] with
      | true =>
        have hz := ext_size t 1 t.size
        have H2 := hide (H.out.trans (ltrim_blank h0 hb))
        have HZ := hide hz
        clear hz
        go_wp2_with (go_at_call 55; refine (blank_any _ _).mono ?_; rintro e w' ⟨rfl, rfl⟩)
        exact ⟨⟨_, rfl, by rw [HZ.out]; omega, H2⟩, by simp only [strLen]; rw [HZ.out]; omega⟩
      | false =>
        have H2 := hide (congrArg rtrim (H.out.trans (ltrim_stop h0 hb)))
        clear H
        go_wp2_with (go_at_call 55; refine (blank_any _ _).mono ?_; rintro e w' ⟨rfl, rfl⟩)
        go_loop [0] (fun v => ∃ t : ByteArray, v = .string t ∧ t.size ≤ s.size ∧ Hid (rtrim (ltrim s.data.toList) = rtrim t.data.toList)) (fun v => strLen v)
        case atStart => exact ⟨t, rfl, ht, H2⟩
        case round =>
          clear H2 ht
          obtain ⟨r, rfl, hr, H3⟩ := hrel
          by_cases h1 : 0 < r.size
          · cases hc : blankc r[r.size - 1] with
            | true =>
              have H4 := hide (H3.out.trans (rtrim_blank h1 hc))
              have HZ := hide (ext_size r 0 (r.size - 1))
              go_wp2_with (go_at_call 55; refine (blank_any _ _).mono ?_; rintro e w' ⟨rfl, rfl⟩)
              exact ⟨⟨_, rfl, by rw [HZ.out]; omega, H4⟩, by simp only [strLen]; rw [HZ.out]; omega⟩
            | false =>
              have H4 := hide (trim_end H3.out (rtrim_stop h1 hc))
              go_wp2_with (go_at_call 55; refine (blank_any _ _).mono ?_; rintro e w' ⟨rfl, rfl⟩)
              go_ret
              exact ⟨H4.out, rfl⟩
          · have H4 := hide (trim_end H3.out (by rw [nil_list r h1]; rfl))
            go_wp2
            go_ret
            exact ⟨H4.out, rfl⟩
    · have H2 := hide (congrArg rtrim (H.out.trans (show ltrim t.data.toList = t.data.toList by rw [nil_list t h0]; rfl)))
      clear H
      go_wp2
      go_loop [0] (fun v => ∃ t : ByteArray, v = .string t ∧ t.size ≤ s.size ∧ Hid (rtrim (ltrim s.data.toList) = rtrim t.data.toList)) (fun v => strLen v)
      case atStart => exact ⟨t, rfl, ht, H2⟩
      case round =>
        clear H2 ht
        obtain ⟨r, rfl, hr, H3⟩ := hrel
        by_cases h1 : 0 < r.size
        · cases hc : blankc r[r.size - 1] with
          | true =>
            have H4 := hide (H3.out.trans (rtrim_blank h1 hc))
            have HZ := hide (ext_size r 0 (r.size - 1))
            go_wp2_with (go_at_call 55; refine (blank_any _ _).mono ?_; rintro e w' ⟨rfl, rfl⟩)
            exact ⟨⟨_, rfl, by rw [HZ.out]; omega, H4⟩, by simp only [strLen]; rw [HZ.out]; omega⟩
          | false =>
            have H4 := hide (trim_end H3.out (rtrim_stop h1 hc))
            go_wp2_with (go_at_call 55; refine (blank_any _ _).mono ?_; rintro e w' ⟨rfl, rfl⟩)
            go_ret
            exact ⟨H4.out, rfl⟩
        · have H4 := hide (trim_end H3.out (by rw [nil_list r h1]; rfl))
          go_wp2
          go_ret
          exact ⟨H4.out, rfl⟩

/-! ### The document's values -/
theorem valc_ref (c : UInt8) : valc c = (decide (c.toNat = 9) || (decide (32 ≤ c.toNat) && decide (c.toNat ≤ 126)) || decide (128 ≤ c.toNat)) := by
  rw [Bool.eq_iff_iff]
  simp only [valc, Bool.or_eq_true, Bool.and_eq_true, Bool.not_eq_true', decide_eq_true_eq, decide_eq_false_iff_not]
  omega
theorem value_ends {s : ByteArray} {k : Nat} (hk : s.size ≤ k) (h : (s.data.toList.take k).all valc = true) (h0 : 0 < s.size) : (!blankc s[0] && !blankc s[s.size - 1]) = valueB s.data.toList := by
  rw [take_all s k hk] at h
  unfold valueB
  rw [h, Bool.true_and, Bool.eq_iff_iff]
  simp only [Bool.and_eq_true, Bool.not_eq_true', decide_eq_true_eq]
  rw [trim_id]
  have e1 : s.data.toList.head? = some s[0] := by rw [head_list s h0]; rfl
  have e2 : s.data.toList.getLast? = some s[s.size - 1] := by rw [last_list s h0]; simp
  rw [e1, e2]
  simp
theorem value_nil {s : ByteArray} (h0 : ¬ 0 < s.size) : true = valueB s.data.toList := by
  rw [nil_list s h0]; simp [valueB, trimB_eq, ltrim, rtrim]

end Go.Proofs.YtalihfohdejalaaDoor
