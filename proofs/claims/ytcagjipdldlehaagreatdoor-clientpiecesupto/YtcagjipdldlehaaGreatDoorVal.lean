/- Values and trimmed texts: the program's and the document's. -/
import Derived.Test.YtcagjipdldlehaaGreatDoorTok
namespace Go.Proofs.YtcagjipdldlehaaGreatDoor
open Go.ChangeShapes Go.WideShapes Go.ChangeAt Go.RowKit

theorem token_pos {s : ByteArray} {k : Nat} (hk : s.size ≤ k) (h : (s.data.toList.take k).all tokc = true) : decide (0 < s.size) = tokenB s.data.toList := by
  rw [take_all s k hk] at h
  unfold tokenB
  rw [h, isEmpty_size, Bool.eq_iff_iff]
  simp only [Bool.true_and, Bool.not_eq_true', decide_eq_true_eq, decide_eq_false_iff_not]
  omega

set_option maxHeartbeats 400000 in
theorem rtoken_any (s : ByteArray) (w : World) (hs : s.size ≤ maxLen) :
    Calls Tryz.prog 100 #[.string s] w fun e w' => e = .returned (.bool (tokenB s.data.toList)) ∧ Below w.heap.size w w' := by
  unfold maxLen at hs
  go_enter Tryz.func100, Tryz.ntmps100
  go_wp2
  go_loopw [3] (fun i wr => ∃ k : Nat, k ≤ s.size ∧ i = .int .i64 k ∧ Hid ((s.data.toList.take k).all tokc = true) ∧ Hid (Below w.heap.size w wr)) (fun i _ => s.size - (intOf i).toNat)
  case atStart => exact ⟨0, Nat.zero_le _, rfl, by simp [Hid], Below.refl _ _⟩
  case round =>
    obtain ⟨k, hk, rfl, H, HB⟩ := hrel
    by_cases hlt : k < s.size
    · cases ht : tokc s[k] with
      | true =>
        go_wp2_with (go_at_call 134; refine (tchar_any _ _).mono ?_; rintro e w' ⟨rfl, hb⟩)
        go_roundw
        case rel => exact ⟨k + 1, by omega, by go_num, by show _ = _; rw [all_snoc tokc s k hlt, H.out, ht]; rfl, HB.out.trans (hb.mono HB.out.size)⟩
        case measure => simp [intOf]; omega
      | false =>
        go_wp2_with (go_at_call 134; refine (tchar_any _ _).mono ?_; rintro e w' ⟨rfl, hb⟩)
        go_ret
        exact ⟨ret_bool (token_no hlt ht), HB.out.trans (hb.mono HB.out.size)⟩
    · go_wp2_with fail
      go_ret
      exact ⟨ret_bool (token_pos (by omega) H.out), HB.out⟩

/-! ### Trimmed -/
def trimS (s : ByteArray) : ByteArray := ⟨(trimB s.data.toList).toArray⟩
theorem trim_size (s : ByteArray) : (trimS s).size ≤ s.size := by
  have := trimB_le s.data.toList
  rw [size_len] at this
  exact this
theorem strim_any (s : ByteArray) (w : World) (hs : s.size ≤ maxLen) :
    Calls Tryz.prog 118 #[.string s, .string ⟨#[9, 32]⟩] w fun e w' => e = .returned (.string (trimS s)) ∧ Below w.heap.size w w' :=
  Any.strings_Trim_laid Tryz.lays160 (by kernel_rfl) s ⟨#[9, 32]⟩ w hs (by decide) (ascii_of_all (by decide))
theorem clone_any (s : ByteArray) (w : World) (hs : s.size ≤ 281474976710656) :
    Calls Tryz.prog 43 #[.string s] w fun e w' => e = .returned (.string s) ∧ Below w.heap.size w w' := by
  go_enter Tryz.func43, Tryz.ntmps43
  go_wp2_with (go_at_call 52; refine (Tryz.stringslite_Clone _ _ hs).mono ?_; rintro e w' ⟨rfl, hb⟩)
  go_ret
  exact ⟨rfl, hb⟩
theorem trim_any (s : ByteArray) (w : World) (hs : s.size ≤ 281474976710656) :
    Calls Tryz.prog 81 #[.string s] w fun e w' => e = .returned (.string (trimS s)) ∧ Below w.heap.size w w' := by
  have hz : (trimS s).size ≤ 281474976710656 := Nat.le_trans (trim_size s) hs
  have hm : s.size ≤ maxLen := by unfold maxLen; omega
  generalize hr : trimS s = r at hz ⊢
  have hT : ∀ w, Calls Tryz.prog 118 #[.string s, .string ⟨#[9, 32]⟩] w fun e w' => e = .returned (.string r) ∧ Below w.heap.size w w' := fun w => hr ▸ strim_any s w hm
  have HT := hide hT
  clear hr hT
  go_enter Tryz.func81, Tryz.ntmps81
  go_wp2_with (first | (go_at_call 118; refine (HT.out _).mono ?_; rintro e w1 ⟨rfl, hb1⟩) | (go_at_call 43; refine (clone_any _ _ hz).mono ?_; rintro e w2 ⟨rfl, hb2⟩))
  go_ret
  exact ⟨rfl, hb1.trans (hb2.mono hb1.size)⟩

/-! ### Values -/
theorem value_end {s r : ByteArray} {k : Nat} (hk : s.size ≤ k) (h : (s.data.toList.take k).all valc = true) (hr : trimS s = r) : (s.toList == r.toList) = valueB s.data.toList := by
  rw [take_all s k hk] at h
  subst hr
  unfold valueB
  rw [h, Lib.toList_data, Lib.toList_data, beq_list]
  rfl

set_option maxHeartbeats 400000 in
theorem value_any (s : ByteArray) (w : World) (hs : s.size ≤ maxLen) :
    Calls Tryz.prog 80 #[.string s] w fun e w' => e = .returned (.bool (valueB s.data.toList)) ∧ Below w.heap.size w w' := by
  have hT := hide (fun w => strim_any s w hs)
  generalize hr : trimS s = r at hT
  have HR := hide hr
  clear hr
  unfold maxLen at hs
  go_enter Tryz.func80, Tryz.ntmps80
  go_wp2
  go_loop [6] (fun i => ∃ k : Nat, k ≤ s.size ∧ i = .int .i64 k ∧ Hid ((s.data.toList.take k).all valc = true)) (fun i => s.size - (intOf i).toNat)
  case atStart => exact ⟨0, Nat.zero_le _, rfl, by simp [Hid]⟩
  case round =>
    obtain ⟨k, hk, rfl, H⟩ := hrel
    by_cases hlt : k < s.size
    · cases ht : valc s[k] with
      | true =>
        go_wp2_with (go_at_call 117; refine (inValue_any _ _).mono ?_; rintro e w' ⟨rfl, rfl⟩)
        go_round
        case rel => exact ⟨k + 1, by omega, by go_num, by show _ = _; rw [all_snoc valc s k hlt, H.out, ht]; rfl⟩
        case measure => simp [intOf]; omega
      | false =>
        go_wp2_with (go_at_call 117; refine (inValue_any _ _).mono ?_; rintro e w' ⟨rfl, rfl⟩)
        go_ret
        exact ⟨ret_bool (by unfold valueB; rw [all_no valc s k hlt ht]; rfl), Below.refl _ _⟩
    · go_wp2_with (go_at_call 118; refine (hT.out _).mono ?_; rintro e w1 ⟨rfl, hb1⟩)
      go_ret
      exact ⟨ret_bool (value_end (by omega) H.out HR.out), hb1⟩

/-! ### Pieces of a text -/
theorem ltrim_blank {t : ByteArray} (h : 0 < t.size) (hb : blankc t[0] = true) : ltrim t.data.toList = ltrim (t.extract 1 t.size).data.toList := by
  rw [head_list t h, ltrim_cons, if_pos hb]
theorem ltrim_stop {t : ByteArray} (h : 0 < t.size) (hb : blankc t[0] = false) : ltrim t.data.toList = t.data.toList := by
  rw [head_list t h, ltrim_cons, if_neg (by rw [hb]; simp)]
theorem rtrim_blank {t : ByteArray} (h : 0 < t.size) (hb : blankc t[t.size - 1] = true) : rtrim t.data.toList = rtrim (t.extract 0 (t.size - 1)).data.toList := by
  rw [last_list t h, rtrim_snoc, if_pos hb]
theorem rtrim_stop {t : ByteArray} (h : 0 < t.size) (hb : blankc t[t.size - 1] = false) : rtrim t.data.toList = t.data.toList := by
  rw [last_list t h, rtrim_snoc, if_neg (by rw [hb]; simp)]
theorem trim_end {s t : ByteArray} (h : rtrim (ltrim s.data.toList) = rtrim t.data.toList) (h2 : rtrim t.data.toList = t.data.toList) : Ending.returned (.string t) = .returned (.string (trimS s)) := by
  have e : trimS s = t := by
    unfold trimS
    rw [trimB_eq, trim_comm, h, h2]
  rw [e]

set_option maxHeartbeats 400000 in
theorem rtrim_any (s : ByteArray) (w : World) (hs : s.size ≤ maxLen) :
    Calls Tryz.prog 103 #[.string s] w fun e w' => e = .returned (.string (trimS s)) ∧ w = w' := by
  unfold maxLen at hs
  go_enter Tryz.func103, Tryz.ntmps103
  go_wp2
  go_loop [0] (fun v => ∃ t : ByteArray, v = .string t ∧ t.size ≤ s.size ∧ Hid (ltrim s.data.toList = ltrim t.data.toList)) (fun v => strLen v)
  case atStart => exact ⟨s, rfl, Nat.le_refl _, rfl⟩
  case round =>
    obtain ⟨t, rfl, ht, H⟩ := hrel
    by_cases h0 : 0 < t.size
    · cases hb : blankc t[0] with
      | true =>
        have hz := ext_size t 1 t.size
        have H2 := hide (H.out.trans (ltrim_blank h0 hb))
        have HZ := hide hz
        clear hz
        go_wp2_with (go_at_call 135; refine (blank_any _ _).mono ?_; rintro e w' ⟨rfl, rfl⟩)
        exact ⟨⟨_, rfl, by rw [HZ.out]; omega, H2⟩, by simp only [strLen]; rw [HZ.out]; omega⟩
      | false =>
        have H2 := hide (congrArg rtrim (H.out.trans (ltrim_stop h0 hb)))
        clear H
        go_wp2_with (go_at_call 135; refine (blank_any _ _).mono ?_; rintro e w' ⟨rfl, rfl⟩)
        go_loop [0] (fun v => ∃ t : ByteArray, v = .string t ∧ t.size ≤ s.size ∧ Hid (rtrim (ltrim s.data.toList) = rtrim t.data.toList)) (fun v => strLen v)
        case atStart => exact ⟨t, rfl, ht, H2⟩
        case round =>
          clear H2 ht
          obtain ⟨r, rfl, hr, H3⟩ := hrel
          by_cases h1 : 0 < r.size
          · cases hc : blankc r[r.size - 1] with
            | true =>
              have H4 := hide (H3.out.trans (rtrim_blank h1 hc))
              have HZ := hide (ext_size r 0 (r.size - 1))
              go_wp2_with (go_at_call 135; refine (blank_any _ _).mono ?_; rintro e w' ⟨rfl, rfl⟩)
              exact ⟨⟨_, rfl, by rw [HZ.out]; omega, H4⟩, by simp only [strLen]; rw [HZ.out]; omega⟩
            | false =>
              have H4 := hide (trim_end H3.out (rtrim_stop h1 hc))
              go_wp2_with (go_at_call 135; refine (blank_any _ _).mono ?_; rintro e w' ⟨rfl, rfl⟩)
              go_ret
              exact ⟨H4.out, rfl⟩
          · have H4 := hide (trim_end H3.out (by rw [nil_list r h1]; rfl))
            go_wp2
            go_ret
            exact ⟨H4.out, rfl⟩
    · have H2 := hide (congrArg rtrim (H.out.trans (show ltrim t.data.toList = t.data.toList by rw [nil_list t h0]; rfl)))
      clear H
      go_wp2
      go_loop [0] (fun v => ∃ t : ByteArray, v = .string t ∧ t.size ≤ s.size ∧ Hid (rtrim (ltrim s.data.toList) = rtrim t.data.toList)) (fun v => strLen v)
      case atStart => exact ⟨t, rfl, ht, H2⟩
      case round =>
        clear H2 ht
        obtain ⟨r, rfl, hr, H3⟩ := hrel
        by_cases h1 : 0 < r.size
        · cases hc : blankc r[r.size - 1] with
          | true =>
            have H4 := hide (H3.out.trans (rtrim_blank h1 hc))
            have HZ := hide (ext_size r 0 (r.size - 1))
            go_wp2_with (go_at_call 135; refine (blank_any _ _).mono ?_; rintro e w' ⟨rfl, rfl⟩)
            exact ⟨⟨_, rfl, by rw [HZ.out]; omega, H4⟩, by simp only [strLen]; rw [HZ.out]; omega⟩
          | false =>
            have H4 := hide (trim_end H3.out (rtrim_stop h1 hc))
            go_wp2_with (go_at_call 135; refine (blank_any _ _).mono ?_; rintro e w' ⟨rfl, rfl⟩)
            go_ret
            exact ⟨H4.out, rfl⟩
        · have H4 := hide (trim_end H3.out (by rw [nil_list r h1]; rfl))
          go_wp2
          go_ret
          exact ⟨H4.out, rfl⟩

/-! ### The document's values -/
theorem valc_ref (c : UInt8) : valc c = (decide (c.toNat = 9) || (decide (32 ≤ c.toNat) && decide (c.toNat ≤ 126)) || decide (128 ≤ c.toNat)) := by
  rw [Bool.eq_iff_iff]
  simp only [valc, Bool.or_eq_true, Bool.and_eq_true, Bool.not_eq_true', decide_eq_true_eq, decide_eq_false_iff_not]
  omega
theorem value_ends {s : ByteArray} {k : Nat} (hk : s.size ≤ k) (h : (s.data.toList.take k).all valc = true) (h0 : 0 < s.size) : (!blankc s[0] && !blankc s[s.size - 1]) = valueB s.data.toList := by
  rw [take_all s k hk] at h
  unfold valueB
  rw [h, Bool.true_and, Bool.eq_iff_iff]
  simp only [Bool.and_eq_true, Bool.not_eq_true', decide_eq_true_eq]
  rw [trim_id]
  have e1 : s.data.toList.head? = some s[0] := by rw [head_list s h0]; rfl
  have e2 : s.data.toList.getLast? = some s[s.size - 1] := by rw [last_list s h0]; simp
  rw [e1, e2]
  simp
theorem value_nil {s : ByteArray} (h0 : ¬ 0 < s.size) : true = valueB s.data.toList := by
  rw [nil_list s h0]; simp [valueB, trimB_eq, ltrim, rtrim]

set_option maxHeartbeats 400000 in
theorem rvalue_any (s : ByteArray) (w : World) (hs : s.size ≤ maxLen) :
    Calls Tryz.prog 104 #[.string s] w fun e w' => e = .returned (.bool (valueB s.data.toList)) ∧ w = w' := by
  unfold maxLen at hs
  go_enter Tryz.func104, Tryz.ntmps104
  go_wp2
  go_loop [4] (fun i => ∃ k : Nat, k ≤ s.size ∧ i = .int .i64 k ∧ Hid ((s.data.toList.take k).all valc = true)) (fun i => s.size - (intOf i).toNat)
  case atStart => exact ⟨0, Nat.zero_le _, rfl, by simp [Hid]⟩
  case round =>
    obtain ⟨k, hk, rfl, H⟩ := hrel
    by_cases hlt : k < s.size
    · have hl := byte_lt s[k]
      have hv := hide (valc_ref s[k])
      have H9 : s[k].toNat = 9 ∨ (s[k].toNat ≠ 9 ∧ 32 ≤ s[k].toNat ∧ s[k].toNat ≤ 126) ∨ (128 ≤ s[k].toNat) ∨ (s[k].toNat ≠ 9 ∧ s[k].toNat < 32) ∨ s[k].toNat = 127 := by omega
      rcases H9 with h | h | h | h | h
      · have t : (((s[k].toNat : Int)) == 9) = true := beq_iff_eq.2 (by omega)
        have ht : Hid (valc s[k] = true) := by show _ = _; rw [hv.out]; simp; omega
        clear h
        go_wp2
        all_goals
          go_round
          case rel => exact ⟨k + 1, by omega, by go_num, by show _ = _; rw [all_snoc valc s k hlt, H.out, ht.out]; rfl⟩
          case measure => simp [intOf]; omega
      · have t : (((s[k].toNat : Int)) == 9) = false := beq_eq_false_iff_ne.2 (by omega)
        have ht : Hid (valc s[k] = true) := by show _ = _; rw [hv.out]; simp; omega
        obtain ⟨_, h1, h2⟩ := h
        go_wp2
        all_goals
          go_round
          case rel => exact ⟨k + 1, by omega, by go_num, by show _ = _; rw [all_snoc valc s k hlt, H.out, ht.out]; rfl⟩
          case measure => simp [intOf]; omega
      · have t : (((s[k].toNat : Int)) == 9) = false := beq_eq_false_iff_ne.2 (by omega)
        have ht : Hid (valc s[k] = true) := by show _ = _; rw [hv.out]; simp; omega
        have d2 : decide ((s[k].toNat : Int) ≤ 126) = false := decide_eq_false (by omega)
        have d3 : decide (128 ≤ (s[k].toNat : Int)) = true := decide_eq_true (by omega)
        go_wp2
        all_goals
          go_round
          case rel => exact ⟨k + 1, by omega, by go_num, by show _ = _; rw [all_snoc valc s k hlt, H.out, ht.out]; rfl⟩
          case measure => simp [intOf]; omega
      all_goals
        have t : (((s[k].toNat : Int)) == 9) = false := beq_eq_false_iff_ne.2 (by omega)
        have ht : Hid (valc s[k] = false) := by
          show _ = _
          rw [hv.out, Bool.eq_false_iff]
          intro x
          simp only [Bool.or_eq_true, Bool.and_eq_true, decide_eq_true_eq] at x
          omega
        have hr : s[k].toNat < 32 ∨ (126 < s[k].toNat ∧ s[k].toNat < 128) := by omega
        have d3 : decide (128 ≤ (s[k].toNat : Int)) = false := decide_eq_false (by omega)
        have d4 : decide (32 ≤ (s[k].toNat : Int)) = false ∨ decide ((s[k].toNat : Int) ≤ 126) = false := hr.elim (fun hr => .inl (decide_eq_false (by omega))) (fun hr => .inr (decide_eq_false (by omega)))
        clear h hr
        rcases d4 with d4 | d4
        all_goals
          go_wp2
          all_goals
            go_ret
            exact ⟨ret_bool (by unfold valueB; rw [all_no valc s k hlt ht.out]; rfl), rfl⟩
    · by_cases h0 : 0 < s.size
      · have t : (((s.size : Int)) == 0) = false := beq_eq_false_iff_ne.2 (by omega)
        have HV := hide (value_ends (show s.size ≤ k by omega) H.out h0)
        cases hb : blankc s[0] with
        | true =>
          go_wp2_with (go_at_call 135; refine (blank_any _ _).mono ?_; rintro e w' ⟨rfl, rfl⟩)
          go_ret
          exact ⟨ret_bool (by rw [← HV.out, hb]; rfl), rfl⟩
        | false =>
          go_wp2_with (go_at_call 135; refine (blank_any _ _).mono ?_; rintro e w' ⟨rfl, rfl⟩)
          go_ret
          exact ⟨ret_bool (by rw [← HV.out, hb]; rfl), rfl⟩
      · have t : (((s.size : Int)) == 0) = true := beq_iff_eq.2 (by omega)
        go_wp2
        go_ret
        exact ⟨ret_bool (value_nil h0), rfl⟩
end Go.Proofs.YtcagjipdldlehaaGreatDoor
