/- A host with a port, by the program. -/
import Derived.Test.YtekkhjlipijmcaaGreatDoorTHost
namespace Go.Proofs.YtekkhjlipijmcaaGreatDoor
open Go.ChangeShapes Go.WideShapes Go.ChangeAt Go.RowKit

theorem bytes_ext {a b : ByteArray} (h : a.data.toList = b.data.toList) : a = b := by
  cases a; cases b
  simp only [ByteArray.mk.injEq]
  exact Array.toList_inj.1 h
set_option maxHeartbeats 1000000 in
theorem brac_any (s : ByteArray) (w : World) (h0 : 0 < s.size) (hs : s.size ≤ maxLen) : Calls Tryz.prog 76 #[.string s] w fun e w' => e = .returned (.bool (bracB s.data.toList)) ∧ w = w' := by
  have hz := ext_size s 1 s.size
  have hC := Tryz.strings_CutSuffix (s.extract 1 s.size) ⟨#[93]⟩
  have hle : (Lib.trimSuffix (s.data.toList.drop 1) [93]).length ≤ s.size := by
    have : (Lib.trimSuffix (s.data.toList.drop 1) [93]).length ≤ (s.data.toList.drop 1).length := by
      unfold Lib.trimSuffix
      split
      · rw [List.length_take]; omega
      · exact Nat.le_refl _
    rw [List.length_drop, size_len] at this
    omega
  have HB : Hid (bracB s.data.toList = (Lib.hasSuffix (s.data.toList.drop 1) [93] && ((Lib.trimSuffix (s.data.toList.drop 1) [93]).all brc && !(Lib.trimSuffix (s.data.toList.drop 1) [93]).isEmpty))) := hide rfl
  rw [ext_drop] at hC
  rw [show (⟨#[93]⟩ : ByteArray).data.toList = [93] from rfl] at hC
  generalize Lib.hasSuffix (s.data.toList.drop 1) [93] = cl at hC HB
  obtain ⟨t, ht⟩ : ∃ t : ByteArray, t = ⟨(Lib.trimSuffix (s.data.toList.drop 1) [93]).toArray⟩ := ⟨_, rfl⟩
  have htl : t.data.toList = Lib.trimSuffix (s.data.toList.drop 1) [93] := by rw [ht]
  rw [← ht] at hC
  rw [← htl] at HB hle
  rw [size_len] at hle
  clear ht htl
  have HC := hide hC
  clear hC
  have hzz : (s.extract 1 s.size).size ≤ 9223372036854775807 := by unfold maxLen at hs; omega
  clear hz
  unfold maxLen at hs
  go_enter Tryz.func76, Tryz.ntmps76
  go_wp2_with (go_at_call 100; refine (HC.out _ hzz).mono ?_; rintro e w' ⟨rfl, rfl⟩)
  go_loop [15] (fun i => ∃ k : Nat, k ≤ t.size ∧ i = .int .i64 k ∧ Hid ((t.data.toList.take k).all brc = true)) (fun i => t.size - (intOf i).toNat)
  case atStart => exact ⟨0, Nat.zero_le _, rfl, by simp [Hid]⟩
  case round =>
    obtain ⟨k, hk, rfl, H⟩ := hrel
    by_cases hlt : k < t.size
    · have hb := byte_lt t[k]
      have hsl := slice_one t k hlt
      have hez := ext_one_size t k hlt
      have HX := hexd_any (t.extract k (k + 1))
      rw [ext_one t k hlt, hexd_one] at HX
      have HX2 := hide HX
      clear HX
      have hzm : (t.extract k (k + 1)).size ≤ maxLen := by unfold maxLen; omega
      have HY : brc t[k] = true → Hid ((t.data.toList.take (k + 1)).all brc = true) := fun hq => hide (by rw [all_snoc brc t k hlt, H.out, hq]; rfl)
      have HN : brc t[k] = false → Hid (bracB s.data.toList = false) := fun hq => hide (by rw [HB.out, all_no brc t k hlt hq]; simp)
      by_cases h58 : t[k].toNat = 58
      · have t58 : (((t[k].toNat : Int)) != 58) = false := by rw [bne_eq_false_iff_eq]; omega
        have HQ := HY (by unfold brc; rw [decide_eq_true (show t[k] = 58 from byte_is (n := 58) h58 (by decide))]; rfl)
        clear HY HN
        go_wp2
        exact ⟨⟨k + 1, by omega, by go_num, HQ⟩, by simp [intOf]; omega⟩
      · have t58 : (((t[k].toNat : Int)) != 58) = true := by rw [bne_iff_ne]; omega
        by_cases h46 : t[k].toNat = 46
        · have t46 : (((t[k].toNat : Int)) != 46) = false := by rw [bne_eq_false_iff_eq]; omega
          have HQ := HY (by unfold brc; rw [decide_eq_true (show t[k] = 46 from byte_is (n := 46) h46 (by decide))]; simp)
          clear HY HN
          go_wp2
          exact ⟨⟨k + 1, by omega, by go_num, HQ⟩, by simp [intOf]; omega⟩
        · have t46 : (((t[k].toNat : Int)) != 46) = true := by rw [bne_iff_ne]; omega
          have hbr : brc t[k] = hx t[k] := by
            unfold brc
            rw [decide_eq_false (show ¬ t[k] = 58 from byte_ne (n := 58) h58 (by decide)), decide_eq_false (show ¬ t[k] = 46 from byte_ne (n := 46) h46 (by decide))]
            rfl
          cases hh : hx t[k] with
          | true =>
            have HQ := HY (hbr.trans hh)
            rw [hh] at HX2
            clear HY HN hbr hh
            go_wp2_with (go_at_call 101; refine (HX2.out _ hzm).mono ?_; rintro e w' ⟨rfl, rfl⟩)
            exact ⟨⟨k + 1, by omega, by go_num, HQ⟩, by simp [intOf]; omega⟩
          | false =>
            have HQ := HN (hbr.trans hh)
            rw [hh] at HX2
            clear HY HN hbr hh
            go_wp2_with (go_at_call 101; refine (HX2.out _ hzm).mono ?_; rintro e w' ⟨rfl, rfl⟩)
            go_ret
            exact ⟨ret_bool HQ.out.symm, rfl⟩
    · have HE : Hid (bracB s.data.toList = (cl && !t.toList.isEmpty)) := hide (by
        have := H.out
        rw [take_all t k (by omega)] at this
        rw [HB.out, this, Lib.toList_data]
        rfl)
      cases cl with
      | true =>
        go_wp2
        go_ret
        exact ⟨ret_bool (by rw [HE.out]; rfl), rfl⟩
      | false =>
        go_wp2
        go_ret
        exact ⟨ret_bool (by rw [HE.out]; rfl), rfl⟩

set_option maxHeartbeats 400000 in
theorem ishost_any (s : ByteArray) (w : World) (hs : s.size ≤ maxLen) : Calls Tryz.prog 56 #[.string s] w fun e w' => e = .returned (.bool (hostB s.data.toList)) ∧ w = w' := by
  have hP := Tryz.strings_HasPrefix s ⟨#[91]⟩
  rw [show (⟨#[91]⟩ : ByteArray).data.toList = [91] from rfl] at hP
  cases hh : Lib.hasPrefix s.data.toList [91] with
  | true =>
    have h0 : 0 < s.size := by
      rw [prefix_head] at hh
      have := of_decide_eq_true hh
      rw [← size_len]
      cases e : s.data.toList with
      | nil => rw [e] at this; cases this
      | cons _ _ => simp
    have HB := brac_any s
    have e : hostB s.data.toList = bracB s.data.toList := by unfold hostB; rw [hh]; rfl
    rw [e]
    generalize bracB s.data.toList = b at HB ⊢
    rw [hh] at hP
    have HP := hide hP
    have HB2 := hide HB
    clear hP HB hh e
    go_enter Tryz.func56, Tryz.ntmps56
    go_wp2_with (first | (go_at_call 67; refine (HP.out _).mono ?_; rintro e w' ⟨rfl, rfl⟩) | (go_at_call 76; refine (HB2.out _ h0 hs).mono ?_; rintro e w' ⟨rfl, rfl⟩))
    go_ret
    exact ⟨rfl, rfl⟩
  | false =>
    have HH := holds_any s ⟨#[45, 46, 95, 126, 33, 36, 38, 39, 40, 41, 42, 43, 59, 61]⟩
    have e : hostB s.data.toList = (!decide (s.size = 0) && (decide (s.size ≤ 255) && holdsB hostMarks s.data.toList)) := by
      unfold hostB
      rw [hh, isEmpty_size, size_len]
      rfl
    have e2 : (⟨#[45, 46, 95, 126, 33, 36, 38, 39, 40, 41, 42, 43, 59, 61]⟩ : ByteArray).data.toList = hostMarks := rfl
    rw [e2] at HH
    rw [e]
    generalize holdsB hostMarks s.data.toList = b at HH ⊢
    rw [hh] at hP
    have HP := hide hP
    have HH2 := hide HH
    clear hP HH hh e e2
    by_cases h0 : s.size = 0
    · have he : s.toList.isEmpty = true := by rw [Lib.toList_data, isEmpty_size]; exact decide_eq_true h0
      have H0 := hide h0
      clear h0
      go_enter Tryz.func56, Tryz.ntmps56
      go_wp2_with (go_at_call 67; refine (HP.out _).mono ?_; rintro e w' ⟨rfl, rfl⟩)
      go_ret
      exact ⟨ret_bool (by rw [decide_eq_true H0.out]; rfl), rfl⟩
    · have he : s.toList.isEmpty = false := by rw [Lib.toList_data, isEmpty_size]; exact decide_eq_false h0
      by_cases h2 : s.size ≤ 255
      · have h2' : (s.size : Int) ≤ 255 := by omega
        go_enter Tryz.func56, Tryz.ntmps56
        go_wp2_with (first | (go_at_call 67; refine (HP.out _).mono ?_; rintro e w' ⟨rfl, rfl⟩) | (go_at_call 77; refine (HH2.out _ hs).mono ?_; rintro e w' ⟨rfl, rfl⟩))
        go_ret
        exact ⟨ret_bool (by rw [decide_eq_false h0, decide_eq_true h2]; rfl), rfl⟩
      · have h2' : ¬ (s.size : Int) ≤ 255 := by omega
        go_enter Tryz.func56, Tryz.ntmps56
        go_wp2_with (go_at_call 67; refine (HP.out _).mono ?_; rintro e w' ⟨rfl, rfl⟩)
        go_ret
        exact ⟨ret_bool (by first | rfl | (rw [decide_eq_false h0, decide_eq_false h2]; rfl)), rfl⟩

theorem port_nil : portV [] = -1 ∧ portE [] = 0 := ⟨rfl, rfl⟩
theorem port_bad {d : List UInt8} (h0 : d ≠ []) (h : portBad d = true) : portV d = 0 ∧ portE d = 62 := by
  unfold portV portE; rw [if_neg h0, if_neg h0, h]; exact ⟨rfl, rfl⟩
theorem port_ok {d : List UInt8} (h0 : d ≠ []) (h : portBad d = false) : portV d = numV 10 d ∧ portE d = 0 := by
  unfold portV portE; rw [if_neg h0, if_neg h0, h]; exact ⟨rfl, rfl⟩
theorem ret2i {a b c : Int} {n : Nat} (h : c = a ∧ (n : Int) = b) : Ending.returned (.tuple #[.int .i64 a, .int .i64 b]) = .returned (.tuple #[.int .i64 c, .int .i64 (n : Int)]) := by
  rw [h.1, h.2]

set_option maxHeartbeats 400000 in
theorem port_any (s : ByteArray) (w : World) (hs : s.size ≤ maxLen) : Calls Tryz.prog 57 #[.string s] w fun e w' => e = .returned (.tuple #[.int .i64 (portV s.data.toList), .int .i64 (portE s.data.toList : Nat)]) ∧ w = w' := by
  by_cases h0 : s.size = 0
  · have he : s.toList.isEmpty = true := by rw [Lib.toList_data, isEmpty_size]; exact decide_eq_true h0
    have hn := nil_list s (by omega)
    rw [hn]
    go_enter Tryz.func57, Tryz.ntmps57
    go_wp2
    go_ret2
    exact ⟨rfl, rfl⟩
  · have he : s.toList.isEmpty = false := by rw [Lib.toList_data, isEmpty_size]; exact decide_eq_false h0
    have hn : s.data.toList ≠ [] := fun e => by have := size_len s; rw [e] at this; simp at this; omega
    have hN := Number_any s
    have hb : portBad s.data.toList = (!decide (numE 10 s.data.toList = 0) || (decide (65535 < numV 10 s.data.toList) || decide (5 < s.size))) := by unfold portBad; rw [size_len]
    have HY := hide (fun h => port_ok hn h)
    have HN := hide (fun h => port_bad hn h)
    generalize portV s.data.toList = pv at HY HN ⊢
    generalize portE s.data.toList = pe at HY HN ⊢
    rw [hb] at HY HN
    generalize numV 10 s.data.toList = v at hN HY HN
    generalize numE 10 s.data.toList = ee at hN HY HN
    have HNum := hide hN
    clear hN hb hn
    by_cases h1 : ee = 0
    · have t1 : ((ee : Int) != 0) = false := by rw [bne_eq_false_iff_eq]; omega
      by_cases h2 : 65535 < v
      · have h2' : (65535 : Int) < (v : Int) := by omega
        have HR := hide (HN.out (by rw [decide_eq_true h2]; simp))
        clear HN HY
        go_enter Tryz.func57, Tryz.ntmps57
        go_wp2_with (go_at_call 78; refine (HNum.out _ hs).mono ?_; rintro e w' ⟨rfl, rfl⟩)
        go_ret2
        exact ⟨ret2i ⟨HR.out.1, by rw [HR.out.2]; rfl⟩, rfl⟩
      · have h2' : ¬ (65535 : Int) < (v : Int) := by omega
        by_cases h3 : 5 < s.size
        · have h3' : (5 : Int) < (s.size : Int) := by omega
          have HR := hide (HN.out (by rw [decide_eq_true h3]; simp))
          clear HN HY
          go_enter Tryz.func57, Tryz.ntmps57
          go_wp2_with (go_at_call 78; refine (HNum.out _ hs).mono ?_; rintro e w' ⟨rfl, rfl⟩)
          go_ret2
          exact ⟨ret2i ⟨HR.out.1, by rw [HR.out.2]; rfl⟩, rfl⟩
        · have h3' : ¬ (5 : Int) < (s.size : Int) := by omega
          have HR := hide (HY.out (by rw [decide_eq_true h1, decide_eq_false h2, decide_eq_false h3]; rfl))
          clear HN HY
          go_enter Tryz.func57, Tryz.ntmps57
          go_wp2_with (go_at_call 78; refine (HNum.out _ hs).mono ?_; rintro e w' ⟨rfl, rfl⟩)
          go_ret2
          exact ⟨ret2i ⟨HR.out.1, by rw [HR.out.2]; rfl⟩, rfl⟩
    · have t1 : ((ee : Int) != 0) = true := by rw [bne_iff_ne]; omega
      have HR := hide (HN.out (by rw [decide_eq_false h1]; simp))
      clear HN HY
      go_enter Tryz.func57, Tryz.ntmps57
      go_wp2_with (go_at_call 78; refine (HNum.out _ hs).mono ?_; rintro e w' ⟨rfl, rfl⟩)
      go_ret2
      exact ⟨ret2i ⟨HR.out.1, by rw [HR.out.2]; rfl⟩, rfl⟩
end Go.Proofs.YtekkhjlipijmcaaGreatDoor
