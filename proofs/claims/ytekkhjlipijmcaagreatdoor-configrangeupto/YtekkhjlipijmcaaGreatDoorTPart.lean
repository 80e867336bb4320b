/- Where a host's port begins; hosts with ports, whole. -/
import Derived.Test.YtekkhjlipijmcaaGreatDoorTHost2
namespace Go.Proofs.YtekkhjlipijmcaaGreatDoor
open Go.ChangeShapes Go.WideShapes Go.ChangeAt Go.RowKit

theorem pst_snoc (s : ByteArray) (k : Nat) (h : k < s.size) : pstate (s.data.toList.take (k + 1)) = pstep k (pstate (s.data.toList.take k)) s[k] := by
  rw [take_snoc s k h, pstate_snoc, List.length_take, size_len, Nat.min_eq_left (by omega)]
theorem pst_le (s : ByteArray) (k : Nat) : (-1 ≤ (pstate (s.data.toList.take k)).1 ∧ (pstate (s.data.toList.take k)).1 < s.size) ∧ (-1 ≤ (pstate (s.data.toList.take k)).2.1 ∧ (pstate (s.data.toList.take k)).2.1 < s.size) := by
  have := pstate_le (s.data.toList.take k)
  rw [List.length_take, size_len] at this
  omega
def nameS (s : ByteArray) : ByteArray := sS (nameOf s.data.toList)
def digsS (s : ByteArray) : ByteArray := sS (digsOf s.data.toList)
theorem parts_none {s : ByteArray} (h : (pstate s.data.toList).1 < 0) : nameS s = s ∧ digsS s = ⟨#[]⟩ := by
  constructor
  · apply bytes_ext
    unfold nameS nameOf
    rw [sS_list, if_pos h]
  · unfold digsS digsOf
    rw [if_pos h]
    rfl
theorem parts_some {s : ByteArray} {k : Nat} (h : (pstate s.data.toList).1 = k) : nameS s = s.extract 0 k ∧ digsS s = s.extract (k + 1) s.size := by
  constructor
  · apply bytes_ext
    unfold nameS nameOf
    rw [sS_list, h, if_neg (by omega), ext_take]
    rfl
  · apply bytes_ext
    unfold digsS digsOf
    rw [sS_list, h, if_neg (by omega), ext_drop]
    rfl
theorem ret2ss {a b c d : ByteArray} (h : c = a ∧ d = b) : Ending.returned (.tuple #[.string a, .string b]) = .returned (.tuple #[.string c, .string d]) := by
  rw [h.1, h.2]

set_option maxHeartbeats 1000000 in
theorem parted_any (s : ByteArray) (w : World) (hs : s.size ≤ 4611686018427387904) : Calls Tryz.prog 55 #[.string s] w fun e w' => e = .returned (.tuple #[.string (nameS s), .string (digsS s)]) ∧ Below w.heap.size w w' := by
  go_enter Tryz.func55, Tryz.ntmps55
  go_wp2
  go_loop [4, 5, 6, 10] (fun l o b i => ∃ (k : Nat) (x y : Int) (z : Bool), l = .int .i64 x ∧ o = .int .i64 y ∧ b = .bool z ∧ i = .int .i64 k ∧ k ≤ s.size ∧ -1 ≤ x ∧ x < s.size ∧ -1 ≤ y ∧ y < s.size ∧ Hid (pstate (s.data.toList.take k) = (x, y, z))) (fun _ _ _ i => s.size - (intOf i).toNat)
  case atStart => exact ⟨0, -1, -1, false, rfl, rfl, rfl, rfl, Nat.zero_le _, by omega, by omega, by omega, by omega, hide rfl⟩
  case round =>
    obtain ⟨k, x, y, z, rfl, rfl, rfl, rfl, hk, hx0, hx1, hy0, hy1, H⟩ := hrel
    by_cases hlt : k < s.size
    · have hb := byte_lt s[k]
      have HS := hide (pst_snoc s k hlt)
      rw [H.out] at HS
      by_cases h58 : s[k].toNat = 58
      · have t58 : (((s[k].toNat : Int)) == 58) = true := beq_iff_eq.2 (by omega)
        have HF : Hid (pstate (s.data.toList.take (k + 1)) = ((k : Int), y, z)) := hide (by rw [HS.out]; unfold pstep; rw [if_pos (show s[k] = 58 from byte_is (n := 58) h58 (by decide))])
        go_wp2
        exact ⟨⟨k + 1, k, y, z, rfl, rfl, rfl, by go_num, by omega, by omega, by omega, hy0, hy1, HF⟩, by simp [intOf]; omega⟩
      · have t58 : (((s[k].toNat : Int)) == 58) = false := beq_eq_false_iff_ne.2 (by omega)
        have n58 : ¬ s[k] = 58 := byte_ne (n := 58) h58 (by decide)
        have N58 := hide n58
        clear n58
        by_cases h91 : s[k].toNat = 91
        · have t91 : (((s[k].toNat : Int)) == 91) = true := beq_iff_eq.2 (by omega)
          have E91 : Hid (s[k] = 91) := hide (byte_is (n := 91) h91 (by decide))
          cases z with
          | true =>
            have HF : Hid (pstate (s.data.toList.take (k + 1)) = (x, y, true)) := hide (by rw [HS.out]; unfold pstep; rw [if_neg N58.out, if_pos E91.out]; rfl)
            go_wp2
            exact ⟨⟨k + 1, x, y, true, rfl, rfl, rfl, by go_num, by omega, hx0, hx1, hy0, hy1, HF⟩, by simp [intOf]; omega⟩
          | false =>
            have HF : Hid (pstate (s.data.toList.take (k + 1)) = (x, x, true)) := hide (by rw [HS.out]; unfold pstep; rw [if_neg N58.out, if_pos E91.out]; rfl)
            go_wp2
            exact ⟨⟨k + 1, x, x, true, rfl, rfl, rfl, by go_num, by omega, hx0, hx1, hx0, hx1, HF⟩, by simp [intOf]; omega⟩
        · have t91 : (((s[k].toNat : Int)) == 91) = false := beq_eq_false_iff_ne.2 (by omega)
          have N91 : Hid (¬ s[k] = 91) := hide (byte_ne (n := 91) h91 (by decide))
          by_cases h93 : s[k].toNat = 93
          · have t93 : (((s[k].toNat : Int)) == 93) = true := beq_iff_eq.2 (by omega)
            have E93 : Hid (s[k] = 93) := hide (byte_is (n := 93) h93 (by decide))
            cases z with
            | true =>
              have HF : Hid (pstate (s.data.toList.take (k + 1)) = (y, y, false)) := hide (by rw [HS.out]; unfold pstep; rw [if_neg N58.out, if_neg N91.out, if_pos E93.out]; rfl)
              go_wp2
              exact ⟨⟨k + 1, y, y, false, rfl, rfl, rfl, by go_num, by omega, hy0, hy1, hy0, hy1, HF⟩, by simp [intOf]; omega⟩
            | false =>
              have HF : Hid (pstate (s.data.toList.take (k + 1)) = (x, y, false)) := hide (by rw [HS.out]; unfold pstep; rw [if_neg N58.out, if_neg N91.out, if_pos E93.out]; rfl)
              go_wp2
              exact ⟨⟨k + 1, x, y, false, rfl, rfl, rfl, by go_num, by omega, hx0, hx1, hy0, hy1, HF⟩, by simp [intOf]; omega⟩
          · have t93 : (((s[k].toNat : Int)) == 93) = false := beq_eq_false_iff_ne.2 (by omega)
            have HF : Hid (pstate (s.data.toList.take (k + 1)) = (x, y, z)) := hide (by rw [HS.out]; unfold pstep; rw [if_neg N58.out, if_neg N91.out, if_neg (show ¬ s[k] = 93 from byte_ne (n := 93) h93 (by decide))])
            go_wp2
            exact ⟨⟨k + 1, x, y, z, rfl, rfl, rfl, by go_num, by omega, hx0, hx1, hy0, hy1, HF⟩, by simp [intOf]; omega⟩
    · have HE : Hid ((pstate s.data.toList).1 = x) := hide (by have := H.out; rw [take_all s k (by omega)] at this; rw [this])
      by_cases hneg : x < 0
      · have HP := hide (parts_none (s := s) (by rw [HE.out]; exact hneg))
        go_wp2
        go_ret2
        exact ⟨ret2ss ⟨HP.out.1, HP.out.2⟩, Below.refl _ _⟩
      · obtain ⟨m, rfl⟩ := Int.eq_ofNat_of_zero_le (show 0 ≤ x by omega)
        have HP := hide (parts_some HE.out)
        go_wp2
        go_quiet (fail)
        go_wp2
        go_ret2
        exact ⟨ret2ss ⟨HP.out.1, HP.out.2⟩, ⟨rfl, rfl, rfl, Nat.le_refl _, fun _ _ => rfl⟩⟩

/-! ### Whole -/
def hostS (s : ByteArray) : ByteArray := sS (hostH s.data.toList)
theorem host_no {s : ByteArray} (h : hostB (nameOf s.data.toList) = false) : hostS s = ⟨#[]⟩ ∧ hostP s.data.toList = 0 ∧ hostE s.data.toList = 61 := by
  unfold hostS hostH hostP hostE hostOk
  rw [h]
  exact ⟨rfl, rfl, rfl⟩
theorem host_bad {s : ByteArray} (h : hostB (nameOf s.data.toList) = true) (h2 : portE (digsOf s.data.toList) ≠ 0) : hostS s = ⟨#[]⟩ ∧ hostP s.data.toList = 0 ∧ hostE s.data.toList = portE (digsOf s.data.toList) := by
  unfold hostS hostH hostP hostE hostOk
  rw [h, decide_eq_false h2]
  exact ⟨rfl, rfl, rfl⟩
theorem host_yes {s : ByteArray} (h : hostB (nameOf s.data.toList) = true) (h2 : portE (digsOf s.data.toList) = 0) : hostS s = lowS (nameS s) ∧ hostP s.data.toList = portV (digsOf s.data.toList) ∧ hostE s.data.toList = 0 := by
  unfold hostS hostH hostP hostE hostOk
  rw [h, h2]
  refine ⟨?_, rfl, rfl⟩
  unfold lowS nameS
  rw [sS_list]
  rfl
theorem ret3 {a c : ByteArray} {b d : Int} {x : Int} {n : Nat} (h : c = a ∧ d = b ∧ (n : Int) = x) : Ending.returned (.tuple #[.string a, .int .i64 b, .int .i64 x]) = .returned (.tuple #[.string c, .int .i64 d, .int .i64 (n : Int)]) := by
  rw [h.1, h.2.1, h.2.2]
theorem name_size (s : ByteArray) : (nameS s).size ≤ s.size := by
  unfold nameS nameOf
  rw [sS_size]
  split
  · rw [size_len]; exact Nat.le_refl _
  · rw [List.length_take, size_len]; omega
theorem digs_size (s : ByteArray) : (digsS s).size ≤ s.size := by
  unfold digsS digsOf
  rw [sS_size]
  split
  · simp
  · rw [List.length_drop, size_len]; omega

set_option maxHeartbeats 1000000 in
theorem host_any (s : ByteArray) (w : World) (hs : s.size ≤ 140737488355328) : Calls Tryz.prog 39 #[.string s] w fun e w' => e = .returned (.tuple #[.string (hostS s), .int .i64 (hostP s.data.toList), .int .i64 (hostE s.data.toList : Nat)]) ∧ Below w.heap.size w w' := by
  have hnz := name_size s
  have hdz := digs_size s
  have hP := parted_any s
  have hH := ishost_any (nameS s)
  have hQ := port_any (digsS s)
  have hL := lower_any (nameS s)
  have HN := hide (host_no (s := s))
  have HB := hide (host_bad (s := s))
  have HY := hide (host_yes (s := s))
  have e1 : (nameS s).data.toList = nameOf s.data.toList := sS_list _
  have e2 : (digsS s).data.toList = digsOf s.data.toList := sS_list _
  rw [e1] at hH
  rw [e2] at hQ
  generalize lowS (nameS s) = low at hL HY
  generalize hostS s = r1 at HN HB HY ⊢
  generalize hostP s.data.toList = r2 at HN HB HY ⊢
  generalize hostE s.data.toList = r3 at HN HB HY ⊢
  generalize hostB (nameOf s.data.toList) = b at hH HN HB HY
  generalize portV (digsOf s.data.toList) = pv at hQ HY
  generalize portE (digsOf s.data.toList) = pe at hQ HB HY
  clear e1 e2
  generalize nameS s = nm at hP hH hL hnz
  generalize digsS s = dg at hP hQ hdz
  have hnm : nm.size ≤ maxLen := by unfold maxLen; omega
  have hdg : dg.size ≤ maxLen := by unfold maxLen; omega
  have HPP := hide hP
  have HHH := hide hH
  have HQQ := hide hQ
  have HLL := hide hL
  clear hP hH hQ hL
  go_enter Tryz.func39, Tryz.ntmps39
  go_wp2_with fail
  refine (HPP.out _ (by omega)).mono ?_
  rintro e w1 ⟨rfl, b1⟩
  have B1 := hide b1
  clear b1
  cases b with
  | false =>
    have HR := hide (HN.out rfl)
    go_wp2_with (go_at_call 56; refine (HHH.out _ hnm).mono ?_; rintro e w' ⟨rfl, rfl⟩)
    go_ret3
    exact ⟨ret3 ⟨HR.out.1, HR.out.2.1, by rw [HR.out.2.2]; rfl⟩, B1.out⟩
  | true =>
    by_cases hp : pe = 0
    · have HR := hide (HY.out rfl hp)
      have t : ((pe : Int) != 0) = false := by rw [bne_eq_false_iff_eq]; omega
      clear HN HB HY
      go_wp2_with (first | (go_at_call 56; refine (HHH.out _ hnm).mono ?_; rintro e w' ⟨rfl, rfl⟩) | (go_at_call 57; refine (HQQ.out _ hdg).mono ?_; rintro e w' ⟨rfl, rfl⟩) | (go_at_call 58; refine (HLL.out _ hnm).mono ?_; rintro e w2 ⟨rfl, b2⟩))
      go_ret3
      exact ⟨ret3 ⟨HR.out.1, HR.out.2.1, by rw [HR.out.2.2]; rfl⟩, B1.out.trans (b2.mono B1.out.size)⟩
    · have HR := hide (HB.out rfl hp)
      have t : ((pe : Int) != 0) = true := by rw [bne_iff_ne]; omega
      clear HN HB HY
      go_wp2_with (first | (go_at_call 56; refine (HHH.out _ hnm).mono ?_; rintro e w' ⟨rfl, rfl⟩) | (go_at_call 57; refine (HQQ.out _ hdg).mono ?_; rintro e w' ⟨rfl, rfl⟩))
      go_ret3
      exact ⟨ret3 ⟨HR.out.1, HR.out.2.1, by rw [HR.out.2.2]⟩, B1.out⟩
end Go.Proofs.YtekkhjlipijmcaaGreatDoor
