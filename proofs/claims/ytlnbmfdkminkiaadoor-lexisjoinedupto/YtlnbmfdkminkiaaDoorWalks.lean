/- The statements of this layer, walked: each comes out true, whatever its arguments. -/
import Derived.Test.YtlnbmfdkminkiaaDoorSays
import Derived.Lib.SmallJoins
import Derived.Lib.ItoaLen
namespace Go.Proofs.YtlnbmfdkminkiaaDoor
open Go.ChangeShapes Go.WideShapes Go.ChangeAt Go.RowKit

set_option maxHeartbeats 2000000 in
theorem tells_walk (a b : ByteArray) (w : World) (ha : a.size ≤ 140737488355328) (hb : b.size ≤ 140737488355328) (hdb : DB w) :
    Calls Tryd.prog 3 #[.string a, .string b] w fun e w' => e = .returned (.bool true) ∧ Below w.heap.size w w' := by
  have HD := hide hdb
  clear hdb
  have ham : a.size ≤ maxLen := by unfold maxLen; omega
  have hbm : b.size ≤ maxLen := by unfold maxLen; omega
  go_enter Tryd.func3, Tryd.ntmps3
  go_wp2_with fail
  refine (token_any _ _ ham).mono ?_
  rintro e w' ⟨rfl, rfl⟩
  go_wp2_with fail
  refine (rtoken_any _ _ ham).mono ?_
  rintro e w1 ⟨rfl, b1⟩
  have B1 := hide b1
  clear b1
  go_wp2_with fail
  refine (value_any _ _ ham).mono ?_
  rintro e w2 ⟨rfl, b2⟩
  have B2 := hide (B1.out.trans (b2.mono B1.out.size))
  clear b2 B1
  go_wp2_with fail
  refine (rvalue_any _ _ ham).mono ?_
  rintro e w' ⟨rfl, rfl⟩
  go_wp2_with fail
  refine (trim_any _ _ (by omega)).mono ?_
  rintro e w3 ⟨rfl, b3⟩
  have B3 := hide (B2.out.trans (b3.mono B2.out.size))
  clear b3 B2
  go_wp2_with fail
  refine (rtrim_any _ _ ham).mono ?_
  rintro e w' ⟨rfl, rfl⟩
  go_wp2_with fail
  refine (lower_any _ _ ham).mono ?_
  rintro e w4 ⟨rfl, b4⟩
  have B4 := hide (B3.out.trans (b4.mono B3.out.size))
  clear b4 B3
  go_wp2_with fail
  refine (rlower_any _ _ ha).mono ?_
  rintro e w5 ⟨rfl, b5⟩
  have B5 := hide (B4.out.trans (b5.mono B4.out.size))
  clear b5 B4
  go_wp2_with fail
  refine (same_any _ _ _ ham hbm).mono ?_
  rintro e w6 ⟨rfl, b6⟩
  have B6 := hide (B5.out.trans (b6.mono B5.out.size))
  clear b6 B5
  go_wp2_with fail
  refine (rsame_any _ _ _ ha hb).mono ?_
  rintro e w7 ⟨rfl, b7⟩
  have B7 := hide (B6.out.trans (b7.mono B6.out.size))
  clear b7 B6
  go_wp2_with fail
  refine (speaks_any _ (HD.out.below B7.out)).mono ?_
  rintro e w8 ⟨rfl, b8⟩
  have B8 := hide (B7.out.trans (b8.mono B7.out.size))
  clear b8 B7
  go_wp2
  go_ret
  exact ⟨rfl, B8.out⟩

set_option maxHeartbeats 2000000 in
theorem numbers_walk (s : ByteArray) (n : Int) (w : World) (hs : s.size ≤ maxLen) (hdb : DB w) :
    Calls Tryd.prog 4 #[.string s, .int .i64 n] w fun e w' => e = .returned (.bool true) ∧ Below w.heap.size w w' := by
  have HD := hide hdb
  clear hdb
  have h1 := Number_any s
  have h2 := rnumber_10 s
  have h3 := Hex_any s
  have h4 := rnumber_16 s
  have h5 := hext_any n
  have h6 := rhex_any n
  generalize (numV 10 s.data.toList : Int) = v1 at h1 h2
  generalize (numE 10 s.data.toList : Int) = e1 at h1 h2
  generalize (numV 16 s.data.toList : Int) = v2 at h3 h4
  generalize (numE 16 s.data.toList : Int) = e2 at h3 h4
  generalize hexS n = x at h5 h6
  generalize (hexE n : Int) = e3 at h5 h6
  have H1 := hide h1
  have H2 := hide h2
  have H3 := hide h3
  have H4 := hide h4
  have H5 := hide h5
  have H6 := hide h6
  clear h1 h2 h3 h4 h5 h6
  go_enter Tryd.func4, Tryd.ntmps4
  go_wp2_with fail
  refine (H1.out _ hs).mono ?_
  rintro e w' ⟨rfl, rfl⟩
  go_wp2_with fail
  refine (H2.out _ hs).mono ?_
  rintro e w' ⟨rfl, rfl⟩
  go_wp2_with fail
  refine (H3.out _ hs).mono ?_
  rintro e w' ⟨rfl, rfl⟩
  go_wp2_with fail
  refine (H4.out _ hs).mono ?_
  rintro e w' ⟨rfl, rfl⟩
  go_wp2_with fail
  refine (H5.out _ HD.out).mono ?_
  rintro e w1 ⟨rfl, b1⟩
  have B1 := hide b1
  clear b1
  go_wp2_with fail
  refine (H6.out _).mono ?_
  rintro e w' ⟨rfl, rfl⟩
  go_wp2_with fail
  refine (speaks_any _ (HD.out.below B1.out)).mono ?_
  rintro e w2 ⟨rfl, b2⟩
  have B2 := hide (B1.out.trans (b2.mono B1.out.size))
  clear b2 B1
  go_wp2
  go_ret
  exact ⟨rfl, B2.out⟩

theorem below_grow (w : World) (q : Nat) (os : Array Obj) : Below w.heap.size w (Sort.grow (w.drewN q) os) :=
  ⟨rfl, rfl, rfl, by simp [Sort.grow], fun k hk => by simp [Sort.grow, World.drewN, Array.getElem?_append_left hk]⟩
theorem itoa_any (n : Nat) (hn : n ≤ 9007199254740992) (w : World) (ht : Lib.TabIs Tryd.prog w "internal/strconv.uint64pow10" .u64 Lib.pow10Tab) :
    Calls Tryd.prog 27 #[.int .i64 n] w fun e w' => e = .returned (.string ⟨(Lib.decDigits n).toArray⟩) ∧ Below w.heap.size w w' := by
  refine (Tryd.strconv_Itoa n (by omega) (by omega) w ht).mono ?_
  rintro e w' ⟨rfl, k, os, rfl⟩
  rw [Lib.itoa_nonneg]
  exact ⟨rfl, below_grow w k os⟩
theorem decD_len (n : Nat) (hn : n ≤ 9007199254740992) : (Lib.decDigits n).length ≤ 21 := by
  have := Lib.itoa_length_le n (by omega) (by omega)
  rwa [Lib.itoa_nonneg] at this

set_option maxHeartbeats 2000000 in
theorem back_walk (n : Int) (w : World) (hdb : DB w) (ht : Lib.TabIs Tryd.prog w "internal/strconv.uint64pow10" .u64 Lib.pow10Tab) (hg : ∃ g, Tryd.prog.globalNamed "internal/strconv.uint64pow10" = some g) :
    Calls Tryd.prog 6 #[.int .i64 n] w fun e w' => e = .returned (.bool true) ∧ Below w.heap.size w w' := by
  have HD := hide hdb
  have HT := hide ht
  clear hdb ht
  have h5 := hide (hext_any n)
  by_cases hr : 0 ≤ n ∧ n ≤ 9007199254740992
  · obtain ⟨h0, h1⟩ := hr
    obtain ⟨m, rfl⟩ := Int.eq_ofNat_of_zero_le h0
    have hm : m ≤ 9007199254740992 := by omega
    obtain ⟨y1, y2⟩ := hexS_yes hm
    obtain ⟨n1, n2⟩ := num_hex (u := m) hm
    obtain ⟨d1, d2⟩ := num_dec (u := m) hm
    rw [y1, y2] at h5
    have hx : ∀ w, Calls Tryd.prog 21 #[.string ⟨(hexD m).toArray⟩] w fun e w' => e = .returned (.tuple #[.int .i64 m, .int .i64 0]) ∧ w = w' := fun w => by
      have hz : (⟨(hexD m).toArray⟩ : ByteArray).size ≤ maxLen := by
        have := hexD_len14 hm
        show (hexD m).length ≤ _
        unfold maxLen; omega
      have := Hex_any ⟨(hexD m).toArray⟩ w hz
      rw [show (⟨(hexD m).toArray⟩ : ByteArray).data.toList = hexD m from rfl, n1, n2] at this
      exact this
    have hd : ∀ w, Calls Tryd.prog 19 #[.string ⟨(Lib.decDigits m).toArray⟩] w fun e w' => e = .returned (.tuple #[.int .i64 m, .int .i64 0]) ∧ w = w' := fun w => by
      have hz : (⟨(Lib.decDigits m).toArray⟩ : ByteArray).size ≤ maxLen := by
        have := decD_len m hm
        show (Lib.decDigits m).length ≤ _
        unfold maxLen; omega
      have := Number_any ⟨(Lib.decDigits m).toArray⟩ w hz
      rw [show (⟨(Lib.decDigits m).toArray⟩ : ByteArray).data.toList = Lib.decDigits m from rfl, d1, d2] at this
      exact this
    have hi := itoa_any m hm
    generalize (⟨(hexD m).toArray⟩ : ByteArray) = x at h5 hx
    generalize (⟨(Lib.decDigits m).toArray⟩ : ByteArray) = y at hi hd
    have HX := hide hx
    have HDD := hide hd
    have HI := hide hi
    clear hx hd hi y1 y2 n1 n2 d1 d2
    go_enter Tryd.func6, Tryd.ntmps6
    go_wp2_with fail
    refine (h5.out _ HD.out).mono ?_
    rintro e w1 ⟨rfl, b1⟩
    have B1 := hide b1
    clear b1
    go_wp2_with fail
    refine (HX.out _).mono ?_
    rintro e w' ⟨rfl, rfl⟩
    go_wp2_with fail
    refine (HI.out _ (by obtain ⟨g, hg⟩ := hg; exact Joins.tab_stays hg HT.out B1.out (Nat.le_refl _))).mono ?_
    rintro e w2 ⟨rfl, b2⟩
    have B2 := hide (B1.out.trans (b2.mono B1.out.size))
    clear b2 B1
    go_wp2_with fail
    refine (HDD.out _).mono ?_
    rintro e w' ⟨rfl, rfl⟩
    go_wp2_with fail
    refine (speaks_any _ (HD.out.below B2.out)).mono ?_
    rintro e w3 ⟨rfl, b3⟩
    have B3 := hide (B2.out.trans (b3.mono B2.out.size))
    clear b3 B2
    go_wp2
    go_ret
    exact ⟨rfl, B3.out⟩
  · have hr2 : n < 0 ∨ 9007199254740992 < n := by omega
    obtain ⟨y1, y2⟩ := hexS_no hr2
    rw [y1, y2] at h5
    clear hr y1 y2
    rcases hr2 with hr | hr
    all_goals
      go_enter Tryd.func6, Tryd.ntmps6
      go_wp2_with fail
      refine (h5.out _ HD.out).mono ?_
      rintro e w1 ⟨rfl, b1⟩
      have B1 := hide b1
      clear b1
      go_wp2_with fail
      refine (speaks_any _ (HD.out.below B1.out)).mono ?_
      rintro e w2 ⟨rfl, b2⟩
      have B2 := hide (B1.out.trans (b2.mono B1.out.size))
      clear b2 B1
      go_wp2
      go_ret
      exact ⟨rfl, B2.out⟩

set_option maxHeartbeats 2000000 in
theorem lists_walk (s : ByteArray) (w : World) (hs : s.size ≤ 1099511627776) (hdb : DB w) :
    Calls Tryd.prog 5 #[.string s] w fun e w' => e = .returned (.bool true) ∧ Below w.heap.size w w' := by
  have HD := hide hdb
  clear hdb
  have hl := listS_len s.data.toList
  rw [size_len] at hl
  have h1 := hide (list_any s)
  have h2 := hide (rlist_any s)
  generalize listS s.data.toList = L at h1 h2 hl
  go_enter Tryd.func5, Tryd.ntmps5
  go_wp2_with fail
  refine (h1.out _ hs).mono ?_
  rintro e w1 ⟨v1, rfl, r1, b1⟩
  have B1 := hide b1
  have R1 := hide (Strs.of_row r1)
  clear b1 r1
  go_wp2_with fail
  refine (h2.out _ hs).mono ?_
  rintro e w2 ⟨v2, rfl, r2, b2⟩
  have B2 := hide (B1.out.trans (b2.mono B1.out.size))
  have R2 := hide (Strs.of_row r2)
  have R3 := hide (R1.out.below b2)
  clear b2 r2 B1 R1
  go_wp2_with fail
  refine (texts_any _ _ _ L L R3.out R2.out (by omega) (by omega)).mono ?_
  rintro e w3 ⟨rfl, b3⟩
  have B3 := hide (B2.out.trans (b3.mono B2.out.size))
  clear b3 B2
  rw [decide_eq_true rfl]
  go_wp2_with fail
  refine (speaks_any _ (HD.out.below B3.out)).mono ?_
  rintro e w4 ⟨rfl, b4⟩
  have B4 := hide (B3.out.trans (b4.mono B3.out.size))
  clear b4 B3
  go_wp2
  go_ret
  exact ⟨rfl, B4.out⟩
end Go.Proofs.YtlnbmfdkminkiaaDoor
