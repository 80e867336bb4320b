/- Versions: the program's form of one, the document's. -/
import Derived.Test.YtcagjipdldlehaaGreatDoorHIs
namespace Go.Proofs.YtcagjipdldlehaaGreatDoor
open Go.ChangeShapes Go.WideShapes Go.ChangeAt Go.RowKit

def dgc (c : UInt8) : Bool := decide (48 ≤ c.toNat) && decide (c.toNat ≤ 57)
set_option maxHeartbeats 1000000 in
theorem isDigit_any (c : UInt8) (w : World) : Calls Tryz.prog 121 #[.int .u8 (c.toNat : Int)] w fun e w' => e = .returned (.bool (dgc c)) ∧ w = w' := by
  have hc := byte_lt c
  unfold dgc
  by_cases h1 : 48 ≤ c.toNat
  · have t1 : (48 : Int) ≤ (c.toNat : Int) := by omega
    by_cases h2 : c.toNat ≤ 57
    · have t2 : (c.toNat : Int) ≤ 57 := by omega
      go_enter Tryz.func121, Tryz.ntmps121
      go_wp2
      go_ret
      exact ⟨ret_bool (by simp [h1, h2]), rfl⟩
    · have t2 : ¬ (c.toNat : Int) ≤ 57 := by omega
      go_enter Tryz.func121, Tryz.ntmps121
      go_wp2
      go_ret
      exact ⟨ret_bool rfl, rfl⟩
  · have t1 : ¬ (48 : Int) ≤ (c.toNat : Int) := by omega
    go_enter Tryz.func121, Tryz.ntmps121
    go_wp2
    go_ret
    exact ⟨ret_bool rfl, rfl⟩
/-- The form of a version, whichever it is. -/
def verB : List UInt8 → Bool
  | [72, 84, 84, 80, 47, d, 46, e] => dgc d && dgc e
  | _ => false
def ver10 : List UInt8 := [72, 84, 84, 80, 47, 49, 46, 48]
def ver11 : List UInt8 := [72, 84, 84, 80, 47, 49, 46, 49]
def proto : List UInt8 := [72, 84, 84, 80, 47]
theorem ver_not {l : List UInt8} (h : Lib.hasPrefix l proto = false) : verB l = false := by
  unfold verB
  split
  · simp [Lib.hasPrefix, proto, List.isPrefixOf] at h
  · rfl
theorem pre_form {l : List UInt8} (h : Lib.hasPrefix l proto = true) : ∃ r, l = proto ++ r ∧ Lib.trimPrefix l proto = r := by
  unfold Lib.trimPrefix
  rw [if_pos h]
  unfold Lib.hasPrefix at h
  obtain ⟨r, rfl⟩ := List.isPrefixOf_iff_prefix.1 h
  exact ⟨r, rfl, by simp⟩
theorem ver_len {r : List UInt8} (h : r.length ≠ 3) : verB (proto ++ r) = false := by
  unfold verB proto
  split
  · rename_i h2
    simp at h2
    rw [h2] at h
    simp at h
  · rfl
theorem ver_three (a b c : UInt8) : verB (proto ++ [a, b, c]) = (dgc a && (decide (b = 46) && dgc c)) := by
  unfold proto
  by_cases h : b = 46
  · subst h; simp [verB]
  · have : verB ([72, 84, 84, 80, 47] ++ [a, b, c]) = false := by
      unfold verB
      split
      · rename_i h2
        simp at h2
        exact absurd h2.2.1 h
      · rfl
    rw [this]; simp [h]
theorem three (r : ByteArray) (h : r.size = 3) : r.data.toList = [r[0]'(by omega), r[1]'(by omega), r[2]'(by omega)] := by
  apply List.ext_getElem
  · rw [size_len]; exact h
  · intro i h1 h2
    rcases i with _ | _ | _ | i
    · rfl
    · rfl
    · rfl
    · rw [size_len] at h1; omega
set_option maxHeartbeats 2000000 in
theorem isVersion_any (s : ByteArray) (w : World) :
    Calls Tryz.prog 83 #[.string s] w fun e w' => e = .returned (.bool (verB s.data.toList)) ∧ w = w' := by
  have HC := hide (Tryz.strings_CutPrefix s ⟨#[72, 84, 84, 80, 47]⟩ w)
  rw [show (ByteArray.mk #[72, 84, 84, 80, 47]).data.toList = proto from rfl] at HC
  cases hp : Lib.hasPrefix s.data.toList proto with
  | false =>
    have HE := hide (ver_not hp)
    rw [hp] at HC
    generalize (ByteArray.mk (Lib.trimPrefix s.data.toList proto).toArray) = r at HC
    clear hp
    go_enter Tryz.func83, Tryz.ntmps83
    go_wp2_with (refine HC.out.mono ?_; rintro e w' ⟨rfl, rfl⟩)
    go_ret
    exact ⟨ret_bool HE.out.symm, rfl⟩
  | true =>
    obtain ⟨r0, hr0, hr1⟩ := pre_form hp
    rw [hp, hr1] at HC
    rw [hr0]
    have er : (ByteArray.mk r0.toArray).data.toList = r0 := by simp
    generalize ByteArray.mk r0.toArray = r at HC er
    subst er
    clear hr1 hp
    by_cases h3 : r.size = 3
    · have t3 : ((r.size : Int) == 3) = true := by simp [h3]
      have u0 : 0 < r.size := by omega
      have u1 : 1 < r.size := by omega
      have u2 : 2 < r.size := by omega
      have HE := hide (ver_three r[0] r[1] r[2])
      rw [← show r.data.toList = [r[0], r[1], r[2]] from three r h3] at HE
      have H3 := hide h3
      clear h3 hr0
      have HD1 := hide (byte_eqI r[1] 46)
      cases d0 : dgc r[0] with
      | false =>
        go_enter Tryz.func83, Tryz.ntmps83
        go_wp2_with (first | (refine HC.out.mono ?_; rintro e w' ⟨rfl, rfl⟩) | (refine (isDigit_any _ _).mono ?_; rintro e w' ⟨rfl, rfl⟩))
        go_ret
        exact ⟨ret_bool (by rw [HE.out]; simp [d0]), rfl⟩
      | true =>
        by_cases d1 : r[1] = 46
        · have t1 : (((r[1].toNat : Int)) == 46) = true := by rw [show (46 : Int) = ((46 : UInt8).toNat : Int) from rfl, HD1.out, d1]; rfl
          have D1 := hide d1
          clear d1
          cases d2 : dgc r[2] with
          | false =>
            go_enter Tryz.func83, Tryz.ntmps83
            go_wp2_with (first | (refine HC.out.mono ?_; rintro e w' ⟨rfl, rfl⟩) | (refine (isDigit_any _ _).mono ?_; rintro e w' ⟨rfl, rfl⟩))
            go_ret
            exact ⟨ret_bool (by rw [HE.out]; simp [d2]), rfl⟩
          | true =>
            go_enter Tryz.func83, Tryz.ntmps83
            go_wp2_with (first | (refine HC.out.mono ?_; rintro e w' ⟨rfl, rfl⟩) | (refine (isDigit_any _ _).mono ?_; rintro e w' ⟨rfl, rfl⟩))
            go_ret
            exact ⟨ret_bool (by rw [HE.out]; simp [d0, d2, D1.out]), rfl⟩
        · have t1 : (((r[1].toNat : Int)) == 46) = false := by rw [show (46 : Int) = ((46 : UInt8).toNat : Int) from rfl, HD1.out]; simpa using d1
          have D1 := hide d1
          clear d1
          go_enter Tryz.func83, Tryz.ntmps83
          go_wp2_with (first | (refine HC.out.mono ?_; rintro e w' ⟨rfl, rfl⟩) | (refine (isDigit_any _ _).mono ?_; rintro e w' ⟨rfl, rfl⟩))
          go_ret
          exact ⟨ret_bool (by rw [HE.out]; simp [D1.out]), rfl⟩
    · have t3 : ((r.size : Int) == 3) = false := by simp; omega
      have HE := hide (ver_len (r := r.data.toList) (by rw [size_len]; exact h3))
      clear h3 hr0
      go_enter Tryz.func83, Tryz.ntmps83
      go_wp2_with (refine HC.out.mono ?_; rintro e w' ⟨rfl, rfl⟩)
      go_ret
      exact ⟨ret_bool HE.out.symm, rfl⟩
def verE (l : List UInt8) : Nat := if l = ver10 ∨ l = ver11 then 0 else if verB l then 86 else 80
def verM (l : List UInt8) : Nat := if l = ver11 then 1 else 0
theorem eight (r : ByteArray) (h : r.size = 8) : r.data.toList = (r.extract 0 5).data.toList ++ [r[5]'(by omega), r[6]'(by omega), r[7]'(by omega)] := by
  rw [ext_take]
  have e : r.data.toList.drop 5 = [r[5]'(by omega), r[6]'(by omega), r[7]'(by omega)] := by
    apply List.ext_getElem
    · rw [List.length_drop, size_len]
      show r.size - 5 = 3
      omega
    · intro i h1 h2
      rw [List.length_drop, size_len] at h1
      rcases i with _ | _ | _ | i
      · rw [List.getElem_drop]; rfl
      · rw [List.getElem_drop]; rfl
      · rw [List.getElem_drop]; rfl
      · omega
  rw [← e, List.take_append_drop]
theorem ver_size {l : List UInt8} (h : l.length ≠ 8) : verB l = false := by
  unfold verB
  split
  · simp at h
  · rfl
theorem ver_pre {p r : List UInt8} (hp : p.length = 5) (h : p ≠ proto) : verB (p ++ r) = false := by
  unfold verB
  split
  · rename_i d e h2
    exfalso
    apply h
    have := congrArg (List.take 5) h2
    rw [List.take_append_of_le_length (by omega), List.take_of_length_le (by omega)] at this
    rw [this]
    rfl
  · rfl
theorem ver_eight (p : List UInt8) (hp : p.length = 5) (a b c : UInt8) : verB (p ++ [a, b, c]) = (decide (p = proto) && (decide (b = 46) && (dgc a && dgc c))) := by
  by_cases h : p = proto
  · rw [h, ver_three]
    by_cases h2 : b = 46 <;> simp [h2]
  · rw [ver_pre hp h, decide_eq_false h, Bool.false_and]
set_option maxHeartbeats 4000000 in
theorem rversion_any (s : ByteArray) (w : World) (hs : s.size ≤ maxLen) :
    Calls Tryz.prog 101 #[.string s] w fun e w' => e = .returned (.tuple #[.int .i64 (verM s.data.toList : Nat), .int .i64 (verE s.data.toList : Nat)]) ∧ w = w' := by
  unfold maxLen at hs
  by_cases h0 : s.data.toList = ver10
  · obtain rfl : s = ⟨#[72, 84, 84, 80, 47, 49, 46, 48]⟩ := data_inj h0
    go_enter Tryz.func101, Tryz.ntmps101
    go_wp2
    go_ret2
    exact ⟨rfl, rfl⟩
  · by_cases h1 : s.data.toList = ver11
    · obtain rfl : s = ⟨#[72, 84, 84, 80, 47, 49, 46, 49]⟩ := data_inj h1
      go_enter Tryz.func101, Tryz.ntmps101
      go_wp2
      go_ret2
      exact ⟨rfl, rfl⟩
    · have hM : verM s.data.toList = 0 := by unfold verM; rw [if_neg h1]
      have hE : verE s.data.toList = if verB s.data.toList then 86 else 80 := by unfold verE; rw [if_neg (by simp [h0, h1])]
      rw [hM, hE]
      have t0 : (s.toList == [72, 84, 84, 80, 47, 49, 46, 48]) = false := by rw [str_eq]; exact decide_eq_false h0
      have t1 : (s.toList == [72, 84, 84, 80, 47, 49, 46, 49]) = false := by rw [str_eq]; exact decide_eq_false h1
      clear h0 h1 hM hE
      by_cases h8 : s.size = 8
      · have t8 : ((s.size : Int) == 8) = true := by simp [h8]
        have u5 : 5 < s.size := by omega
        have u6 : 6 < s.size := by omega
        have u7 : 7 < s.size := by omega
        have HE := hide (ver_eight (s.extract 0 5).data.toList (by rw [size_len, ext_size, h8]; rfl) s[5] s[6] s[7])
        rw [← show s.data.toList = (s.extract 0 5).data.toList ++ [s[5], s[6], s[7]] from eight s h8] at HE
        have H8 := hide h8
        clear h8
        by_cases p : (s.extract 0 5).data.toList = proto
        · have tp : ((s.extract 0 5).toList == [72, 84, 84, 80, 47]) = true := by rw [str_eq]; exact decide_eq_true p
          by_cases q : s[6] = 46
          · have tq : (((s[6].toNat : Int)) == 46) = true := by rw [show (46 : Int) = ((46 : UInt8).toNat : Int) from rfl, byte_eqI, q]; rfl
            by_cases a : 48 ≤ s[5].toNat
            · have ta : (48 : Int) ≤ (s[5].toNat : Int) := by omega
              by_cases b : s[5].toNat ≤ 57
              · have tb : (s[5].toNat : Int) ≤ 57 := by omega
                by_cases c : 48 ≤ s[7].toNat
                · have tc : (48 : Int) ≤ (s[7].toNat : Int) := by omega
                  by_cases d : s[7].toNat ≤ 57
                  · have td : (s[7].toNat : Int) ≤ 57 := by omega
                    have HX : Hid (verB s.data.toList = true) := by rw [HE.out, decide_eq_true p]; simp [Hid, dgc, q, a, b, c, d]
                    clear HE
                    rw [HX.out]
                    go_enter Tryz.func101, Tryz.ntmps101
                    go_wp2
                    go_ret2
                    exact ⟨rfl, rfl⟩
                  · have td : ¬ (s[7].toNat : Int) ≤ 57 := by omega
                    have HX : Hid (verB s.data.toList = false) := by rw [HE.out]; simp [Hid, dgc, d]
                    clear HE
                    rw [HX.out]
                    go_enter Tryz.func101, Tryz.ntmps101
                    go_wp2
                    go_ret2
                    exact ⟨rfl, rfl⟩
                · have tc : ¬ (48 : Int) ≤ (s[7].toNat : Int) := by omega
                  have HX : Hid (verB s.data.toList = false) := by rw [HE.out]; simp [Hid, dgc, c]
                  clear HE
                  rw [HX.out]
                  go_enter Tryz.func101, Tryz.ntmps101
                  go_wp2
                  go_ret2
                  exact ⟨rfl, rfl⟩
              · have tb : ¬ (s[5].toNat : Int) ≤ 57 := by omega
                have HX : Hid (verB s.data.toList = false) := by rw [HE.out]; simp [Hid, dgc, b]
                clear HE
                rw [HX.out]
                go_enter Tryz.func101, Tryz.ntmps101
                go_wp2
                go_ret2
                exact ⟨rfl, rfl⟩
            · have ta : ¬ (48 : Int) ≤ (s[5].toNat : Int) := by omega
              have HX : Hid (verB s.data.toList = false) := by rw [HE.out]; simp [Hid, dgc, a]
              clear HE
              rw [HX.out]
              go_enter Tryz.func101, Tryz.ntmps101
              go_wp2
              go_ret2
              exact ⟨rfl, rfl⟩
          · have tq : (((s[6].toNat : Int)) == 46) = false := by rw [show (46 : Int) = ((46 : UInt8).toNat : Int) from rfl, byte_eqI]; simpa using q
            have HX : Hid (verB s.data.toList = false) := by rw [HE.out]; simp [Hid, q]
            clear HE
            rw [HX.out]
            go_enter Tryz.func101, Tryz.ntmps101
            go_wp2
            go_ret2
            exact ⟨rfl, rfl⟩
        · have tp : ((s.extract 0 5).toList == [72, 84, 84, 80, 47]) = false := by rw [str_eq]; exact decide_eq_false p
          have HX : Hid (verB s.data.toList = false) := by rw [HE.out, decide_eq_false p]; rfl
          clear HE
          rw [HX.out]
          go_enter Tryz.func101, Tryz.ntmps101
          go_wp2
          go_ret2
          exact ⟨rfl, rfl⟩
      · have t8 : ((s.size : Int) == 8) = false := by simp; omega
        rw [ver_size (by rw [size_len]; exact h8)]
        clear h8
        go_enter Tryz.func101, Tryz.ntmps101
        go_wp2
        go_ret2
        exact ⟨rfl, rfl⟩
end Go.Proofs.YtcagjipdldlehaaGreatDoor
