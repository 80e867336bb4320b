/- Numbers: what digits say, by the program and by the document. -/
import Derived.Test.YtcagjipdldlehaaGreatDoorCom
namespace Go.Proofs.YtcagjipdldlehaaGreatDoor
open Go.ChangeShapes Go.WideShapes Go.ChangeAt Go.RowKit

theorem digv_up {c : UInt8} (h : 65 ≤ c.toNat ∧ c.toNat ≤ 70) : (digv c : Int) = c.toNat - 55 := by unfold digv; rw [if_pos h]; omega
theorem digv_lo {c : UInt8} (h : 97 ≤ c.toNat ∧ c.toNat ≤ 102) : (digv c : Int) = c.toNat - 87 := by unfold digv; rw [if_neg (by omega), if_pos h]; omega
theorem digv_nu {c : UInt8} (h : 48 ≤ c.toNat ∧ c.toNat ≤ 57) : (digv c : Int) = c.toNat - 48 := by unfold digv; rw [if_neg (by omega), if_neg (by omega), if_pos h]; omega
theorem digv_none {c : UInt8} (h : ¬ (65 ≤ c.toNat ∧ c.toNat ≤ 70)) (h2 : ¬ (97 ≤ c.toNat ∧ c.toNat ≤ 102)) (h3 : ¬ (48 ≤ c.toNat ∧ c.toNat ≤ 57)) : digv c = 16 := by
  unfold digv; rw [if_neg h, if_neg h2, if_neg h3]
theorem ways (n : Nat) : (65 ≤ n ∧ n ≤ 70) ∨ (97 ≤ n ∧ n ≤ 102) ∨ (48 ≤ n ∧ n ≤ 57) ∨ n < 48 ∨ (57 < n ∧ n < 65) ∨ (70 < n ∧ n < 97) ∨ 102 < n := by omega

set_option maxHeartbeats 400000 in
theorem digit_any (c : UInt8) (w : World) : Calls Tryz.prog 119 #[.int .u8 (c.toNat : Int)] w fun e w' => e = .returned (.int .i64 (digv c : Int)) ∧ w = w' := by
  have hc := byte_lt c
  rcases ways c.toNat with h | h | h | h | h | h | h
  · have HD := hide (digv_up h)
    obtain ⟨h1, h2⟩ := h
    go_enter Tryz.func119, Tryz.ntmps119
    go_wp2
    all_goals go_ret
    all_goals exact ⟨ret_int (by rw [HD.out]; omega), rfl⟩
  · have HD := hide (digv_lo h)
    obtain ⟨h1, h2⟩ := h
    go_enter Tryz.func119, Tryz.ntmps119
    go_wp2
    all_goals go_ret
    all_goals exact ⟨ret_int (by rw [HD.out]; omega), rfl⟩
  · have HD := hide (digv_nu h)
    obtain ⟨h1, h2⟩ := h
    go_enter Tryz.func119, Tryz.ntmps119
    go_wp2
    all_goals go_ret
    all_goals exact ⟨ret_int (by rw [HD.out]), rfl⟩
  all_goals
    have HD := hide (digv_none (c := c) (by omega) (by omega) (by omega))
    try obtain ⟨h1, h2⟩ := h
    go_enter Tryz.func119, Tryz.ntmps119
    go_wp2
    all_goals go_ret
    all_goals exact ⟨ret_int (by rw [HD.out]; rfl), rfl⟩

/-- What the document's digit says: -1 where it is none. -/
def rdig (c : UInt8) (base : Nat) : Int := if digv c < base then (digv c : Int) else -1
theorem rdig_yes {c : UInt8} {base : Nat} (h : digv c < base) : rdig c base = digv c := by unfold rdig; rw [if_pos h]
theorem rdig_no {c : UInt8} {base : Nat} (h : ¬ digv c < base) : rdig c base = -1 := by unfold rdig; rw [if_neg h]
theorem rdig_val {c : UInt8} {base : Nat} {x : Int} (h : (digv c : Int) = x) (h2 : x < base) : rdig c base = x := by rw [rdig_yes (by omega), h]
theorem rdig_non {c : UInt8} {base : Nat} {x : Int} (h : (digv c : Int) = x) (h2 : ¬ x < base) : rdig c base = -1 := rdig_no (by omega)
theorem digv_nat {c : UInt8} {n : Nat} (h : digv c = n) : (digv c : Int) = n := by rw [h]

set_option maxHeartbeats 400000 in
theorem rdigit_10 (c : UInt8) (w : World) : Calls Tryz.prog 109 #[.int .u8 (c.toNat : Int), .int .i64 10] w fun e w' => e = .returned (.int .i64 (rdig c 10)) ∧ w = w' := by
  have hc := byte_lt c
  rcases ways c.toNat with h | h | h | h | h | h | h
  · have HD := hide (digv_up h)
    obtain ⟨h1, h2⟩ := h
    go_enter Tryz.func109, Tryz.ntmps109
    go_wp2
    all_goals go_ret
    all_goals exact ⟨ret_int (by first | (rw [rdig_val HD.out (by omega)]; omega) | rw [rdig_non HD.out (by omega)]), rfl⟩
  · have HD := hide (digv_lo h)
    obtain ⟨h1, h2⟩ := h
    go_enter Tryz.func109, Tryz.ntmps109
    go_wp2
    all_goals go_ret
    all_goals exact ⟨ret_int (by first | (rw [rdig_val HD.out (by omega)]; omega) | rw [rdig_non HD.out (by omega)]), rfl⟩
  · have HD := hide (digv_nu h)
    obtain ⟨h1, h2⟩ := h
    go_enter Tryz.func109, Tryz.ntmps109
    go_wp2
    all_goals go_ret
    all_goals exact ⟨ret_int (by rw [rdig_val HD.out (by omega)]), rfl⟩
  all_goals
    have HD := hide (digv_nat (digv_none (c := c) (by omega) (by omega) (by omega)))
    try obtain ⟨h1, h2⟩ := h
    go_enter Tryz.func109, Tryz.ntmps109
    go_wp2
    all_goals go_ret
    all_goals exact ⟨ret_int (by rw [rdig_non HD.out (by omega)]), rfl⟩

set_option maxHeartbeats 400000 in
theorem rdigit_16 (c : UInt8) (w : World) : Calls Tryz.prog 109 #[.int .u8 (c.toNat : Int), .int .i64 16] w fun e w' => e = .returned (.int .i64 (rdig c 16)) ∧ w = w' := by
  have hc := byte_lt c
  rcases ways c.toNat with h | h | h | h | h | h | h
  · have HD := hide (digv_up h)
    obtain ⟨h1, h2⟩ := h
    go_enter Tryz.func109, Tryz.ntmps109
    go_wp2
    all_goals go_ret
    all_goals exact ⟨ret_int (by first | (rw [rdig_val HD.out (by omega)]; omega) | rw [rdig_non HD.out (by omega)]), rfl⟩
  · have HD := hide (digv_lo h)
    obtain ⟨h1, h2⟩ := h
    go_enter Tryz.func109, Tryz.ntmps109
    go_wp2
    all_goals go_ret
    all_goals exact ⟨ret_int (by first | (rw [rdig_val HD.out (by omega)]; omega) | rw [rdig_non HD.out (by omega)]), rfl⟩
  · have HD := hide (digv_nu h)
    obtain ⟨h1, h2⟩ := h
    go_enter Tryz.func109, Tryz.ntmps109
    go_wp2
    all_goals go_ret
    all_goals exact ⟨ret_int (by rw [rdig_val HD.out (by omega)]), rfl⟩
  all_goals
    have HD := hide (digv_nat (digv_none (c := c) (by omega) (by omega) (by omega)))
    try obtain ⟨h1, h2⟩ := h
    go_enter Tryz.func109, Tryz.ntmps109
    go_wp2
    all_goals go_ret
    all_goals exact ⟨ret_int (by rw [rdig_non HD.out (by omega)]), rfl⟩

/-! ### Row by row -/
def dig (base : Nat) (c : UInt8) : Bool := decide (digv c < base)
theorem numE_empty {base : Nat} {l : List UInt8} (h : l = []) : numV base l = 0 ∧ numE base l = 50 := by subst h; simp [numV, numE]
theorem num_bad {base : Nat} {s : ByteArray} {k : Nat} (h : k < s.size) (hp : dig base s[k] = false) : numV base s.data.toList = 0 ∧ numE base s.data.toList = 50 := by
  have := all_no (dig base) s k h hp
  unfold dig at this
  unfold numV numE
  rw [this]
  simp
theorem num_big {base : Nat} {s : ByteArray} {k : Nat} {a : Int} (h0 : 0 < s.size) (hk : s.size ≤ k) (h : (s.data.toList.take k).all (dig base) = true) (ha : a = accu base (s.data.toList.take k)) (hb : 9007199254740992 < a) : numV base s.data.toList = 0 ∧ numE base s.data.toList = 51 := by
  rw [take_all s k hk] at h ha
  have hn : s.data.toList ≠ [] := fun e => by have := size_len s; rw [e] at this; simp at this; omega
  unfold dig at h
  have hb' : top < accu base s.data.toList := by unfold top; omega
  unfold numV numE
  rw [h]
  simp [hn, hb']
theorem num_fits {base : Nat} {s : ByteArray} {k : Nat} {a : Int} (h0 : 0 < s.size) (hk : s.size ≤ k) (h : (s.data.toList.take k).all (dig base) = true) (ha : a = accu base (s.data.toList.take k)) (hb : ¬ 9007199254740992 < a) : (numV base s.data.toList : Int) = a ∧ numE base s.data.toList = 0 := by
  rw [take_all s k hk] at h ha
  have hn : s.data.toList ≠ [] := fun e => by have := size_len s; rw [e] at this; simp at this; omega
  unfold dig at h
  have hb' : ¬ top < accu base s.data.toList := by unfold top; omega
  unfold numV numE
  rw [h]
  simp [hn, hb', ha]
theorem ret2 {a b : Int} {m n : Nat} (h : (m : Int) = a ∧ n = b) : Ending.returned (.tuple #[.int .i64 a, .int .i64 b]) = .returned (.tuple #[.int .i64 (m : Int), .int .i64 (n : Int)]) := by
  rw [← h.1, ← h.2]
theorem acc_next {base : Nat} {s : ByteArray} {k : Nat} {a : Int} (h : k < s.size) (ha : a = accu base (s.data.toList.take k)) : (a ≤ 9007199254740992 → a * base + digv s[k] = accu base (s.data.toList.take (k + 1))) ∧ (¬ a ≤ 9007199254740992 → a = accu base (s.data.toList.take (k + 1))) := by
  rw [take_snoc s k h, accu_snoc]
  unfold stp top
  constructor
  · intro hl
    rw [if_pos (by omega), ha]
    simp
  · intro hl
    rw [if_neg (by omega), ha]
theorem accI_le {base : Nat} (hb : base ≤ 16) {l : List UInt8} {a : Int} (ha : a = accu base l) : 0 ≤ a ∧ a ≤ 144115188075855888 := by
  have := accu_le base hb l
  unfold top at this
  omega

set_option maxHeartbeats 400000 in
theorem number_10 (s : ByteArray) (w : World) (hs : s.size ≤ maxLen) :
    Calls Tryz.prog 82 #[.string s, .int .i64 10] w fun e w' => e = .returned (.tuple #[.int .i64 (numV 10 s.data.toList : Int), .int .i64 (numE 10 s.data.toList : Int)]) ∧ w = w' := by
  unfold maxLen at hs
  by_cases h0 : 0 < s.size
  · have he : s.toList.isEmpty = false := by rw [Lib.toList_data, isEmpty_size]; exact decide_eq_false (by omega)
    have hz : ((s.size : Int) == 0) = false := beq_eq_false_iff_ne.2 (by omega)
    go_enter Tryz.func82, Tryz.ntmps82
    go_wp2
    go_loop [6, 13] (fun n i => ∃ (k : Nat) (a : Int), k ≤ s.size ∧ i = .int .i64 k ∧ n = .int .i64 a ∧ Hid (a = accu 10 (s.data.toList.take k)) ∧ Hid ((s.data.toList.take k).all (dig 10) = true)) (fun _ i => s.size - (intOf i).toNat)
    case atStart => exact ⟨0, 0, Nat.zero_le _, rfl, rfl, by simp [Hid, accu], by simp [Hid]⟩
    case round =>
      obtain ⟨k, a, hk, rfl, rfl, HA, H⟩ := hrel
      obtain ⟨ha0, ha1⟩ := accI_le (by omega) HA.out
      by_cases hlt : k < s.size
      · have hdl : (digv s[k] : Int) ≤ 16 := by have := digv_le s[k]; omega
        have HN := hide (acc_next hlt HA.out)
        cases hd : dig 10 s[k] with
        | true =>
          have HS : Hid ((s.data.toList.take (k + 1)).all (dig 10) = true) := by show _ = _; rw [all_snoc _ s k hlt, H.out, hd]; rfl
          replace hd : (digv s[k] : Int) < 10 := by simp [dig] at hd; omega
          by_cases hle : a ≤ 9007199254740992
          · have HM := hide (HN.out.1 hle)
            go_wp2_with (go_at_call 119; refine (digit_any _ _).mono ?_; rintro e w' ⟨rfl, rfl⟩)
            exact ⟨⟨k + 1, _, by omega, by go_num, rfl, HM, HS⟩, by simp [intOf]; omega⟩
          · have HM := hide (HN.out.2 hle)
            go_wp2_with (go_at_call 119; refine (digit_any _ _).mono ?_; rintro e w' ⟨rfl, rfl⟩)
            exact ⟨⟨k + 1, _, by omega, by go_num, rfl, HM, HS⟩, by simp [intOf]; omega⟩
        | false =>
          have HB := hide (num_bad hlt hd)
          replace hd : ¬ (digv s[k] : Int) < 10 := by simp [dig] at hd; omega
          go_wp2_with (go_at_call 119; refine (digit_any _ _).mono ?_; rintro e w' ⟨rfl, rfl⟩)
          go_ret2
          exact ⟨ret2 ⟨by rw [HB.out.1]; rfl, by rw [HB.out.2]; rfl⟩, rfl⟩
      · by_cases hbig : 9007199254740992 < a
        · have HB := hide (num_big h0 (show s.size ≤ k by omega) H.out HA.out hbig)
          go_wp2
          go_ret2
          exact ⟨ret2 ⟨by rw [HB.out.1]; rfl, by rw [HB.out.2]; rfl⟩, rfl⟩
        · have HB := hide (num_fits h0 (show s.size ≤ k by omega) H.out HA.out hbig)
          go_wp2
          go_ret2
          exact ⟨ret2 ⟨HB.out.1, by rw [HB.out.2]; rfl⟩, rfl⟩
  · have he : s.toList.isEmpty = true := by rw [Lib.toList_data, isEmpty_size]; exact decide_eq_true (by omega)
    have hz : ((s.size : Int) == 0) = true := beq_iff_eq.2 (by omega)
    have HB := hide (numE_empty (base := 10) (nil_list s h0))
    go_enter Tryz.func82, Tryz.ntmps82
    go_wp2
    go_ret2
    exact ⟨ret2 ⟨by rw [HB.out.1]; rfl, by rw [HB.out.2]; rfl⟩, rfl⟩

set_option maxHeartbeats 400000 in
theorem rnumber_10 (s : ByteArray) (w : World) (hs : s.size ≤ maxLen) :
    Calls Tryz.prog 71 #[.string s, .int .i64 10] w fun e w' => e = .returned (.tuple #[.int .i64 (numV 10 s.data.toList : Int), .int .i64 (numE 10 s.data.toList : Int)]) ∧ w = w' := by
  unfold maxLen at hs
  by_cases h0 : 0 < s.size
  · have he : s.toList.isEmpty = false := by rw [Lib.toList_data, isEmpty_size]; exact decide_eq_false (by omega)
    have hz : ((s.size : Int) == 0) = false := beq_eq_false_iff_ne.2 (by omega)
    go_enter Tryz.func71, Tryz.ntmps71
    go_wp2
    go_loop [6, 7] (fun n i => ∃ (k : Nat) (a : Int), k ≤ s.size ∧ i = .int .i64 k ∧ n = .int .i64 a ∧ Hid (a = accu 10 (s.data.toList.take k)) ∧ Hid ((s.data.toList.take k).all (dig 10) = true)) (fun _ i => s.size - (intOf i).toNat)
    case atStart => exact ⟨0, 0, Nat.zero_le _, rfl, rfl, by simp [Hid, accu], by simp [Hid]⟩
    case round =>
      obtain ⟨k, a, hk, rfl, rfl, HA, H⟩ := hrel
      obtain ⟨ha0, ha1⟩ := accI_le (by omega) HA.out
      by_cases hlt : k < s.size
      · have hdl : (digv s[k] : Int) ≤ 16 := by have := digv_le s[k]; omega
        have HN := hide (acc_next hlt HA.out)
        cases hd : dig 10 s[k] with
        | true =>
          have HS : Hid ((s.data.toList.take (k + 1)).all (dig 10) = true) := by show _ = _; rw [all_snoc _ s k hlt, H.out, hd]; rfl
          replace hd : (digv s[k] : Int) < 10 := by simp [dig] at hd; omega
          have hdr : rdig s[k] 10 = (digv s[k] : Int) := rdig_yes (by omega)
          by_cases hle : a ≤ 9007199254740992
          · have HM := hide (HN.out.1 hle)
            go_wp2_with (go_at_call 109; refine (rdigit_10 _ _).mono ?_; rintro e w' ⟨rfl, rfl⟩)
            exact ⟨⟨k + 1, _, by omega, by go_num, rfl, HM, HS⟩, by simp [intOf]; omega⟩
          · have HM := hide (HN.out.2 hle)
            go_wp2_with (go_at_call 109; refine (rdigit_10 _ _).mono ?_; rintro e w' ⟨rfl, rfl⟩)
            exact ⟨⟨k + 1, _, by omega, by go_num, rfl, HM, HS⟩, by simp [intOf]; omega⟩
        | false =>
          have HB := hide (num_bad hlt hd)
          replace hd : ¬ (digv s[k] : Int) < 10 := by simp [dig] at hd; omega
          have hdr : rdig s[k] 10 = -1 := rdig_no (by omega)
          go_wp2_with (go_at_call 109; refine (rdigit_10 _ _).mono ?_; rintro e w' ⟨rfl, rfl⟩)
          go_ret2
          exact ⟨ret2 ⟨by rw [HB.out.1]; rfl, by rw [HB.out.2]; rfl⟩, rfl⟩
      · by_cases hbig : 9007199254740992 < a
        · have HB := hide (num_big h0 (show s.size ≤ k by omega) H.out HA.out hbig)
          go_wp2
          go_ret2
          exact ⟨ret2 ⟨by rw [HB.out.1]; rfl, by rw [HB.out.2]; rfl⟩, rfl⟩
        · have HB := hide (num_fits h0 (show s.size ≤ k by omega) H.out HA.out hbig)
          go_wp2
          go_ret2
          exact ⟨ret2 ⟨HB.out.1, by rw [HB.out.2]; rfl⟩, rfl⟩
  · have he : s.toList.isEmpty = true := by rw [Lib.toList_data, isEmpty_size]; exact decide_eq_true (by omega)
    have hz : ((s.size : Int) == 0) = true := beq_iff_eq.2 (by omega)
    have HB := hide (numE_empty (base := 10) (nil_list s h0))
    go_enter Tryz.func71, Tryz.ntmps71
    go_wp2
    go_ret2
    exact ⟨ret2 ⟨by rw [HB.out.1]; rfl, by rw [HB.out.2]; rfl⟩, rfl⟩

set_option maxHeartbeats 400000 in
theorem number_16 (s : ByteArray) (w : World) (hs : s.size ≤ maxLen) :
    Calls Tryz.prog 82 #[.string s, .int .i64 16] w fun e w' => e = .returned (.tuple #[.int .i64 (numV 16 s.data.toList : Int), .int .i64 (numE 16 s.data.toList : Int)]) ∧ w = w' := by
  unfold maxLen at hs
  by_cases h0 : 0 < s.size
  · have he : s.toList.isEmpty = false := by rw [Lib.toList_data, isEmpty_size]; exact decide_eq_false (by omega)
    have hz : ((s.size : Int) == 0) = false := beq_eq_false_iff_ne.2 (by omega)
    go_enter Tryz.func82, Tryz.ntmps82
    go_wp2
    go_loop [6, 13] (fun n i => ∃ (k : Nat) (a : Int), k ≤ s.size ∧ i = .int .i64 k ∧ n = .int .i64 a ∧ Hid (a = accu 16 (s.data.toList.take k)) ∧ Hid ((s.data.toList.take k).all (dig 16) = true)) (fun _ i => s.size - (intOf i).toNat)
    case atStart => exact ⟨0, 0, Nat.zero_le _, rfl, rfl, by simp [Hid, accu], by simp [Hid]⟩
    case round =>
      obtain ⟨k, a, hk, rfl, rfl, HA, H⟩ := hrel
      obtain ⟨ha0, ha1⟩ := accI_le (by omega) HA.out
      by_cases hlt : k < s.size
      · have hdl : (digv s[k] : Int) ≤ 16 := by have := digv_le s[k]; omega
        have HN := hide (acc_next hlt HA.out)
        cases hd : dig 16 s[k] with
        | true =>
          have HS : Hid ((s.data.toList.take (k + 1)).all (dig 16) = true) := by show _ = _; rw [all_snoc _ s k hlt, H.out, hd]; rfl
          replace hd : (digv s[k] : Int) < 16 := by simp [dig] at hd; omega
          by_cases hle : a ≤ 9007199254740992
          · have HM := hide (HN.out.1 hle)
            go_wp2_with (go_at_call 119; refine (digit_any _ _).mono ?_; rintro e w' ⟨rfl, rfl⟩)
            exact ⟨⟨k + 1, _, by omega, by go_num, rfl, HM, HS⟩, by simp [intOf]; omega⟩
          · have HM := hide (HN.out.2 hle)
            go_wp2_with (go_at_call 119; refine (digit_any _ _).mono ?_; rintro e w' ⟨rfl, rfl⟩)
            exact ⟨⟨k + 1, _, by omega, by go_num, rfl, HM, HS⟩, by simp [intOf]; omega⟩
        | false =>
          have HB := hide (num_bad hlt hd)
          replace hd : ¬ (digv s[k] : Int) < 16 := by simp [dig] at hd; omega
          go_wp2_with (go_at_call 119; refine (digit_any _ _).mono ?_; rintro e w' ⟨rfl, rfl⟩)
          go_ret2
          exact ⟨ret2 ⟨by rw [HB.out.1]; rfl, by rw [HB.out.2]; rfl⟩, rfl⟩
      · by_cases hbig : 9007199254740992 < a
        · have HB := hide (num_big h0 (show s.size ≤ k by omega) H.out HA.out hbig)
          go_wp2
          go_ret2
          exact ⟨ret2 ⟨by rw [HB.out.1]; rfl, by rw [HB.out.2]; rfl⟩, rfl⟩
        · have HB := hide (num_fits h0 (show s.size ≤ k by omega) H.out HA.out hbig)
          go_wp2
          go_ret2
          exact ⟨ret2 ⟨HB.out.1, by rw [HB.out.2]; rfl⟩, rfl⟩
  · have he : s.toList.isEmpty = true := by rw [Lib.toList_data, isEmpty_size]; exact decide_eq_true (by omega)
    have hz : ((s.size : Int) == 0) = true := beq_iff_eq.2 (by omega)
    have HB := hide (numE_empty (base := 16) (nil_list s h0))
    go_enter Tryz.func82, Tryz.ntmps82
    go_wp2
    go_ret2
    exact ⟨ret2 ⟨by rw [HB.out.1]; rfl, by rw [HB.out.2]; rfl⟩, rfl⟩

set_option maxHeartbeats 400000 in
theorem rnumber_16 (s : ByteArray) (w : World) (hs : s.size ≤ maxLen) :
    Calls Tryz.prog 71 #[.string s, .int .i64 16] w fun e w' => e = .returned (.tuple #[.int .i64 (numV 16 s.data.toList : Int), .int .i64 (numE 16 s.data.toList : Int)]) ∧ w = w' := by
  unfold maxLen at hs
  by_cases h0 : 0 < s.size
  · have he : s.toList.isEmpty = false := by rw [Lib.toList_data, isEmpty_size]; exact decide_eq_false (by omega)
    have hz : ((s.size : Int) == 0) = false := beq_eq_false_iff_ne.2 (by omega)
    go_enter Tryz.func71, Tryz.ntmps71
    go_wp2
    go_loop [6, 7] (fun n i => ∃ (k : Nat) (a : Int), k ≤ s.size ∧ i = .int .i64 k ∧ n = .int .i64 a ∧ Hid (a = accu 16 (s.data.toList.take k)) ∧ Hid ((s.data.toList.take k).all (dig 16) = true)) (fun _ i => s.size - (intOf i).toNat)
    case atStart => exact ⟨0, 0, Nat.zero_le _, rfl, rfl, by simp [Hid, accu], by simp [Hid]⟩
    case round =>
      obtain ⟨k, a, hk, rfl, rfl, HA, H⟩ := hrel
      obtain ⟨ha0, ha1⟩ := accI_le (by omega) HA.out
      by_cases hlt : k < s.size
      · have hdl : (digv s[k] : Int) ≤ 16 := by have := digv_le s[k]; omega
        have HN := hide (acc_next hlt HA.out)
        cases hd : dig 16 s[k] with
        | true =>
          have HS : Hid ((s.data.toList.take (k + 1)).all (dig 16) = true) := by show _ = _; rw [all_snoc _ s k hlt, H.out, hd]; rfl
          replace hd : (digv s[k] : Int) < 16 := by simp [dig] at hd; omega
          have hdr : rdig s[k] 16 = (digv s[k] : Int) := rdig_yes (by omega)
          by_cases hle : a ≤ 9007199254740992
          · have HM := hide (HN.out.1 hle)
            go_wp2_with (go_at_call 109; refine (rdigit_16 _ _).mono ?_; rintro e w' ⟨rfl, rfl⟩)
            exact ⟨⟨k + 1, _, by omega, by go_num, rfl, HM, HS⟩, by simp [intOf]; omega⟩
          · have HM := hide (HN.out.2 hle)
            go_wp2_with (go_at_call 109; refine (rdigit_16 _ _).mono ?_; rintro e w' ⟨rfl, rfl⟩)
            exact ⟨⟨k + 1, _, by omega, by go_num, rfl, HM, HS⟩, by simp [intOf]; omega⟩
        | false =>
          have HB := hide (num_bad hlt hd)
          replace hd : ¬ (digv s[k] : Int) < 16 := by simp [dig] at hd; omega
          have hdr : rdig s[k] 16 = -1 := rdig_no (by omega)
          go_wp2_with (go_at_call 109; refine (rdigit_16 _ _).mono ?_; rintro e w' ⟨rfl, rfl⟩)
          go_ret2
          exact ⟨ret2 ⟨by rw [HB.out.1]; rfl, by rw [HB.out.2]; rfl⟩, rfl⟩
      · by_cases hbig : 9007199254740992 < a
        · have HB := hide (num_big h0 (show s.size ≤ k by omega) H.out HA.out hbig)
          go_wp2
          go_ret2
          exact ⟨ret2 ⟨by rw [HB.out.1]; rfl, by rw [HB.out.2]; rfl⟩, rfl⟩
        · have HB := hide (num_fits h0 (show s.size ≤ k by omega) H.out HA.out hbig)
          go_wp2
          go_ret2
          exact ⟨ret2 ⟨HB.out.1, by rw [HB.out.2]; rfl⟩, rfl⟩
  · have he : s.toList.isEmpty = true := by rw [Lib.toList_data, isEmpty_size]; exact decide_eq_true (by omega)
    have hz : ((s.size : Int) == 0) = true := beq_iff_eq.2 (by omega)
    have HB := hide (numE_empty (base := 16) (nil_list s h0))
    go_enter Tryz.func71, Tryz.ntmps71
    go_wp2
    go_ret2
    exact ⟨ret2 ⟨by rw [HB.out.1]; rfl, by rw [HB.out.2]; rfl⟩, rfl⟩

theorem Number_any (s : ByteArray) (w : World) (hs : s.size ≤ maxLen) :
    Calls Tryz.prog 56 #[.string s] w fun e w' => e = .returned (.tuple #[.int .i64 (numV 10 s.data.toList : Int), .int .i64 (numE 10 s.data.toList : Int)]) ∧ w = w' := by
  go_enter Tryz.func56, Tryz.ntmps56
  go_wp2_with (go_at_call 82; refine (number_10 _ _ hs).mono ?_; rintro e w' ⟨rfl, rfl⟩)
  go_ret2
  exact ⟨rfl, rfl⟩
theorem Hex_any (s : ByteArray) (w : World) (hs : s.size ≤ maxLen) :
    Calls Tryz.prog 183 #[.string s] w fun e w' => e = .returned (.tuple #[.int .i64 (numV 16 s.data.toList : Int), .int .i64 (numE 16 s.data.toList : Int)]) ∧ w = w' := by
  go_enter Tryz.func183, Tryz.ntmps183
  go_wp2_with (go_at_call 82; refine (number_16 _ _ hs).mono ?_; rintro e w' ⟨rfl, rfl⟩)
  go_ret2
  exact ⟨rfl, rfl⟩
end Go.Proofs.YtcagjipdldlehaaGreatDoor
