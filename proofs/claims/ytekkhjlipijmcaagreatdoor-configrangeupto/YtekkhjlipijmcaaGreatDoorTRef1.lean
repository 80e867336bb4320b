/- The document's small answers of this layer: hex, in, made, last. -/
import Derived.Test.YtekkhjlipijmcaaGreatDoorTSafeP
import Derived.Test.YtekkhjlipijmcaaGreatDoorTHost2
import Derived.Handy
namespace Go.Proofs.YtekkhjlipijmcaaGreatDoor
open Go.ChangeShapes Go.WideShapes Go.ChangeAt Go.RowKit

theorem hx_yes {c : UInt8} (h : (48 ≤ c.toNat ∧ c.toNat ≤ 57) ∨ (97 ≤ c.toNat ∧ c.toNat ≤ 102) ∨ (65 ≤ c.toNat ∧ c.toNat ≤ 70)) : hx c = true := by
  unfold hx digv
  apply decide_eq_true
  split
  · omega
  · split
    · omega
    · split <;> omega
theorem hx_no {c : UInt8} (h : ¬ ((48 ≤ c.toNat ∧ c.toNat ≤ 57) ∨ (97 ≤ c.toNat ∧ c.toNat ≤ 102) ∨ (65 ≤ c.toNat ∧ c.toNat ≤ 70))) : hx c = false := by
  unfold hx digv
  apply decide_eq_false
  split
  · omega
  · split
    · omega
    · split <;> omega
theorem rhx_any (c : UInt8) (w : World) : Calls Tryz.prog 71 #[.int .u8 (c.toNat : Int)] w fun e w' => e = .returned (.bool (hx c)) ∧ w = w' := by
  have hb := byte_lt c
  by_cases h : (48 ≤ c.toNat ∧ c.toNat ≤ 57) ∨ (97 ≤ c.toNat ∧ c.toNat ≤ 102) ∨ (65 ≤ c.toNat ∧ c.toNat ≤ 70)
  · rw [hx_yes h]
    go_enter Tryz.func71, Tryz.ntmps71
    go_wp2
    all_goals (go_ret; exact ⟨ret_bool (by first | rfl | (exfalso; omega) | (simp; omega)), rfl⟩)
  · rw [hx_no h]
    go_enter Tryz.func71, Tryz.ntmps71
    go_wp2
    all_goals (go_ret; exact ⟨ret_bool (by first | rfl | (exfalso; omega) | (simp; omega)), rfl⟩)
theorem contains_snocT (s : ByteArray) (k : Nat) (h : k < s.size) (c : UInt8) : (s.data.toList.take (k + 1)).contains c = ((s.data.toList.take k).contains c || (c == s[k])) := by
  rw [take_snoc s k h]
  simp only [List.contains_eq_any_beq, List.any_append, List.any_cons, List.any_nil, Bool.or_false]
theorem contains_at (s : ByteArray) (k : Nat) (h : k < s.size) : s.data.toList.contains s[k] = true := by
  rw [List.contains_iff_mem, ← Array.mem_def]
  exact Array.getElem_mem h
set_option maxHeartbeats 1000000 in
theorem rin_any (c : UInt8) (s : ByteArray) (w : World) (hs : s.size ≤ maxLen) : Calls Tryz.prog 99 #[.int .u8 (c.toNat : Int), .string s] w fun e w' => e = .returned (.bool (s.data.toList.contains c)) ∧ w = w' := by
  unfold maxLen at hs
  obtain ⟨z, hz⟩ : ∃ z, s.data.toList.contains c = z := ⟨_, rfl⟩
  rw [hz]
  have HZ := hide hz
  clear hz
  go_enter Tryz.func99, Tryz.ntmps99
  go_wp2
  go_loop [5] (fun i => ∃ k : Nat, k ≤ s.size ∧ i = .int .i64 k ∧ Hid ((s.data.toList.take k).contains c = false)) (fun i => s.size - (intOf i).toNat)
  case atStart => exact ⟨0, Nat.zero_le _, rfl, hide (by simp)⟩
  case round =>
    obtain ⟨k, hk, rfl, H⟩ := hrel
    by_cases hlt : k < s.size
    · have hb := byte_lt s[k]
      have hc := byte_lt c
      by_cases he : s[k] = c
      · have t : (((s[k].toNat : Int)) == (c.toNat : Int)) = true := by rw [byte_eqI]; exact beq_iff_eq.2 he
        have HE : Hid (s.data.toList.contains c = true) := hide (by rw [← he]; exact contains_at s k hlt)
        clear he
        go_wp2
        go_ret
        exact ⟨ret_bool (by rw [← HZ.out, HE.out]), rfl⟩
      · have t : (((s[k].toNat : Int)) == (c.toNat : Int)) = false := by rw [byte_eqI]; exact beq_eq_false_iff_ne.2 he
        have HE : Hid ((s.data.toList.take (k + 1)).contains c = false) := hide (by rw [contains_snocT s k hlt, H.out, beq_eq_false_iff_ne.2 (fun e => he e.symm)]; rfl)
        clear he
        go_wp2
        exact ⟨⟨k + 1, by omega, by go_num, HE⟩, by simp [intOf]; omega⟩
    · have HE : Hid (s.data.toList.contains c = false) := hide (by rw [← H.out, take_all s k (by omega)])
      go_wp2
      go_ret
      exact ⟨ret_bool (by rw [← HZ.out, HE.out]), rfl⟩
theorem hx_alnum {c : UInt8} (h : hx c = true) : alnum c = true := by
  have h := of_decide_eq_true h
  have hs := digv_safe h
  apply alnum_yes
  unfold digv at h
  split at h
  · omega
  · split at h
    · omega
    · split at h <;> omega
theorem holds_plain {m : List UInt8} {s : ByteArray} {k : Nat} (h : k < s.size) (hp : plainc m s[k] = true) : holdsB m (s.data.toList.drop k) = holdsB m (s.data.toList.drop (k + 1)) := by
  rw [holds_step m s k h, hp]; simp
theorem holds_bad {m : List UInt8} {s : ByteArray} {k : Nat} (h : k < s.size) (hp : plainc m s[k] = false) (he : esc (s.data.toList.drop k) = false) : holdsB m (s.data.toList.drop k) = false := by
  rw [holds_step m s k h, hp, ext_drop, he]; rfl
theorem holds_esc {m : List UInt8} {s : ByteArray} {k : Nat} (h : k + 2 < s.size) (h0 : s[k] = 37) (h1 : hx s[k + 1] = true) (h2 : hx s[k + 2] = true) : holdsB m (s.data.toList.drop k) = holdsB m (s.data.toList.drop (k + 3)) := by
  have he : esc (s.data.toList.drop k) = true := by
    rw [drop_cons s k (by omega), drop_cons s (k + 1) (by omega), drop_cons s (k + 2) (by omega)]
    simp [esc, h0, h1, h2]
  rw [holds_step m s k (by omega), ext_drop, he]
  simp only [Bool.or_true, Bool.true_and]
  rw [holds_plain (by omega : k + 1 < s.size) (plain_yes (hx_alnum h1)).symm, holds_plain (by omega : k + 2 < s.size) (plain_yes (hx_alnum h2)).symm]
theorem esc_not {s : ByteArray} {k : Nat} (h : k < s.size) (hn : ¬ (s[k] = 37 ∧ ∃ h2 : k + 2 < s.size, hx (s[k + 1]'(by omega)) = true ∧ hx s[k + 2] = true)) : esc (s.data.toList.drop k) = false := by
  rw [drop_cons s k h]
  by_cases h2 : k + 2 < s.size
  · rw [drop_cons s (k + 1) (by omega), drop_cons s (k + 2) (by omega)]
    simp only [esc]
    rw [Bool.eq_false_iff]
    intro e
    simp only [Bool.and_eq_true, decide_eq_true_eq] at e
    exact hn ⟨e.1, h2, e.2.1, e.2.2⟩
  · have hl : (s.data.toList.drop (k + 1)).length < 2 := by rw [List.length_drop, size_len]; omega
    match hd : s.data.toList.drop (k + 1), hl with
    | [], _ => rfl
    | [_], _ => rfl
set_option maxHeartbeats 4000000 in
theorem rmade_any (s m : ByteArray) (w : World) (hs : s.size ≤ 140737488355328) (hm : m.size ≤ maxLen) : Calls Tryz.prog 72 #[.string s, .string m] w fun e w' => e = .returned (.bool (holdsB m.data.toList s.data.toList)) ∧ w = w' := by
  have HIN := hide (fun c w => rin_any c m w hm)
  have HHX := hide rhx_any
  clear hm
  obtain ⟨z, hz⟩ : ∃ z, holdsB m.data.toList s.data.toList = z := ⟨_, rfl⟩
  rw [hz]
  have HZ := hide hz
  clear hz
  go_enter Tryz.func72, Tryz.ntmps72
  go_wp2
  go_loop [5] (fun i => ∃ k : Nat, k ≤ s.size ∧ i = .int .i64 k ∧ Hid (holdsB m.data.toList (s.data.toList.drop k) = z)) (fun i => s.size - (intOf i).toNat)
  case atStart => exact ⟨0, Nat.zero_le _, rfl, HZ⟩
  case round =>
    obtain ⟨k, hk, rfl, H⟩ := hrel
    clear HZ
    by_cases hlt : k < s.size
    · have hb := byte_lt s[k]
      by_cases h1 : (65 ≤ s[k].toNat ∧ s[k].toNat ≤ 90) ∨ (97 ≤ s[k].toNat ∧ s[k].toNat ≤ 122) ∨ (48 ≤ s[k].toNat ∧ s[k].toNat ≤ 57)
      · have HN : Hid (holdsB m.data.toList (s.data.toList.drop (k + 1)) = z) := hide (by rw [← holds_plain hlt (plain_yes (alnum_yes h1)).symm]; exact H.out)
        rcases h1 with h1 | h1 | h1
        · go_wp2
          all_goals first | (exfalso; omega) | exact ⟨⟨k + 1, by omega, by go_num, HN⟩, by simp [intOf]; omega⟩
        · go_wp2
          all_goals first | (exfalso; omega) | exact ⟨⟨k + 1, by omega, by go_num, HN⟩, by simp [intOf]; omega⟩
        · go_wp2
          all_goals first | (exfalso; omega) | exact ⟨⟨k + 1, by omega, by go_num, HN⟩, by simp [intOf]; omega⟩
      · have ha := alnum_no h1
        have HI := hide (HIN.out s[k])
        cases hin : m.data.toList.contains s[k] with
        | true =>
          have HN : Hid (holdsB m.data.toList (s.data.toList.drop (k + 1)) = z) := hide (by rw [← holds_plain hlt (by unfold plainc; rw [hin]; simp)]; exact H.out)
          rw [hin] at HI
          clear hin ha
          go_wp2_with (go_at_call 99; refine (HI.out _).mono ?_; rintro e w' ⟨rfl, rfl⟩)
          all_goals exact ⟨⟨k + 1, by omega, by go_num, HN⟩, by simp [intOf]; omega⟩
        | false =>
          have hpl : plainc m.data.toList s[k] = false := by unfold plainc; rw [ha, hin]; rfl
          rw [hin] at HI
          clear hin ha
          by_cases h37 : s[k].toNat = 37
          · have t37 : (((s[k].toNat : Int)) == 37) = true := beq_iff_eq.2 (by omega)
            have hc : s[k] = 37 := byte_is (n := 37) h37 (by decide)
            have n1 : ¬ (65 : Int) ≤ (s[k].toNat : Int) := by omega
            have n2 : ¬ (97 : Int) ≤ (s[k].toNat : Int) := by omega
            have n3 : ¬ (48 : Int) ≤ (s[k].toNat : Int) := by omega
            by_cases h2 : k + 2 < s.size
            · have i2 : (k : Int) + 2 < (s.size : Int) := by omega
              have hk1 : k + 1 < s.size := by omega
              have H1 := hide (HHX.out s[k + 1])
              have H2 := hide (HHX.out s[k + 2])
              have HY : hx s[k + 1] = true → hx s[k + 2] = true → Hid (holdsB m.data.toList (s.data.toList.drop (k + 3)) = z) := fun a b => hide (by rw [← holds_esc h2 hc a b]; exact H.out)
              have HB : ¬ (hx s[k + 1] = true ∧ hx s[k + 2] = true) → Hid (z = false) := fun a => hide (by rw [← H.out, holds_bad hlt hpl (esc_not hlt (fun e => a ⟨e.2.2.1, e.2.2.2⟩))])
              clear hpl hc h37 h1
              generalize hx s[k + 1] = x1 at H1 HY HB
              generalize hx s[k + 2] = x2 at H2 HY HB
              have hb1 := byte_lt s[k + 1]
              have hb2 := byte_lt s[k + 2]
              cases x1 with
              | false =>
                have HF := HB (by simp)
                clear HY HB
                go_wp2_with (first | (go_at_call 99; refine (HI.out _).mono ?_; rintro e w' ⟨rfl, rfl⟩) | (go_at_call 71; refine (H1.out _).mono ?_; rintro e w' ⟨rfl, rfl⟩))
                go_ret
                exact ⟨ret_bool HF.out.symm, rfl⟩
              | true =>
                cases x2 with
                | false =>
                  have HF := HB (by simp)
                  clear HY HB
                  go_wp2_with fail
                  refine (HI.out _).mono ?_
                  rintro e w' ⟨rfl, rfl⟩
                  go_wp2_with fail
                  refine (H1.out _).mono ?_
                  rintro e w' ⟨rfl, rfl⟩
                  go_wp2_with fail
                  refine (H2.out _).mono ?_
                  rintro e w' ⟨rfl, rfl⟩
                  go_wp2
                  go_ret
                  exact ⟨ret_bool HF.out.symm, rfl⟩
                | true =>
                  have HF := HY rfl rfl
                  clear HY HB
                  go_wp2_with fail
                  refine (HI.out _).mono ?_
                  rintro e w' ⟨rfl, rfl⟩
                  go_wp2_with fail
                  refine (H1.out _).mono ?_
                  rintro e w' ⟨rfl, rfl⟩
                  go_wp2_with fail
                  refine (H2.out _).mono ?_
                  rintro e w' ⟨rfl, rfl⟩
                  go_wp2
                  exact ⟨⟨k + 3, by omega, by go_num, HF⟩, by simp [intOf]; omega⟩
            · have i2 : ¬ (k : Int) + 2 < (s.size : Int) := by omega
              have HF : Hid (z = false) := hide (by rw [← H.out, holds_bad hlt hpl (esc_not hlt (fun e => h2 e.2.1))])
              clear hpl hc h37 h1 h2
              go_wp2_with (go_at_call 99; refine (HI.out _).mono ?_; rintro e w' ⟨rfl, rfl⟩)
              go_ret
              exact ⟨ret_bool HF.out.symm, rfl⟩
          · have t37 : (((s[k].toNat : Int)) == 37) = false := beq_eq_false_iff_ne.2 (by omega)
            have HF : Hid (z = false) := hide (by rw [← H.out, holds_bad hlt hpl (esc_not hlt (fun e => byte_ne (n := 37) h37 (by decide) e.1))])
            clear hpl h37
            go_wp2_with (go_at_call 99; refine (HI.out _).mono ?_; rintro e w' ⟨rfl, rfl⟩)
            all_goals (go_ret; exact ⟨ret_bool HF.out.symm, rfl⟩)
    · have HF : Hid (z = true) := hide (by rw [← H.out, drop_end s k (by omega)]; rfl)
      go_wp2
      go_ret
      exact ⟨ret_bool HF.out.symm, rfl⟩
end Go.Proofs.YtekkhjlipijmcaaGreatDoor
