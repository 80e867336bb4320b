/- What the smallest functions of package lexis, and of the document's answer for it, tell of a byte. -/
import Derived.Test.YtcagjipdldlehaaGreatDoorLib
import Derived.Test.YtcagjipdldlehaaGreatDoorCom
namespace Go.Proofs.YtcagjipdldlehaaGreatDoor
open Go.ChangeShapes Go.WideShapes Go.ChangeAt Go.RowKit

theorem indexByte_neg : ∀ (l : List UInt8) (c : UInt8), Lib.indexByte l c = -1 ∨ 0 ≤ Lib.indexByte l c
  | [], c => .inl rfl
  | b :: l, c => by
    unfold Lib.indexByte
    rcases indexByte_neg l c with h | h
    · split
      · right; omega
      · left; simp [h]
    · split
      · right; omega
      · split
        · left; rfl
        · right; omega
theorem indexByte_mem : ∀ (l : List UInt8) (c : UInt8), decide (0 ≤ Lib.indexByte l c) = l.contains c
  | [], c => rfl
  | b :: l, c => by
    have ih := indexByte_mem l c
    have hn := indexByte_neg l c
    unfold Lib.indexByte
    rw [List.contains_cons, ← ih]
    by_cases h : b = c
    · subst h; simp
    · have h1 : (b == c) = false := by simpa using h
      have h2 : (c == b) = false := by simpa using Ne.symm h
      rw [h1, h2]
      simp only [Bool.false_or]
      rcases hn with hn | hn
      · rw [hn]; simp
      · have h3 : (Lib.indexByte l c == -1) = false := by rw [beq_eq_false_iff_ne]; omega
        simp only [h3, Bool.false_eq_true, ↓reduceIte]
        congr 1
        rw [eq_iff_iff]
        omega

theorem alnum_yes {c : UInt8} (h : (65 ≤ c.toNat ∧ c.toNat ≤ 90) ∨ (97 ≤ c.toNat ∧ c.toNat ≤ 122) ∨ (48 ≤ c.toNat ∧ c.toNat ≤ 57)) : alnum c = true := by
  simp only [alnum, Bool.or_eq_true, Bool.and_eq_true, decide_eq_true_eq]; omega
theorem alnum_no {c : UInt8} (h : ¬ ((65 ≤ c.toNat ∧ c.toNat ≤ 90) ∨ (97 ≤ c.toNat ∧ c.toNat ≤ 122) ∨ (48 ≤ c.toNat ∧ c.toNat ≤ 57))) : alnum c = false := by
  cases e : alnum c with
  | false => rfl
  | true => simp only [alnum, Bool.or_eq_true, Bool.and_eq_true, decide_eq_true_eq] at e; omega
theorem tok_yes {c : UInt8} (h : alnum c = true) : true = tokc c := by unfold tokc; rw [h]; rfl
theorem tok_no {c : UInt8} (h : alnum c = false) : decide (0 ≤ Lib.indexByte [33, 35, 36, 37, 38, 39, 42, 43, 45, 46, 94, 95, 96, 124, 126] c) = tokc c := by
  rw [indexByte_mem]; unfold tokc; rw [h]; rfl

set_option maxHeartbeats 400000 in
theorem inToken_any (c : UInt8) (w : World) : Calls Tryz.prog 85 #[.int .u8 (c.toNat : Int)] w fun e w' => e = .returned (.bool (tokc c)) ∧ w = w' := by
  have hc := byte_lt c
  go_enter Tryz.func85, Tryz.ntmps85
  go_wp2_with (go_at_call 122; refine (Tryz.strings_IndexByte _ _ _).mono ?_; rintro e w' ⟨rfl, rfl⟩)
  all_goals go_ret
  all_goals first
    | exact ⟨ret_bool (tok_yes (alnum_yes (by omega))), rfl⟩
    | exact ⟨ret_bool (tok_no (alnum_no (by omega))), rfl⟩

theorem inValue_any (c : UInt8) (w : World) : Calls Tryz.prog 117 #[.int .u8 (c.toNat : Int)] w fun e w' => e = .returned (.bool (valc c)) ∧ w = w' := by
  have hc := byte_lt c
  by_cases h9 : c.toNat = 9
  · have t : (((c.toNat : Int)) == 9) = true := beq_iff_eq.2 (by omega)
    go_enter Tryz.func117, Tryz.ntmps117
    go_wp2
    all_goals go_ret
    all_goals exact ⟨ret_bool (by simp [valc, h9]), rfl⟩
  · have t : (((c.toNat : Int)) == 9) = false := beq_eq_false_iff_ne.2 (by omega)
    by_cases h32 : 32 ≤ c.toNat
    · by_cases h127 : c.toNat = 127
      · have t2 : (((c.toNat : Int)) != 127) = false := by rw [bne_eq_false_iff_eq]; omega
        go_enter Tryz.func117, Tryz.ntmps117
        go_wp2
        all_goals go_ret
        all_goals exact ⟨ret_bool (by simp [valc, h127]), rfl⟩
      · have t2 : (((c.toNat : Int)) != 127) = true := by rw [bne_iff_ne]; omega
        go_enter Tryz.func117, Tryz.ntmps117
        go_wp2
        all_goals go_ret
        all_goals exact ⟨ret_bool (by simp [valc, h9, h32, h127]), rfl⟩
    · go_enter Tryz.func117, Tryz.ntmps117
      go_wp2
      all_goals go_ret
      all_goals exact ⟨ret_bool (by simp [valc, h9, h32]), rfl⟩

theorem blank_any (c : UInt8) (w : World) : Calls Tryz.prog 135 #[.int .u8 (c.toNat : Int)] w fun e w' => e = .returned (.bool (blankc c)) ∧ w = w' := by
  have hc := byte_lt c
  by_cases h9 : c.toNat = 9
  · have t : (((c.toNat : Int)) == 9) = true := beq_iff_eq.2 (by omega)
    go_enter Tryz.func135, Tryz.ntmps135
    go_wp2
    go_ret
    exact ⟨ret_bool (by simp [blankc, h9]), rfl⟩
  · have t : (((c.toNat : Int)) == 9) = false := beq_eq_false_iff_ne.2 (by omega)
    by_cases h32 : c.toNat = 32
    · have t2 : (((c.toNat : Int)) == 32) = true := beq_iff_eq.2 (by omega)
      go_enter Tryz.func135, Tryz.ntmps135
      go_wp2
      go_ret
      exact ⟨ret_bool (by simp [blankc, h32]), rfl⟩
    · have t2 : (((c.toNat : Int)) == 32) = false := beq_eq_false_iff_ne.2 (by omega)
      go_enter Tryz.func135, Tryz.ntmps135
      go_wp2
      go_ret
      exact ⟨ret_bool (by simp [blankc, h9, h32]), rfl⟩
end Go.Proofs.YtcagjipdldlehaaGreatDoor
