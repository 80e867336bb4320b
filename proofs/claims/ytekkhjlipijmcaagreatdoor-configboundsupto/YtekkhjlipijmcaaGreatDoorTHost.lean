/- Hosts and ports, by the program. -/
import Derived.Test.YtekkhjlipijmcaaGreatDoorLib
import Derived.Test.YtekkhjlipijmcaaGreatDoorQZ1
import Derived.Test.YtekkhjlipijmcaaGreatDoorTPure
import Derived.Deep.QuietTactic
import Derived.BigQuiet
namespace Go.Proofs.YtekkhjlipijmcaaGreatDoor
open Go.ChangeShapes Go.WideShapes Go.ChangeAt Go.RowKit

theorem plain_yes {c : UInt8} {m : List UInt8} (h : alnum c = true) : true = plainc m c := by unfold plainc; rw [h]; rfl
theorem plain_no {c : UInt8} {m : List UInt8} (h : alnum c = false) : decide (0 ≤ Lib.indexByte m c) = plainc m c := by
  rw [indexByte_mem]; unfold plainc; rw [h]; rfl

set_option maxHeartbeats 400000 in
theorem plain_any (c : UInt8) (m : ByteArray) (w : World) : Calls Tryz.prog 102 #[.int .u8 (c.toNat : Int), .string m] w fun e w' => e = .returned (.bool (plainc m.data.toList c)) ∧ w = w' := by
  have hc := byte_lt c
  go_enter Tryz.func102, Tryz.ntmps102
  go_wp2_with (go_at_call 80; refine (Tryz.strings_IndexByte _ _ _).mono ?_; rintro e w' ⟨rfl, rfl⟩)
  all_goals go_ret
  all_goals first
    | exact ⟨ret_bool (plain_yes (alnum_yes (by omega))), rfl⟩
    | exact ⟨ret_bool (plain_no (alnum_no (by omega))), rfl⟩

def hexdB (l : List UInt8) : Bool := decide (numE 16 l = 0)
theorem hexd_any (s : ByteArray) (w : World) (hs : s.size ≤ maxLen) : Calls Tryz.prog 101 #[.string s] w fun e w' => e = .returned (.bool (hexdB s.data.toList)) ∧ w = w' := by
  have h := Hex_any s
  have he : hexdB s.data.toList = ((numE 16 s.data.toList : Int) == 0) := by
    unfold hexdB
    rw [Bool.eq_iff_iff, beq_iff_eq, decide_eq_true_eq]; omega
  rw [he]
  generalize (numV 16 s.data.toList : Int) = v at h
  generalize (numE 16 s.data.toList : Int) = e at h ⊢
  have H := hide h
  clear h he
  go_enter Tryz.func101, Tryz.ntmps101
  go_wp2_with (go_at_call 119; refine (H.out _ hs).mono ?_; rintro e w' ⟨rfl, rfl⟩)
  go_ret
  exact ⟨rfl, rfl⟩
theorem accu_small (l : List UInt8) (h : l.length ≤ 2) : accu 16 l ≤ top := by
  match l, h with
  | [], _ => simp [accu, top]
  | [a], _ =>
    have := digv_le a
    simp [accu, stp, top]; omega
  | [a, b], _ =>
    have h1 := digv_le a
    have h2 := digv_le b
    have e : accu 16 [a, b] = stp 16 (stp 16 0 a) b := rfl
    rw [e]
    unfold stp top
    split <;> (try split) <;> omega
theorem hexd_short (l : List UInt8) (h0 : l ≠ []) (h : l.length ≤ 2) : hexdB l = l.all hx := by
  have := accu_small l h
  have hn : ¬ top < accu 16 l := by omega
  unfold hexdB numE
  cases e : l.all hx with
  | true =>
    have e2 : (l.all fun c => decide (digv c < 16)) = true := e
    rw [e2]; simp [h0, hn]
  | false =>
    have e2 : (l.all fun c => decide (digv c < 16)) = false := e
    rw [e2]; simp
theorem hexd_one (c : UInt8) : hexdB [c] = hx c := by rw [hexd_short _ (by simp) (by simp)]; simp
theorem hexd_two (a b : UInt8) : hexdB [a, b] = (hx a && hx b) := by rw [hexd_short _ (by simp) (by simp)]; simp

theorem ext_13 (s : ByteArray) (h : 3 ≤ s.size) : (s.extract 1 3).data.toList = [s[1], s[2]] := by
  rw [ext_list]
  have h1 : s.data.toList.drop 1 = s[1] :: s.data.toList.drop 2 := by rw [List.drop_eq_getElem_cons (by simp; omega)]; rfl
  have h2 : s.data.toList.drop 2 = s[2] :: s.data.toList.drop 3 := by rw [List.drop_eq_getElem_cons (by simp; omega)]; rfl
  rw [h1, h2]
  rfl
theorem esc_yes (s : ByteArray) (h : 3 ≤ s.size) : esc s.data.toList = (decide (s[0] = 37) && (hx s[1] && hx s[2])) := by
  have h0 : s.data.toList = s[0] :: s.data.toList.drop 1 := by rw [← List.drop_zero (l := s.data.toList), List.drop_eq_getElem_cons (by simp; omega)]; rfl
  have h1 : s.data.toList.drop 1 = s[1] :: s.data.toList.drop 2 := by rw [List.drop_eq_getElem_cons (by simp; omega)]; rfl
  have h2 : s.data.toList.drop 2 = s[2] :: s.data.toList.drop 3 := by rw [List.drop_eq_getElem_cons (by simp; omega)]; rfl
  rw [h0, h1, h2]
  rfl
theorem esc_no (s : ByteArray) (h : ¬ 3 ≤ s.size) : esc s.data.toList = false := by
  have hl := size_len s
  match e : s.data.toList with
  | [] => rfl
  | [_] => rfl
  | [_, _] => rfl
  | _ :: _ :: _ :: _ => rw [e] at hl; simp at hl; omega
theorem slice_13 (s : ByteArray) (h : 3 ≤ s.size) (W : World) : (Instr.slice 9 (.string s) (some (.int .i64 1)) (some (.int .i64 3)) none).run Tryz.prog W = .ok (.string (s.extract 1 3)) W := by
  rw [run_slice_string (P := Tryz.prog) W 9 s .i64 .i64 1 3 Tryz.underlying9 (by omega) (by omega) (by omega)]
  rfl

set_option maxHeartbeats 400000 in
theorem esc_any (s : ByteArray) (w : World) (_ : s.size ≤ maxLen) : Calls Tryz.prog 103 #[.string s] w fun e w' => e = .returned (.bool (esc s.data.toList)) ∧ w = w' := by
  by_cases h3 : 3 ≤ s.size
  · have HE := hide (esc_yes s h3)
    have hb := byte_lt s[0]
    have hz := ext_size s 1 3
    have hx2 := hexd_any (s.extract 1 3)
    rw [ext_13 s h3, hexd_two] at hx2
    have hsl := slice_13 s h3
    generalize (hx s[1] && hx s[2]) = b at HE hx2
    have HX := hide hx2
    have hzz : (s.extract 1 3).size ≤ maxLen := by unfold maxLen; omega
    clear hx2 hz
    by_cases h37 : s[0].toNat = 37
    · have t : (((s[0].toNat : Int)) == 37) = true := beq_iff_eq.2 (by omega)
      have HB : Hid (esc s.data.toList = b) := hide (HE.out.trans (by rw [decide_eq_true (show s[0] = 37 from byte_is (n := 37) h37 (by decide)), Bool.true_and]))
      go_enter Tryz.func103, Tryz.ntmps103
      go_wp2_with (go_at_call 101; refine (HX.out _ hzz).mono ?_; rintro e w' ⟨rfl, rfl⟩)
      go_ret
      exact ⟨ret_bool HB.out.symm, rfl⟩
    · have t : (((s[0].toNat : Int)) == 37) = false := beq_eq_false_iff_ne.2 (by omega)
      have HB : Hid (esc s.data.toList = false) := hide (HE.out.trans (by rw [decide_eq_false (show ¬ s[0] = 37 from byte_ne (n := 37) h37 (by decide))]; rfl))
      go_enter Tryz.func103, Tryz.ntmps103
      go_wp2
      go_ret
      exact ⟨ret_bool HB.out.symm, rfl⟩
  · have HB := hide (esc_no s h3)
    have h3' : ¬ (3 : Int) ≤ (s.size : Int) := by omega
    go_enter Tryz.func103, Tryz.ntmps103
    go_wp2
    go_ret
    exact ⟨ret_bool HB.out.symm, rfl⟩

theorem holds_step (m : List UInt8) (s : ByteArray) (k : Nat) (h : k < s.size) : holdsB m (s.data.toList.drop k) = ((plainc m s[k] || esc (s.extract k s.size).data.toList) && holdsB m (s.data.toList.drop (k + 1))) := by
  rw [ext_drop, drop_cons s k h, holdsB]

set_option maxHeartbeats 400000 in
theorem holds_any (s m : ByteArray) (w : World) (hs : s.size ≤ maxLen) : Calls Tryz.prog 77 #[.string s, .string m] w fun e w' => e = .returned (.bool (holdsB m.data.toList s.data.toList)) ∧ w = w' := by
  unfold maxLen at hs
  go_enter Tryz.func77, Tryz.ntmps77
  go_wp2
  go_loop [8] (fun i => ∃ k : Nat, k ≤ s.size ∧ i = .int .i64 k ∧ Hid (holdsB m.data.toList s.data.toList = holdsB m.data.toList (s.data.toList.drop k))) (fun i => s.size - (intOf i).toNat)
  case atStart => exact ⟨0, Nat.zero_le _, rfl, hide (by rw [List.drop_zero])⟩
  case round =>
    obtain ⟨k, hk, rfl, H⟩ := hrel
    by_cases hlt : k < s.size
    · have HS := hide (H.out.trans (holds_step m.data.toList s k hlt))
      have hz := ext_size s k s.size
      have HX := hide (esc_any (s.extract k s.size))
      have hzz : (s.extract k s.size).size ≤ maxLen := by unfold maxLen; omega
      clear hz
      generalize esc (s.extract k s.size).data.toList = b at HS HX
      cases hp : plainc m.data.toList s[k] with
      | true =>
        rw [hp] at HS
        go_wp2_with (first | (go_at_call 102; refine (plain_any _ _ _).mono ?_; rintro e w' ⟨rfl, rfl⟩) | (go_at_call 103; refine (HX.out _ hzz).mono ?_; rintro e w' ⟨rfl, rfl⟩))
        exact ⟨⟨k + 1, by omega, by go_num, hide (HS.out.trans rfl)⟩, by simp [intOf]; omega⟩
      | false =>
        rw [hp] at HS
        cases b with
        | true =>
          go_wp2_with (first | (go_at_call 102; refine (plain_any _ _ _).mono ?_; rintro e w' ⟨rfl, rfl⟩) | (go_at_call 103; refine (HX.out _ hzz).mono ?_; rintro e w' ⟨rfl, rfl⟩))
          exact ⟨⟨k + 1, by omega, by go_num, hide (HS.out.trans rfl)⟩, by simp [intOf]; omega⟩
        | false =>
          go_wp2_with (first | (go_at_call 102; refine (plain_any _ _ _).mono ?_; rintro e w' ⟨rfl, rfl⟩) | (go_at_call 103; refine (HX.out _ hzz).mono ?_; rintro e w' ⟨rfl, rfl⟩))
          go_ret
          exact ⟨ret_bool (by rw [HS.out]; rfl), rfl⟩
    · have HE : Hid (holdsB m.data.toList s.data.toList = true) := hide (H.out.trans (by rw [drop_end s k (by omega)]; rfl))
      go_wp2
      go_ret
      exact ⟨ret_bool HE.out.symm, rfl⟩
end Go.Proofs.YtekkhjlipijmcaaGreatDoor
