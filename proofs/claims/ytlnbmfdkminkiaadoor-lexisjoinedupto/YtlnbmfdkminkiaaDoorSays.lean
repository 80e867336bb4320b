/- The small cases which each statement of this layer asks first come out true. -/
import Derived.Test.YtlnbmfdkminkiaaDoorNum
import Derived.Test.YtlnbmfdkminkiaaDoorLow
import Derived.Test.YtlnbmfdkminkiaaDoorRHex
import Derived.Test.YtlnbmfdkminkiaaDoorRLst
namespace Go.Proofs.YtlnbmfdkminkiaaDoor
open Go.ChangeShapes Go.WideShapes Go.ChangeAt Go.RowKit

theorem rsame_any (a b : ByteArray) (w : World) (ha : a.size ≤ 140737488355328) (hb : b.size ≤ 140737488355328) :
    Calls Tryd.prog 17 #[.string a, .string b] w fun e w' => e = .returned (.bool (sameB a.data.toList b.data.toList)) ∧ Below w.heap.size w w' := by
  have hE := hide (same_eq a b)
  have hA := hide (fun w => rlower_any a w ha)
  have hB := hide (fun w => rlower_any b w hb)
  generalize lowS a = la at hE hA
  generalize lowS b = lb at hE hB
  go_enter Tryd.func17, Tryd.ntmps17
  go_wp2_with fail
  refine (hA.out _).mono ?_
  rintro e w1 ⟨rfl, b1⟩
  go_wp2_with fail
  refine (hB.out _).mono ?_
  rintro e w2 ⟨rfl, b2⟩
  go_wp2
  go_ret
  exact ⟨ret_bool hE.out, b1.trans (b2.mono b1.size)⟩

theorem say_num (w : World) : Calls Tryd.prog 19 #[.string ⟨#[48, 48, 55]⟩] w fun e w' => e = .returned (.tuple #[.int .i64 7, .int .i64 0]) ∧ w = w' := by
  refine (Number_any ⟨#[48, 48, 55]⟩ w (by decide)).mono ?_
  rintro e w' ⟨rfl, rfl⟩
  have h1 : numV 10 [48, 48, 55] = 7 := by decide
  have h2 : numE 10 [48, 48, 55] = 0 := by decide
  exact ⟨by show _ = _; rw [h1, h2]; rfl, rfl⟩
theorem say_hex (w : World) : Calls Tryd.prog 21 #[.string ⟨#[102, 70]⟩] w fun e w' => e = .returned (.tuple #[.int .i64 255, .int .i64 0]) ∧ w = w' := by
  refine (Hex_any ⟨#[102, 70]⟩ w (by decide)).mono ?_
  rintro e w' ⟨rfl, rfl⟩
  have h1 : numV 16 [102, 70] = 255 := by decide
  have h2 : numE 16 [102, 70] = 0 := by decide
  exact ⟨by show _ = _; rw [h1, h2]; rfl, rfl⟩
theorem hexD_255 : hexD 255 = [102, 102] := by rw [hexD_step (by decide), hexD_last (by decide)]; rfl
theorem say_hext (w : World) (hdb : DB w) : Calls Tryd.prog 22 #[.int .i64 255] w fun e w' => e = .returned (.tuple #[.string ⟨#[102, 102]⟩, .int .i64 0]) ∧ Below w.heap.size w w' := by
  refine (hext_any 255 w hdb).mono ?_
  rintro e w' ⟨rfl, hb⟩
  obtain ⟨e1, e2⟩ := hexS_yes (n := 255) (by decide)
  rw [hexD_255] at e1
  exact ⟨by show Ending.returned (.tuple #[.string (hexS ((255 : Nat) : Int)), .int .i64 ((hexE ((255 : Nat) : Int) : Nat) : Int)]) = _; rw [e1, e2]; rfl, hb⟩
theorem say_tok1 (w : World) : Calls Tryd.prog 8 #[.string ⟨#[97, 45, 98]⟩] w fun e w' => e = .returned (.bool true) ∧ w = w' := by
  refine (token_any ⟨#[97, 45, 98]⟩ w (by decide)).mono ?_
  rintro e w' ⟨rfl, rfl⟩
  exact ⟨ret_bool (by decide), rfl⟩
theorem say_tok2 (w : World) : Calls Tryd.prog 8 #[.string ⟨#[97, 32, 98]⟩] w fun e w' => e = .returned (.bool false) ∧ w = w' := by
  refine (token_any ⟨#[97, 32, 98]⟩ w (by decide)).mono ?_
  rintro e w' ⟨rfl, rfl⟩
  exact ⟨ret_bool (by decide), rfl⟩
theorem say_val (w : World) : Calls Tryd.prog 10 #[.string ⟨#[97, 32, 98]⟩] w fun e w' => e = .returned (.bool true) ∧ Below w.heap.size w w' := by
  refine (value_any ⟨#[97, 32, 98]⟩ w (by decide)).mono ?_
  rintro e w' ⟨rfl, hb⟩
  exact ⟨ret_bool (by decide), hb⟩
theorem low_aB : lowS ⟨#[97, 66]⟩ = ⟨#[97, 98]⟩ := rfl
theorem say_low (w : World) : Calls Tryd.prog 14 #[.string ⟨#[97, 66]⟩] w fun e w' => e = .returned (.string ⟨#[97, 98]⟩) ∧ Below w.heap.size w w' := by
  refine (lower_any ⟨#[97, 66]⟩ w (by decide)).mono ?_
  rintro e w' ⟨rfl, hb⟩
  exact ⟨by rw [low_aB], hb⟩
theorem list_ab : listS [97, 44, 32, 44, 98] = [⟨#[97]⟩, ⟨#[98]⟩] := by
  unfold listS
  rw [← refL_list]
  rfl
theorem say_list (w : World) : Calls Tryd.prog 25 #[.string ⟨#[97, 44, 32, 44, 98]⟩] w fun e w' => ∃ v, e = .returned v ∧ Strs w' v [⟨#[97]⟩, ⟨#[98]⟩] ∧ Below w.heap.size w w' := by
  refine (list_any ⟨#[97, 44, 32, 44, 98]⟩ w (by decide)).mono ?_
  rintro e w' ⟨v, rfl, hr, hb⟩
  have e1 : listS (⟨#[97, 44, 32, 44, 98]⟩ : ByteArray).data.toList = [⟨#[97]⟩, ⟨#[98]⟩] := list_ab
  rw [e1] at hr
  exact ⟨v, rfl, Strs.of_row hr, hb⟩
theorem strs_lit (w : World) : Strs (w.alloc (.cells #[.string ⟨#[97]⟩, .string ⟨#[98]⟩] 9)) (.slice (some ⟨w.heap.size, 0, none⟩) 2 2) [⟨#[97]⟩, ⟨#[98]⟩] := by
  refine ⟨_, _, rfl, fun j hj => ⟨w.heap.size, rfl, by simp, ?_⟩⟩
  rw [cell_at (hp_new w _)]
  match j, hj with
  | 0, _ => rfl
  | 1, _ => rfl

set_option maxHeartbeats 2000000 in
theorem speaks_any (w : World) (hdb : DB w) : Calls Tryd.prog 18 #[] w fun e w' => e = .returned (.bool true) ∧ Below w.heap.size w w' := by
  have HD := hide hdb
  clear hdb
  go_enter Tryd.func18, Tryd.ntmps18
  go_wp2_with (first | (go_at_call 19; refine (say_num _).mono ?_; rintro e w' ⟨rfl, rfl⟩) | (go_at_call 21; refine (say_hex _).mono ?_; rintro e w' ⟨rfl, rfl⟩))
  refine (say_hext _ HD.out).mono ?_
  rintro e w1 ⟨rfl, b1⟩
  have B1 := hide b1
  clear b1
  go_wp2_with fail
  refine (say_tok1 _).mono ?_
  rintro e w' ⟨rfl, rfl⟩
  go_wp2_with fail
  refine (say_tok2 _).mono ?_
  rintro e w' ⟨rfl, rfl⟩
  go_wp2_with fail
  refine (say_val _).mono ?_
  rintro e w2 ⟨rfl, b2⟩
  have B2 := hide (B1.out.trans (b2.mono B1.out.size))
  clear b2 B1
  go_wp2_with fail
  refine (say_low _).mono ?_
  rintro e w3 ⟨rfl, b3⟩
  have B3 := hide (B2.out.trans (b3.mono B2.out.size))
  clear b3 B2
  go_wp2_with fail
  refine (say_list _).mono ?_
  rintro e w4 ⟨v, rfl, hv, b4⟩
  have B4 := hide (B3.out.trans (b4.mono B3.out.size))
  have HV := hide hv
  clear b4 B3 hv
  go_wp2_with fail
  have hal : Below w4.heap.size w4 (w4.alloc (.cells #[.string ⟨#[97]⟩, .string ⟨#[98]⟩] 9)) := (Below.refl _ _).alloc (Nat.le_refl _) _
  refine (texts_any _ _ _ [⟨#[97]⟩, ⟨#[98]⟩] [⟨#[97]⟩, ⟨#[98]⟩] (HV.out.below hal) (strs_lit w4) (by decide) (by decide)).mono ?_
  rintro e w5 ⟨rfl, b5⟩
  have B5 := hide ((B4.out.trans (hal.mono B4.out.size)).trans (b5.mono (Nat.le_trans B4.out.size hal.size)))
  clear b5 B4 hal
  rw [decide_eq_true rfl]
  go_wp2
  go_ret
  exact ⟨rfl, B5.out⟩
end Go.Proofs.YtlnbmfdkminkiaaDoor
