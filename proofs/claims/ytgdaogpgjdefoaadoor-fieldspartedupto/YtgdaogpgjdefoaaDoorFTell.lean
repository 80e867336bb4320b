/- FieldsTell: the statement, walked. -/
import Derived.Test.YtgdaogpgjdefoaaDoorFSays
namespace Go.Proofs.YtgdaogpgjdefoaaDoor
open Go.ChangeShapes Go.WideShapes Go.ChangeAt Go.RowKit Go.Maps

theorem texts_same (w : World) (a b : Value) (V : List ByteArray) (hA : Strs w a V) (hB : Strs w b V) (hl : V.length ≤ 1099511627776) :
    Calls Tryd.prog 12 #[a, b] w fun e w' => e = .returned (.bool true) ∧ Below w.heap.size w w' := by
  refine (texts_any w a b V V hA hB hl hl).mono ?_
  rintro e w' ⟨rfl, h⟩
  exact ⟨by rw [decide_eq_true rfl], h⟩
set_option maxHeartbeats 4000000 in
set_option maxRecDepth 100000 in
theorem tell_walk (w : World) (l : Value) (A : List (ByteArray × ByteArray)) (n item : ByteArray) (hA : Flds w l A) (hs : Sm A) (hn : n.size ≤ 1048576) (hi : item.size ≤ 1048576) (ht : PT w) :
    Calls Tryd.prog 3 #[l, .string n, .string item] w fun e w' => e = .returned (.bool true) ∧ Below w.heap.size w w' := by
  have F0 := hide hA
  have B0 := hide (Below.refl w.heap.size w)
  have HT := hide ht
  have HS := hide hs
  have HGET := hide (fun W h => get_any W l A n h hs hn)
  have HRGET := hide (fun W h => rget_any W l A n h hs hn)
  have HCHK := hide (fun W h => Check_any W l A h hs)
  have HRCHK := hide (fun W h => rCheck_any W l A h hs)
  have HALL := hide (fun W h => all_any W l A n h hs hn)
  have HRALL := hide (fun W h => rall_any W l A n h hs hn)
  have HITE := hide (fun W h => items_any W l A n h hs hn)
  have HRITE := hide (fun W h => ritems_any W l A n h hs hn)
  have HHAS := hide (fun W h => has_any W l A n item h hs hn hi)
  have HRHAS := hide (fun W h => rhas_any W l A n item h hs hn hi)
  have hVl : (allS A n).length ≤ 1099511627776 := Nat.le_trans (allS_le hs) (by decide)
  have hIl := itemsS_len hs n
  have HVL := hide hVl
  have HIL := hide hIl
  clear hA hs hn hi ht hVl hIl
  generalize getS (allS A n) = gs at HGET HRGET
  generalize decide (0 < (allS A n).length) = gd at HGET HRGET
  generalize chkL A = ck at HCHK HRCHK
  generalize hasB A n item = hb at HHAS HRHAS
  generalize allS A n = V at HALL HRALL HVL
  generalize itemsS A n = I at HITE HRITE HIL
  obtain ⟨a0, c0, rfl, _, _⟩ := F0.out
  go_enter Tryd.func3, Tryd.ntmps3
  go_wp2_with fail
  refine (HGET.out _ F0.out).mono ?_
  rintro e w1 ⟨rfl, bb⟩
  have B1 := hide (B0.out.trans (bb.mono B0.out.size))
  have F1 := hide (F0.out.below bb)
  clear bb B0 F0
  go_wp2_with fail
  refine (HRGET.out _ F1.out).mono ?_
  rintro e w2 ⟨rfl, bb⟩
  have B2 := hide (B1.out.trans (bb.mono B1.out.size))
  have F2 := hide (F1.out.below bb)
  clear bb B1 F1
  go_wp2_with fail
  refine (HCHK.out _ F2.out).mono ?_
  rintro e w3 ⟨rfl, bb⟩
  have B3 := hide (B2.out.trans (bb.mono B2.out.size))
  have F3 := hide (F2.out.below bb)
  clear bb B2 F2
  go_wp2_with fail
  refine (HRCHK.out _ F3.out).mono ?_
  rintro e w4 ⟨rfl, bb⟩
  have B4 := hide (B3.out.trans (bb.mono B3.out.size))
  have F4 := hide (F3.out.below bb)
  clear bb B3 F3
  go_wp2_with fail
  refine (HALL.out _ F4.out).mono ?_
  rintro e w5 ⟨v1, rfl, hv1, bb⟩
  have B5 := hide (B4.out.trans (bb.mono B4.out.size))
  have F5 := hide (F4.out.below bb)
  clear bb B4 F4
  have R1 := hide (Strs.of_row hv1)
  obtain ⟨x1, y1, z1, rfl⟩ : ∃ a n c, v1 = .slice a n c := by
    obtain ⟨a, c, h, _⟩ := hv1.shape
    exact ⟨a, _, c, h⟩
  clear hv1
  go_wp2_with fail
  refine (HRALL.out _ F5.out).mono ?_
  rintro e w6 ⟨v2, rfl, hv2, bb⟩
  have B6 := hide (B5.out.trans (bb.mono B5.out.size))
  have F6 := hide (F5.out.below bb)
  have R1' := hide (R1.out.below bb)
  clear R1
  have R1 := R1'
  clear R1'
  clear bb B5 F5
  have R2 := hide (Strs.of_row hv2)
  obtain ⟨x2, y2, z2, rfl⟩ : ∃ a n c, v2 = .slice a n c := by
    obtain ⟨a, c, h, _⟩ := hv2.shape
    exact ⟨a, _, c, h⟩
  clear hv2
  go_wp2_with fail
  refine (texts_same w6 _ _ V R1.out R2.out HVL.out).mono ?_
  rintro e w7 ⟨rfl, bb⟩
  have B7 := hide (B6.out.trans (bb.mono B6.out.size))
  have F7 := hide (F6.out.below bb)
  have R1' := hide (R1.out.below bb)
  clear R1
  have R1 := R1'
  clear R1'
  have R2' := hide (R2.out.below bb)
  clear R2
  have R2 := R2'
  clear R2'
  clear bb B6 F6
  clear R1 R2
  go_wp2_with fail
  refine (HITE.out _ F7.out).mono ?_
  rintro e w8 ⟨v3, rfl, hv3, bb⟩
  have B8 := hide (B7.out.trans (bb.mono B7.out.size))
  have F8 := hide (F7.out.below bb)
  clear bb B7 F7
  have R3 := hide (Strs.of_row hv3)
  obtain ⟨x3, y3, z3, rfl⟩ : ∃ a n c, v3 = .slice a n c := by
    obtain ⟨a, c, h, _⟩ := hv3.shape
    exact ⟨a, _, c, h⟩
  clear hv3
  go_wp2_with fail
  refine (HRITE.out _ F8.out).mono ?_
  rintro e w9 ⟨v4, rfl, hv4, bb⟩
  have B9 := hide (B8.out.trans (bb.mono B8.out.size))
  have F9 := hide (F8.out.below bb)
  have R3' := hide (R3.out.below bb)
  clear R3
  have R3 := R3'
  clear R3'
  clear bb B8 F8
  have R4 := hide (Strs.of_row hv4)
  obtain ⟨x4, y4, z4, rfl⟩ : ∃ a n c, v4 = .slice a n c := by
    obtain ⟨a, c, h, _⟩ := hv4.shape
    exact ⟨a, _, c, h⟩
  clear hv4
  go_wp2_with fail
  refine (texts_same w9 _ _ I R3.out R4.out HIL.out).mono ?_
  rintro e w10 ⟨rfl, bb⟩
  have B10 := hide (B9.out.trans (bb.mono B9.out.size))
  have F10 := hide (F9.out.below bb)
  have R3' := hide (R3.out.below bb)
  clear R3
  have R3 := R3'
  clear R3'
  have R4' := hide (R4.out.below bb)
  clear R4
  have R4 := R4'
  clear R4'
  clear bb B9 F9
  clear R3 R4
  go_wp2_with fail
  refine (HHAS.out _ F10.out).mono ?_
  rintro e w11 ⟨rfl, bb⟩
  have B11 := hide (B10.out.trans (bb.mono B10.out.size))
  have F11 := hide (F10.out.below bb)
  clear bb B10 F10
  go_wp2_with fail
  refine (HRHAS.out _ F11.out).mono ?_
  rintro e w12 ⟨rfl, bb⟩
  have B12 := hide (B11.out.trans (bb.mono B11.out.size))
  have F12 := hide (F11.out.below bb)
  clear bb B11 F11
  go_wp2_with fail
  refine (speaks_any w12 (HT.out.below B12.out)).mono ?_
  rintro e w13 ⟨rfl, bb⟩
  have B13 := hide (B12.out.trans (bb.mono B12.out.size))
  have F13 := hide (F12.out.below bb)
  clear bb B12 F12
  go_wp2
  go_ret
  exact ⟨rfl, B13.out⟩
end Go.Proofs.YtgdaogpgjdefoaaDoor
