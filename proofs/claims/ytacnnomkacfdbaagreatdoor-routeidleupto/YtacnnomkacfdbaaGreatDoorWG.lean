/- WG: ZAtt ZFits3 ZRest ZChk RFnd. -/
import Derived.Test.YtacnnomkacfdbaaGreatDoorWE
import Derived.Test.YtacnnomkacfdbaaGreatDoorWB
import Derived.Test.YtacnnomkacfdbaaGreatDoorWF
/- How many attempts a request may have at most: the program's. -/
namespace Go.Proofs.YtacnnomkacfdbaaGreatDoor
open Go.ChangeShapes Go.WideShapes Go.ChangeAt Go.RowKit
set_option linter.unusedVariables false

/-- How many attempts a request may have at most. -/
def attI (L : List Rt) : Int := L.foldl (fun m r => if m < r.r10 + r.r11 + 1 then r.r10 + r.r11 + 1 else m) 0
theorem attI_snoc (L : List Rt) (k : Nat) (h : k < L.length) : attI (L.take (k + 1)) = (if attI (L.take k) < L[k].r10 + L[k].r11 + 1 then L[k].r10 + L[k].r11 + 1 else attI (L.take k)) := by
  unfold attI
  rw [List.take_succ_eq_append_getElem h, List.foldl_append]
  rfl
theorem attI_le (L : List Rt) (hc : ∀ x ∈ L, (0 ≤ x.r10 ∧ x.r10 ≤ 5) ∧ (0 ≤ x.r11 ∧ x.r11 ≤ 3)) (k : Nat) (hk : k ≤ L.length) : 0 ≤ attI (L.take k) ∧ attI (L.take k) ≤ 9 := by
  induction k with
  | zero => simp [attI]
  | succ k ih =>
    have h := ih (by omega)
    have hm := hc L[k] (List.getElem_mem (by omega))
    rw [attI_snoc L k (by omega)]
    split <;> omega
end Go.Proofs.YtacnnomkacfdbaaGreatDoor
/- Whether a configuration's own numbers are in their ranges: the program's. -/
namespace Go.Proofs.YtacnnomkacfdbaaGreatDoor
open Go.ChangeShapes Go.WideShapes Go.ChangeAt Go.RowKit

def restFits_anyL : List (Int × Int) := [(0, 1000000), (1, 1000000), (1, 100), (1, 100), (0, 1000), (1, 1000000), (1, 1000000), (0, 100), (16, 65536), (0, 1048576), (1, 1048576), (1, 1000000), (1, 1000000), (1, 1000000), (1, 256)]
set_option maxHeartbeats 4000000 in
set_option maxRecDepth 100000 in
theorem restFits_any (w : World) (a1 : Option Addr) (n1 k1 : Nat) (a2 : Option Addr) (n2 k2 : Nat) (pa : ByteArray) (c0 c1 c2 c3 c4 c5 c6 c7 c8 c9 c10 c11 c12 c13 c14 : Int) (hR : RG w 2 restFits_anyL) :
    Calls Tryz.prog 50 #[.agg #[.slice a1 n1 k1, .slice a2 n2 k2, .int .i64 c0, .int .i64 c1, .int .i64 c2, .int .i64 c3, .string pa, .int .i64 c4, .int .i64 c5, .int .i64 c6, .int .i64 c7, .int .i64 c8, .int .i64 c9, .int .i64 c10, .int .i64 c11, .int .i64 c12, .int .i64 c13, .int .i64 c14]] w fun e w' => e = .returned (.bool (fitK [c0, c1, c2, c3, c4, c5, c6, c7, c8, c9, c10, c11, c12, c13, c14] restFits_anyL 15)) ∧ Below w.heap.size w w' := by
  have HR := hide hR
  clear hR
  go_enter Tryz.func50, Tryz.ntmps50
  go_wp2
  have T0 := hide (Bl.one w #[.slice a1 n1 k1, .slice a2 n2 k2, .int .i64 c0, .int .i64 c1, .int .i64 c2, .int .i64 c3, .string pa, .int .i64 c4, .int .i64 c5, .int .i64 c6, .int .i64 c7, .int .i64 c8, .int .i64 c9, .int .i64 c10, .int .i64 c11, .int .i64 c12, .int .i64 c13, .int .i64 c14] 25)
  generalize (w.alloc (.cells #[.slice a1 n1 k1, .slice a2 n2 k2, .int .i64 c0, .int .i64 c1, .int .i64 c2, .int .i64 c3, .string pa, .int .i64 c4, .int .i64 c5, .int .i64 c6, .int .i64 c7, .int .i64 c8, .int .i64 c9, .int .i64 c10, .int .i64 c11, .int .i64 c12, .int .i64 c13, .int .i64 c14] 25)) = x at T0 ⊢
  go_loopw [36] (fun i wr => ∃ k : Nat, k ≤ 15 ∧ i = .int .i64 k ∧ Hid (fitK [c0, c1, c2, c3, c4, c5, c6, c7, c8, c9, c10, c11, c12, c13, c14] restFits_anyL k = true) ∧ Hid (Below w.heap.size w wr)) (fun i _ => 15 - (intOf i).toNat)
  case atStart => exact ⟨0, Nat.zero_le _, rfl, hide rfl, hide T0.out.b⟩
  case round =>
    obtain ⟨k, hk, rfl, H, HB⟩ := hrel
    by_cases hlt : k < 15
    · have hcs : k = 0 ∨ k = 1 ∨ k = 2 ∨ k = 3 ∨ k = 4 ∨ k = 5 ∨ k = 6 ∨ k = 7 ∨ k = 8 ∨ k = 9 ∨ k = 10 ∨ k = 11 ∨ k = 12 ∨ k = 13 ∨ k = 14 := by omega
      rcases hcs with rfl | rfl | rfl | rfl | rfl | rfl | rfl | rfl | rfl | rfl | rfl | rfl | rfl | rfl | rfl
      · obtain ⟨q0, q1⟩ := (HR.out.below HB.out).at 0 0 1000000 rfl
        have ix : (Instr.index 108 (.agg #[.int .i64 c0, .int .i64 c1, .int .i64 c2, .int .i64 c3, .int .i64 c4, .int .i64 c5, .int .i64 c6, .int .i64 c7, .int .i64 c8, .int .i64 c9, .int .i64 c10, .int .i64 c11, .int .i64 c12, .int .i64 c13, .int .i64 c14]) (.int .i64 0)).run Tryz.prog wr = .ok (.int .i64 c0) wr := by kernel_rfl
        have HI := hide (fun W => hold_any W 0 1000000 c0)
        have HS := hide (fit_next (N := [c0, c1, c2, c3, c4, c5, c6, c7, c8, c9, c10, c11, c12, c13, c14]) (L := restFits_anyL) (k := 0) (n := c0) (a := 0) (b := 1000000) rfl)
        have HN := hide (fit_no (N := [c0, c1, c2, c3, c4, c5, c6, c7, c8, c9, c10, c11, c12, c13, c14]) (L := restFits_anyL) (k := 0) (m := 15) (n := c0) (a := 0) (b := 1000000) rfl (by decide))
        generalize inB c0 0 1000000 = bq at HI HS HN
        cases bq
        · have HX := hide (HN.out rfl)
          clear HS HN
          go_wp2_with fail
          refine (HI.out _).mono ?_
          rintro e w' ⟨rfl, bb⟩
          have B2 := hide (HB.out.trans (bb.mono HB.out.size))
          clear bb
          go_wp2
          go_ret
          exact ⟨ret_bool HX.out.symm, B2.out⟩
        · have HX : Hid (fitK [c0, c1, c2, c3, c4, c5, c6, c7, c8, c9, c10, c11, c12, c13, c14] restFits_anyL 1 = true) := hide (by rw [HS.out, H.out]; rfl)
          clear HS HN
          go_wp2_with fail
          refine (HI.out _).mono ?_
          rintro e w' ⟨rfl, bb⟩
          have B2 := hide (HB.out.trans (bb.mono HB.out.size))
          clear bb
          go_wp2
          exact ⟨⟨1, by omega, by go_num, HX, B2⟩, by simp [intOf]⟩
      · obtain ⟨q0, q1⟩ := (HR.out.below HB.out).at 1 1 1000000 rfl
        have ix : (Instr.index 108 (.agg #[.int .i64 c0, .int .i64 c1, .int .i64 c2, .int .i64 c3, .int .i64 c4, .int .i64 c5, .int .i64 c6, .int .i64 c7, .int .i64 c8, .int .i64 c9, .int .i64 c10, .int .i64 c11, .int .i64 c12, .int .i64 c13, .int .i64 c14]) (.int .i64 1)).run Tryz.prog wr = .ok (.int .i64 c1) wr := by kernel_rfl
        have HI := hide (fun W => hold_any W 1 1000000 c1)
        have HS := hide (fit_next (N := [c0, c1, c2, c3, c4, c5, c6, c7, c8, c9, c10, c11, c12, c13, c14]) (L := restFits_anyL) (k := 1) (n := c1) (a := 1) (b := 1000000) rfl)
        have HN := hide (fit_no (N := [c0, c1, c2, c3, c4, c5, c6, c7, c8, c9, c10, c11, c12, c13, c14]) (L := restFits_anyL) (k := 1) (m := 15) (n := c1) (a := 1) (b := 1000000) rfl (by decide))
        generalize inB c1 1 1000000 = bq at HI HS HN
        cases bq
        · have HX := hide (HN.out rfl)
          clear HS HN
          go_wp2_with fail
          refine (HI.out _).mono ?_
          rintro e w' ⟨rfl, bb⟩
          have B2 := hide (HB.out.trans (bb.mono HB.out.size))
          clear bb
          go_wp2
          go_ret
          exact ⟨ret_bool HX.out.symm, B2.out⟩
        · have HX : Hid (fitK [c0, c1, c2, c3, c4, c5, c6, c7, c8, c9, c10, c11, c12, c13, c14] restFits_anyL 2 = true) := hide (by rw [HS.out, H.out]; rfl)
          clear HS HN
          go_wp2_with fail
          refine (HI.out _).mono ?_
          rintro e w' ⟨rfl, bb⟩
          have B2 := hide (HB.out.trans (bb.mono HB.out.size))
          clear bb
          go_wp2
          exact ⟨⟨2, by omega, by go_num, HX, B2⟩, by simp [intOf]⟩
      · obtain ⟨q0, q1⟩ := (HR.out.below HB.out).at 2 1 100 rfl
        have ix : (Instr.index 108 (.agg #[.int .i64 c0, .int .i64 c1, .int .i64 c2, .int .i64 c3, .int .i64 c4, .int .i64 c5, .int .i64 c6, .int .i64 c7, .int .i64 c8, .int .i64 c9, .int .i64 c10, .int .i64 c11, .int .i64 c12, .int .i64 c13, .int .i64 c14]) (.int .i64 2)).run Tryz.prog wr = .ok (.int .i64 c2) wr := by kernel_rfl
        have HI := hide (fun W => hold_any W 1 100 c2)
        have HS := hide (fit_next (N := [c0, c1, c2, c3, c4, c5, c6, c7, c8, c9, c10, c11, c12, c13, c14]) (L := restFits_anyL) (k := 2) (n := c2) (a := 1) (b := 100) rfl)
        have HN := hide (fit_no (N := [c0, c1, c2, c3, c4, c5, c6, c7, c8, c9, c10, c11, c12, c13, c14]) (L := restFits_anyL) (k := 2) (m := 15) (n := c2) (a := 1) (b := 100) rfl (by decide))
        generalize inB c2 1 100 = bq at HI HS HN
        cases bq
        · have HX := hide (HN.out rfl)
          clear HS HN
          go_wp2_with fail
          refine (HI.out _).mono ?_
          rintro e w' ⟨rfl, bb⟩
          have B2 := hide (HB.out.trans (bb.mono HB.out.size))
          clear bb
          go_wp2
          go_ret
          exact ⟨ret_bool HX.out.symm, B2.out⟩
        · have HX : Hid (fitK [c0, c1, c2, c3, c4, c5, c6, c7, c8, c9, c10, c11, c12, c13, c14] restFits_anyL 3 = true) := hide (by rw [HS.out, H.out]; rfl)
          clear HS HN
          go_wp2_with fail
          refine (HI.out _).mono ?_
          rintro e w' ⟨rfl, bb⟩
          have B2 := hide (HB.out.trans (bb.mono HB.out.size))
          clear bb
          go_wp2
          exact ⟨⟨3, by omega, by go_num, HX, B2⟩, by simp [intOf]⟩
      · obtain ⟨q0, q1⟩ := (HR.out.below HB.out).at 3 1 100 rfl
        have ix : (Instr.index 108 (.agg #[.int .i64 c0, .int .i64 c1, .int .i64 c2, .int .i64 c3, .int .i64 c4, .int .i64 c5, .int .i64 c6, .int .i64 c7, .int .i64 c8, .int .i64 c9, .int .i64 c10, .int .i64 c11, .int .i64 c12, .int .i64 c13, .int .i64 c14]) (.int .i64 3)).run Tryz.prog wr = .ok (.int .i64 c3) wr := by kernel_rfl
        have HI := hide (fun W => hold_any W 1 100 c3)
        have HS := hide (fit_next (N := [c0, c1, c2, c3, c4, c5, c6, c7, c8, c9, c10, c11, c12, c13, c14]) (L := restFits_anyL) (k := 3) (n := c3) (a := 1) (b := 100) rfl)
        have HN := hide (fit_no (N := [c0, c1, c2, c3, c4, c5, c6, c7, c8, c9, c10, c11, c12, c13, c14]) (L := restFits_anyL) (k := 3) (m := 15) (n := c3) (a := 1) (b := 100) rfl (by decide))
        generalize inB c3 1 100 = bq at HI HS HN
        cases bq
        · have HX := hide (HN.out rfl)
          clear HS HN
          go_wp2_with fail
          refine (HI.out _).mono ?_
          rintro e w' ⟨rfl, bb⟩
          have B2 := hide (HB.out.trans (bb.mono HB.out.size))
          clear bb
          go_wp2
          go_ret
          exact ⟨ret_bool HX.out.symm, B2.out⟩
        · have HX : Hid (fitK [c0, c1, c2, c3, c4, c5, c6, c7, c8, c9, c10, c11, c12, c13, c14] restFits_anyL 4 = true) := hide (by rw [HS.out, H.out]; rfl)
          clear HS HN
          go_wp2_with fail
          refine (HI.out _).mono ?_
          rintro e w' ⟨rfl, bb⟩
          have B2 := hide (HB.out.trans (bb.mono HB.out.size))
          clear bb
          go_wp2
          exact ⟨⟨4, by omega, by go_num, HX, B2⟩, by simp [intOf]⟩
      · obtain ⟨q0, q1⟩ := (HR.out.below HB.out).at 4 0 1000 rfl
        have ix : (Instr.index 108 (.agg #[.int .i64 c0, .int .i64 c1, .int .i64 c2, .int .i64 c3, .int .i64 c4, .int .i64 c5, .int .i64 c6, .int .i64 c7, .int .i64 c8, .int .i64 c9, .int .i64 c10, .int .i64 c11, .int .i64 c12, .int .i64 c13, .int .i64 c14]) (.int .i64 4)).run Tryz.prog wr = .ok (.int .i64 c4) wr := by kernel_rfl
        have HI := hide (fun W => hold_any W 0 1000 c4)
        have HS := hide (fit_next (N := [c0, c1, c2, c3, c4, c5, c6, c7, c8, c9, c10, c11, c12, c13, c14]) (L := restFits_anyL) (k := 4) (n := c4) (a := 0) (b := 1000) rfl)
        have HN := hide (fit_no (N := [c0, c1, c2, c3, c4, c5, c6, c7, c8, c9, c10, c11, c12, c13, c14]) (L := restFits_anyL) (k := 4) (m := 15) (n := c4) (a := 0) (b := 1000) rfl (by decide))
        generalize inB c4 0 1000 = bq at HI HS HN
        cases bq
        · have HX := hide (HN.out rfl)
          clear HS HN
          go_wp2_with fail
          refine (HI.out _).mono ?_
          rintro e w' ⟨rfl, bb⟩
          have B2 := hide (HB.out.trans (bb.mono HB.out.size))
          clear bb
          go_wp2
          go_ret
          exact ⟨ret_bool HX.out.symm, B2.out⟩
        · have HX : Hid (fitK [c0, c1, c2, c3, c4, c5, c6, c7, c8, c9, c10, c11, c12, c13, c14] restFits_anyL 5 = true) := hide (by rw [HS.out, H.out]; rfl)
          clear HS HN
          go_wp2_with fail
          refine (HI.out _).mono ?_
          rintro e w' ⟨rfl, bb⟩
          have B2 := hide (HB.out.trans (bb.mono HB.out.size))
          clear bb
          go_wp2
          exact ⟨⟨5, by omega, by go_num, HX, B2⟩, by simp [intOf]⟩
      · obtain ⟨q0, q1⟩ := (HR.out.below HB.out).at 5 1 1000000 rfl
        have ix : (Instr.index 108 (.agg #[.int .i64 c0, .int .i64 c1, .int .i64 c2, .int .i64 c3, .int .i64 c4, .int .i64 c5, .int .i64 c6, .int .i64 c7, .int .i64 c8, .int .i64 c9, .int .i64 c10, .int .i64 c11, .int .i64 c12, .int .i64 c13, .int .i64 c14]) (.int .i64 5)).run Tryz.prog wr = .ok (.int .i64 c5) wr := by kernel_rfl
        have HI := hide (fun W => hold_any W 1 1000000 c5)
        have HS := hide (fit_next (N := [c0, c1, c2, c3, c4, c5, c6, c7, c8, c9, c10, c11, c12, c13, c14]) (L := restFits_anyL) (k := 5) (n := c5) (a := 1) (b := 1000000) rfl)
        have HN := hide (fit_no (N := [c0, c1, c2, c3, c4, c5, c6, c7, c8, c9, c10, c11, c12, c13, c14]) (L := restFits_anyL) (k := 5) (m := 15) (n := c5) (a := 1) (b := 1000000) rfl (by decide))
        generalize inB c5 1 1000000 = bq at HI HS HN
        cases bq
        · have HX := hide (HN.out rfl)
          clear HS HN
          go_wp2_with fail
          refine (HI.out _).mono ?_
          rintro e w' ⟨rfl, bb⟩
          have B2 := hide (HB.out.trans (bb.mono HB.out.size))
          clear bb
          go_wp2
          go_ret
          exact ⟨ret_bool HX.out.symm, B2.out⟩
        · have HX : Hid (fitK [c0, c1, c2, c3, c4, c5, c6, c7, c8, c9, c10, c11, c12, c13, c14] restFits_anyL 6 = true) := hide (by rw [HS.out, H.out]; rfl)
          clear HS HN
          go_wp2_with fail
          refine (HI.out _).mono ?_
          rintro e w' ⟨rfl, bb⟩
          have B2 := hide (HB.out.trans (bb.mono HB.out.size))
          clear bb
          go_wp2
          exact ⟨⟨6, by omega, by go_num, HX, B2⟩, by simp [intOf]⟩
      · obtain ⟨q0, q1⟩ := (HR.out.below HB.out).at 6 1 1000000 rfl
        have ix : (Instr.index 108 (.agg #[.int .i64 c0, .int .i64 c1, .int .i64 c2, .int .i64 c3, .int .i64 c4, .int .i64 c5, .int .i64 c6, .int .i64 c7, .int .i64 c8, .int .i64 c9, .int .i64 c10, .int .i64 c11, .int .i64 c12, .int .i64 c13, .int .i64 c14]) (.int .i64 6)).run Tryz.prog wr = .ok (.int .i64 c6) wr := by kernel_rfl
        have HI := hide (fun W => hold_any W 1 1000000 c6)
        have HS := hide (fit_next (N := [c0, c1, c2, c3, c4, c5, c6, c7, c8, c9, c10, c11, c12, c13, c14]) (L := restFits_anyL) (k := 6) (n := c6) (a := 1) (b := 1000000) rfl)
        have HN := hide (fit_no (N := [c0, c1, c2, c3, c4, c5, c6, c7, c8, c9, c10, c11, c12, c13, c14]) (L := restFits_anyL) (k := 6) (m := 15) (n := c6) (a := 1) (b := 1000000) rfl (by decide))
        generalize inB c6 1 1000000 = bq at HI HS HN
        cases bq
        · have HX := hide (HN.out rfl)
          clear HS HN
          go_wp2_with fail
          refine (HI.out _).mono ?_
          rintro e w' ⟨rfl, bb⟩
          have B2 := hide (HB.out.trans (bb.mono HB.out.size))
          clear bb
          go_wp2
          go_ret
          exact ⟨ret_bool HX.out.symm, B2.out⟩
        · have HX : Hid (fitK [c0, c1, c2, c3, c4, c5, c6, c7, c8, c9, c10, c11, c12, c13, c14] restFits_anyL 7 = true) := hide (by rw [HS.out, H.out]; rfl)
          clear HS HN
          go_wp2_with fail
          refine (HI.out _).mono ?_
          rintro e w' ⟨rfl, bb⟩
          have B2 := hide (HB.out.trans (bb.mono HB.out.size))
          clear bb
          go_wp2
          exact ⟨⟨7, by omega, by go_num, HX, B2⟩, by simp [intOf]⟩
      · obtain ⟨q0, q1⟩ := (HR.out.below HB.out).at 7 0 100 rfl
        have ix : (Instr.index 108 (.agg #[.int .i64 c0, .int .i64 c1, .int .i64 c2, .int .i64 c3, .int .i64 c4, .int .i64 c5, .int .i64 c6, .int .i64 c7, .int .i64 c8, .int .i64 c9, .int .i64 c10, .int .i64 c11, .int .i64 c12, .int .i64 c13, .int .i64 c14]) (.int .i64 7)).run Tryz.prog wr = .ok (.int .i64 c7) wr := by kernel_rfl
        have HI := hide (fun W => hold_any W 0 100 c7)
        have HS := hide (fit_next (N := [c0, c1, c2, c3, c4, c5, c6, c7, c8, c9, c10, c11, c12, c13, c14]) (L := restFits_anyL) (k := 7) (n := c7) (a := 0) (b := 100) rfl)
        have HN := hide (fit_no (N := [c0, c1, c2, c3, c4, c5, c6, c7, c8, c9, c10, c11, c12, c13, c14]) (L := restFits_anyL) (k := 7) (m := 15) (n := c7) (a := 0) (b := 100) rfl (by decide))
        generalize inB c7 0 100 = bq at HI HS HN
        cases bq
        · have HX := hide (HN.out rfl)
          clear HS HN
          go_wp2_with fail
          refine (HI.out _).mono ?_
          rintro e w' ⟨rfl, bb⟩
          have B2 := hide (HB.out.trans (bb.mono HB.out.size))
          clear bb
          go_wp2
          go_ret
          exact ⟨ret_bool HX.out.symm, B2.out⟩
        · have HX : Hid (fitK [c0, c1, c2, c3, c4, c5, c6, c7, c8, c9, c10, c11, c12, c13, c14] restFits_anyL 8 = true) := hide (by rw [HS.out, H.out]; rfl)
          clear HS HN
          go_wp2_with fail
          refine (HI.out _).mono ?_
          rintro e w' ⟨rfl, bb⟩
          have B2 := hide (HB.out.trans (bb.mono HB.out.size))
          clear bb
          go_wp2
          exact ⟨⟨8, by omega, by go_num, HX, B2⟩, by simp [intOf]⟩
      · obtain ⟨q0, q1⟩ := (HR.out.below HB.out).at 8 16 65536 rfl
        have ix : (Instr.index 108 (.agg #[.int .i64 c0, .int .i64 c1, .int .i64 c2, .int .i64 c3, .int .i64 c4, .int .i64 c5, .int .i64 c6, .int .i64 c7, .int .i64 c8, .int .i64 c9, .int .i64 c10, .int .i64 c11, .int .i64 c12, .int .i64 c13, .int .i64 c14]) (.int .i64 8)).run Tryz.prog wr = .ok (.int .i64 c8) wr := by kernel_rfl
        have HI := hide (fun W => hold_any W 16 65536 c8)
        have HS := hide (fit_next (N := [c0, c1, c2, c3, c4, c5, c6, c7, c8, c9, c10, c11, c12, c13, c14]) (L := restFits_anyL) (k := 8) (n := c8) (a := 16) (b := 65536) rfl)
        have HN := hide (fit_no (N := [c0, c1, c2, c3, c4, c5, c6, c7, c8, c9, c10, c11, c12, c13, c14]) (L := restFits_anyL) (k := 8) (m := 15) (n := c8) (a := 16) (b := 65536) rfl (by decide))
        generalize inB c8 16 65536 = bq at HI HS HN
        cases bq
        · have HX := hide (HN.out rfl)
          clear HS HN
          go_wp2_with fail
          refine (HI.out _).mono ?_
          rintro e w' ⟨rfl, bb⟩
          have B2 := hide (HB.out.trans (bb.mono HB.out.size))
          clear bb
          go_wp2
          go_ret
          exact ⟨ret_bool HX.out.symm, B2.out⟩
        · have HX : Hid (fitK [c0, c1, c2, c3, c4, c5, c6, c7, c8, c9, c10, c11, c12, c13, c14] restFits_anyL 9 = true) := hide (by rw [HS.out, H.out]; rfl)
          clear HS HN
          go_wp2_with fail
          refine (HI.out _).mono ?_
          rintro e w' ⟨rfl, bb⟩
          have B2 := hide (HB.out.trans (bb.mono HB.out.size))
          clear bb
          go_wp2
          exact ⟨⟨9, by omega, by go_num, HX, B2⟩, by simp [intOf]⟩
      · obtain ⟨q0, q1⟩ := (HR.out.below HB.out).at 9 0 1048576 rfl
        have ix : (Instr.index 108 (.agg #[.int .i64 c0, .int .i64 c1, .int .i64 c2, .int .i64 c3, .int .i64 c4, .int .i64 c5, .int .i64 c6, .int .i64 c7, .int .i64 c8, .int .i64 c9, .int .i64 c10, .int .i64 c11, .int .i64 c12, .int .i64 c13, .int .i64 c14]) (.int .i64 9)).run Tryz.prog wr = .ok (.int .i64 c9) wr := by kernel_rfl
        have HI := hide (fun W => hold_any W 0 1048576 c9)
        have HS := hide (fit_next (N := [c0, c1, c2, c3, c4, c5, c6, c7, c8, c9, c10, c11, c12, c13, c14]) (L := restFits_anyL) (k := 9) (n := c9) (a := 0) (b := 1048576) rfl)
        have HN := hide (fit_no (N := [c0, c1, c2, c3, c4, c5, c6, c7, c8, c9, c10, c11, c12, c13, c14]) (L := restFits_anyL) (k := 9) (m := 15) (n := c9) (a := 0) (b := 1048576) rfl (by decide))
        generalize inB c9 0 1048576 = bq at HI HS HN
        cases bq
        · have HX := hide (HN.out rfl)
          clear HS HN
          go_wp2_with fail
          refine (HI.out _).mono ?_
          rintro e w' ⟨rfl, bb⟩
          have B2 := hide (HB.out.trans (bb.mono HB.out.size))
          clear bb
          go_wp2
          go_ret
          exact ⟨ret_bool HX.out.symm, B2.out⟩
        · have HX : Hid (fitK [c0, c1, c2, c3, c4, c5, c6, c7, c8, c9, c10, c11, c12, c13, c14] restFits_anyL 10 = true) := hide (by rw [HS.out, H.out]; rfl)
          clear HS HN
          go_wp2_with fail
          refine (HI.out _).mono ?_
          rintro e w' ⟨rfl, bb⟩
          have B2 := hide (HB.out.trans (bb.mono HB.out.size))
          clear bb
          go_wp2
          exact ⟨⟨10, by omega, by go_num, HX, B2⟩, by simp [intOf]⟩
      · obtain ⟨q0, q1⟩ := (HR.out.below HB.out).at 10 1 1048576 rfl
        have ix : (Instr.index 108 (.agg #[.int .i64 c0, .int .i64 c1, .int .i64 c2, .int .i64 c3, .int .i64 c4, .int .i64 c5, .int .i64 c6, .int .i64 c7, .int .i64 c8, .int .i64 c9, .int .i64 c10, .int .i64 c11, .int .i64 c12, .int .i64 c13, .int .i64 c14]) (.int .i64 10)).run Tryz.prog wr = .ok (.int .i64 c10) wr := by kernel_rfl
        have HI := hide (fun W => hold_any W 1 1048576 c10)
        have HS := hide (fit_next (N := [c0, c1, c2, c3, c4, c5, c6, c7, c8, c9, c10, c11, c12, c13, c14]) (L := restFits_anyL) (k := 10) (n := c10) (a := 1) (b := 1048576) rfl)
        have HN := hide (fit_no (N := [c0, c1, c2, c3, c4, c5, c6, c7, c8, c9, c10, c11, c12, c13, c14]) (L := restFits_anyL) (k := 10) (m := 15) (n := c10) (a := 1) (b := 1048576) rfl (by decide))
        generalize inB c10 1 1048576 = bq at HI HS HN
        cases bq
        · have HX := hide (HN.out rfl)
          clear HS HN
          go_wp2_with fail
          refine (HI.out _).mono ?_
          rintro e w' ⟨rfl, bb⟩
          have B2 := hide (HB.out.trans (bb.mono HB.out.size))
          clear bb
          go_wp2
          go_ret
          exact ⟨ret_bool HX.out.symm, B2.out⟩
        · have HX : Hid (fitK [c0, c1, c2, c3, c4, c5, c6, c7, c8, c9, c10, c11, c12, c13, c14] restFits_anyL 11 = true) := hide (by rw [HS.out, H.out]; rfl)
          clear HS HN
          go_wp2_with fail
          refine (HI.out _).mono ?_
          rintro e w' ⟨rfl, bb⟩
          have B2 := hide (HB.out.trans (bb.mono HB.out.size))
          clear bb
          go_wp2
          exact ⟨⟨11, by omega, by go_num, HX, B2⟩, by simp [intOf]⟩
      · obtain ⟨q0, q1⟩ := (HR.out.below HB.out).at 11 1 1000000 rfl
        have ix : (Instr.index 108 (.agg #[.int .i64 c0, .int .i64 c1, .int .i64 c2, .int .i64 c3, .int .i64 c4, .int .i64 c5, .int .i64 c6, .int .i64 c7, .int .i64 c8, .int .i64 c9, .int .i64 c10, .int .i64 c11, .int .i64 c12, .int .i64 c13, .int .i64 c14]) (.int .i64 11)).run Tryz.prog wr = .ok (.int .i64 c11) wr := by kernel_rfl
        have HI := hide (fun W => hold_any W 1 1000000 c11)
        have HS := hide (fit_next (N := [c0, c1, c2, c3, c4, c5, c6, c7, c8, c9, c10, c11, c12, c13, c14]) (L := restFits_anyL) (k := 11) (n := c11) (a := 1) (b := 1000000) rfl)
        have HN := hide (fit_no (N := [c0, c1, c2, c3, c4, c5, c6, c7, c8, c9, c10, c11, c12, c13, c14]) (L := restFits_anyL) (k := 11) (m := 15) (n := c11) (a := 1) (b := 1000000) rfl (by decide))
        generalize inB c11 1 1000000 = bq at HI HS HN
        cases bq
        · have HX := hide (HN.out rfl)
          clear HS HN
          go_wp2_with fail
          refine (HI.out _).mono ?_
          rintro e w' ⟨rfl, bb⟩
          have B2 := hide (HB.out.trans (bb.mono HB.out.size))
          clear bb
          go_wp2
          go_ret
          exact ⟨ret_bool HX.out.symm, B2.out⟩
        · have HX : Hid (fitK [c0, c1, c2, c3, c4, c5, c6, c7, c8, c9, c10, c11, c12, c13, c14] restFits_anyL 12 = true) := hide (by rw [HS.out, H.out]; rfl)
          clear HS HN
          go_wp2_with fail
          refine (HI.out _).mono ?_
          rintro e w' ⟨rfl, bb⟩
          have B2 := hide (HB.out.trans (bb.mono HB.out.size))
          clear bb
          go_wp2
          exact ⟨⟨12, by omega, by go_num, HX, B2⟩, by simp [intOf]⟩
      · obtain ⟨q0, q1⟩ := (HR.out.below HB.out).at 12 1 1000000 rfl
        have ix : (Instr.index 108 (.agg #[.int .i64 c0, .int .i64 c1, .int .i64 c2, .int .i64 c3, .int .i64 c4, .int .i64 c5, .int .i64 c6, .int .i64 c7, .int .i64 c8, .int .i64 c9, .int .i64 c10, .int .i64 c11, .int .i64 c12, .int .i64 c13, .int .i64 c14]) (.int .i64 12)).run Tryz.prog wr = .ok (.int .i64 c12) wr := by kernel_rfl
        have HI := hide (fun W => hold_any W 1 1000000 c12)
        have HS := hide (fit_next (N := [c0, c1, c2, c3, c4, c5, c6, c7, c8, c9, c10, c11, c12, c13, c14]) (L := restFits_anyL) (k := 12) (n := c12) (a := 1) (b := 1000000) rfl)
        have HN := hide (fit_no (N := [c0, c1, c2, c3, c4, c5, c6, c7, c8, c9, c10, c11, c12, c13, c14]) (L := restFits_anyL) (k := 12) (m := 15) (n := c12) (a := 1) (b := 1000000) rfl (by decide))
        generalize inB c12 1 1000000 = bq at HI HS HN
        cases bq
        · have HX := hide (HN.out rfl)
          clear HS HN
          go_wp2_with fail
          refine (HI.out _).mono ?_
          rintro e w' ⟨rfl, bb⟩
          have B2 := hide (HB.out.trans (bb.mono HB.out.size))
          clear bb
          go_wp2
          go_ret
          exact ⟨ret_bool HX.out.symm, B2.out⟩
        · have HX : Hid (fitK [c0, c1, c2, c3, c4, c5, c6, c7, c8, c9, c10, c11, c12, c13, c14] restFits_anyL 13 = true) := hide (by rw [HS.out, H.out]; rfl)
          clear HS HN
          go_wp2_with fail
          refine (HI.out _).mono ?_
          rintro e w' ⟨rfl, bb⟩
          have B2 := hide (HB.out.trans (bb.mono HB.out.size))
          clear bb
          go_wp2
          exact ⟨⟨13, by omega, by go_num, HX, B2⟩, by simp [intOf]⟩
      · obtain ⟨q0, q1⟩ := (HR.out.below HB.out).at 13 1 1000000 rfl
        have ix : (Instr.index 108 (.agg #[.int .i64 c0, .int .i64 c1, .int .i64 c2, .int .i64 c3, .int .i64 c4, .int .i64 c5, .int .i64 c6, .int .i64 c7, .int .i64 c8, .int .i64 c9, .int .i64 c10, .int .i64 c11, .int .i64 c12, .int .i64 c13, .int .i64 c14]) (.int .i64 13)).run Tryz.prog wr = .ok (.int .i64 c13) wr := by kernel_rfl
        have HI := hide (fun W => hold_any W 1 1000000 c13)
        have HS := hide (fit_next (N := [c0, c1, c2, c3, c4, c5, c6, c7, c8, c9, c10, c11, c12, c13, c14]) (L := restFits_anyL) (k := 13) (n := c13) (a := 1) (b := 1000000) rfl)
        have HN := hide (fit_no (N := [c0, c1, c2, c3, c4, c5, c6, c7, c8, c9, c10, c11, c12, c13, c14]) (L := restFits_anyL) (k := 13) (m := 15) (n := c13) (a := 1) (b := 1000000) rfl (by decide))
        generalize inB c13 1 1000000 = bq at HI HS HN
        cases bq
        · have HX := hide (HN.out rfl)
          clear HS HN
          go_wp2_with fail
          refine (HI.out _).mono ?_
          rintro e w' ⟨rfl, bb⟩
          have B2 := hide (HB.out.trans (bb.mono HB.out.size))
          clear bb
          go_wp2
          go_ret
          exact ⟨ret_bool HX.out.symm, B2.out⟩
        · have HX : Hid (fitK [c0, c1, c2, c3, c4, c5, c6, c7, c8, c9, c10, c11, c12, c13, c14] restFits_anyL 14 = true) := hide (by rw [HS.out, H.out]; rfl)
          clear HS HN
          go_wp2_with fail
          refine (HI.out _).mono ?_
          rintro e w' ⟨rfl, bb⟩
          have B2 := hide (HB.out.trans (bb.mono HB.out.size))
          clear bb
          go_wp2
          exact ⟨⟨14, by omega, by go_num, HX, B2⟩, by simp [intOf]⟩
      · obtain ⟨q0, q1⟩ := (HR.out.below HB.out).at 14 1 256 rfl
        have ix : (Instr.index 108 (.agg #[.int .i64 c0, .int .i64 c1, .int .i64 c2, .int .i64 c3, .int .i64 c4, .int .i64 c5, .int .i64 c6, .int .i64 c7, .int .i64 c8, .int .i64 c9, .int .i64 c10, .int .i64 c11, .int .i64 c12, .int .i64 c13, .int .i64 c14]) (.int .i64 14)).run Tryz.prog wr = .ok (.int .i64 c14) wr := by kernel_rfl
        have HI := hide (fun W => hold_any W 1 256 c14)
        have HS := hide (fit_next (N := [c0, c1, c2, c3, c4, c5, c6, c7, c8, c9, c10, c11, c12, c13, c14]) (L := restFits_anyL) (k := 14) (n := c14) (a := 1) (b := 256) rfl)
        have HN := hide (fit_no (N := [c0, c1, c2, c3, c4, c5, c6, c7, c8, c9, c10, c11, c12, c13, c14]) (L := restFits_anyL) (k := 14) (m := 15) (n := c14) (a := 1) (b := 256) rfl (by decide))
        generalize inB c14 1 256 = bq at HI HS HN
        cases bq
        · have HX := hide (HN.out rfl)
          clear HS HN
          go_wp2_with fail
          refine (HI.out _).mono ?_
          rintro e w' ⟨rfl, bb⟩
          have B2 := hide (HB.out.trans (bb.mono HB.out.size))
          clear bb
          go_wp2
          go_ret
          exact ⟨ret_bool HX.out.symm, B2.out⟩
        · have HX : Hid (fitK [c0, c1, c2, c3, c4, c5, c6, c7, c8, c9, c10, c11, c12, c13, c14] restFits_anyL 15 = true) := hide (by rw [HS.out, H.out]; rfl)
          clear HS HN
          go_wp2_with fail
          refine (HI.out _).mono ?_
          rintro e w' ⟨rfl, bb⟩
          have B2 := hide (HB.out.trans (bb.mono HB.out.size))
          clear bb
          go_wp2
          exact ⟨⟨15, by omega, by go_num, HX, B2⟩, by simp [intOf]⟩
    · have HX : Hid (fitK [c0, c1, c2, c3, c4, c5, c6, c7, c8, c9, c10, c11, c12, c13, c14] restFits_anyL 15 = true) := hide (by rw [← H.out]; congr 1; omega)
      go_wp2
      go_ret
      exact ⟨ret_bool HX.out.symm, HB.out⟩
end Go.Proofs.YtacnnomkacfdbaaGreatDoor
/- Whether a configuration is right beside its hosts and routes: the program's. -/
namespace Go.Proofs.YtacnnomkacfdbaaGreatDoor
open Go.ChangeShapes Go.WideShapes Go.ChangeAt Go.RowKit

def restB (pa : ByteArray) (c0 c1 c2 c3 c4 c5 c6 c7 c8 c9 c10 c11 c12 c13 c14 : Int) : Bool := fitK [c0, c1, c2, c3, c4, c5, c6, c7, c8, c9, c10, c11, c12, c13, c14] restFits_anyL 15 && (decide (c5 ≤ c6) && (placeB pa || (decide (pa.size = 0) && decide (c0 = 0))))
set_option maxHeartbeats 4000000 in
set_option maxRecDepth 100000 in
theorem rest_any (w : World) (a1 : Option Addr) (n1 k1 : Nat) (a2 : Option Addr) (n2 k2 : Nat) (pa : ByteArray) (c0 c1 c2 c3 c4 c5 c6 c7 c8 c9 c10 c11 c12 c13 c14 : Int) (hR : RG w 2 restFits_anyL) (hm : MX w) :
    Calls Tryz.prog 27 #[.agg #[.slice a1 n1 k1, .slice a2 n2 k2, .int .i64 c0, .int .i64 c1, .int .i64 c2, .int .i64 c3, .string pa, .int .i64 c4, .int .i64 c5, .int .i64 c6, .int .i64 c7, .int .i64 c8, .int .i64 c9, .int .i64 c10, .int .i64 c11, .int .i64 c12, .int .i64 c13, .int .i64 c14]] w fun e w' => e = .returned (.bool (restB pa c0 c1 c2 c3 c4 c5 c6 c7 c8 c9 c10 c11 c12 c13 c14)) ∧ Below w.heap.size w w' := by
  have HF := hide (fun W h => restFits_any W a1 n1 k1 a2 n2 k2 pa c0 c1 c2 c3 c4 c5 c6 c7 c8 c9 c10 c11 c12 c13 c14 h)
  have HP := hide (fun W h => place_any pa W h)
  have HR := hide hR
  have HM := hide hm
  obtain ⟨R, hR2⟩ : ∃ R, restB pa c0 c1 c2 c3 c4 c5 c6 c7 c8 c9 c10 c11 c12 c13 c14 = R := ⟨_, rfl⟩
  rw [hR2]
  have HV := hide hR2
  unfold restB at HV
  clear hR hm hR2
  generalize fitK [c0, c1, c2, c3, c4, c5, c6, c7, c8, c9, c10, c11, c12, c13, c14] restFits_anyL 15 = b1 at HF HV
  generalize placeB pa = b2 at HP HV
  go_enter Tryz.func27, Tryz.ntmps27
  go_wp2_with fail
  have T0 := hide (Bl.one w #[.slice a1 n1 k1, .slice a2 n2 k2, .int .i64 c0, .int .i64 c1, .int .i64 c2, .int .i64 c3, .string pa, .int .i64 c4, .int .i64 c5, .int .i64 c6, .int .i64 c7, .int .i64 c8, .int .i64 c9, .int .i64 c10, .int .i64 c11, .int .i64 c12, .int .i64 c13, .int .i64 c14] 25)
  generalize (w.alloc (.cells #[.slice a1 n1 k1, .slice a2 n2 k2, .int .i64 c0, .int .i64 c1, .int .i64 c2, .int .i64 c3, .string pa, .int .i64 c4, .int .i64 c5, .int .i64 c6, .int .i64 c7, .int .i64 c8, .int .i64 c9, .int .i64 c10, .int .i64 c11, .int .i64 c12, .int .i64 c13, .int .i64 c14] 25)) = x at T0 ⊢
  refine (HF.out _ (HR.out.below T0.out.b)).mono ?_
  rintro e w1 ⟨rfl, bb⟩
  have T1 := hide (T0.out.below bb)
  clear bb T0 HF
  cases b1
  · go_wp2
    go_ret
    exact ⟨ret_bool HV.out, T1.out.b⟩
  · skip
    have m2 : w1.cell? ⟨w.heap.size, 2, none⟩ = some (.int .i64 c0) := T1.out.cell 0 rfl 2
    have m6 : w1.cell? ⟨w.heap.size, 6, none⟩ = some (.string pa) := T1.out.cell 0 rfl 6
    have m8 : w1.cell? ⟨w.heap.size, 8, none⟩ = some (.int .i64 c5) := T1.out.cell 0 rfl 8
    have m9 : w1.cell? ⟨w.heap.size, 9, none⟩ = some (.int .i64 c6) := T1.out.cell 0 rfl 9
    by_cases h1 : c5 ≤ c6
    · have HD := hide (decide_eq_true h1)
      go_wp2_with fail
      refine (HP.out _ (HM.out.below T1.out.b)).mono ?_
      rintro e w2 ⟨rfl, bb⟩
      have T2 := hide (T1.out.below bb)
      clear bb T1 m2 m6 m8 m9 HP
      cases b2
      · skip
        have m2 : w2.cell? ⟨w.heap.size, 2, none⟩ = some (.int .i64 c0) := T2.out.cell 0 rfl 2
        have m6 : w2.cell? ⟨w.heap.size, 6, none⟩ = some (.string pa) := T2.out.cell 0 rfl 6
        by_cases h2 : pa.size = 0
        · have he : pa.toList.isEmpty = true := by rw [Lib.toList_data, isEmpty_size]; exact decide_eq_true h2
          have HE : Hid (R = (c0 == 0)) := hide (by rw [← HV.out, HD.out, decide_eq_true h2, Bool.eq_iff_iff]; simp)
          clear h2 HV
          go_wp2
          go_ret
          exact ⟨ret_bool HE.out.symm, T2.out.b⟩
        · have he : pa.toList.isEmpty = false := by rw [Lib.toList_data, isEmpty_size]; exact decide_eq_false h2
          have HE : Hid (R = false) := hide (by rw [← HV.out, HD.out, decide_eq_false h2]; rfl)
          clear h2 HV
          go_wp2
          go_ret
          exact ⟨ret_bool HE.out.symm, T2.out.b⟩
      · have HE : Hid (R = true) := hide (by rw [← HV.out, HD.out]; rfl)
        go_wp2
        go_ret
        exact ⟨ret_bool HE.out.symm, T2.out.b⟩
    · have HE : Hid (R = false) := hide (by rw [← HV.out, decide_eq_false h1]; rfl)
      go_wp2
      go_ret
      exact ⟨ret_bool HE.out.symm, T1.out.b⟩
end Go.Proofs.YtacnnomkacfdbaaGreatDoor
/- Whether a configuration is right: the program's. -/
namespace Go.Proofs.YtacnnomkacfdbaaGreatDoor
open Go.ChangeShapes Go.WideShapes Go.ChangeAt Go.RowKit
set_option linter.unusedVariables false

/-- A configuration. -/
structure Cfg where
  H : List Hst
  R : List Rt
  pa : ByteArray
  c0 : Int
  c1 : Int
  c2 : Int
  c3 : Int
  c4 : Int
  c5 : Int
  c6 : Int
  c7 : Int
  c8 : Int
  c9 : Int
  c10 : Int
  c11 : Int
  c12 : Int
  c13 : Int
  c14 : Int
def cfgB (C : Cfg) : Bool := hostsB C.H && (routesB C.R (C.H.length : Int) && restB C.pa C.c0 C.c1 C.c2 C.c3 C.c4 C.c5 C.c6 C.c7 C.c8 C.c9 C.c10 C.c11 C.c12 C.c13 C.c14)
def cfgE (C : Cfg) : Int := if cfgB C then 0 else 3
def cfgV (a1 a2 : Option Addr) (k1 k2 : Nat) (C : Cfg) : Value := .agg #[.slice a1 C.H.length k1, .slice a2 C.R.length k2, .int .i64 C.c0, .int .i64 C.c1, .int .i64 C.c2, .int .i64 C.c3, .string C.pa, .int .i64 C.c4, .int .i64 C.c5, .int .i64 C.c6, .int .i64 C.c7, .int .i64 C.c8, .int .i64 C.c9, .int .i64 C.c10, .int .i64 C.c11, .int .i64 C.c12, .int .i64 C.c13, .int .i64 C.c14]
/-- A configuration that came in, and the tables of ranges. -/
structure InC (w : World) (a1 a2 : Option Addr) (k1 k2 : Nat) (C : Cfg) : Prop where
  h : HRow w (.slice a1 C.H.length k1) C.H
  r : RRow w (.slice a2 C.R.length k2) C.R
  hs : ∀ x ∈ C.H, x.nm.size ≤ 1048576
  rs : ∀ x ∈ C.R, x.Sz
  g0 : RG w 0 hostFits_anyL
  g1 : RG w 1 routeFits_anyL
  g2 : RG w 2 restFits_anyL
  mx : MX w
theorem InC.below {w w' : World} {a1 a2 : Option Addr} {k1 k2 : Nat} {C : Cfg} (h : InC w a1 a2 k1 k2 C) (b : Below w.heap.size w w') : InC w' a1 a2 k1 k2 C :=
  ⟨h.h.below b, h.r.below b, h.hs, h.rs, h.g0.below b, h.g1.below b, h.g2.below b, h.mx.below b⟩

set_option maxHeartbeats 4000000 in
set_option maxRecDepth 100000 in
theorem check_any (w : World) (a1 a2 : Option Addr) (k1 k2 : Nat) (C : Cfg) (h : InC w a1 a2 k1 k2 C) :
    Calls Tryz.prog 11 #[cfgV a1 a2 k1 k2 C] w fun e w' => e = .returned (.int .i64 (cfgE C)) ∧ Below w.heap.size w w' := by
  have H0 := hide h
  clear h
  obtain ⟨E, HE⟩ : ∃ E, Hid (cfgE C = E) := ⟨_, hide rfl⟩
  rw [HE.out]
  unfold cfgE cfgB at HE
  unfold cfgV
  obtain ⟨H, R, pa, c0, c1, c2, c3, c4, c5, c6, c7, c8, c9, c10, c11, c12, c13, c14⟩ := C
  simp only at HE ⊢
  have HH := hide (fun W b => hosts_any W _ H (H0.out.below (w' := W) b).h H0.out.hs (H0.out.below b).g0)
  have HR := hide (fun W b => routes_any W _ R (H.length : Int) (H0.out.below (w' := W) b).r H0.out.rs (H0.out.below b).g1 (H0.out.below b).mx)
  simp only at HH HR
  obtain ⟨n1, Hn1⟩ : ∃ n1, Hid (H.length = n1) := ⟨_, hide rfl⟩
  obtain ⟨n2, Hn2⟩ : ∃ n2, Hid (R.length = n2) := ⟨_, hide rfl⟩
  rw [Hn1.out] at HH HR HE ⊢
  rw [Hn2.out] at HR ⊢
  have HT := hide (fun W b => rest_any W a1 n1 k1 a2 n2 k2 pa c0 c1 c2 c3 c4 c5 c6 c7 c8 c9 c10 c11 c12 c13 c14 (H0.out.below (w' := W) b).g2 (H0.out.below b).mx)
  generalize hostsB H = b1 at HH HE
  generalize routesB R (n1 : Int) = b2 at HR HE
  generalize restB pa c0 c1 c2 c3 c4 c5 c6 c7 c8 c9 c10 c11 c12 c13 c14 = b3 at HT HE
  go_enter Tryz.func11, Tryz.ntmps11
  go_upto_region 1 with fail
  have T0 := hide (Bl.one w #[.slice a1 n1 k1, .slice a2 n2 k2, .int .i64 c0, .int .i64 c1, .int .i64 c2, .int .i64 c3, .string pa, .int .i64 c4, .int .i64 c5, .int .i64 c6, .int .i64 c7, .int .i64 c8, .int .i64 c9, .int .i64 c10, .int .i64 c11, .int .i64 c12, .int .i64 c13, .int .i64 c14] 25)
  generalize (w.alloc (.cells #[.slice a1 n1 k1, .slice a2 n2 k2, .int .i64 c0, .int .i64 c1, .int .i64 c2, .int .i64 c3, .string pa, .int .i64 c4, .int .i64 c5, .int .i64 c6, .int .i64 c7, .int .i64 c8, .int .i64 c9, .int .i64 c10, .int .i64 c11, .int .i64 c12, .int .i64 c13, .int .i64 c14] 25)) = x at T0 ⊢
  have m0 : x.cell? ⟨w.heap.size, 0, none⟩ = some (.slice a1 n1 k1) := T0.out.cell 0 rfl 0
  go_wp2_with fail
  refine (HH.out _ T0.out.b).mono ?_
  rintro e w1 ⟨rfl, bb⟩
  have T1 := hide (T0.out.below bb)
  clear bb T0 HH m0
  cases b1
  · have hE : E = 3 := by rw [← HE.out]; rfl
    subst hE
    go_wp2_with fail
    go_ret
    exact ⟨rfl, T1.out.b⟩
  · have m0 : w1.cell? ⟨w.heap.size, 0, none⟩ = some (.slice a1 n1 k1) := T1.out.cell 0 rfl 0
    have m1 : w1.cell? ⟨w.heap.size, 1, none⟩ = some (.slice a2 n2 k2) := T1.out.cell 0 rfl 1
    go_wp2_with fail
    refine (HR.out _ T1.out.b).mono ?_
    rintro e w2 ⟨rfl, bb⟩
    have T2 := hide (T1.out.below bb)
    clear bb T1 HR m0 m1
    cases b2
    · have hE : E = 3 := by rw [← HE.out]; rfl
      subst hE
      go_wp2_with fail
      go_ret
      exact ⟨rfl, T2.out.b⟩
    · have HRA2 : Hid (w2.rangeAt w.heap.size 0 ([.slice a1 n1 k1, .slice a2 n2 k2, .int .i64 c0, .int .i64 c1, .int .i64 c2, .int .i64 c3, .string pa, .int .i64 c4, .int .i64 c5, .int .i64 c6, .int .i64 c7, .int .i64 c8, .int .i64 c9, .int .i64 c10, .int .i64 c11, .int .i64 c12, .int .i64 c13, .int .i64 c14] : List Value)) := hide (by
        intro j v hv
        rw [Nat.zero_add]
        exact (T2.out.cell 0 rfl j).trans (by rw [List.getElem?_toArray]; exact hv))
      rename_i hKK
      refine hKK _ _ ?_
      clear hKK
      refine wpList_want (by kernel_rfl) fun K hK => ?_
      go_simp
      refine hK _ _ ?_
      clear hK K
      refine wpList_want (by kernel_rfl) fun K hK => ?_
      go_simp
      refine hK _ _ ?_
      clear hK K
      refine wpList_want (by kernel_rfl) fun K hK => ?_
      refine wp_load_mid 25 _ rfl w.heap.size 0 rfl ([.slice a1 n1 k1, .slice a2 n2 k2, .int .i64 c0, .int .i64 c1, .int .i64 c2, .int .i64 c3, .string pa, .int .i64 c4, .int .i64 c5, .int .i64 c6, .int .i64 c7, .int .i64 c8, .int .i64 c9, .int .i64 c10, .int .i64 c11, .int .i64 c12, .int .i64 c13, .int .i64 c14] : List Value) _ HRA2.out Tryz.underlying25 rfl (by kernel_rfl) (hK _ _ ?_)
      clear hK K HRA2
      simp only [Act.put, List.setIfInBounds_toArray, List.set_cons_zero, List.set_cons_succ]
      go_wp2_with fail
      refine (HT.out _ T2.out.b).mono ?_
      rintro e w3 ⟨rfl, bb⟩
      have T3 := hide (T2.out.below bb)
      clear bb T2 HT
      cases b3
      · have hE : E = 3 := by rw [← HE.out]; rfl
        subst hE
        go_wp2_with fail
        go_ret
        exact ⟨rfl, T3.out.b⟩
      · have hE : E = 0 := by rw [← HE.out]; rfl
        subst hE
        go_wp2_with fail
        go_ret
        exact ⟨rfl, T3.out.b⟩

/-- What a right configuration is within. -/
structure Wt (C : Cfg) : Prop where
  h0 : 1 ≤ C.H.length
  h1 : C.H.length ≤ 16
  q0 : 1 ≤ C.R.length
  q1 : C.R.length ≤ 16
  ca : ∀ x ∈ C.H, 1 ≤ x.ca ∧ x.ca ≤ 64
  at_ : ∀ x ∈ C.R, (0 ≤ x.r10 ∧ x.r10 ≤ 5) ∧ (0 ≤ x.r11 ∧ x.r11 ≤ 3)
  mh : 16 ≤ C.c8 ∧ C.c8 ≤ 65536
  mb : 0 ≤ C.c9 ∧ C.c9 ≤ 1048576
  mo : 1 ≤ C.c10 ∧ C.c10 ≤ 1048576
  cl : 1 ≤ C.c14 ∧ C.c14 ≤ 256
theorem fit_in {N : List Int} {L : List (Int × Int)} {k m : Nat} {n a b : Int} (hf : fitK N L m = true) (h : (N.zip L)[k]? = some (n, (a, b))) (hk : k < m) : a ≤ n ∧ n ≤ b := by
  cases hb : inB n a b with
  | true => unfold inB at hb; simpa using hb
  | false => rw [fit_no h hk hb] at hf; cases hf
theorem Wt.of {C : Cfg} (h : cfgB C = true) : Wt C := by
  unfold cfgB hostsB routesB restB at h
  simp only [Bool.and_eq_true, decide_eq_true_eq] at h
  obtain ⟨⟨⟨a0, a1⟩, a2, -⟩, ⟨⟨b0, b1⟩, b2⟩, c1, -, -⟩ := h
  refine ⟨a0, a1, b0, b1, fun x hx => ?_, fun x hx => ?_, fit_in c1 (k := 8) rfl (by omega), fit_in c1 (k := 9) rfl (by omega), fit_in c1 (k := 10) rfl (by omega), fit_in c1 (k := 14) rfl (by omega)⟩
  · have := (List.all_eq_true.1 a2) x hx
    unfold okH at this
    rw [Bool.and_eq_true] at this
    exact fit_in this.2 (k := 0) rfl (by omega)
  · have := (List.all_eq_true.1 b2) x hx
    unfold okR at this
    rw [Bool.and_eq_true, Bool.and_eq_true] at this
    exact ⟨fit_in this.2.2 (k := 10) rfl (by omega), fit_in this.2.2 (k := 11) rfl (by omega)⟩
end Go.Proofs.YtacnnomkacfdbaaGreatDoor
/- Find, whole: which route a request takes. -/
namespace Go.Proofs.YtacnnomkacfdbaaGreatDoor
open Go.ChangeShapes Go.WideShapes Go.ChangeAt Go.RowKit
set_option linter.unusedVariables false

theorem elI : El 39 3 (.int .i64 0) 8 := by
  refine ⟨Tryz.underlying39, ?_, rfl⟩
  have h : (Tryz.prog.info? 3).map (fun i => (i.zero, i.size, i.bytes)) = some (some (.int .i64 0), 1, 8) := by kernel_rfl
  obtain ⟨i, hi, hz⟩ := Option.map_eq_some_iff.1 h
  simp only [Prod.mk.injEq] at hz
  exact ⟨i, hi, hz.1, hz.2.1, hz.2.2⟩
def sN (O : List Nat) : List Value := O.map fun (k : Nat) => Value.int .i64 (k : Int)
theorem sN_len (O : List Nat) : (sN O).length = O.length := by simp [sN]
theorem sN_snoc (O : List Nat) (k : Nat) : sN (O ++ [k]) = sN O ++ [.int .i64 (k : Int)] := by simp [sN]
theorem irow_of {W : World} {base : Nat} {a : Option Addr} {n c : Nat} {O : List Nat} (h : Row W base 3 (.slice a n c) (sN O)) : IRow W (.slice a O.length c) (ofN O) := by
  have hl : (ofN O).length = O.length := by simp [ofN]
  refine ⟨a, c, by rw [hl], fun j hj => ?_⟩
  obtain ⟨g, rfl, hc⟩ := h.cell (j := j) (by rw [sN_len]; rw [hl] at hj; exact hj)
  have hv : (sN O)[j]? = some (.int .i64 (ofN O)[j]) := by
    rw [hl] at hj
    simp [sN, ofN, hj]
  rw [hv] at hc
  exact ⟨g, 0, rfl, World.block_lt_of_cell? W _ hc, by rw [Nat.zero_add]; exact hc⟩
/-- The cells of a configuration, its two rows apart. -/
def cfgCs (v1 v2 : Value) (C : Cfg) : List Value := [v1, v2, .int .i64 C.c0, .int .i64 C.c1, .int .i64 C.c2, .int .i64 C.c3, .string C.pa, .int .i64 C.c4, .int .i64 C.c5, .int .i64 C.c6, .int .i64 C.c7, .int .i64 C.c8, .int .i64 C.c9, .int .i64 C.c10, .int .i64 C.c11, .int .i64 C.c12, .int .i64 C.c13, .int .i64 C.c14]
theorem range_of {W : World} {b : Nat} {cs : List Value} {t : TypeId} (h : W.heap[b]? = some (.cells cs.toArray t (0, 0))) : W.rangeAt b 0 cs := by
  intro j v hv
  rw [Nat.zero_add, cell_at h, List.getElem?_toArray]
  exact hv
theorem cfg_same (a1 a2 : Option Addr) (k1 k2 : Nat) (C : Cfg) : cfgV a1 a2 k1 k2 C = .agg (cfgCs (.slice a1 C.H.length k1) (.slice a2 C.R.length k2) C).toArray := rfl
/-- Does a route take a request? -/
def takR (r : Rt) (me : ByteArray) (A : List (ByteArray × ByteArray)) (host path : ByteArray) : Bool := takB r.ho r.pf r.M r.hd r.va me A host path
/-- The numbers of those that do, among the first k. -/
def fndI (R : List Rt) (me : ByteArray) (A : List (ByteArray × ByteArray)) (host path : ByteArray) : List Nat :=
  (List.range R.length).filter fun k => match R[k]? with | some r => takR r me A host path | none => false
def fndT (R : List Rt) (me : ByteArray) (A : List (ByteArray × ByteArray)) (host path : ByteArray) (k : Nat) : List Nat :=
  (List.range k).filter fun k => match R[k]? with | some r => takR r me A host path | none => false
theorem fndT_snoc {R : List Rt} {me : ByteArray} {A : List (ByteArray × ByteArray)} {host path : ByteArray} {k : Nat} (hk : k < R.length) : fndT R me A host path (k + 1) = if takR R[k] me A host path then fndT R me A host path k ++ [k] else fndT R me A host path k := by
  unfold fndT
  rw [List.range_succ, List.filter_append]
  simp only [List.filter_cons, List.filter_nil, List.getElem?_eq_getElem hk]
  split <;> simp
theorem fndT_lt {R : List Rt} {me : ByteArray} {A : List (ByteArray × ByteArray)} {host path : ByteArray} {k : Nat} : ∀ x ∈ fndT R me A host path k, x < k := fun x hx => List.mem_range.1 (List.mem_filter.1 hx).1
def fndR (E e0 : Int) (R : List Rt) (host : ByteArray) (I : List Nat) : Int × Int := if E ≠ 0 then (0, E) else if e0 ≠ 0 then (0, e0) else if I = [] then (0, 6) else ((maxK R host I : Nat), 0)
theorem okR_sz {n : Int} {r : Rt} (h : okR n r = true) : r.pf.size ≤ 8192 ∧ r.M.length ≤ 8 := by
  unfold okR matB placeB pathB at h
  simp only [Bool.and_eq_true, decide_eq_true_eq] at h
  exact ⟨h.1.2.1.1.1, h.1.1⟩
theorem cfg_rts {C : Cfg} (h : cfgE C = 0) : C.R.length ≤ 16 ∧ ∀ x ∈ C.R, x.pf.size ≤ 8192 ∧ x.M.length ≤ 8 := by
  unfold cfgE at h
  cases hb : cfgB C with
  | false => rw [hb] at h; simp at h
  | true =>
    unfold cfgB routesB at hb
    simp only [Bool.and_eq_true, decide_eq_true_eq] at hb
    exact ⟨hb.2.1.1.2, fun x hx => okR_sz (List.all_eq_true.1 hb.2.1.2 x hx)⟩
theorem fndT_le (R : List Rt) (me : ByteArray) (A : List (ByteArray × ByteArray)) (host path : ByteArray) (k : Nat) : (fndT R me A host path k).length ≤ k := by
  unfold fndT
  exact Nat.le_trans (List.length_filter_le _ _) (Nat.le_of_eq List.length_range)
theorem rt_at {w : World} {v : Value} {L : List Rt} (h : RRow w v L) {k : Nat} (hk : k < L.length) : ∃ c g o a1 c1 a2 n2 c2, v = .slice (some ⟨g, o, none⟩) L.length c ∧ SRow w (.slice a1 L[k].M.length c1) L[k].M ∧ w.rangeAt g (o + k * 21) (rtC L[k] (.slice a1 L[k].M.length c1) (.slice a2 n2 c2)) := by
  obtain ⟨a, c, rfl, hc⟩ := h
  obtain ⟨g, o, m, q, rfl, hg, hm, ⟨a2, c2, e2, -⟩, cq, k0, k1, k2, k3, k4, k5, k6, k7, k8, k9, k10, k11, k12, k13, k14, k15, k16, k17, k18, k19, k20⟩ := hc k hk
  obtain ⟨a1, c1, e1, -⟩ := id hm
  rw [e1] at hm k2
  rw [e2] at k5
  refine ⟨c, g, o, a1, c1, a2, L[k].H.length, c2, rfl, hm, fun j v hv => ?_⟩
  match j, hv with
  | 0, hv => simp [rtC] at hv; subst hv; exact k0
  | 1, hv => simp [rtC] at hv; subst hv; exact k1
  | 2, hv => simp [rtC] at hv; subst hv; exact k2
  | 3, hv => simp [rtC] at hv; subst hv; exact k3
  | 4, hv => simp [rtC] at hv; subst hv; exact k4
  | 5, hv => simp [rtC] at hv; subst hv; exact k5
  | 6, hv => simp [rtC] at hv; subst hv; exact k6
  | 7, hv => simp [rtC] at hv; subst hv; exact k7
  | 8, hv => simp [rtC] at hv; subst hv; exact k8
  | 9, hv => simp [rtC] at hv; subst hv; exact k9
  | 10, hv => simp [rtC] at hv; subst hv; exact k10
  | 11, hv => simp [rtC] at hv; subst hv; exact k11
  | 12, hv => simp [rtC] at hv; subst hv; exact k12
  | 13, hv => simp [rtC] at hv; subst hv; exact k13
  | 14, hv => simp [rtC] at hv; subst hv; exact k14
  | 15, hv => simp [rtC] at hv; subst hv; exact k15
  | 16, hv => simp [rtC] at hv; subst hv; exact k16
  | 17, hv => simp [rtC] at hv; subst hv; exact k17
  | 18, hv => simp [rtC] at hv; subst hv; exact k18
  | 19, hv => simp [rtC] at hv; subst hv; exact k19
  | 20, hv => simp [rtC] at hv; subst hv; exact k20
  | j + 21, hv => simp [rtC] at hv
set_option maxHeartbeats 8000000 in
set_option maxRecDepth 100000 in
theorem find_any (w : World) (a1 a2 : Option Addr) (k1 k2 : Nat) (C : Cfg) (h : InC w a1 a2 k1 k2 C) (r : Bool) (me ta : ByteArray) (mi st : Int) (re : ByteArray) (l : Value) (A : List (ByteArray × ByteArray)) (hA : Flds w l A) (hs : Sm A)
    (host path : ByteArray) (e0 : Int) (hP : Places r me ta mi (allS A hostN) host path e0) (hh : host.size ≤ 1048576) :
    Calls Tryz.prog 6 #[cfgV a1 a2 k1 k2 C, .agg (hdC r me ta mi st re l)] w fun e w' => e = .returned (.tuple #[.int .i64 (fndR (cfgE C) e0 C.R host (fndI C.R me A host path)).1, .int .i64 (fndR (cfgE C) e0 C.R host (fndI C.R me A host path)).2]) ∧ Below w.heap.size w w' := by
  have HCK := hide (fun W (b : Below w.heap.size w W) => check_any W a1 a2 k1 k2 C (h.below (w' := W) b))
  have HPL := hide (fun W (b : Below w.heap.size w W) => hP W st re l A rfl (hA.below b) hs (h.mx.below b))
  have HRR : Hid (∀ W, Below w.heap.size w W → RRow W (.slice a2 C.R.length k2) C.R) := hide (fun W b => (h.below (w' := W) b).r)
  have HFL : Hid (∀ W, Below w.heap.size w W → Flds W l A) := hide (fun W b => hA.below b)
  have HRS := hide h.rs
  have HSM := hide hs
  have HHS := hide hh
  have HCR := hide (fun (he : cfgE C = 0) => cfg_rts he)
  obtain ⟨a0, c0, rfl, _, _⟩ := hA
  clear h hs hP hh
  obtain ⟨o1, o2, HO⟩ : ∃ o1 o2, Hid (fndR (cfgE C) e0 C.R host (fndI C.R me A host path) = (o1, o2)) := ⟨_, _, hide rfl⟩
  rw [HO.out]
  unfold fndR at HO
  rw [show fndI C.R me A host path = fndT C.R me A host path C.R.length from rfl] at HO
  dsimp only
  rw [cfg_same] at HCK ⊢
  unfold hdC at HPL ⊢
  have HC1 : Hid ((cfgCs (.slice a1 C.H.length k1) (.slice a2 C.R.length k2) C)[1]? = some (.slice a2 C.R.length k2)) := hide rfl
  have HC18 : (Tryz.prog.info? 25).map (·.size) = some (cfgCs (.slice a1 C.H.length k1) (.slice a2 C.R.length k2) C).length := by kernel_rfl
  generalize cfgCs (.slice a1 C.H.length k1) (.slice a2 C.R.length k2) C = CC at *
  generalize C.R = R at *
  generalize cfgE C = E at *
  clear C a1 k1
  obtain ⟨n, Hn⟩ : ∃ n, Hid (R.length = n) := ⟨_, hide rfl⟩
  rw [Hn.out] at HRR HC1 HO HCR
  go_enter Tryz.func6, Tryz.ntmps6
  go_upto_region 1 with fail
  have T0 := hide (Bl.two w CC.toArray 25 #[.bool r, .string me, .string ta, .int .i64 mi, .int .i64 st, .string re, .slice a0 A.length c0] 28)
  generalize ((w.alloc (.cells CC.toArray 25)).alloc (.cells #[.bool r, .string me, .string ta, .int .i64 mi, .int .i64 st, .string re, .slice a0 A.length c0] 28)) = x at T0 ⊢
  refine wp_region_lit ?_
  refine wpList_load_mid rfl 25 _ rfl w.heap.size 0 rfl CC _ (range_of (T0.out.hp 0 _ _ rfl)) Tryz.underlying25 rfl HC18 ?_
  simp only [Act.put, List.setIfInBounds_toArray, List.set_cons_zero, List.set_cons_succ]
  go_wp2_with fail
  refine (HCK.out x T0.out.b).mono ?_
  rintro e w1 ⟨rfl, bb⟩
  have T1 := hide (T0.out.below bb)
  clear bb T0 HCK
  by_cases hE : E = 0
  · have HY := hide HO.out
    rw [if_neg (fun h => h hE)] at HY
    obtain ⟨hR16, hRB⟩ := HCR.out hE
    subst hE
    clear HO HCR
    have n0 : w1.cell? ⟨w.heap.size + 1, 0, none⟩ = some (.bool r) := T1.out.cell 1 rfl 0
    have n1 : w1.cell? ⟨w.heap.size + 1, 1, none⟩ = some (.string me) := T1.out.cell 1 rfl 1
    have n2 : w1.cell? ⟨w.heap.size + 1, 2, none⟩ = some (.string ta) := T1.out.cell 1 rfl 2
    have n3 : w1.cell? ⟨w.heap.size + 1, 3, none⟩ = some (.int .i64 mi) := T1.out.cell 1 rfl 3
    have n4 : w1.cell? ⟨w.heap.size + 1, 4, none⟩ = some (.int .i64 st) := T1.out.cell 1 rfl 4
    have n5 : w1.cell? ⟨w.heap.size + 1, 5, none⟩ = some (.string re) := T1.out.cell 1 rfl 5
    have n6 : w1.cell? ⟨w.heap.size + 1, 6, none⟩ = some (.slice a0 A.length c0) := T1.out.cell 1 rfl 6
    go_wp2_with fail
    refine (HPL.out _ T1.out.b).mono ?_
    rintro e w2 ⟨rfl, bb⟩
    have T2 := hide (T1.out.below bb)
    clear bb T1 HPL n0 n1 n2 n3 n4 n5 n6
    go_upto_region 5 with fail
    have U2 := hide (Bl.one w2 #[.string host] 9)
    have T3 := hide (T2.out.below U2.out.b)
    generalize (w2.alloc (.cells #[.string host] 9)) = w3 at U2 T3 ⊢
    clear T2
    by_cases h0 : e0 = 0
    · have HZ := hide HY.out
      rw [if_neg (fun h => h h0)] at HZ
      subst h0
      clear HY
      have c1 : w3.cell? ⟨w.heap.size, 1, none⟩ = some (.slice a2 n k2) := (T3.out.cell 0 rfl 1).trans (by rw [List.getElem?_toArray]; exact HC1.out)
      go_wp2
      clear c1
      go_loopw [30, 10] (fun i v wr => ∃ k : Nat, k ≤ n ∧ i = .int .i64 k ∧ Hid (Row wr w3.heap.size 3 v (sN (fndT R me A host path k))) ∧ Hid (Below w3.heap.size w3 wr)) (fun i _ _ => n - (intOf i).toNat)
      case atStart => exact ⟨0, Nat.zero_le _, rfl, hide (Row.nil _ _ _), hide (Below.refl _ _)⟩
      case round =>
        obtain ⟨k, hk, rfl, HR, HB⟩ := hrel
        by_cases hlt : k < n
        · have hkl : k < R.length := by rw [Hn.out]; exact hlt
          have HB0 := hide (T3.out.b.trans (HB.out.mono T3.out.b.size))
          obtain ⟨c8, g, o, b1, d1, b2, l2, d2, e9, HM1, rg⟩ := rt_at (HRR.out wr HB0.out) hkl
          rw [Hn.out] at e9
          simp only [Value.slice.injEq, true_and] at e9
          obtain ⟨rfl, rfl⟩ := e9
          have HSR := hide HM1
          have HRG := hide rg
          clear HM1 rg
          have HNX := hide (fndT_snoc (me := me) (A := A) (host := host) (path := path) hkl)
          have HSZ := hide (HRS.out _ (List.getElem_mem hkl))
          have HPM := hide (hRB _ (List.getElem_mem hkl))
          have hle := fndT_le R me A host path k
          generalize fndT R me A host path k = O at *
          generalize R[k] = y at *
          have HTK : Hid (∀ W, Below wr.heap.size wr W → Calls Tryz.prog 10 #[.agg #[.string y.ho, .string y.pf, .slice b1 y.M.length d1, .string y.hd, .string y.va], .agg #[.bool r, .string me, .string ta, .int .i64 mi, .int .i64 st, .string re, .slice a0 A.length c0], .string host, .string path] W fun e w' => e = .returned (.bool (takR y me A host path)) ∧ Below W.heap.size W w') := hide (fun W hW =>
            takes_any W y.ho y.pf (.slice b1 y.M.length d1) y.M y.hd y.va r me ta mi st re (.slice a0 A.length c0) A host path (HSR.out.below hW) (by have := HPM.out.2; omega) (HFL.out W (HB0.out.trans (hW.mono HB0.out.size))) HSM.out HSZ.out.ho (by have := HPM.out.1; omega) HSZ.out.hd HHS.out)
          have e0 : (rtC y (.slice b1 y.M.length d1) (.slice b2 l2 d2))[0]? = some (.string y.ho) := rfl
          have e1 : (rtC y (.slice b1 y.M.length d1) (.slice b2 l2 d2))[1]? = some (.string y.pf) := rfl
          have e2 : (rtC y (.slice b1 y.M.length d1) (.slice b2 l2 d2))[2]? = some (.slice b1 y.M.length d1) := rfl
          have e3 : (rtC y (.slice b1 y.M.length d1) (.slice b2 l2 d2))[3]? = some (.string y.hd) := rfl
          have e4 : (rtC y (.slice b1 y.M.length d1) (.slice b2 l2 d2))[4]? = some (.string y.va) := rfl
          have E0 := hide e0
          have E1 := hide e1
          have E2 := hide e2
          have E3 := hide e3
          have E4 := hide e4
          have X1 := rtC_one y b1 y.M.length d1 b2 l2 d2
          have X21 := rtC_len y (.slice b1 y.M.length d1) (.slice b2 l2 d2)
          clear e0 e1 e2 e3 e4 hkl HSR
          generalize takR y me A host path = b at HTK HNX
          generalize rtC y (.slice b1 y.M.length d1) (.slice b2 l2 d2) = RC at *
          generalize y.M.length = ml at *
          generalize y.ho = y0 at *
          generalize y.pf = y1 at *
          generalize y.hd = y3 at *
          generalize y.va = y4 at *
          have RC21 : RC.toArray.size = 21 := by rw [List.size_toArray, X21]
          obtain ⟨a6, c6, rfl, _, _⟩ := HR.out.shape
          rw [sN_len] at *
          go_upto_region 10 with fail
          refine wp_region_lit ?_
          refine wpList_plain rfl fun K hK => ?_
          go_simp
          refine hK _ _ ?_
          clear hK K
          refine wpList_plain rfl fun K hK => ?_
          go_simp
          refine hK _ _ ?_
          clear hK K
          refine wpList_load_mid rfl 41 _ rfl g (o + k * 21) rfl RC _ HRG.out Tryz.underlying41 rfl (by rw [X21]; kernel_rfl) ?_
          simp only [Act.put, List.setIfInBounds_toArray, List.set_cons_zero, List.set_cons_succ]
          refine wpList_plain rfl fun K hK => ?_
          go_simp
          refine hK _ _ ?_
          clear hK K
          refine wpList_plain rfl fun K hK => ?_
          go_simp
          refine hK _ _ ?_
          clear hK K
          refine wpList_store_new rfl 41 _ _ rfl _ RC.toArray rfl rfl (by rw [RC21]; kernel_rfl) (by rw [RC21]; rfl) X1 ?_
          simp only [Act.put]
          refine wpList_nil ?_
          clear HRG
          go_upto_region 11 with fail
          have U1 := hide (Bl.one wr RC.toArray 41)
          have HB1 := hide (HB.out.trans (U1.out.b.mono HB.out.size))
          have T4 := hide (T3.out.below HB1.out)
          have U4 := hide (U2.out.below HB1.out)
          have HR1 := hide (HR.out.below U1.out.b)
          generalize (wr.alloc (.cells RC.toArray 41)) = x1 at U1 HB1 T4 U4 HR1 ⊢
          have d0 : x1.cell? ⟨wr.heap.size, 0, none⟩ = some (.string y0) := (U1.out.cell 0 rfl 0).trans (by rw [List.getElem?_toArray]; exact E0.out)
          have d1' : x1.cell? ⟨wr.heap.size, 1, none⟩ = some (.string y1) := (U1.out.cell 0 rfl 1).trans (by rw [List.getElem?_toArray]; exact E1.out)
          have d2' : x1.cell? ⟨wr.heap.size, 2, none⟩ = some (.slice b1 ml d1) := (U1.out.cell 0 rfl 2).trans (by rw [List.getElem?_toArray]; exact E2.out)
          have d3 : x1.cell? ⟨wr.heap.size, 3, none⟩ = some (.string y3) := (U1.out.cell 0 rfl 3).trans (by rw [List.getElem?_toArray]; exact E3.out)
          have d4 : x1.cell? ⟨wr.heap.size, 4, none⟩ = some (.string y4) := (U1.out.cell 0 rfl 4).trans (by rw [List.getElem?_toArray]; exact E4.out)
          have n0 : x1.cell? ⟨w.heap.size + 1, 0, none⟩ = some (.bool r) := T4.out.cell 1 rfl 0
          have n1 : x1.cell? ⟨w.heap.size + 1, 1, none⟩ = some (.string me) := T4.out.cell 1 rfl 1
          have n2 : x1.cell? ⟨w.heap.size + 1, 2, none⟩ = some (.string ta) := T4.out.cell 1 rfl 2
          have n3 : x1.cell? ⟨w.heap.size + 1, 3, none⟩ = some (.int .i64 mi) := T4.out.cell 1 rfl 3
          have n4 : x1.cell? ⟨w.heap.size + 1, 4, none⟩ = some (.int .i64 st) := T4.out.cell 1 rfl 4
          have n5 : x1.cell? ⟨w.heap.size + 1, 5, none⟩ = some (.string re) := T4.out.cell 1 rfl 5
          have n6 : x1.cell? ⟨w.heap.size + 1, 6, none⟩ = some (.slice a0 A.length c0) := T4.out.cell 1 rfl 6
          have hh0 : x1.cell? ⟨w2.heap.size, 0, none⟩ = some (.string host) := U4.out.cell 0 rfl 0
          go_wp2_with fail
          refine (HTK.out _ U1.out.b).mono ?_
          rintro e w5 ⟨rfl, bb⟩
          have HB2 := hide (HB1.out.trans (bb.mono HB1.out.size))
          have HR2 := hide (HR1.out.below bb)
          clear bb d0 d1' d2' d3 d4 n0 n1 n2 n3 n4 n5 n6 hh0 U1 HB1 HR1 HTK T4 U4
          cases b with
          | true =>
            have HX := HNX.out
            rw [if_pos rfl] at HX
            go_wp2_with (at_builtin; apply Hid.out)
            unfold Hid
            refine wpList_append_one elI rfl _ _ rfl w5 w3.heap.size (.slice a6 O.length c6) (sN O) (.int .i64 k) rfl rfl HR2.out rfl (by rw [sN_len]; omega) (by rw [sN_len]; omega) HB2.out.size ?_
            intro v' w6 O' B'
            have HR3 : Hid (Row w6 w3.heap.size 3 v' (sN (fndT R me A host path (k + 1)))) := hide (by rw [HX, sN_snoc]; exact O')
            have HB3 := hide (HB2.out.trans B')
            clear O' B' HX
            go_wp2
            exact ⟨⟨k + 1, by omega, by go_num, HR3, HB3⟩, by simp [intOf]; omega⟩
          | false =>
            have HX := HNX.out
            rw [if_neg (by decide)] at HX
            have HR3 : Hid (Row w5 w3.heap.size 3 (.slice a6 O.length c6) (sN (fndT R me A host path (k + 1)))) := hide (by rw [HX]; exact HR2.out)
            clear HX
            go_wp2
            exact ⟨⟨k + 1, by omega, by go_num, HR3, HB2⟩, by simp [intOf]; omega⟩
        · obtain rfl : k = n := by omega
          have HLT := hide (fndT_lt (R := R) (me := me) (A := A) (host := host) (path := path) (k := k))
          have hle := fndT_le R me A host path k
          generalize fndT R me A host path k = O at *
          obtain ⟨a6, c6, rfl, _, _⟩ := HR.out.shape
          rw [sN_len] at *
          have HB0 := hide (T3.out.b.trans (HB.out.mono T3.out.b.size))
          by_cases hO : O = []
          · have HX := HZ.out
            rw [if_pos hO] at HX
            cases HX
            have t0 : ((O.length : Int) == 0) = true := beq_iff_eq.2 (by rw [hO]; rfl)
            go_wp2
            go_ret2
            exact ⟨rfl, HB0.out⟩
          · have HX := HZ.out
            rw [if_neg hO] at HX
            have hp := List.length_pos_iff.2 hO
            have t0 : ((O.length : Int) == 0) = false := beq_eq_false_iff_ne.2 (by omega)
            have T4 := hide (T3.out.below HB.out)
            have U4 := hide (U2.out.below HB.out)
            have HMX := hide (max_any wr w.heap.size w2.heap.size a2 k2 R host (.slice a6 O.length c6) O (irow_of HR.out) hO (fun x hx => by rw [Hn.out]; exact HLT.out x hx) (by omega) (by rw [Hn.out]; exact HRR.out wr HB0.out)
              (by rw [Hn.out]; exact (T4.out.cell 0 rfl 1).trans (by rw [List.getElem?_toArray]; exact HC1.out)) (U4.out.cell 0 rfl 0) (fun x hx => (HRS.out x hx).ho) HHS.out)
            generalize maxK R host O = mk at HMX HX
            cases HX
            clear hp hO HZ T4 U4
            go_wp2_with fail
            refine HMX.out.mono ?_
            rintro e w5 ⟨rfl, bb⟩
            have HB2 := hide (HB0.out.trans (bb.mono HB0.out.size))
            clear bb
            go_wp2
            go_ret2
            exact ⟨rfl, HB2.out⟩
    · have HZ := HY.out
      rw [if_pos h0] at HZ
      have t0 : (e0 == 0) = false := beq_eq_false_iff_ne.2 h0
      cases HZ
      clear h0 HY
      go_wp2
      go_ret2
      exact ⟨rfl, T3.out.b⟩
  · have HY := HO.out
    rw [if_pos hE] at HY
    have t0 : (E == 0) = false := beq_eq_false_iff_ne.2 hE
    cases HY
    clear hE HO HCR
    go_wp2
    go_ret2
    exact ⟨rfl, T1.out.b⟩
end Go.Proofs.YtacnnomkacfdbaaGreatDoor
