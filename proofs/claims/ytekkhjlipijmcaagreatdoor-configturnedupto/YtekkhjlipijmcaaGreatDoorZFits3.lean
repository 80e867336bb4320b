/- Whether a configuration's own numbers are in their ranges: the program's. -/
import Derived.Test.YtekkhjlipijmcaaGreatDoorZFits
namespace Go.Proofs.YtekkhjlipijmcaaGreatDoor
open Go.ChangeShapes Go.WideShapes Go.ChangeAt Go.RowKit

def restFits_anyL : List (Int × Int) := [(0, 1000000), (1, 1000000), (1, 100), (1, 100), (0, 1000), (1, 1000000), (1, 1000000), (0, 100), (16, 65536), (0, 1048576), (1, 1048576), (1, 1000000), (1, 1000000), (1, 1000000), (1, 256)]
set_option maxHeartbeats 4000000 in
set_option maxRecDepth 100000 in
theorem restFits_any (w : World) (a1 : Option Addr) (n1 k1 : Nat) (a2 : Option Addr) (n2 k2 : Nat) (pa : ByteArray) (c0 c1 c2 c3 c4 c5 c6 c7 c8 c9 c10 c11 c12 c13 c14 : Int) (hR : RG w 2 restFits_anyL) :
    Calls Tryz.prog 32 #[.agg #[.slice a1 n1 k1, .slice a2 n2 k2, .int .i64 c0, .int .i64 c1, .int .i64 c2, .int .i64 c3, .string pa, .int .i64 c4, .int .i64 c5, .int .i64 c6, .int .i64 c7, .int .i64 c8, .int .i64 c9, .int .i64 c10, .int .i64 c11, .int .i64 c12, .int .i64 c13, .int .i64 c14]] w fun e w' => e = .returned (.bool (fitK [c0, c1, c2, c3, c4, c5, c6, c7, c8, c9, c10, c11, c12, c13, c14] restFits_anyL 15)) ∧ Below w.heap.size w w' := by
  have HR := hide hR
  clear hR
  go_enter Tryz.func32, Tryz.ntmps32
  go_wp2
  have T0 := hide (Bl.one w #[.slice a1 n1 k1, .slice a2 n2 k2, .int .i64 c0, .int .i64 c1, .int .i64 c2, .int .i64 c3, .string pa, .int .i64 c4, .int .i64 c5, .int .i64 c6, .int .i64 c7, .int .i64 c8, .int .i64 c9, .int .i64 c10, .int .i64 c11, .int .i64 c12, .int .i64 c13, .int .i64 c14] 25)
  generalize (w.alloc (.cells #[.slice a1 n1 k1, .slice a2 n2 k2, .int .i64 c0, .int .i64 c1, .int .i64 c2, .int .i64 c3, .string pa, .int .i64 c4, .int .i64 c5, .int .i64 c6, .int .i64 c7, .int .i64 c8, .int .i64 c9, .int .i64 c10, .int .i64 c11, .int .i64 c12, .int .i64 c13, .int .i64 c14] 25)) = x at T0 ⊢
  go_loopw [36] (fun i wr => ∃ k : Nat, k ≤ 15 ∧ i = .int .i64 k ∧ Hid (fitK [c0, c1, c2, c3, c4, c5, c6, c7, c8, c9, c10, c11, c12, c13, c14] restFits_anyL k = true) ∧ Hid (Below w.heap.size w wr)) (fun i _ => 15 - (intOf i).toNat)
  case atStart => exact ⟨0, Nat.zero_le _, rfl, hide rfl, hide T0.out.b⟩
  case round =>
    obtain ⟨k, hk, rfl, H, HB⟩ := hrel
    by_cases hlt : k < 15
    · have hcs : k = 0 ∨ k = 1 ∨ k = 2 ∨ k = 3 ∨ k = 4 ∨ k = 5 ∨ k = 6 ∨ k = 7 ∨ k = 8 ∨ k = 9 ∨ k = 10 ∨ k = 11 ∨ k = 12 ∨ k = 13 ∨ k = 14 := by omega
      rcases hcs with rfl | rfl | rfl | rfl | rfl | rfl | rfl | rfl | rfl | rfl | rfl | rfl | rfl | rfl | rfl
      · obtain ⟨q0, q1⟩ := (HR.out.below HB.out).at 0 0 1000000 rfl
        have ix : (Instr.index 74 (.agg #[.int .i64 c0, .int .i64 c1, .int .i64 c2, .int .i64 c3, .int .i64 c4, .int .i64 c5, .int .i64 c6, .int .i64 c7, .int .i64 c8, .int .i64 c9, .int .i64 c10, .int .i64 c11, .int .i64 c12, .int .i64 c13, .int .i64 c14]) (.int .i64 0)).run Tryz.prog wr = .ok (.int .i64 c0) wr := by kernel_rfl
        have HI := hide (fun W => hold_any W 0 1000000 c0)
        have HS := hide (fit_next (N := [c0, c1, c2, c3, c4, c5, c6, c7, c8, c9, c10, c11, c12, c13, c14]) (L := restFits_anyL) (k := 0) (n := c0) (a := 0) (b := 1000000) rfl)
        have HN := hide (fit_no (N := [c0, c1, c2, c3, c4, c5, c6, c7, c8, c9, c10, c11, c12, c13, c14]) (L := restFits_anyL) (k := 0) (m := 15) (n := c0) (a := 0) (b := 1000000) rfl (by decide))
        generalize inB c0 0 1000000 = bq at HI HS HN
        cases bq
        · have HX := hide (HN.out rfl)
          clear HS HN
          go_wp2_with fail
          refine (HI.out _).mono ?_
          rintro e w' ⟨rfl, bb⟩
          have B2 := hide (HB.out.trans (bb.mono HB.out.size))
          clear bb
          go_wp2
          go_ret
          exact ⟨ret_bool HX.out.symm, B2.out⟩
        · have HX : Hid (fitK [c0, c1, c2, c3, c4, c5, c6, c7, c8, c9, c10, c11, c12, c13, c14] restFits_anyL 1 = true) := hide (by rw [HS.out, H.out]; rfl)
          clear HS HN
          go_wp2_with fail
          refine (HI.out _).mono ?_
          rintro e w' ⟨rfl, bb⟩
          have B2 := hide (HB.out.trans (bb.mono HB.out.size))
          clear bb
          go_wp2
          exact ⟨⟨1, by omega, by go_num, HX, B2⟩, by simp [intOf]⟩
      · obtain ⟨q0, q1⟩ := (HR.out.below HB.out).at 1 1 1000000 rfl
        have ix : (Instr.index 74 (.agg #[.int .i64 c0, .int .i64 c1, .int .i64 c2, .int .i64 c3, .int .i64 c4, .int .i64 c5, .int .i64 c6, .int .i64 c7, .int .i64 c8, .int .i64 c9, .int .i64 c10, .int .i64 c11, .int .i64 c12, .int .i64 c13, .int .i64 c14]) (.int .i64 1)).run Tryz.prog wr = .ok (.int .i64 c1) wr := by kernel_rfl
        have HI := hide (fun W => hold_any W 1 1000000 c1)
        have HS := hide (fit_next (N := [c0, c1, c2, c3, c4, c5, c6, c7, c8, c9, c10, c11, c12, c13, c14]) (L := restFits_anyL) (k := 1) (n := c1) (a := 1) (b := 1000000) rfl)
        have HN := hide (fit_no (N := [c0, c1, c2, c3, c4, c5, c6, c7, c8, c9, c10, c11, c12, c13, c14]) (L := restFits_anyL) (k := 1) (m := 15) (n := c1) (a := 1) (b := 1000000) rfl (by decide))
        generalize inB c1 1 1000000 = bq at HI HS HN
        cases bq
        · have HX := hide (HN.out rfl)
          clear HS HN
          go_wp2_with fail
          refine (HI.out _).mono ?_
          rintro e w' ⟨rfl, bb⟩
          have B2 := hide (HB.out.trans (bb.mono HB.out.size))
          clear bb
          go_wp2
          go_ret
          exact ⟨ret_bool HX.out.symm, B2.out⟩
        · have HX : Hid (fitK [c0, c1, c2, c3, c4, c5, c6, c7, c8, c9, c10, c11, c12, c13, c14] restFits_anyL 2 = true) := hide (by rw [HS.out, H.out]; rfl)
          clear HS HN
          go_wp2_with fail
          refine (HI.out _).mono ?_
          rintro e w' ⟨rfl, bb⟩
          have B2 := hide (HB.out.trans (bb.mono HB.out.size))
          clear bb
          go_wp2
          exact ⟨⟨2, by omega, by go_num, HX, B2⟩, by simp [intOf]⟩
      · obtain ⟨q0, q1⟩ := (HR.out.below HB.out).at 2 1 100 rfl
        have ix : (Instr.index 74 (.agg #[.int .i64 c0, .int .i64 c1, .int .i64 c2, .int .i64 c3, .int .i64 c4, .int .i64 c5, .int .i64 c6, .int .i64 c7, .int .i64 c8, .int .i64 c9, .int .i64 c10, .int .i64 c11, .int .i64 c12, .int .i64 c13, .int .i64 c14]) (.int .i64 2)).run Tryz.prog wr = .ok (.int .i64 c2) wr := by kernel_rfl
        have HI := hide (fun W => hold_any W 1 100 c2)
        have HS := hide (fit_next (N := [c0, c1, c2, c3, c4, c5, c6, c7, c8, c9, c10, c11, c12, c13, c14]) (L := restFits_anyL) (k := 2) (n := c2) (a := 1) (b := 100) rfl)
        have HN := hide (fit_no (N := [c0, c1, c2, c3, c4, c5, c6, c7, c8, c9, c10, c11, c12, c13, c14]) (L := restFits_anyL) (k := 2) (m := 15) (n := c2) (a := 1) (b := 100) rfl (by decide))
        generalize inB c2 1 100 = bq at HI HS HN
        cases bq
        · have HX := hide (HN.out rfl)
          clear HS HN
          go_wp2_with fail
          refine (HI.out _).mono ?_
          rintro e w' ⟨rfl, bb⟩
          have B2 := hide (HB.out.trans (bb.mono HB.out.size))
          clear bb
          go_wp2
          go_ret
          exact ⟨ret_bool HX.out.symm, B2.out⟩
        · have HX : Hid (fitK [c0, c1, c2, c3, c4, c5, c6, c7, c8, c9, c10, c11, c12, c13, c14] restFits_anyL 3 = true) := hide (by rw [HS.out, H.out]; rfl)
          clear HS HN
          go_wp2_with fail
          refine (HI.out _).mono ?_
          rintro e w' ⟨rfl, bb⟩
          have B2 := hide (HB.out.trans (bb.mono HB.out.size))
          clear bb
          go_wp2
          exact ⟨⟨3, by omega, by go_num, HX, B2⟩, by simp [intOf]⟩
      · obtain ⟨q0, q1⟩ := (HR.out.below HB.out).at 3 1 100 rfl
        have ix : (Instr.index 74 (.agg #[.int .i64 c0, .int .i64 c1, .int .i64 c2, .int .i64 c3, .int .i64 c4, .int .i64 c5, .int .i64 c6, .int .i64 c7, .int .i64 c8, .int .i64 c9, .int .i64 c10, .int .i64 c11, .int .i64 c12, .int .i64 c13, .int .i64 c14]) (.int .i64 3)).run Tryz.prog wr = .ok (.int .i64 c3) wr := by kernel_rfl
        have HI := hide (fun W => hold_any W 1 100 c3)
        have HS := hide (fit_next (N := [c0, c1, c2, c3, c4, c5, c6, c7, c8, c9, c10, c11, c12, c13, c14]) (L := restFits_anyL) (k := 3) (n := c3) (a := 1) (b := 100) rfl)
        have HN := hide (fit_no (N := [c0, c1, c2, c3, c4, c5, c6, c7, c8, c9, c10, c11, c12, c13, c14]) (L := restFits_anyL) (k := 3) (m := 15) (n := c3) (a := 1) (b := 100) rfl (by decide))
        generalize inB c3 1 100 = bq at HI HS HN
        cases bq
        · have HX := hide (HN.out rfl)
          clear HS HN
          go_wp2_with fail
          refine (HI.out _).mono ?_
          rintro e w' ⟨rfl, bb⟩
          have B2 := hide (HB.out.trans (bb.mono HB.out.size))
          clear bb
          go_wp2
          go_ret
          exact ⟨ret_bool HX.out.symm, B2.out⟩
        · have HX : Hid (fitK [c0, c1, c2, c3, c4, c5, c6, c7, c8, c9, c10, c11, c12, c13, c14] restFits_anyL 4 = true) := hide (by rw [HS.out, H.out]; rfl)
          clear HS HN
          go_wp2_with fail
          refine (HI.out _).mono ?_
          rintro e w' ⟨rfl, bb⟩
          have B2 := hide (HB.out.trans (bb.mono HB.out.size))
          clear bb
          go_wp2
          exact ⟨⟨4, by omega, by go_num, HX, B2⟩, by simp [intOf]⟩
      · obtain ⟨q0, q1⟩ := (HR.out.below HB.out).at 4 0 1000 rfl
        have ix : (Instr.index 74 (.agg #[.int .i64 c0, .int .i64 c1, .int .i64 c2, .int .i64 c3, .int .i64 c4, .int .i64 c5, .int .i64 c6, .int .i64 c7, .int .i64 c8, .int .i64 c9, .int .i64 c10, .int .i64 c11, .int .i64 c12, .int .i64 c13, .int .i64 c14]) (.int .i64 4)).run Tryz.prog wr = .ok (.int .i64 c4) wr := by kernel_rfl
        have HI := hide (fun W => hold_any W 0 1000 c4)
        have HS := hide (fit_next (N := [c0, c1, c2, c3, c4, c5, c6, c7, c8, c9, c10, c11, c12, c13, c14]) (L := restFits_anyL) (k := 4) (n := c4) (a := 0) (b := 1000) rfl)
        have HN := hide (fit_no (N := [c0, c1, c2, c3, c4, c5, c6, c7, c8, c9, c10, c11, c12, c13, c14]) (L := restFits_anyL) (k := 4) (m := 15) (n := c4) (a := 0) (b := 1000) rfl (by decide))
        generalize inB c4 0 1000 = bq at HI HS HN
        cases bq
        · have HX := hide (HN.out rfl)
          clear HS HN
          go_wp2_with fail
          refine (HI.out _).mono ?_
          rintro e w' ⟨rfl, bb⟩
          have B2 := hide (HB.out.trans (bb.mono HB.out.size))
          clear bb
          go_wp2
          go_ret
          exact ⟨ret_bool HX.out.symm, B2.out⟩
        · have HX : Hid (fitK [c0, c1, c2, c3, c4, c5, c6, c7, c8, c9, c10, c11, c12, c13, c14] restFits_anyL 5 = true) := hide (by rw [HS.out, H.out]; rfl)
          clear HS HN
          go_wp2_with fail
          refine (HI.out _).mono ?_
          rintro e w' ⟨rfl, bb⟩
          have B2 := hide (HB.out.trans (bb.mono HB.out.size))
          clear bb
          go_wp2
          exact ⟨⟨5, by omega, by go_num, HX, B2⟩, by simp [intOf]⟩
      · obtain ⟨q0, q1⟩ := (HR.out.below HB.out).at 5 1 1000000 rfl
        have ix : (Instr.index 74 (.agg #[.int .i64 c0, .int .i64 c1, .int .i64 c2, .int .i64 c3, .int .i64 c4, .int .i64 c5, .int .i64 c6, .int .i64 c7, .int .i64 c8, .int .i64 c9, .int .i64 c10, .int .i64 c11, .int .i64 c12, .int .i64 c13, .int .i64 c14]) (.int .i64 5)).run Tryz.prog wr = .ok (.int .i64 c5) wr := by kernel_rfl
        have HI := hide (fun W => hold_any W 1 1000000 c5)
        have HS := hide (fit_next (N := [c0, c1, c2, c3, c4, c5, c6, c7, c8, c9, c10, c11, c12, c13, c14]) (L := restFits_anyL) (k := 5) (n := c5) (a := 1) (b := 1000000) rfl)
        have HN := hide (fit_no (N := [c0, c1, c2, c3, c4, c5, c6, c7, c8, c9, c10, c11, c12, c13, c14]) (L := restFits_anyL) (k := 5) (m := 15) (n := c5) (a := 1) (b := 1000000) rfl (by decide))
        generalize inB c5 1 1000000 = bq at HI HS HN
        cases bq
        · have HX := hide (HN.out rfl)
          clear HS HN
          go_wp2_with fail
          refine (HI.out _).mono ?_
          rintro e w' ⟨rfl, bb⟩
          have B2 := hide (HB.out.trans (bb.mono HB.out.size))
          clear bb
          go_wp2
          go_ret
          exact ⟨ret_bool HX.out.symm, B2.out⟩
        · have HX : Hid (fitK [c0, c1, c2, c3, c4, c5, c6, c7, c8, c9, c10, c11, c12, c13, c14] restFits_anyL 6 = true) := hide (by rw [HS.out, H.out]; rfl)
          clear HS HN
          go_wp2_with fail
          refine (HI.out _).mono ?_
          rintro e w' ⟨rfl, bb⟩
          have B2 := hide (HB.out.trans (bb.mono HB.out.size))
          clear bb
          go_wp2
          exact ⟨⟨6, by omega, by go_num, HX, B2⟩, by simp [intOf]⟩
      · obtain ⟨q0, q1⟩ := (HR.out.below HB.out).at 6 1 1000000 rfl
        have ix : (Instr.index 74 (.agg #[.int .i64 c0, .int .i64 c1, .int .i64 c2, .int .i64 c3, .int .i64 c4, .int .i64 c5, .int .i64 c6, .int .i64 c7, .int .i64 c8, .int .i64 c9, .int .i64 c10, .int .i64 c11, .int .i64 c12, .int .i64 c13, .int .i64 c14]) (.int .i64 6)).run Tryz.prog wr = .ok (.int .i64 c6) wr := by kernel_rfl
        have HI := hide (fun W => hold_any W 1 1000000 c6)
        have HS := hide (fit_next (N := [c0, c1, c2, c3, c4, c5, c6, c7, c8, c9, c10, c11, c12, c13, c14]) (L := restFits_anyL) (k := 6) (n := c6) (a := 1) (b := 1000000) rfl)
        have HN := hide (fit_no (N := [c0, c1, c2, c3, c4, c5, c6, c7, c8, c9, c10, c11, c12, c13, c14]) (L := restFits_anyL) (k := 6) (m := 15) (n := c6) (a := 1) (b := 1000000) rfl (by decide))
        generalize inB c6 1 1000000 = bq at HI HS HN
        cases bq
        · have HX := hide (HN.out rfl)
          clear HS HN
          go_wp2_with fail
          refine (HI.out _).mono ?_
          rintro e w' ⟨rfl, bb⟩
          have B2 := hide (HB.out.trans (bb.mono HB.out.size))
          clear bb
          go_wp2
          go_ret
          exact ⟨ret_bool HX.out.symm, B2.out⟩
        · have HX : Hid (fitK [c0, c1, c2, c3, c4, c5, c6, c7, c8, c9, c10, c11, c12, c13, c14] restFits_anyL 7 = true) := hide (by rw [HS.out, H.out]; rfl)
          clear HS HN
          go_wp2_with fail
          refine (HI.out _).mono ?_
          rintro e w' ⟨rfl, bb⟩
          have B2 := hide (HB.out.trans (bb.mono HB.out.size))
          clear bb
          go_wp2
          exact ⟨⟨7, by omega, by go_num, HX, B2⟩, by simp [intOf]⟩
      · obtain ⟨q0, q1⟩ := (HR.out.below HB.out).at 7 0 100 rfl
        have ix : (Instr.index 74 (.agg #[.int .i64 c0, .int .i64 c1, .int .i64 c2, .int .i64 c3, .int .i64 c4, .int .i64 c5, .int .i64 c6, .int .i64 c7, .int .i64 c8, .int .i64 c9, .int .i64 c10, .int .i64 c11, .int .i64 c12, .int .i64 c13, .int .i64 c14]) (.int .i64 7)).run Tryz.prog wr = .ok (.int .i64 c7) wr := by kernel_rfl
        have HI := hide (fun W => hold_any W 0 100 c7)
        have HS := hide (fit_next (N := [c0, c1, c2, c3, c4, c5, c6, c7, c8, c9, c10, c11, c12, c13, c14]) (L := restFits_anyL) (k := 7) (n := c7) (a := 0) (b := 100) rfl)
        have HN := hide (fit_no (N := [c0, c1, c2, c3, c4, c5, c6, c7, c8, c9, c10, c11, c12, c13, c14]) (L := restFits_anyL) (k := 7) (m := 15) (n := c7) (a := 0) (b := 100) rfl (by decide))
        generalize inB c7 0 100 = bq at HI HS HN
        cases bq
        · have HX := hide (HN.out rfl)
          clear HS HN
          go_wp2_with fail
          refine (HI.out _).mono ?_
          rintro e w' ⟨rfl, bb⟩
          have B2 := hide (HB.out.trans (bb.mono HB.out.size))
          clear bb
          go_wp2
          go_ret
          exact ⟨ret_bool HX.out.symm, B2.out⟩
        · have HX : Hid (fitK [c0, c1, c2, c3, c4, c5, c6, c7, c8, c9, c10, c11, c12, c13, c14] restFits_anyL 8 = true) := hide (by rw [HS.out, H.out]; rfl)
          clear HS HN
          go_wp2_with fail
          refine (HI.out _).mono ?_
          rintro e w' ⟨rfl, bb⟩
          have B2 := hide (HB.out.trans (bb.mono HB.out.size))
          clear bb
          go_wp2
          exact ⟨⟨8, by omega, by go_num, HX, B2⟩, by simp [intOf]⟩
      · obtain ⟨q0, q1⟩ := (HR.out.below HB.out).at 8 16 65536 rfl
        have ix : (Instr.index 74 (.agg #[.int .i64 c0, .int .i64 c1, .int .i64 c2, .int .i64 c3, .int .i64 c4, .int .i64 c5, .int .i64 c6, .int .i64 c7, .int .i64 c8, .int .i64 c9, .int .i64 c10, .int .i64 c11, .int .i64 c12, .int .i64 c13, .int .i64 c14]) (.int .i64 8)).run Tryz.prog wr = .ok (.int .i64 c8) wr := by kernel_rfl
        have HI := hide (fun W => hold_any W 16 65536 c8)
        have HS := hide (fit_next (N := [c0, c1, c2, c3, c4, c5, c6, c7, c8, c9, c10, c11, c12, c13, c14]) (L := restFits_anyL) (k := 8) (n := c8) (a := 16) (b := 65536) rfl)
        have HN := hide (fit_no (N := [c0, c1, c2, c3, c4, c5, c6, c7, c8, c9, c10, c11, c12, c13, c14]) (L := restFits_anyL) (k := 8) (m := 15) (n := c8) (a := 16) (b := 65536) rfl (by decide))
        generalize inB c8 16 65536 = bq at HI HS HN
        cases bq
        · have HX := hide (HN.out rfl)
          clear HS HN
          go_wp2_with fail
          refine (HI.out _).mono ?_
          rintro e w' ⟨rfl, bb⟩
          have B2 := hide (HB.out.trans (bb.mono HB.out.size))
          clear bb
          go_wp2
          go_ret
          exact ⟨ret_bool HX.out.symm, B2.out⟩
        · have HX : Hid (fitK [c0, c1, c2, c3, c4, c5, c6, c7, c8, c9, c10, c11, c12, c13, c14] restFits_anyL 9 = true) := hide (by rw [HS.out, H.out]; rfl)
          clear HS HN
          go_wp2_with fail
          refine (HI.out _).mono ?_
          rintro e w' ⟨rfl, bb⟩
          have B2 := hide (HB.out.trans (bb.mono HB.out.size))
          clear bb
          go_wp2
          exact ⟨⟨9, by omega, by go_num, HX, B2⟩, by simp [intOf]⟩
      · obtain ⟨q0, q1⟩ := (HR.out.below HB.out).at 9 0 1048576 rfl
        have ix : (Instr.index 74 (.agg #[.int .i64 c0, .int .i64 c1, .int .i64 c2, .int .i64 c3, .int .i64 c4, .int .i64 c5, .int .i64 c6, .int .i64 c7, .int .i64 c8, .int .i64 c9, .int .i64 c10, .int .i64 c11, .int .i64 c12, .int .i64 c13, .int .i64 c14]) (.int .i64 9)).run Tryz.prog wr = .ok (.int .i64 c9) wr := by kernel_rfl
        have HI := hide (fun W => hold_any W 0 1048576 c9)
        have HS := hide (fit_next (N := [c0, c1, c2, c3, c4, c5, c6, c7, c8, c9, c10, c11, c12, c13, c14]) (L := restFits_anyL) (k := 9) (n := c9) (a := 0) (b := 1048576) rfl)
        have HN := hide (fit_no (N := [c0, c1, c2, c3, c4, c5, c6, c7, c8, c9, c10, c11, c12, c13, c14]) (L := restFits_anyL) (k := 9) (m := 15) (n := c9) (a := 0) (b := 1048576) rfl (by decide))
        generalize inB c9 0 1048576 = bq at HI HS HN
        cases bq
        · have HX := hide (HN.out rfl)
          clear HS HN
          go_wp2_with fail
          refine (HI.out _).mono ?_
          rintro e w' ⟨rfl, bb⟩
          have B2 := hide (HB.out.trans (bb.mono HB.out.size))
          clear bb
          go_wp2
          go_ret
          exact ⟨ret_bool HX.out.symm, B2.out⟩
        · have HX : Hid (fitK [c0, c1, c2, c3, c4, c5, c6, c7, c8, c9, c10, c11, c12, c13, c14] restFits_anyL 10 = true) := hide (by rw [HS.out, H.out]; rfl)
          clear HS HN
          go_wp2_with fail
          refine (HI.out _).mono ?_
          rintro e w' ⟨rfl, bb⟩
          have B2 := hide (HB.out.trans (bb.mono HB.out.size))
          clear bb
          go_wp2
          exact ⟨⟨10, by omega, by go_num, HX, B2⟩, by simp [intOf]⟩
      · obtain ⟨q0, q1⟩ := (HR.out.below HB.out).at 10 1 1048576 rfl
        have ix : (Instr.index 74 (.agg #[.int .i64 c0, .int .i64 c1, .int .i64 c2, .int .i64 c3, .int .i64 c4, .int .i64 c5, .int .i64 c6, .int .i64 c7, .int .i64 c8, .int .i64 c9, .int .i64 c10, .int .i64 c11, .int .i64 c12, .int .i64 c13, .int .i64 c14]) (.int .i64 10)).run Tryz.prog wr = .ok (.int .i64 c10) wr := by kernel_rfl
        have HI := hide (fun W => hold_any W 1 1048576 c10)
        have HS := hide (fit_next (N := [c0, c1, c2, c3, c4, c5, c6, c7, c8, c9, c10, c11, c12, c13, c14]) (L := restFits_anyL) (k := 10) (n := c10) (a := 1) (b := 1048576) rfl)
        have HN := hide (fit_no (N := [c0, c1, c2, c3, c4, c5, c6, c7, c8, c9, c10, c11, c12, c13, c14]) (L := restFits_anyL) (k := 10) (m := 15) (n := c10) (a := 1) (b := 1048576) rfl (by decide))
        generalize inB c10 1 1048576 = bq at HI HS HN
        cases bq
        · have HX := hide (HN.out rfl)
          clear HS HN
          go_wp2_with fail
          refine (HI.out _).mono ?_
          rintro e w' ⟨rfl, bb⟩
          have B2 := hide (HB.out.trans (bb.mono HB.out.size))
          clear bb
          go_wp2
          go_ret
          exact ⟨ret_bool HX.out.symm, B2.out⟩
        · have HX : Hid (fitK [c0, c1, c2, c3, c4, c5, c6, c7, c8, c9, c10, c11, c12, c13, c14] restFits_anyL 11 = true) := hide (by rw [HS.out, H.out]; rfl)
          clear HS HN
          go_wp2_with fail
          refine (HI.out _).mono ?_
          rintro e w' ⟨rfl, bb⟩
          have B2 := hide (HB.out.trans (bb.mono HB.out.size))
          clear bb
          go_wp2
          exact ⟨⟨11, by omega, by go_num, HX, B2⟩, by simp [intOf]⟩
      · obtain ⟨q0, q1⟩ := (HR.out.below HB.out).at 11 1 1000000 rfl
        have ix : (Instr.index 74 (.agg #[.int .i64 c0, .int .i64 c1, .int .i64 c2, .int .i64 c3, .int .i64 c4, .int .i64 c5, .int .i64 c6, .int .i64 c7, .int .i64 c8, .int .i64 c9, .int .i64 c10, .int .i64 c11, .int .i64 c12, .int .i64 c13, .int .i64 c14]) (.int .i64 11)).run Tryz.prog wr = .ok (.int .i64 c11) wr := by kernel_rfl
        have HI := hide (fun W => hold_any W 1 1000000 c11)
        have HS := hide (fit_next (N := [c0, c1, c2, c3, c4, c5, c6, c7, c8, c9, c10, c11, c12, c13, c14]) (L := restFits_anyL) (k := 11) (n := c11) (a := 1) (b := 1000000) rfl)
        have HN := hide (fit_no (N := [c0, c1, c2, c3, c4, c5, c6, c7, c8, c9, c10, c11, c12, c13, c14]) (L := restFits_anyL) (k := 11) (m := 15) (n := c11) (a := 1) (b := 1000000) rfl (by decide))
        generalize inB c11 1 1000000 = bq at HI HS HN
        cases bq
        · have HX := hide (HN.out rfl)
          clear HS HN
          go_wp2_with fail
          refine (HI.out _).mono ?_
          rintro e w' ⟨rfl, bb⟩
          have B2 := hide (HB.out.trans (bb.mono HB.out.size))
          clear bb
          go_wp2
          go_ret
          exact ⟨ret_bool HX.out.symm, B2.out⟩
        · have HX : Hid (fitK [c0, c1, c2, c3, c4, c5, c6, c7, c8, c9, c10, c11, c12, c13, c14] restFits_anyL 12 = true) := hide (by rw [HS.out, H.out]; rfl)
          clear HS HN
          go_wp2_with fail
          refine (HI.out _).mono ?_
          rintro e w' ⟨rfl, bb⟩
          have B2 := hide (HB.out.trans (bb.mono HB.out.size))
          clear bb
          go_wp2
          exact ⟨⟨12, by omega, by go_num, HX, B2⟩, by simp [intOf]⟩
      · obtain ⟨q0, q1⟩ := (HR.out.below HB.out).at 12 1 1000000 rfl
        have ix : (Instr.index 74 (.agg #[.int .i64 c0, .int .i64 c1, .int .i64 c2, .int .i64 c3, .int .i64 c4, .int .i64 c5, .int .i64 c6, .int .i64 c7, .int .i64 c8, .int .i64 c9, .int .i64 c10, .int .i64 c11, .int .i64 c12, .int .i64 c13, .int .i64 c14]) (.int .i64 12)).run Tryz.prog wr = .ok (.int .i64 c12) wr := by kernel_rfl
        have HI := hide (fun W => hold_any W 1 1000000 c12)
        have HS := hide (fit_next (N := [c0, c1, c2, c3, c4, c5, c6, c7, c8, c9, c10, c11, c12, c13, c14]) (L := restFits_anyL) (k := 12) (n := c12) (a := 1) (b := 1000000) rfl)
        have HN := hide (fit_no (N := [c0, c1, c2, c3, c4, c5, c6, c7, c8, c9, c10, c11, c12, c13, c14]) (L := restFits_anyL) (k := 12) (m := 15) (n := c12) (a := 1) (b := 1000000) rfl (by decide))
        generalize inB c12 1 1000000 = bq at HI HS HN
        cases bq
        · have HX := hide (HN.out rfl)
          clear HS HN
          go_wp2_with fail
          refine (HI.out _).mono ?_
          rintro e w' ⟨rfl, bb⟩
          have B2 := hide (HB.out.trans (bb.mono HB.out.size))
          clear bb
          go_wp2
          go_ret
          exact ⟨ret_bool HX.out.symm, B2.out⟩
        · have HX : Hid (fitK [c0, c1, c2, c3, c4, c5, c6, c7, c8, c9, c10, c11, c12, c13, c14] restFits_anyL 13 = true) := hide (by rw [HS.out, H.out]; rfl)
          clear HS HN
          go_wp2_with fail
          refine (HI.out _).mono ?_
          rintro e w' ⟨rfl, bb⟩
          have B2 := hide (HB.out.trans (bb.mono HB.out.size))
          clear bb
          go_wp2
          exact ⟨⟨13, by omega, by go_num, HX, B2⟩, by simp [intOf]⟩
      · obtain ⟨q0, q1⟩ := (HR.out.below HB.out).at 13 1 1000000 rfl
        have ix : (Instr.index 74 (.agg #[.int .i64 c0, .int .i64 c1, .int .i64 c2, .int .i64 c3, .int .i64 c4, .int .i64 c5, .int .i64 c6, .int .i64 c7, .int .i64 c8, .int .i64 c9, .int .i64 c10, .int .i64 c11, .int .i64 c12, .int .i64 c13, .int .i64 c14]) (.int .i64 13)).run Tryz.prog wr = .ok (.int .i64 c13) wr := by kernel_rfl
        have HI := hide (fun W => hold_any W 1 1000000 c13)
        have HS := hide (fit_next (N := [c0, c1, c2, c3, c4, c5, c6, c7, c8, c9, c10, c11, c12, c13, c14]) (L := restFits_anyL) (k := 13) (n := c13) (a := 1) (b := 1000000) rfl)
        have HN := hide (fit_no (N := [c0, c1, c2, c3, c4, c5, c6, c7, c8, c9, c10, c11, c12, c13, c14]) (L := restFits_anyL) (k := 13) (m := 15) (n := c13) (a := 1) (b := 1000000) rfl (by decide))
        generalize inB c13 1 1000000 = bq at HI HS HN
        cases bq
        · have HX := hide (HN.out rfl)
          clear HS HN
          go_wp2_with fail
          refine (HI.out _).mono ?_
          rintro e w' ⟨rfl, bb⟩
          have B2 := hide (HB.out.trans (bb.mono HB.out.size))
          clear bb
          go_wp2
          go_ret
          exact ⟨ret_bool HX.out.symm, B2.out⟩
        · have HX : Hid (fitK [c0, c1, c2, c3, c4, c5, c6, c7, c8, c9, c10, c11, c12, c13, c14] restFits_anyL 14 = true) := hide (by rw [HS.out, H.out]; rfl)
          clear HS HN
          go_wp2_with fail
          refine (HI.out _).mono ?_
          rintro e w' ⟨rfl, bb⟩
          have B2 := hide (HB.out.trans (bb.mono HB.out.size))
          clear bb
          go_wp2
          exact ⟨⟨14, by omega, by go_num, HX, B2⟩, by simp [intOf]⟩
      · obtain ⟨q0, q1⟩ := (HR.out.below HB.out).at 14 1 256 rfl
        have ix : (Instr.index 74 (.agg #[.int .i64 c0, .int .i64 c1, .int .i64 c2, .int .i64 c3, .int .i64 c4, .int .i64 c5, .int .i64 c6, .int .i64 c7, .int .i64 c8, .int .i64 c9, .int .i64 c10, .int .i64 c11, .int .i64 c12, .int .i64 c13, .int .i64 c14]) (.int .i64 14)).run Tryz.prog wr = .ok (.int .i64 c14) wr := by kernel_rfl
        have HI := hide (fun W => hold_any W 1 256 c14)
        have HS := hide (fit_next (N := [c0, c1, c2, c3, c4, c5, c6, c7, c8, c9, c10, c11, c12, c13, c14]) (L := restFits_anyL) (k := 14) (n := c14) (a := 1) (b := 256) rfl)
        have HN := hide (fit_no (N := [c0, c1, c2, c3, c4, c5, c6, c7, c8, c9, c10, c11, c12, c13, c14]) (L := restFits_anyL) (k := 14) (m := 15) (n := c14) (a := 1) (b := 256) rfl (by decide))
        generalize inB c14 1 256 = bq at HI HS HN
        cases bq
        · have HX := hide (HN.out rfl)
          clear HS HN
          go_wp2_with fail
          refine (HI.out _).mono ?_
          rintro e w' ⟨rfl, bb⟩
          have B2 := hide (HB.out.trans (bb.mono HB.out.size))
          clear bb
          go_wp2
          go_ret
          exact ⟨ret_bool HX.out.symm, B2.out⟩
        · have HX : Hid (fitK [c0, c1, c2, c3, c4, c5, c6, c7, c8, c9, c10, c11, c12, c13, c14] restFits_anyL 15 = true) := hide (by rw [HS.out, H.out]; rfl)
          clear HS HN
          go_wp2_with fail
          refine (HI.out _).mono ?_
          rintro e w' ⟨rfl, bb⟩
          have B2 := hide (HB.out.trans (bb.mono HB.out.size))
          clear bb
          go_wp2
          exact ⟨⟨15, by omega, by go_num, HX, B2⟩, by simp [intOf]⟩
    · have HX : Hid (fitK [c0, c1, c2, c3, c4, c5, c6, c7, c8, c9, c10, c11, c12, c13, c14] restFits_anyL 15 = true) := hide (by rw [← H.out]; congr 1; omega)
      go_wp2
      go_ret
      exact ⟨ret_bool HX.out.symm, HB.out⟩
end Go.Proofs.YtekkhjlipijmcaaGreatDoor
