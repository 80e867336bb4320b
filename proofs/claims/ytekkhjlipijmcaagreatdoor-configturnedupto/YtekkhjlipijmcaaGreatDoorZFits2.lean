/- Whether a route's numbers are in their ranges: the program's. -/
import Derived.Test.YtekkhjlipijmcaaGreatDoorZFits
namespace Go.Proofs.YtekkhjlipijmcaaGreatDoor
open Go.ChangeShapes Go.WideShapes Go.ChangeAt Go.RowKit

def routeFits_anyL : List (Int × Int) := [(0, 1000000), (1, 1000000), (0, 1000000), (1, 1000), (0, 1000), (1, 1000000), (1, 100), (0, 100), (0, 1000), (1, 1000000), (0, 5), (0, 3), (1, 1000000), (1, 1000000), (1, 1000000)]
set_option maxHeartbeats 4000000 in
set_option maxRecDepth 100000 in
theorem routeFits_any (w : World) (ho pf : ByteArray) (a1 : Option Addr) (n1 c1 : Nat) (hd va : ByteArray) (a2 : Option Addr) (n2 c2 : Nat) (r0 r1 r2 r3 r4 r5 r6 r7 r8 r9 r10 r11 r12 r13 r14 : Int) (hR : RG w 1 routeFits_anyL) :
    Calls Tryz.prog 31 #[.agg #[.string ho, .string pf, .slice a1 n1 c1, .string hd, .string va, .slice a2 n2 c2, .int .i64 r0, .int .i64 r1, .int .i64 r2, .int .i64 r3, .int .i64 r4, .int .i64 r5, .int .i64 r6, .int .i64 r7, .int .i64 r8, .int .i64 r9, .int .i64 r10, .int .i64 r11, .int .i64 r12, .int .i64 r13, .int .i64 r14]] w fun e w' => e = .returned (.bool (fitK [r0, r1, r2, r3, r4, r5, r6, r7, r8, r9, r10, r11, r12, r13, r14] routeFits_anyL 15)) ∧ Below w.heap.size w w' := by
  have HR := hide hR
  clear hR
  go_enter Tryz.func31, Tryz.ntmps31
  go_wp2
  have T0 := hide (Bl.one w #[.string ho, .string pf, .slice a1 n1 c1, .string hd, .string va, .slice a2 n2 c2, .int .i64 r0, .int .i64 r1, .int .i64 r2, .int .i64 r3, .int .i64 r4, .int .i64 r5, .int .i64 r6, .int .i64 r7, .int .i64 r8, .int .i64 r9, .int .i64 r10, .int .i64 r11, .int .i64 r12, .int .i64 r13, .int .i64 r14] 40)
  generalize (w.alloc (.cells #[.string ho, .string pf, .slice a1 n1 c1, .string hd, .string va, .slice a2 n2 c2, .int .i64 r0, .int .i64 r1, .int .i64 r2, .int .i64 r3, .int .i64 r4, .int .i64 r5, .int .i64 r6, .int .i64 r7, .int .i64 r8, .int .i64 r9, .int .i64 r10, .int .i64 r11, .int .i64 r12, .int .i64 r13, .int .i64 r14] 40)) = x at T0 ⊢
  go_loopw [36] (fun i wr => ∃ k : Nat, k ≤ 15 ∧ i = .int .i64 k ∧ Hid (fitK [r0, r1, r2, r3, r4, r5, r6, r7, r8, r9, r10, r11, r12, r13, r14] routeFits_anyL k = true) ∧ Hid (Below w.heap.size w wr)) (fun i _ => 15 - (intOf i).toNat)
  case atStart => exact ⟨0, Nat.zero_le _, rfl, hide rfl, hide T0.out.b⟩
  case round =>
    obtain ⟨k, hk, rfl, H, HB⟩ := hrel
    by_cases hlt : k < 15
    · have hcs : k = 0 ∨ k = 1 ∨ k = 2 ∨ k = 3 ∨ k = 4 ∨ k = 5 ∨ k = 6 ∨ k = 7 ∨ k = 8 ∨ k = 9 ∨ k = 10 ∨ k = 11 ∨ k = 12 ∨ k = 13 ∨ k = 14 := by omega
      rcases hcs with rfl | rfl | rfl | rfl | rfl | rfl | rfl | rfl | rfl | rfl | rfl | rfl | rfl | rfl | rfl
      · obtain ⟨q0, q1⟩ := (HR.out.below HB.out).at 0 0 1000000 rfl
        have ix : (Instr.index 74 (.agg #[.int .i64 r0, .int .i64 r1, .int .i64 r2, .int .i64 r3, .int .i64 r4, .int .i64 r5, .int .i64 r6, .int .i64 r7, .int .i64 r8, .int .i64 r9, .int .i64 r10, .int .i64 r11, .int .i64 r12, .int .i64 r13, .int .i64 r14]) (.int .i64 0)).run Tryz.prog wr = .ok (.int .i64 r0) wr := by kernel_rfl
        have HI := hide (fun W => hold_any W 0 1000000 r0)
        have HS := hide (fit_next (N := [r0, r1, r2, r3, r4, r5, r6, r7, r8, r9, r10, r11, r12, r13, r14]) (L := routeFits_anyL) (k := 0) (n := r0) (a := 0) (b := 1000000) rfl)
        have HN := hide (fit_no (N := [r0, r1, r2, r3, r4, r5, r6, r7, r8, r9, r10, r11, r12, r13, r14]) (L := routeFits_anyL) (k := 0) (m := 15) (n := r0) (a := 0) (b := 1000000) rfl (by decide))
        generalize inB r0 0 1000000 = bq at HI HS HN
        cases bq
        · have HX := hide (HN.out rfl)
          clear HS HN
          go_wp2_with fail
          refine (HI.out _).mono ?_
          rintro e w' ⟨rfl, bb⟩
          have B2 := hide (HB.out.trans (bb.mono HB.out.size))
          clear bb
          go_wp2
          go_ret
          exact ⟨ret_bool HX.out.symm, B2.out⟩
        · have HX : Hid (fitK [r0, r1, r2, r3, r4, r5, r6, r7, r8, r9, r10, r11, r12, r13, r14] routeFits_anyL 1 = true) := hide (by rw [HS.out, H.out]; rfl)
          clear HS HN
          go_wp2_with fail
          refine (HI.out _).mono ?_
          rintro e w' ⟨rfl, bb⟩
          have B2 := hide (HB.out.trans (bb.mono HB.out.size))
          clear bb
          go_wp2
          exact ⟨⟨1, by omega, by go_num, HX, B2⟩, by simp [intOf]⟩
      · obtain ⟨q0, q1⟩ := (HR.out.below HB.out).at 1 1 1000000 rfl
        have ix : (Instr.index 74 (.agg #[.int .i64 r0, .int .i64 r1, .int .i64 r2, .int .i64 r3, .int .i64 r4, .int .i64 r5, .int .i64 r6, .int .i64 r7, .int .i64 r8, .int .i64 r9, .int .i64 r10, .int .i64 r11, .int .i64 r12, .int .i64 r13, .int .i64 r14]) (.int .i64 1)).run Tryz.prog wr = .ok (.int .i64 r1) wr := by kernel_rfl
        have HI := hide (fun W => hold_any W 1 1000000 r1)
        have HS := hide (fit_next (N := [r0, r1, r2, r3, r4, r5, r6, r7, r8, r9, r10, r11, r12, r13, r14]) (L := routeFits_anyL) (k := 1) (n := r1) (a := 1) (b := 1000000) rfl)
        have HN := hide (fit_no (N := [r0, r1, r2, r3, r4, r5, r6, r7, r8, r9, r10, r11, r12, r13, r14]) (L := routeFits_anyL) (k := 1) (m := 15) (n := r1) (a := 1) (b := 1000000) rfl (by decide))
        generalize inB r1 1 1000000 = bq at HI HS HN
        cases bq
        · have HX := hide (HN.out rfl)
          clear HS HN
          go_wp2_with fail
          refine (HI.out _).mono ?_
          rintro e w' ⟨rfl, bb⟩
          have B2 := hide (HB.out.trans (bb.mono HB.out.size))
          clear bb
          go_wp2
          go_ret
          exact ⟨ret_bool HX.out.symm, B2.out⟩
        · have HX : Hid (fitK [r0, r1, r2, r3, r4, r5, r6, r7, r8, r9, r10, r11, r12, r13, r14] routeFits_anyL 2 = true) := hide (by rw [HS.out, H.out]; rfl)
          clear HS HN
          go_wp2_with fail
          refine (HI.out _).mono ?_
          rintro e w' ⟨rfl, bb⟩
          have B2 := hide (HB.out.trans (bb.mono HB.out.size))
          clear bb
          go_wp2
          exact ⟨⟨2, by omega, by go_num, HX, B2⟩, by simp [intOf]⟩
      · obtain ⟨q0, q1⟩ := (HR.out.below HB.out).at 2 0 1000000 rfl
        have ix : (Instr.index 74 (.agg #[.int .i64 r0, .int .i64 r1, .int .i64 r2, .int .i64 r3, .int .i64 r4, .int .i64 r5, .int .i64 r6, .int .i64 r7, .int .i64 r8, .int .i64 r9, .int .i64 r10, .int .i64 r11, .int .i64 r12, .int .i64 r13, .int .i64 r14]) (.int .i64 2)).run Tryz.prog wr = .ok (.int .i64 r2) wr := by kernel_rfl
        have HI := hide (fun W => hold_any W 0 1000000 r2)
        have HS := hide (fit_next (N := [r0, r1, r2, r3, r4, r5, r6, r7, r8, r9, r10, r11, r12, r13, r14]) (L := routeFits_anyL) (k := 2) (n := r2) (a := 0) (b := 1000000) rfl)
        have HN := hide (fit_no (N := [r0, r1, r2, r3, r4, r5, r6, r7, r8, r9, r10, r11, r12, r13, r14]) (L := routeFits_anyL) (k := 2) (m := 15) (n := r2) (a := 0) (b := 1000000) rfl (by decide))
        generalize inB r2 0 1000000 = bq at HI HS HN
        cases bq
        · have HX := hide (HN.out rfl)
          clear HS HN
          go_wp2_with fail
          refine (HI.out _).mono ?_
          rintro e w' ⟨rfl, bb⟩
          have B2 := hide (HB.out.trans (bb.mono HB.out.size))
          clear bb
          go_wp2
          go_ret
          exact ⟨ret_bool HX.out.symm, B2.out⟩
        · have HX : Hid (fitK [r0, r1, r2, r3, r4, r5, r6, r7, r8, r9, r10, r11, r12, r13, r14] routeFits_anyL 3 = true) := hide (by rw [HS.out, H.out]; rfl)
          clear HS HN
          go_wp2_with fail
          refine (HI.out _).mono ?_
          rintro e w' ⟨rfl, bb⟩
          have B2 := hide (HB.out.trans (bb.mono HB.out.size))
          clear bb
          go_wp2
          exact ⟨⟨3, by omega, by go_num, HX, B2⟩, by simp [intOf]⟩
      · obtain ⟨q0, q1⟩ := (HR.out.below HB.out).at 3 1 1000 rfl
        have ix : (Instr.index 74 (.agg #[.int .i64 r0, .int .i64 r1, .int .i64 r2, .int .i64 r3, .int .i64 r4, .int .i64 r5, .int .i64 r6, .int .i64 r7, .int .i64 r8, .int .i64 r9, .int .i64 r10, .int .i64 r11, .int .i64 r12, .int .i64 r13, .int .i64 r14]) (.int .i64 3)).run Tryz.prog wr = .ok (.int .i64 r3) wr := by kernel_rfl
        have HI := hide (fun W => hold_any W 1 1000 r3)
        have HS := hide (fit_next (N := [r0, r1, r2, r3, r4, r5, r6, r7, r8, r9, r10, r11, r12, r13, r14]) (L := routeFits_anyL) (k := 3) (n := r3) (a := 1) (b := 1000) rfl)
        have HN := hide (fit_no (N := [r0, r1, r2, r3, r4, r5, r6, r7, r8, r9, r10, r11, r12, r13, r14]) (L := routeFits_anyL) (k := 3) (m := 15) (n := r3) (a := 1) (b := 1000) rfl (by decide))
        generalize inB r3 1 1000 = bq at HI HS HN
        cases bq
        · have HX := hide (HN.out rfl)
          clear HS HN
          go_wp2_with fail
          refine (HI.out _).mono ?_
          rintro e w' ⟨rfl, bb⟩
          have B2 := hide (HB.out.trans (bb.mono HB.out.size))
          clear bb
          go_wp2
          go_ret
          exact ⟨ret_bool HX.out.symm, B2.out⟩
        · have HX : Hid (fitK [r0, r1, r2, r3, r4, r5, r6, r7, r8, r9, r10, r11, r12, r13, r14] routeFits_anyL 4 = true) := hide (by rw [HS.out, H.out]; rfl)
          clear HS HN
          go_wp2_with fail
          refine (HI.out _).mono ?_
          rintro e w' ⟨rfl, bb⟩
          have B2 := hide (HB.out.trans (bb.mono HB.out.size))
          clear bb
          go_wp2
          exact ⟨⟨4, by omega, by go_num, HX, B2⟩, by simp [intOf]⟩
      · obtain ⟨q0, q1⟩ := (HR.out.below HB.out).at 4 0 1000 rfl
        have ix : (Instr.index 74 (.agg #[.int .i64 r0, .int .i64 r1, .int .i64 r2, .int .i64 r3, .int .i64 r4, .int .i64 r5, .int .i64 r6, .int .i64 r7, .int .i64 r8, .int .i64 r9, .int .i64 r10, .int .i64 r11, .int .i64 r12, .int .i64 r13, .int .i64 r14]) (.int .i64 4)).run Tryz.prog wr = .ok (.int .i64 r4) wr := by kernel_rfl
        have HI := hide (fun W => hold_any W 0 1000 r4)
        have HS := hide (fit_next (N := [r0, r1, r2, r3, r4, r5, r6, r7, r8, r9, r10, r11, r12, r13, r14]) (L := routeFits_anyL) (k := 4) (n := r4) (a := 0) (b := 1000) rfl)
        have HN := hide (fit_no (N := [r0, r1, r2, r3, r4, r5, r6, r7, r8, r9, r10, r11, r12, r13, r14]) (L := routeFits_anyL) (k := 4) (m := 15) (n := r4) (a := 0) (b := 1000) rfl (by decide))
        generalize inB r4 0 1000 = bq at HI HS HN
        cases bq
        · have HX := hide (HN.out rfl)
          clear HS HN
          go_wp2_with fail
          refine (HI.out _).mono ?_
          rintro e w' ⟨rfl, bb⟩
          have B2 := hide (HB.out.trans (bb.mono HB.out.size))
          clear bb
          go_wp2
          go_ret
          exact ⟨ret_bool HX.out.symm, B2.out⟩
        · have HX : Hid (fitK [r0, r1, r2, r3, r4, r5, r6, r7, r8, r9, r10, r11, r12, r13, r14] routeFits_anyL 5 = true) := hide (by rw [HS.out, H.out]; rfl)
          clear HS HN
          go_wp2_with fail
          refine (HI.out _).mono ?_
          rintro e w' ⟨rfl, bb⟩
          have B2 := hide (HB.out.trans (bb.mono HB.out.size))
          clear bb
          go_wp2
          exact ⟨⟨5, by omega, by go_num, HX, B2⟩, by simp [intOf]⟩
      · obtain ⟨q0, q1⟩ := (HR.out.below HB.out).at 5 1 1000000 rfl
        have ix : (Instr.index 74 (.agg #[.int .i64 r0, .int .i64 r1, .int .i64 r2, .int .i64 r3, .int .i64 r4, .int .i64 r5, .int .i64 r6, .int .i64 r7, .int .i64 r8, .int .i64 r9, .int .i64 r10, .int .i64 r11, .int .i64 r12, .int .i64 r13, .int .i64 r14]) (.int .i64 5)).run Tryz.prog wr = .ok (.int .i64 r5) wr := by kernel_rfl
        have HI := hide (fun W => hold_any W 1 1000000 r5)
        have HS := hide (fit_next (N := [r0, r1, r2, r3, r4, r5, r6, r7, r8, r9, r10, r11, r12, r13, r14]) (L := routeFits_anyL) (k := 5) (n := r5) (a := 1) (b := 1000000) rfl)
        have HN := hide (fit_no (N := [r0, r1, r2, r3, r4, r5, r6, r7, r8, r9, r10, r11, r12, r13, r14]) (L := routeFits_anyL) (k := 5) (m := 15) (n := r5) (a := 1) (b := 1000000) rfl (by decide))
        generalize inB r5 1 1000000 = bq at HI HS HN
        cases bq
        · have HX := hide (HN.out rfl)
          clear HS HN
          go_wp2_with fail
          refine (HI.out _).mono ?_
          rintro e w' ⟨rfl, bb⟩
          have B2 := hide (HB.out.trans (bb.mono HB.out.size))
          clear bb
          go_wp2
          go_ret
          exact ⟨ret_bool HX.out.symm, B2.out⟩
        · have HX : Hid (fitK [r0, r1, r2, r3, r4, r5, r6, r7, r8, r9, r10, r11, r12, r13, r14] routeFits_anyL 6 = true) := hide (by rw [HS.out, H.out]; rfl)
          clear HS HN
          go_wp2_with fail
          refine (HI.out _).mono ?_
          rintro e w' ⟨rfl, bb⟩
          have B2 := hide (HB.out.trans (bb.mono HB.out.size))
          clear bb
          go_wp2
          exact ⟨⟨6, by omega, by go_num, HX, B2⟩, by simp [intOf]⟩
      · obtain ⟨q0, q1⟩ := (HR.out.below HB.out).at 6 1 100 rfl
        have ix : (Instr.index 74 (.agg #[.int .i64 r0, .int .i64 r1, .int .i64 r2, .int .i64 r3, .int .i64 r4, .int .i64 r5, .int .i64 r6, .int .i64 r7, .int .i64 r8, .int .i64 r9, .int .i64 r10, .int .i64 r11, .int .i64 r12, .int .i64 r13, .int .i64 r14]) (.int .i64 6)).run Tryz.prog wr = .ok (.int .i64 r6) wr := by kernel_rfl
        have HI := hide (fun W => hold_any W 1 100 r6)
        have HS := hide (fit_next (N := [r0, r1, r2, r3, r4, r5, r6, r7, r8, r9, r10, r11, r12, r13, r14]) (L := routeFits_anyL) (k := 6) (n := r6) (a := 1) (b := 100) rfl)
        have HN := hide (fit_no (N := [r0, r1, r2, r3, r4, r5, r6, r7, r8, r9, r10, r11, r12, r13, r14]) (L := routeFits_anyL) (k := 6) (m := 15) (n := r6) (a := 1) (b := 100) rfl (by decide))
        generalize inB r6 1 100 = bq at HI HS HN
        cases bq
        · have HX := hide (HN.out rfl)
          clear HS HN
          go_wp2_with fail
          refine (HI.out _).mono ?_
          rintro e w' ⟨rfl, bb⟩
          have B2 := hide (HB.out.trans (bb.mono HB.out.size))
          clear bb
          go_wp2
          go_ret
          exact ⟨ret_bool HX.out.symm, B2.out⟩
        · have HX : Hid (fitK [r0, r1, r2, r3, r4, r5, r6, r7, r8, r9, r10, r11, r12, r13, r14] routeFits_anyL 7 = true) := hide (by rw [HS.out, H.out]; rfl)
          clear HS HN
          go_wp2_with fail
          refine (HI.out _).mono ?_
          rintro e w' ⟨rfl, bb⟩
          have B2 := hide (HB.out.trans (bb.mono HB.out.size))
          clear bb
          go_wp2
          exact ⟨⟨7, by omega, by go_num, HX, B2⟩, by simp [intOf]⟩
      · obtain ⟨q0, q1⟩ := (HR.out.below HB.out).at 7 0 100 rfl
        have ix : (Instr.index 74 (.agg #[.int .i64 r0, .int .i64 r1, .int .i64 r2, .int .i64 r3, .int .i64 r4, .int .i64 r5, .int .i64 r6, .int .i64 r7, .int .i64 r8, .int .i64 r9, .int .i64 r10, .int .i64 r11, .int .i64 r12, .int .i64 r13, .int .i64 r14]) (.int .i64 7)).run Tryz.prog wr = .ok (.int .i64 r7) wr := by kernel_rfl
        have HI := hide (fun W => hold_any W 0 100 r7)
        have HS := hide (fit_next (N := [r0, r1, r2, r3, r4, r5, r6, r7, r8, r9, r10, r11, r12, r13, r14]) (L := routeFits_anyL) (k := 7) (n := r7) (a := 0) (b := 100) rfl)
        have HN := hide (fit_no (N := [r0, r1, r2, r3, r4, r5, r6, r7, r8, r9, r10, r11, r12, r13, r14]) (L := routeFits_anyL) (k := 7) (m := 15) (n := r7) (a := 0) (b := 100) rfl (by decide))
        generalize inB r7 0 100 = bq at HI HS HN
        cases bq
        · have HX := hide (HN.out rfl)
          clear HS HN
          go_wp2_with fail
          refine (HI.out _).mono ?_
          rintro e w' ⟨rfl, bb⟩
          have B2 := hide (HB.out.trans (bb.mono HB.out.size))
          clear bb
          go_wp2
          go_ret
          exact ⟨ret_bool HX.out.symm, B2.out⟩
        · have HX : Hid (fitK [r0, r1, r2, r3, r4, r5, r6, r7, r8, r9, r10, r11, r12, r13, r14] routeFits_anyL 8 = true) := hide (by rw [HS.out, H.out]; rfl)
          clear HS HN
          go_wp2_with fail
          refine (HI.out _).mono ?_
          rintro e w' ⟨rfl, bb⟩
          have B2 := hide (HB.out.trans (bb.mono HB.out.size))
          clear bb
          go_wp2
          exact ⟨⟨8, by omega, by go_num, HX, B2⟩, by simp [intOf]⟩
      · obtain ⟨q0, q1⟩ := (HR.out.below HB.out).at 8 0 1000 rfl
        have ix : (Instr.index 74 (.agg #[.int .i64 r0, .int .i64 r1, .int .i64 r2, .int .i64 r3, .int .i64 r4, .int .i64 r5, .int .i64 r6, .int .i64 r7, .int .i64 r8, .int .i64 r9, .int .i64 r10, .int .i64 r11, .int .i64 r12, .int .i64 r13, .int .i64 r14]) (.int .i64 8)).run Tryz.prog wr = .ok (.int .i64 r8) wr := by kernel_rfl
        have HI := hide (fun W => hold_any W 0 1000 r8)
        have HS := hide (fit_next (N := [r0, r1, r2, r3, r4, r5, r6, r7, r8, r9, r10, r11, r12, r13, r14]) (L := routeFits_anyL) (k := 8) (n := r8) (a := 0) (b := 1000) rfl)
        have HN := hide (fit_no (N := [r0, r1, r2, r3, r4, r5, r6, r7, r8, r9, r10, r11, r12, r13, r14]) (L := routeFits_anyL) (k := 8) (m := 15) (n := r8) (a := 0) (b := 1000) rfl (by decide))
        generalize inB r8 0 1000 = bq at HI HS HN
        cases bq
        · have HX := hide (HN.out rfl)
          clear HS HN
          go_wp2_with fail
          refine (HI.out _).mono ?_
          rintro e w' ⟨rfl, bb⟩
          have B2 := hide (HB.out.trans (bb.mono HB.out.size))
          clear bb
          go_wp2
          go_ret
          exact ⟨ret_bool HX.out.symm, B2.out⟩
        · have HX : Hid (fitK [r0, r1, r2, r3, r4, r5, r6, r7, r8, r9, r10, r11, r12, r13, r14] routeFits_anyL 9 = true) := hide (by rw [HS.out, H.out]; rfl)
          clear HS HN
          go_wp2_with fail
          refine (HI.out _).mono ?_
          rintro e w' ⟨rfl, bb⟩
          have B2 := hide (HB.out.trans (bb.mono HB.out.size))
          clear bb
          go_wp2
          exact ⟨⟨9, by omega, by go_num, HX, B2⟩, by simp [intOf]⟩
      · obtain ⟨q0, q1⟩ := (HR.out.below HB.out).at 9 1 1000000 rfl
        have ix : (Instr.index 74 (.agg #[.int .i64 r0, .int .i64 r1, .int .i64 r2, .int .i64 r3, .int .i64 r4, .int .i64 r5, .int .i64 r6, .int .i64 r7, .int .i64 r8, .int .i64 r9, .int .i64 r10, .int .i64 r11, .int .i64 r12, .int .i64 r13, .int .i64 r14]) (.int .i64 9)).run Tryz.prog wr = .ok (.int .i64 r9) wr := by kernel_rfl
        have HI := hide (fun W => hold_any W 1 1000000 r9)
        have HS := hide (fit_next (N := [r0, r1, r2, r3, r4, r5, r6, r7, r8, r9, r10, r11, r12, r13, r14]) (L := routeFits_anyL) (k := 9) (n := r9) (a := 1) (b := 1000000) rfl)
        have HN := hide (fit_no (N := [r0, r1, r2, r3, r4, r5, r6, r7, r8, r9, r10, r11, r12, r13, r14]) (L := routeFits_anyL) (k := 9) (m := 15) (n := r9) (a := 1) (b := 1000000) rfl (by decide))
        generalize inB r9 1 1000000 = bq at HI HS HN
        cases bq
        · have HX := hide (HN.out rfl)
          clear HS HN
          go_wp2_with fail
          refine (HI.out _).mono ?_
          rintro e w' ⟨rfl, bb⟩
          have B2 := hide (HB.out.trans (bb.mono HB.out.size))
          clear bb
          go_wp2
          go_ret
          exact ⟨ret_bool HX.out.symm, B2.out⟩
        · have HX : Hid (fitK [r0, r1, r2, r3, r4, r5, r6, r7, r8, r9, r10, r11, r12, r13, r14] routeFits_anyL 10 = true) := hide (by rw [HS.out, H.out]; rfl)
          clear HS HN
          go_wp2_with fail
          refine (HI.out _).mono ?_
          rintro e w' ⟨rfl, bb⟩
          have B2 := hide (HB.out.trans (bb.mono HB.out.size))
          clear bb
          go_wp2
          exact ⟨⟨10, by omega, by go_num, HX, B2⟩, by simp [intOf]⟩
      · obtain ⟨q0, q1⟩ := (HR.out.below HB.out).at 10 0 5 rfl
        have ix : (Instr.index 74 (.agg #[.int .i64 r0, .int .i64 r1, .int .i64 r2, .int .i64 r3, .int .i64 r4, .int .i64 r5, .int .i64 r6, .int .i64 r7, .int .i64 r8, .int .i64 r9, .int .i64 r10, .int .i64 r11, .int .i64 r12, .int .i64 r13, .int .i64 r14]) (.int .i64 10)).run Tryz.prog wr = .ok (.int .i64 r10) wr := by kernel_rfl
        have HI := hide (fun W => hold_any W 0 5 r10)
        have HS := hide (fit_next (N := [r0, r1, r2, r3, r4, r5, r6, r7, r8, r9, r10, r11, r12, r13, r14]) (L := routeFits_anyL) (k := 10) (n := r10) (a := 0) (b := 5) rfl)
        have HN := hide (fit_no (N := [r0, r1, r2, r3, r4, r5, r6, r7, r8, r9, r10, r11, r12, r13, r14]) (L := routeFits_anyL) (k := 10) (m := 15) (n := r10) (a := 0) (b := 5) rfl (by decide))
        generalize inB r10 0 5 = bq at HI HS HN
        cases bq
        · have HX := hide (HN.out rfl)
          clear HS HN
          go_wp2_with fail
          refine (HI.out _).mono ?_
          rintro e w' ⟨rfl, bb⟩
          have B2 := hide (HB.out.trans (bb.mono HB.out.size))
          clear bb
          go_wp2
          go_ret
          exact ⟨ret_bool HX.out.symm, B2.out⟩
        · have HX : Hid (fitK [r0, r1, r2, r3, r4, r5, r6, r7, r8, r9, r10, r11, r12, r13, r14] routeFits_anyL 11 = true) := hide (by rw [HS.out, H.out]; rfl)
          clear HS HN
          go_wp2_with fail
          refine (HI.out _).mono ?_
          rintro e w' ⟨rfl, bb⟩
          have B2 := hide (HB.out.trans (bb.mono HB.out.size))
          clear bb
          go_wp2
          exact ⟨⟨11, by omega, by go_num, HX, B2⟩, by simp [intOf]⟩
      · obtain ⟨q0, q1⟩ := (HR.out.below HB.out).at 11 0 3 rfl
        have ix : (Instr.index 74 (.agg #[.int .i64 r0, .int .i64 r1, .int .i64 r2, .int .i64 r3, .int .i64 r4, .int .i64 r5, .int .i64 r6, .int .i64 r7, .int .i64 r8, .int .i64 r9, .int .i64 r10, .int .i64 r11, .int .i64 r12, .int .i64 r13, .int .i64 r14]) (.int .i64 11)).run Tryz.prog wr = .ok (.int .i64 r11) wr := by kernel_rfl
        have HI := hide (fun W => hold_any W 0 3 r11)
        have HS := hide (fit_next (N := [r0, r1, r2, r3, r4, r5, r6, r7, r8, r9, r10, r11, r12, r13, r14]) (L := routeFits_anyL) (k := 11) (n := r11) (a := 0) (b := 3) rfl)
        have HN := hide (fit_no (N := [r0, r1, r2, r3, r4, r5, r6, r7, r8, r9, r10, r11, r12, r13, r14]) (L := routeFits_anyL) (k := 11) (m := 15) (n := r11) (a := 0) (b := 3) rfl (by decide))
        generalize inB r11 0 3 = bq at HI HS HN
        cases bq
        · have HX := hide (HN.out rfl)
          clear HS HN
          go_wp2_with fail
          refine (HI.out _).mono ?_
          rintro e w' ⟨rfl, bb⟩
          have B2 := hide (HB.out.trans (bb.mono HB.out.size))
          clear bb
          go_wp2
          go_ret
          exact ⟨ret_bool HX.out.symm, B2.out⟩
        · have HX : Hid (fitK [r0, r1, r2, r3, r4, r5, r6, r7, r8, r9, r10, r11, r12, r13, r14] routeFits_anyL 12 = true) := hide (by rw [HS.out, H.out]; rfl)
          clear HS HN
          go_wp2_with fail
          refine (HI.out _).mono ?_
          rintro e w' ⟨rfl, bb⟩
          have B2 := hide (HB.out.trans (bb.mono HB.out.size))
          clear bb
          go_wp2
          exact ⟨⟨12, by omega, by go_num, HX, B2⟩, by simp [intOf]⟩
      · obtain ⟨q0, q1⟩ := (HR.out.below HB.out).at 12 1 1000000 rfl
        have ix : (Instr.index 74 (.agg #[.int .i64 r0, .int .i64 r1, .int .i64 r2, .int .i64 r3, .int .i64 r4, .int .i64 r5, .int .i64 r6, .int .i64 r7, .int .i64 r8, .int .i64 r9, .int .i64 r10, .int .i64 r11, .int .i64 r12, .int .i64 r13, .int .i64 r14]) (.int .i64 12)).run Tryz.prog wr = .ok (.int .i64 r12) wr := by kernel_rfl
        have HI := hide (fun W => hold_any W 1 1000000 r12)
        have HS := hide (fit_next (N := [r0, r1, r2, r3, r4, r5, r6, r7, r8, r9, r10, r11, r12, r13, r14]) (L := routeFits_anyL) (k := 12) (n := r12) (a := 1) (b := 1000000) rfl)
        have HN := hide (fit_no (N := [r0, r1, r2, r3, r4, r5, r6, r7, r8, r9, r10, r11, r12, r13, r14]) (L := routeFits_anyL) (k := 12) (m := 15) (n := r12) (a := 1) (b := 1000000) rfl (by decide))
        generalize inB r12 1 1000000 = bq at HI HS HN
        cases bq
        · have HX := hide (HN.out rfl)
          clear HS HN
          go_wp2_with fail
          refine (HI.out _).mono ?_
          rintro e w' ⟨rfl, bb⟩
          have B2 := hide (HB.out.trans (bb.mono HB.out.size))
          clear bb
          go_wp2
          go_ret
          exact ⟨ret_bool HX.out.symm, B2.out⟩
        · have HX : Hid (fitK [r0, r1, r2, r3, r4, r5, r6, r7, r8, r9, r10, r11, r12, r13, r14] routeFits_anyL 13 = true) := hide (by rw [HS.out, H.out]; rfl)
          clear HS HN
          go_wp2_with fail
          refine (HI.out _).mono ?_
          rintro e w' ⟨rfl, bb⟩
          have B2 := hide (HB.out.trans (bb.mono HB.out.size))
          clear bb
          go_wp2
          exact ⟨⟨13, by omega, by go_num, HX, B2⟩, by simp [intOf]⟩
      · obtain ⟨q0, q1⟩ := (HR.out.below HB.out).at 13 1 1000000 rfl
        have ix : (Instr.index 74 (.agg #[.int .i64 r0, .int .i64 r1, .int .i64 r2, .int .i64 r3, .int .i64 r4, .int .i64 r5, .int .i64 r6, .int .i64 r7, .int .i64 r8, .int .i64 r9, .int .i64 r10, .int .i64 r11, .int .i64 r12, .int .i64 r13, .int .i64 r14]) (.int .i64 13)).run Tryz.prog wr = .ok (.int .i64 r13) wr := by kernel_rfl
        have HI := hide (fun W => hold_any W 1 1000000 r13)
        have HS := hide (fit_next (N := [r0, r1, r2, r3, r4, r5, r6, r7, r8, r9, r10, r11, r12, r13, r14]) (L := routeFits_anyL) (k := 13) (n := r13) (a := 1) (b := 1000000) rfl)
        have HN := hide (fit_no (N := [r0, r1, r2, r3, r4, r5, r6, r7, r8, r9, r10, r11, r12, r13, r14]) (L := routeFits_anyL) (k := 13) (m := 15) (n := r13) (a := 1) (b := 1000000) rfl (by decide))
        generalize inB r13 1 1000000 = bq at HI HS HN
        cases bq
        · have HX := hide (HN.out rfl)
          clear HS HN
          go_wp2_with fail
          refine (HI.out _).mono ?_
          rintro e w' ⟨rfl, bb⟩
          have B2 := hide (HB.out.trans (bb.mono HB.out.size))
          clear bb
          go_wp2
          go_ret
          exact ⟨ret_bool HX.out.symm, B2.out⟩
        · have HX : Hid (fitK [r0, r1, r2, r3, r4, r5, r6, r7, r8, r9, r10, r11, r12, r13, r14] routeFits_anyL 14 = true) := hide (by rw [HS.out, H.out]; rfl)
          clear HS HN
          go_wp2_with fail
          refine (HI.out _).mono ?_
          rintro e w' ⟨rfl, bb⟩
          have B2 := hide (HB.out.trans (bb.mono HB.out.size))
          clear bb
          go_wp2
          exact ⟨⟨14, by omega, by go_num, HX, B2⟩, by simp [intOf]⟩
      · obtain ⟨q0, q1⟩ := (HR.out.below HB.out).at 14 1 1000000 rfl
        have ix : (Instr.index 74 (.agg #[.int .i64 r0, .int .i64 r1, .int .i64 r2, .int .i64 r3, .int .i64 r4, .int .i64 r5, .int .i64 r6, .int .i64 r7, .int .i64 r8, .int .i64 r9, .int .i64 r10, .int .i64 r11, .int .i64 r12, .int .i64 r13, .int .i64 r14]) (.int .i64 14)).run Tryz.prog wr = .ok (.int .i64 r14) wr := by kernel_rfl
        have HI := hide (fun W => hold_any W 1 1000000 r14)
        have HS := hide (fit_next (N := [r0, r1, r2, r3, r4, r5, r6, r7, r8, r9, r10, r11, r12, r13, r14]) (L := routeFits_anyL) (k := 14) (n := r14) (a := 1) (b := 1000000) rfl)
        have HN := hide (fit_no (N := [r0, r1, r2, r3, r4, r5, r6, r7, r8, r9, r10, r11, r12, r13, r14]) (L := routeFits_anyL) (k := 14) (m := 15) (n := r14) (a := 1) (b := 1000000) rfl (by decide))
        generalize inB r14 1 1000000 = bq at HI HS HN
        cases bq
        · have HX := hide (HN.out rfl)
          clear HS HN
          go_wp2_with fail
          refine (HI.out _).mono ?_
          rintro e w' ⟨rfl, bb⟩
          have B2 := hide (HB.out.trans (bb.mono HB.out.size))
          clear bb
          go_wp2
          go_ret
          exact ⟨ret_bool HX.out.symm, B2.out⟩
        · have HX : Hid (fitK [r0, r1, r2, r3, r4, r5, r6, r7, r8, r9, r10, r11, r12, r13, r14] routeFits_anyL 15 = true) := hide (by rw [HS.out, H.out]; rfl)
          clear HS HN
          go_wp2_with fail
          refine (HI.out _).mono ?_
          rintro e w' ⟨rfl, bb⟩
          have B2 := hide (HB.out.trans (bb.mono HB.out.size))
          clear bb
          go_wp2
          exact ⟨⟨15, by omega, by go_num, HX, B2⟩, by simp [intOf]⟩
    · have HX : Hid (fitK [r0, r1, r2, r3, r4, r5, r6, r7, r8, r9, r10, r11, r12, r13, r14] routeFits_anyL 15 = true) := hide (by rw [← H.out]; congr 1; omega)
      go_wp2
      go_ret
      exact ⟨ret_bool HX.out.symm, HB.out⟩
end Go.Proofs.YtekkhjlipijmcaaGreatDoor
