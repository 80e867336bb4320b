/- WO: ZRf2. -/
import Derived.Test.YtacnnomkacfdbaaGreatDoorWN
import Derived.Test.YtacnnomkacfdbaaGreatDoorWE
/- The document's side: a route's numbers. -/
namespace Go.Proofs.YtacnnomkacfdbaaGreatDoor
open Go.ChangeShapes Go.WideShapes Go.ChangeAt Go.RowKit
set_option linter.unusedVariables false

def rnumB (r : Rt) : Bool := inB r.r0 0 1000000 && (inB r.r2 0 1000000 && (inB r.r1 1 1000000 && (inB r.r5 1 1000000 && (inB r.r9 1 1000000 && (inB r.r12 1 1000000 && (inB r.r13 1 1000000 && (inB r.r14 1 1000000 && (inB r.r3 1 1000 && (inB r.r4 0 1000 && (inB r.r6 1 100 && (inB r.r7 0 100 && (inB r.r8 0 1000 && (inB r.r10 0 5 && (inB r.r11 0 3))))))))))))))
theorem rnum_is (r : Rt) : rnumB r = fitK (numsR r) routeFits_anyL 15 := by
  unfold rnumB fitK numsR routeFits_anyL
  simp only [List.zip_cons_cons, List.zip_nil_right, List.take_succ_cons, List.take_zero, List.all_cons, List.all_nil, Bool.and_true]
  ac_rfl
set_option maxHeartbeats 4000000 in
set_option maxRecDepth 100000 in
theorem rnums_any (w : World) (r : Rt) (m q : Value) (hm : m.oneCell' = true) (hq : q.oneCell' = true) :
    Calls Tryz.prog 68 #[.agg #[.string r.ho, .string r.pf, m, .string r.hd, .string r.va, q, .int .i64 r.r0, .int .i64 r.r1, .int .i64 r.r2, .int .i64 r.r3, .int .i64 r.r4, .int .i64 r.r5, .int .i64 r.r6, .int .i64 r.r7, .int .i64 r.r8, .int .i64 r.r9, .int .i64 r.r10, .int .i64 r.r11, .int .i64 r.r12, .int .i64 r.r13, .int .i64 r.r14]] w fun e w' => e = .returned (.bool (fitK (numsR r) routeFits_anyL 15)) ∧ Below w.heap.size w w' := by
  rw [← rnum_is]
  obtain ⟨R, hR⟩ : ∃ R, rnumB r = R := ⟨_, rfl⟩
  rw [hR]
  have HV := hide hR
  unfold rnumB at HV
  clear hR
  have H0 := hide (fun W => rcin_any W r.r0 0 1000000)
  have H1 := hide (fun W => rcin_any W r.r2 0 1000000)
  have H2 := hide (fun W => rspan_any W r.r1)
  have H3 := hide (fun W => rspan_any W r.r5)
  have H4 := hide (fun W => rspan_any W r.r9)
  have H5 := hide (fun W => rspan_any W r.r12)
  have H6 := hide (fun W => rspan_any W r.r13)
  have H7 := hide (fun W => rspan_any W r.r14)
  have H8 := hide (fun W => rcin_any W r.r3 1 1000)
  have H9 := hide (fun W => rcin_any W r.r4 0 1000)
  have H10 := hide (fun W => rcin_any W r.r6 1 100)
  have H11 := hide (fun W => rcin_any W r.r7 0 100)
  have H12 := hide (fun W => rcin_any W r.r8 0 1000)
  have H13 := hide (fun W => rcin_any W r.r10 0 5)
  have H14 := hide (fun W => rcin_any W r.r11 0 3)
  generalize inB r.r0 0 1000000 = b0 at H0 HV
  generalize inB r.r2 0 1000000 = b1 at H1 HV
  generalize inB r.r1 1 1000000 = b2 at H2 HV
  generalize inB r.r5 1 1000000 = b3 at H3 HV
  generalize inB r.r9 1 1000000 = b4 at H4 HV
  generalize inB r.r12 1 1000000 = b5 at H5 HV
  generalize inB r.r13 1 1000000 = b6 at H6 HV
  generalize inB r.r14 1 1000000 = b7 at H7 HV
  generalize inB r.r3 1 1000 = b8 at H8 HV
  generalize inB r.r4 0 1000 = b9 at H9 HV
  generalize inB r.r6 1 100 = b10 at H10 HV
  generalize inB r.r7 0 100 = b11 at H11 HV
  generalize inB r.r8 0 1000 = b12 at H12 HV
  generalize inB r.r10 0 5 = b13 at H13 HV
  generalize inB r.r11 0 3 = b14 at H14 HV
  obtain ⟨ho, pf, M, hd, va, HL, v0, v1, v2, v3, v4, v5, v6, v7, v8, v9, v10, v11, v12, v13, v14⟩ := r
  simp only at H0 H1 H2 H3 H4 H5 H6 H7 H8 H9 H10 H11 H12 H13 H14 ⊢
  go_enter Tryz.func68, Tryz.ntmps68
  go_wp2_with fail
  have B0 := hide ((Below.refl w.heap.size w).alloc (Nat.le_refl _) (.cells #[.string ho, .string pf, m, .string hd, .string va, q, .int .i64 v0, .int .i64 v1, .int .i64 v2, .int .i64 v3, .int .i64 v4, .int .i64 v5, .int .i64 v6, .int .i64 v7, .int .i64 v8, .int .i64 v9, .int .i64 v10, .int .i64 v11, .int .i64 v12, .int .i64 v13, .int .i64 v14] 41))
  have FA := hide (hp_new w (.cells #[.string ho, .string pf, m, .string hd, .string va, q, .int .i64 v0, .int .i64 v1, .int .i64 v2, .int .i64 v3, .int .i64 v4, .int .i64 v5, .int .i64 v6, .int .i64 v7, .int .i64 v8, .int .i64 v9, .int .i64 v10, .int .i64 v11, .int .i64 v12, .int .i64 v13, .int .i64 v14] 41))
  generalize hx0 : w.alloc (.cells #[.string ho, .string pf, m, .string hd, .string va, q, .int .i64 v0, .int .i64 v1, .int .i64 v2, .int .i64 v3, .int .i64 v4, .int .i64 v5, .int .i64 v6, .int .i64 v7, .int .i64 v8, .int .i64 v9, .int .i64 v10, .int .i64 v11, .int .i64 v12, .int .i64 v13, .int .i64 v14] 41) = x0 at B0 FA ⊢
  clear hx0
  refine (H0.out x0).mono ?_
  rintro e x1 ⟨rfl, bb⟩
  have B1 := hide (B0.out.trans (bb.mono B0.out.size))
  have FA := hide ((bb.block w.heap.size (blk_lt FA.out)).trans FA.out)
  clear bb B0 H0
  have m0 : x1.cell? ⟨w.heap.size, 8, none⟩ = some (.int .i64 v2) := cell_at FA.out 8
  cases b0
  · have HE : Hid (R = false) := hide (by rw [← HV.out]; simp)
    go_wp2_with fail
    go_ret
    exact ⟨ret_bool (by rw [HE.out]), B1.out⟩
  go_wp2_with fail
  clear m0
  refine (H1.out x1).mono ?_
  rintro e x2 ⟨rfl, bb⟩
  have B2 := hide (B1.out.trans (bb.mono B1.out.size))
  have FA := hide ((bb.block w.heap.size (blk_lt FA.out)).trans FA.out)
  clear bb B1 H1
  have m0 : x2.cell? ⟨w.heap.size, 7, none⟩ = some (.int .i64 v1) := cell_at FA.out 7
  cases b1
  · have HE : Hid (R = false) := hide (by rw [← HV.out]; simp)
    go_wp2_with fail
    go_ret
    exact ⟨ret_bool (by rw [HE.out]), B2.out⟩
  go_wp2_with fail
  clear m0
  refine (H2.out x2).mono ?_
  rintro e x3 ⟨rfl, bb⟩
  have B3 := hide (B2.out.trans (bb.mono B2.out.size))
  have FA := hide ((bb.block w.heap.size (blk_lt FA.out)).trans FA.out)
  clear bb B2 H2
  have m0 : x3.cell? ⟨w.heap.size, 11, none⟩ = some (.int .i64 v5) := cell_at FA.out 11
  cases b2
  · have HE : Hid (R = false) := hide (by rw [← HV.out]; simp)
    go_wp2_with fail
    go_ret
    exact ⟨ret_bool (by rw [HE.out]), B3.out⟩
  go_wp2_with fail
  clear m0
  refine (H3.out x3).mono ?_
  rintro e x4 ⟨rfl, bb⟩
  have B4 := hide (B3.out.trans (bb.mono B3.out.size))
  have FA := hide ((bb.block w.heap.size (blk_lt FA.out)).trans FA.out)
  clear bb B3 H3
  have m0 : x4.cell? ⟨w.heap.size, 15, none⟩ = some (.int .i64 v9) := cell_at FA.out 15
  cases b3
  · have HE : Hid (R = false) := hide (by rw [← HV.out]; simp)
    go_wp2_with fail
    go_ret
    exact ⟨ret_bool (by rw [HE.out]), B4.out⟩
  go_wp2_with fail
  clear m0
  refine (H4.out x4).mono ?_
  rintro e x5 ⟨rfl, bb⟩
  have B5 := hide (B4.out.trans (bb.mono B4.out.size))
  have FA := hide ((bb.block w.heap.size (blk_lt FA.out)).trans FA.out)
  clear bb B4 H4
  have m0 : x5.cell? ⟨w.heap.size, 18, none⟩ = some (.int .i64 v12) := cell_at FA.out 18
  cases b4
  · have HE : Hid (R = false) := hide (by rw [← HV.out]; simp)
    go_wp2_with fail
    go_ret
    exact ⟨ret_bool (by rw [HE.out]), B5.out⟩
  go_wp2_with fail
  clear m0
  refine (H5.out x5).mono ?_
  rintro e x6 ⟨rfl, bb⟩
  have B6 := hide (B5.out.trans (bb.mono B5.out.size))
  have FA := hide ((bb.block w.heap.size (blk_lt FA.out)).trans FA.out)
  clear bb B5 H5
  have m0 : x6.cell? ⟨w.heap.size, 19, none⟩ = some (.int .i64 v13) := cell_at FA.out 19
  cases b5
  · have HE : Hid (R = false) := hide (by rw [← HV.out]; simp)
    go_wp2_with fail
    go_ret
    exact ⟨ret_bool (by rw [HE.out]), B6.out⟩
  go_wp2_with fail
  clear m0
  refine (H6.out x6).mono ?_
  rintro e x7 ⟨rfl, bb⟩
  have B7 := hide (B6.out.trans (bb.mono B6.out.size))
  have FA := hide ((bb.block w.heap.size (blk_lt FA.out)).trans FA.out)
  clear bb B6 H6
  have m0 : x7.cell? ⟨w.heap.size, 20, none⟩ = some (.int .i64 v14) := cell_at FA.out 20
  cases b6
  · have HE : Hid (R = false) := hide (by rw [← HV.out]; simp)
    go_wp2_with fail
    go_ret
    exact ⟨ret_bool (by rw [HE.out]), B7.out⟩
  go_wp2_with fail
  clear m0
  refine (H7.out x7).mono ?_
  rintro e x8 ⟨rfl, bb⟩
  have B8 := hide (B7.out.trans (bb.mono B7.out.size))
  have FA := hide ((bb.block w.heap.size (blk_lt FA.out)).trans FA.out)
  clear bb B7 H7
  have m0 : x8.cell? ⟨w.heap.size, 9, none⟩ = some (.int .i64 v3) := cell_at FA.out 9
  cases b7
  · have HE : Hid (R = false) := hide (by rw [← HV.out]; simp)
    go_wp2_with fail
    go_ret
    exact ⟨ret_bool (by rw [HE.out]), B8.out⟩
  go_wp2_with fail
  clear m0
  refine (H8.out x8).mono ?_
  rintro e x9 ⟨rfl, bb⟩
  have B9 := hide (B8.out.trans (bb.mono B8.out.size))
  have FA := hide ((bb.block w.heap.size (blk_lt FA.out)).trans FA.out)
  clear bb B8 H8
  have m0 : x9.cell? ⟨w.heap.size, 10, none⟩ = some (.int .i64 v4) := cell_at FA.out 10
  cases b8
  · have HE : Hid (R = false) := hide (by rw [← HV.out]; simp)
    go_wp2_with fail
    go_ret
    exact ⟨ret_bool (by rw [HE.out]), B9.out⟩
  go_wp2_with fail
  clear m0
  refine (H9.out x9).mono ?_
  rintro e x10 ⟨rfl, bb⟩
  have B10 := hide (B9.out.trans (bb.mono B9.out.size))
  have FA := hide ((bb.block w.heap.size (blk_lt FA.out)).trans FA.out)
  clear bb B9 H9
  have m0 : x10.cell? ⟨w.heap.size, 12, none⟩ = some (.int .i64 v6) := cell_at FA.out 12
  cases b9
  · have HE : Hid (R = false) := hide (by rw [← HV.out]; simp)
    go_wp2_with fail
    go_ret
    exact ⟨ret_bool (by rw [HE.out]), B10.out⟩
  go_wp2_with fail
  clear m0
  refine (H10.out x10).mono ?_
  rintro e x11 ⟨rfl, bb⟩
  have B11 := hide (B10.out.trans (bb.mono B10.out.size))
  have FA := hide ((bb.block w.heap.size (blk_lt FA.out)).trans FA.out)
  clear bb B10 H10
  have m0 : x11.cell? ⟨w.heap.size, 13, none⟩ = some (.int .i64 v7) := cell_at FA.out 13
  cases b10
  · have HE : Hid (R = false) := hide (by rw [← HV.out]; simp)
    go_wp2_with fail
    go_ret
    exact ⟨ret_bool (by rw [HE.out]), B11.out⟩
  go_wp2_with fail
  clear m0
  refine (H11.out x11).mono ?_
  rintro e x12 ⟨rfl, bb⟩
  have B12 := hide (B11.out.trans (bb.mono B11.out.size))
  have FA := hide ((bb.block w.heap.size (blk_lt FA.out)).trans FA.out)
  clear bb B11 H11
  have m0 : x12.cell? ⟨w.heap.size, 14, none⟩ = some (.int .i64 v8) := cell_at FA.out 14
  cases b11
  · have HE : Hid (R = false) := hide (by rw [← HV.out]; simp)
    go_wp2_with fail
    go_ret
    exact ⟨ret_bool (by rw [HE.out]), B12.out⟩
  go_wp2_with fail
  clear m0
  refine (H12.out x12).mono ?_
  rintro e x13 ⟨rfl, bb⟩
  have B13 := hide (B12.out.trans (bb.mono B12.out.size))
  have FA := hide ((bb.block w.heap.size (blk_lt FA.out)).trans FA.out)
  clear bb B12 H12
  have m0 : x13.cell? ⟨w.heap.size, 16, none⟩ = some (.int .i64 v10) := cell_at FA.out 16
  cases b12
  · have HE : Hid (R = false) := hide (by rw [← HV.out]; simp)
    go_wp2_with fail
    go_ret
    exact ⟨ret_bool (by rw [HE.out]), B13.out⟩
  go_wp2_with fail
  clear m0
  refine (H13.out x13).mono ?_
  rintro e x14 ⟨rfl, bb⟩
  have B14 := hide (B13.out.trans (bb.mono B13.out.size))
  have FA := hide ((bb.block w.heap.size (blk_lt FA.out)).trans FA.out)
  clear bb B13 H13
  have m0 : x14.cell? ⟨w.heap.size, 17, none⟩ = some (.int .i64 v11) := cell_at FA.out 17
  cases b13
  · have HE : Hid (R = false) := hide (by rw [← HV.out]; simp)
    go_wp2_with fail
    go_ret
    exact ⟨ret_bool (by rw [HE.out]), B14.out⟩
  go_wp2_with fail
  clear m0
  refine (H14.out x14).mono ?_
  rintro e x15 ⟨rfl, bb⟩
  have B15 := hide (B14.out.trans (bb.mono B14.out.size))
  have FA := hide ((bb.block w.heap.size (blk_lt FA.out)).trans FA.out)
  clear bb B14 H14
  cases b14
  · have HE : Hid (R = false) := hide (by rw [← HV.out]; simp)
    go_wp2_with fail
    go_ret
    exact ⟨ret_bool (by rw [HE.out]), B15.out⟩
  have HE : Hid (R = true) := hide (by rw [← HV.out]; simp)
  go_wp2_with fail
  go_ret
  exact ⟨ret_bool (by rw [HE.out]), B15.out⟩
end Go.Proofs.YtacnnomkacfdbaaGreatDoor
