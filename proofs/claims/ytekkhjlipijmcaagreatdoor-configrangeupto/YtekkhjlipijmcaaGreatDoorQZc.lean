/- QZc: ZRf1 ZRf2 ZRf3 ZRf4 ZRf5 ZRf6. -/
import Derived.Test.YtekkhjlipijmcaaGreatDoorQZa
import Derived.Test.YtekkhjlipijmcaaGreatDoorTRAll
import Derived.Test.YtekkhjlipijmcaaGreatDoorTRCln
import Derived.Test.YtekkhjlipijmcaaGreatDoorTSame
import Derived.Test.YtekkhjlipijmcaaGreatDoorQZb
import Derived.Deep.CutRange
/- The document's side of what a configuration is made of: in, span, host, place. -/
namespace Go.Proofs.YtekkhjlipijmcaaGreatDoor
open Go.ChangeShapes Go.WideShapes Go.ChangeAt Go.RowKit
set_option linter.unusedVariables false

theorem rcin_any (w : World) (n a b : Int) : Calls Tryz.prog 21 #[.int .i64 n, .int .i64 a, .int .i64 b] w fun e w' => e = .returned (.bool (inB n a b)) ∧ Below w.heap.size w w' := by
  unfold inB
  by_cases h : a ≤ n
  · have HD := hide (decide_eq_true h)
    go_enter Tryz.func21, Tryz.ntmps21
    go_wp2
    go_ret
    exact ⟨ret_bool (by rw [HD.out]; rfl), Below.refl _ _⟩
  · have HD := hide (decide_eq_false h)
    go_enter Tryz.func21, Tryz.ntmps21
    go_wp2
    go_ret
    exact ⟨ret_bool (by rw [HD.out]; rfl), Below.refl _ _⟩
theorem rspan_any (w : World) (n : Int) : Calls Tryz.prog 24 #[.int .i64 n] w fun e w' => e = .returned (.bool (inB n 1 1000000)) ∧ Below w.heap.size w w' := by
  have H := hide (rcin_any w n 1 1000000)
  generalize inB n 1 1000000 = b at H ⊢
  go_enter Tryz.func24, Tryz.ntmps24
  go_wp2_with fail
  refine H.out.mono ?_
  rintro e w1 ⟨rfl, bb⟩
  have B1 := hide bb
  clear bb H
  go_wp2
  go_ret
  exact ⟨rfl, B1.out⟩
theorem isHost_port {s : ByteArray} (h : hostE s.data.toList = 0) (e : hostS s = s) : hostP s.data.toList = -1 := by
  have hl : hostH s.data.toList = s.data.toList := by
    have := congrArg (fun x : ByteArray => x.data.toList) e
    simpa [hostS, sS] using this
  generalize s.data.toList = l at h hl
  have ho : hostOk l = true := by
    unfold hostE at h
    unfold hostOk
    split at h
    · rename_i hb
      rw [hb]
      simpa using h
    · omega
  unfold hostH at hl
  rw [if_pos ho] at hl
  unfold hostP
  rw [if_pos ho]
  have hlen := congrArg List.length hl
  unfold lowerB at hlen
  rw [List.length_map] at hlen
  unfold nameOf at hlen
  unfold digsOf
  have := (pstate_le l).1
  split at hlen
  · rename_i hp
    rw [if_pos hp]
    rfl
  · rw [List.length_take] at hlen
    omega
theorem host_is (s : ByteArray) : (decide (rhostE s.data.toList = 0) && (decide (rhostP s.data.toList = -1) && decide (rhostS s = s))) = isHostB s := by
  obtain ⟨h1, h2⟩ := host_same2 s.data.toList
  unfold isHostB
  by_cases h : hostE s.data.toList = 0
  · obtain ⟨e1, e2⟩ := h2 h
    have e3 : rhostS s = hostS s := by unfold rhostS hostS; rw [e1]
    rw [e3, ← e2]
    by_cases e : hostS s = s
    · rw [isHost_port h e]
      simp [h, h1.1 h, e]
    · simp [e]
  · have : ¬ rhostE s.data.toList = 0 := fun x => h (h1.2 x)
    simp [h, this]
theorem rishost_any (s : ByteArray) (w : World) (hs : s.size ≤ 140737488355328) : Calls Tryz.prog 22 #[.string s] w fun e w' => e = .returned (.bool (isHostB s)) ∧ Below w.heap.size w w' := by
  have HH := hide (rhost_any s w hs)
  have hbe := bytes_eq (rhostS s) s
  rw [← host_is]
  generalize rhostS s = t at HH hbe ⊢
  generalize rhostE s.data.toList = ee at HH ⊢
  generalize rhostP s.data.toList = p at HH ⊢
  clear hs
  by_cases h0 : ee = 0
  · subst h0
    by_cases hp : p = -1
    · subst hp
      go_enter Tryz.func22, Tryz.ntmps22
      go_wp2_with fail
      refine HH.out.mono ?_
      rintro e w1 ⟨rfl, bb⟩
      have B1 := hide bb
      clear bb HH
      go_wp2
      go_ret
      exact ⟨ret_bool (by simp), B1.out⟩
    · have t0 : (p == -1) = false := beq_eq_false_iff_ne.2 hp
      have HD := hide (decide_eq_false hp)
      go_enter Tryz.func22, Tryz.ntmps22
      go_wp2_with fail
      refine HH.out.mono ?_
      rintro e w1 ⟨rfl, bb⟩
      have B1 := hide bb
      clear bb HH
      go_wp2
      go_ret
      exact ⟨ret_bool (by rw [HD.out]; simp), B1.out⟩
  · have t0 : ((ee : Int) == 0) = false := beq_eq_false_iff_ne.2 (by omega)
    have HD := hide (decide_eq_false h0)
    go_enter Tryz.func22, Tryz.ntmps22
    go_wp2_with fail
    refine HH.out.mono ?_
    rintro e w1 ⟨rfl, bb⟩
    have B1 := hide bb
    clear bb HH
    go_wp2
    go_ret
    exact ⟨ret_bool (by rw [HD.out]; rfl), B1.out⟩
theorem rparse_get (s : ByteArray) : ∃ (f : Int) (h : ByteArray) (p : Int) (pa q : ByteArray) (a : Bool) (re : Int), RParses getN s (tgV f h p pa q a) re ∧ ((re = 0 ∧ f = 1 ∧ a = false) ↔ pathB s = true) := by
  obtain ⟨t, re, h1, h2, h3, h4⟩ := rparse_total getN s
  have key : ∀ (f : Int) (h : ByteArray) (p : Int) (pa q : ByteArray) (a : Bool), t = tgV f h p pa q a → ∃ (f : Int) (h : ByteArray) (p : Int) (pa q : ByteArray) (a : Bool) (re : Int), RParses getN s (tgV f h p pa q a) re ∧ ((re = 0 ∧ f = 1 ∧ a = false) ↔ pathB s = true) := by
    intro f h p pa q a ht
    refine ⟨f, h, p, pa, q, a, re, by rw [← ht]; exact h1, ⟨?_, ?_⟩⟩
    · rintro ⟨r0, rfl, rfl⟩
      obtain ⟨tk, hz⟩ := h2 r0
      rw [ht] at tk
      unfold pathB
      refine decide_eq_true ⟨hz, ?_⟩
      generalize hg : tgV 1 h p pa q false = g at tk
      cases tk with
      | auth hf _ _ => exact absurd (tgV_inj hg).1 (by decide)
      | ast hf => exact absurd (tgV_inj hg).1 (by decide)
      | origin hf h0 => exact ⟨hf, h0, (tgV_inj hg).2.symm⟩
      | abs hf _ _ => exact absurd (tgV_inj hg).1 (by decide)
    · intro hb
      obtain ⟨hz, hf, hl, hc⟩ := of_decide_eq_true hb
      obtain ⟨r0, e⟩ := h4 _ (Taken.origin hf hl) hz
      rw [ht] at e
      obtain ⟨e1, e2⟩ := tgV_inj e
      exact ⟨r0, e1, e2.trans hc⟩
  by_cases r0 : re = 0
  · obtain ⟨tk, _⟩ := h2 r0
    generalize hg : t = g at tk
    cases tk with
    | auth _ _ _ => exact key _ _ _ _ _ _ hg
    | ast _ => exact key _ _ _ _ _ _ hg
    | origin _ _ => exact key _ _ _ _ _ _ hg
    | abs _ _ _ => exact key _ _ _ _ _ _ hg
  · exact key _ _ _ _ _ _ (h3 r0)
set_option maxHeartbeats 2000000 in
set_option maxRecDepth 100000 in
theorem rplace_any (s : ByteArray) (w : World) : Calls Tryz.prog 25 #[.string s] w fun e w' => e = .returned (.bool (placeB s)) ∧ Below w.heap.size w w' := by
  obtain ⟨f, h, p, pa, q, a, re, hP, hI⟩ := rparse_get s
  have HP := hide (hP w)
  have HC := hide (fun W => rclean_any s W)
  have hbe := bytes_eq (cleanS s) s
  unfold placeB
  generalize pathB s = pb at hI ⊢
  generalize cleanS s = cs at HC hbe ⊢
  generalize cleanE s.data.toList = ce at HC ⊢
  unfold tgV at HP
  unfold getN at HP
  clear hP
  by_cases r0 : re = 0
  · by_cases f1 : f = 1
    · cases a
      · have HB : Hid (pb = true) := hide (hI.1 ⟨r0, f1, rfl⟩)
        subst r0 f1
        clear hI
        go_enter Tryz.func25, Tryz.ntmps25
        go_wp2_with fail
        refine HP.out.mono ?_
        rintro e w1 ⟨rfl, bb⟩
        have B1 := hide bb
        clear bb HP
        go_wp2_with fail
        have U1 := hide (Bl.one w1 #[.int .i64 1, .string h, .int .i64 p, .string pa, .string q, .bool false] 61)
        generalize (w1.alloc (.cells #[.int .i64 1, .string h, .int .i64 p, .string pa, .string q, .bool false] 61)) = y at U1 ⊢
        have B2 := hide (B1.out.trans (U1.out.b.mono B1.out.size))
        refine (HC.out _).mono ?_
        rintro e w2 ⟨rfl, bb⟩
        have B3 := hide (B2.out.trans (bb.mono B2.out.size))
        clear bb U1
        by_cases c0 : ce = 0
        · subst c0
          go_wp2
          go_ret
          exact ⟨ret_bool (by rw [HB.out]; simp), B3.out⟩
        · have t0 : ((ce : Int) == 0) = false := beq_eq_false_iff_ne.2 (by omega)
          have HD := hide (decide_eq_false c0)
          go_wp2
          go_ret
          exact ⟨ret_bool (by rw [HB.out, HD.out]; rfl), B3.out⟩
      · have HB : Hid (pb = false) := hide (by cases hpb : pb with | false => rfl | true => exact absurd (hI.2 hpb).2.2 (by decide))
        subst r0 f1
        clear hI
        go_enter Tryz.func25, Tryz.ntmps25
        go_wp2_with fail
        refine HP.out.mono ?_
        rintro e w1 ⟨rfl, bb⟩
        have B1 := hide bb
        clear bb HP
        go_wp2
        go_ret
        exact ⟨ret_bool (by rw [HB.out]; rfl), B1.out.trans ((Bl.one w1 _ _).b.mono B1.out.size)⟩
    · have HB : Hid (pb = false) := hide (by cases hpb : pb with | false => rfl | true => exact absurd (hI.2 hpb).2.1 f1)
      have t1 : (f == 1) = false := beq_eq_false_iff_ne.2 f1
      subst r0
      clear hI
      go_enter Tryz.func25, Tryz.ntmps25
      go_wp2_with fail
      refine HP.out.mono ?_
      rintro e w1 ⟨rfl, bb⟩
      have B1 := hide bb
      clear bb HP
      go_wp2
      go_ret
      exact ⟨ret_bool (by rw [HB.out]; rfl), B1.out.trans ((Bl.one w1 _ _).b.mono B1.out.size)⟩
  · have HB : Hid (pb = false) := hide (by cases hpb : pb with | false => rfl | true => exact absurd (hI.2 hpb).1 r0)
    have t1 : (re == 0) = false := beq_eq_false_iff_ne.2 r0
    clear hI
    go_enter Tryz.func25, Tryz.ntmps25
    go_wp2_with fail
    refine HP.out.mono ?_
    rintro e w1 ⟨rfl, bb⟩
    have B1 := hide bb
    clear bb HP
    go_wp2
    go_ret
    exact ⟨ret_bool (by rw [HB.out]; rfl), B1.out.trans ((Bl.one w1 _ _).b.mono B1.out.size)⟩
end Go.Proofs.YtekkhjlipijmcaaGreatDoor
/- The document's side: a route's numbers. -/
namespace Go.Proofs.YtekkhjlipijmcaaGreatDoor
open Go.ChangeShapes Go.WideShapes Go.ChangeAt Go.RowKit
set_option linter.unusedVariables false

def rnumB (r : Rt) : Bool := inB r.r0 0 1000000 && (inB r.r2 0 1000000 && (inB r.r1 1 1000000 && (inB r.r5 1 1000000 && (inB r.r9 1 1000000 && (inB r.r12 1 1000000 && (inB r.r13 1 1000000 && (inB r.r14 1 1000000 && (inB r.r3 1 1000 && (inB r.r4 0 1000 && (inB r.r6 1 100 && (inB r.r7 0 100 && (inB r.r8 0 1000 && (inB r.r10 0 5 && (inB r.r11 0 3))))))))))))))
theorem rnum_is (r : Rt) : rnumB r = fitK (numsR r) routeFits_anyL 15 := by
  unfold rnumB fitK numsR routeFits_anyL
  simp only [List.zip_cons_cons, List.zip_nil_right, List.take_succ_cons, List.take_zero, List.all_cons, List.all_nil, Bool.and_true]
  ac_rfl
set_option maxHeartbeats 4000000 in
set_option maxRecDepth 100000 in
theorem rnums_any (w : World) (r : Rt) (m q : Value) (hm : m.oneCell' = true) (hq : q.oneCell' = true) :
    Calls Tryz.prog 36 #[.agg #[.string r.ho, .string r.pf, m, .string r.hd, .string r.va, q, .int .i64 r.r0, .int .i64 r.r1, .int .i64 r.r2, .int .i64 r.r3, .int .i64 r.r4, .int .i64 r.r5, .int .i64 r.r6, .int .i64 r.r7, .int .i64 r.r8, .int .i64 r.r9, .int .i64 r.r10, .int .i64 r.r11, .int .i64 r.r12, .int .i64 r.r13, .int .i64 r.r14]] w fun e w' => e = .returned (.bool (fitK (numsR r) routeFits_anyL 15)) ∧ Below w.heap.size w w' := by
  rw [← rnum_is]
  obtain ⟨R, hR⟩ : ∃ R, rnumB r = R := ⟨_, rfl⟩
  rw [hR]
  have HV := hide hR
  unfold rnumB at HV
  clear hR
  have H0 := hide (fun W => rcin_any W r.r0 0 1000000)
  have H1 := hide (fun W => rcin_any W r.r2 0 1000000)
  have H2 := hide (fun W => rspan_any W r.r1)
  have H3 := hide (fun W => rspan_any W r.r5)
  have H4 := hide (fun W => rspan_any W r.r9)
  have H5 := hide (fun W => rspan_any W r.r12)
  have H6 := hide (fun W => rspan_any W r.r13)
  have H7 := hide (fun W => rspan_any W r.r14)
  have H8 := hide (fun W => rcin_any W r.r3 1 1000)
  have H9 := hide (fun W => rcin_any W r.r4 0 1000)
  have H10 := hide (fun W => rcin_any W r.r6 1 100)
  have H11 := hide (fun W => rcin_any W r.r7 0 100)
  have H12 := hide (fun W => rcin_any W r.r8 0 1000)
  have H13 := hide (fun W => rcin_any W r.r10 0 5)
  have H14 := hide (fun W => rcin_any W r.r11 0 3)
  generalize inB r.r0 0 1000000 = b0 at H0 HV
  generalize inB r.r2 0 1000000 = b1 at H1 HV
  generalize inB r.r1 1 1000000 = b2 at H2 HV
  generalize inB r.r5 1 1000000 = b3 at H3 HV
  generalize inB r.r9 1 1000000 = b4 at H4 HV
  generalize inB r.r12 1 1000000 = b5 at H5 HV
  generalize inB r.r13 1 1000000 = b6 at H6 HV
  generalize inB r.r14 1 1000000 = b7 at H7 HV
  generalize inB r.r3 1 1000 = b8 at H8 HV
  generalize inB r.r4 0 1000 = b9 at H9 HV
  generalize inB r.r6 1 100 = b10 at H10 HV
  generalize inB r.r7 0 100 = b11 at H11 HV
  generalize inB r.r8 0 1000 = b12 at H12 HV
  generalize inB r.r10 0 5 = b13 at H13 HV
  generalize inB r.r11 0 3 = b14 at H14 HV
  obtain ⟨ho, pf, M, hd, va, HL, v0, v1, v2, v3, v4, v5, v6, v7, v8, v9, v10, v11, v12, v13, v14⟩ := r
  simp only at H0 H1 H2 H3 H4 H5 H6 H7 H8 H9 H10 H11 H12 H13 H14 ⊢
  go_enter Tryz.func36, Tryz.ntmps36
  go_wp2_with fail
  have B0 := hide ((Below.refl w.heap.size w).alloc (Nat.le_refl _) (.cells #[.string ho, .string pf, m, .string hd, .string va, q, .int .i64 v0, .int .i64 v1, .int .i64 v2, .int .i64 v3, .int .i64 v4, .int .i64 v5, .int .i64 v6, .int .i64 v7, .int .i64 v8, .int .i64 v9, .int .i64 v10, .int .i64 v11, .int .i64 v12, .int .i64 v13, .int .i64 v14] 40))
  have FA := hide (hp_new w (.cells #[.string ho, .string pf, m, .string hd, .string va, q, .int .i64 v0, .int .i64 v1, .int .i64 v2, .int .i64 v3, .int .i64 v4, .int .i64 v5, .int .i64 v6, .int .i64 v7, .int .i64 v8, .int .i64 v9, .int .i64 v10, .int .i64 v11, .int .i64 v12, .int .i64 v13, .int .i64 v14] 40))
  generalize hx0 : w.alloc (.cells #[.string ho, .string pf, m, .string hd, .string va, q, .int .i64 v0, .int .i64 v1, .int .i64 v2, .int .i64 v3, .int .i64 v4, .int .i64 v5, .int .i64 v6, .int .i64 v7, .int .i64 v8, .int .i64 v9, .int .i64 v10, .int .i64 v11, .int .i64 v12, .int .i64 v13, .int .i64 v14] 40) = x0 at B0 FA ⊢
  clear hx0
  refine (H0.out x0).mono ?_
  rintro e x1 ⟨rfl, bb⟩
  have B1 := hide (B0.out.trans (bb.mono B0.out.size))
  have FA := hide ((bb.block w.heap.size (blk_lt FA.out)).trans FA.out)
  clear bb B0 H0
  have m0 : x1.cell? ⟨w.heap.size, 8, none⟩ = some (.int .i64 v2) := cell_at FA.out 8
  cases b0
  · have HE : Hid (R = false) := hide (by rw [← HV.out]; simp)
    go_wp2_with fail
    go_ret
    exact ⟨ret_bool (by rw [HE.out]), B1.out⟩
  go_wp2_with fail
  clear m0
  refine (H1.out x1).mono ?_
  rintro e x2 ⟨rfl, bb⟩
  have B2 := hide (B1.out.trans (bb.mono B1.out.size))
  have FA := hide ((bb.block w.heap.size (blk_lt FA.out)).trans FA.out)
  clear bb B1 H1
  have m0 : x2.cell? ⟨w.heap.size, 7, none⟩ = some (.int .i64 v1) := cell_at FA.out 7
  cases b1
  · have HE : Hid (R = false) := hide (by rw [← HV.out]; simp)
    go_wp2_with fail
    go_ret
    exact ⟨ret_bool (by rw [HE.out]), B2.out⟩
  go_wp2_with fail
  clear m0
  refine (H2.out x2).mono ?_
  rintro e x3 ⟨rfl, bb⟩
  have B3 := hide (B2.out.trans (bb.mono B2.out.size))
  have FA := hide ((bb.block w.heap.size (blk_lt FA.out)).trans FA.out)
  clear bb B2 H2
  have m0 : x3.cell? ⟨w.heap.size, 11, none⟩ = some (.int .i64 v5) := cell_at FA.out 11
  cases b2
  · have HE : Hid (R = false) := hide (by rw [← HV.out]; simp)
    go_wp2_with fail
    go_ret
    exact ⟨ret_bool (by rw [HE.out]), B3.out⟩
  go_wp2_with fail
  clear m0
  refine (H3.out x3).mono ?_
  rintro e x4 ⟨rfl, bb⟩
  have B4 := hide (B3.out.trans (bb.mono B3.out.size))
  have FA := hide ((bb.block w.heap.size (blk_lt FA.out)).trans FA.out)
  clear bb B3 H3
  have m0 : x4.cell? ⟨w.heap.size, 15, none⟩ = some (.int .i64 v9) := cell_at FA.out 15
  cases b3
  · have HE : Hid (R = false) := hide (by rw [← HV.out]; simp)
    go_wp2_with fail
    go_ret
    exact ⟨ret_bool (by rw [HE.out]), B4.out⟩
  go_wp2_with fail
  clear m0
  refine (H4.out x4).mono ?_
  rintro e x5 ⟨rfl, bb⟩
  have B5 := hide (B4.out.trans (bb.mono B4.out.size))
  have FA := hide ((bb.block w.heap.size (blk_lt FA.out)).trans FA.out)
  clear bb B4 H4
  have m0 : x5.cell? ⟨w.heap.size, 18, none⟩ = some (.int .i64 v12) := cell_at FA.out 18
  cases b4
  · have HE : Hid (R = false) := hide (by rw [← HV.out]; simp)
    go_wp2_with fail
    go_ret
    exact ⟨ret_bool (by rw [HE.out]), B5.out⟩
  go_wp2_with fail
  clear m0
  refine (H5.out x5).mono ?_
  rintro e x6 ⟨rfl, bb⟩
  have B6 := hide (B5.out.trans (bb.mono B5.out.size))
  have FA := hide ((bb.block w.heap.size (blk_lt FA.out)).trans FA.out)
  clear bb B5 H5
  have m0 : x6.cell? ⟨w.heap.size, 19, none⟩ = some (.int .i64 v13) := cell_at FA.out 19
  cases b5
  · have HE : Hid (R = false) := hide (by rw [← HV.out]; simp)
    go_wp2_with fail
    go_ret
    exact ⟨ret_bool (by rw [HE.out]), B6.out⟩
  go_wp2_with fail
  clear m0
  refine (H6.out x6).mono ?_
  rintro e x7 ⟨rfl, bb⟩
  have B7 := hide (B6.out.trans (bb.mono B6.out.size))
  have FA := hide ((bb.block w.heap.size (blk_lt FA.out)).trans FA.out)
  clear bb B6 H6
  have m0 : x7.cell? ⟨w.heap.size, 20, none⟩ = some (.int .i64 v14) := cell_at FA.out 20
  cases b6
  · have HE : Hid (R = false) := hide (by rw [← HV.out]; simp)
    go_wp2_with fail
    go_ret
    exact ⟨ret_bool (by rw [HE.out]), B7.out⟩
  go_wp2_with fail
  clear m0
  refine (H7.out x7).mono ?_
  rintro e x8 ⟨rfl, bb⟩
  have B8 := hide (B7.out.trans (bb.mono B7.out.size))
  have FA := hide ((bb.block w.heap.size (blk_lt FA.out)).trans FA.out)
  clear bb B7 H7
  have m0 : x8.cell? ⟨w.heap.size, 9, none⟩ = some (.int .i64 v3) := cell_at FA.out 9
  cases b7
  · have HE : Hid (R = false) := hide (by rw [← HV.out]; simp)
    go_wp2_with fail
    go_ret
    exact ⟨ret_bool (by rw [HE.out]), B8.out⟩
  go_wp2_with fail
  clear m0
  refine (H8.out x8).mono ?_
  rintro e x9 ⟨rfl, bb⟩
  have B9 := hide (B8.out.trans (bb.mono B8.out.size))
  have FA := hide ((bb.block w.heap.size (blk_lt FA.out)).trans FA.out)
  clear bb B8 H8
  have m0 : x9.cell? ⟨w.heap.size, 10, none⟩ = some (.int .i64 v4) := cell_at FA.out 10
  cases b8
  · have HE : Hid (R = false) := hide (by rw [← HV.out]; simp)
    go_wp2_with fail
    go_ret
    exact ⟨ret_bool (by rw [HE.out]), B9.out⟩
  go_wp2_with fail
  clear m0
  refine (H9.out x9).mono ?_
  rintro e x10 ⟨rfl, bb⟩
  have B10 := hide (B9.out.trans (bb.mono B9.out.size))
  have FA := hide ((bb.block w.heap.size (blk_lt FA.out)).trans FA.out)
  clear bb B9 H9
  have m0 : x10.cell? ⟨w.heap.size, 12, none⟩ = some (.int .i64 v6) := cell_at FA.out 12
  cases b9
  · have HE : Hid (R = false) := hide (by rw [← HV.out]; simp)
    go_wp2_with fail
    go_ret
    exact ⟨ret_bool (by rw [HE.out]), B10.out⟩
  go_wp2_with fail
  clear m0
  refine (H10.out x10).mono ?_
  rintro e x11 ⟨rfl, bb⟩
  have B11 := hide (B10.out.trans (bb.mono B10.out.size))
  have FA := hide ((bb.block w.heap.size (blk_lt FA.out)).trans FA.out)
  clear bb B10 H10
  have m0 : x11.cell? ⟨w.heap.size, 13, none⟩ = some (.int .i64 v7) := cell_at FA.out 13
  cases b10
  · have HE : Hid (R = false) := hide (by rw [← HV.out]; simp)
    go_wp2_with fail
    go_ret
    exact ⟨ret_bool (by rw [HE.out]), B11.out⟩
  go_wp2_with fail
  clear m0
  refine (H11.out x11).mono ?_
  rintro e x12 ⟨rfl, bb⟩
  have B12 := hide (B11.out.trans (bb.mono B11.out.size))
  have FA := hide ((bb.block w.heap.size (blk_lt FA.out)).trans FA.out)
  clear bb B11 H11
  have m0 : x12.cell? ⟨w.heap.size, 14, none⟩ = some (.int .i64 v8) := cell_at FA.out 14
  cases b11
  · have HE : Hid (R = false) := hide (by rw [← HV.out]; simp)
    go_wp2_with fail
    go_ret
    exact ⟨ret_bool (by rw [HE.out]), B12.out⟩
  go_wp2_with fail
  clear m0
  refine (H12.out x12).mono ?_
  rintro e x13 ⟨rfl, bb⟩
  have B13 := hide (B12.out.trans (bb.mono B12.out.size))
  have FA := hide ((bb.block w.heap.size (blk_lt FA.out)).trans FA.out)
  clear bb B12 H12
  have m0 : x13.cell? ⟨w.heap.size, 16, none⟩ = some (.int .i64 v10) := cell_at FA.out 16
  cases b12
  · have HE : Hid (R = false) := hide (by rw [← HV.out]; simp)
    go_wp2_with fail
    go_ret
    exact ⟨ret_bool (by rw [HE.out]), B13.out⟩
  go_wp2_with fail
  clear m0
  refine (H13.out x13).mono ?_
  rintro e x14 ⟨rfl, bb⟩
  have B14 := hide (B13.out.trans (bb.mono B13.out.size))
  have FA := hide ((bb.block w.heap.size (blk_lt FA.out)).trans FA.out)
  clear bb B13 H13
  have m0 : x14.cell? ⟨w.heap.size, 17, none⟩ = some (.int .i64 v11) := cell_at FA.out 17
  cases b13
  · have HE : Hid (R = false) := hide (by rw [← HV.out]; simp)
    go_wp2_with fail
    go_ret
    exact ⟨ret_bool (by rw [HE.out]), B14.out⟩
  go_wp2_with fail
  clear m0
  refine (H14.out x14).mono ?_
  rintro e x15 ⟨rfl, bb⟩
  have B15 := hide (B14.out.trans (bb.mono B14.out.size))
  have FA := hide ((bb.block w.heap.size (blk_lt FA.out)).trans FA.out)
  clear bb B14 H14
  cases b14
  · have HE : Hid (R = false) := hide (by rw [← HV.out]; simp)
    go_wp2_with fail
    go_ret
    exact ⟨ret_bool (by rw [HE.out]), B15.out⟩
  have HE : Hid (R = true) := hide (by rw [← HV.out]; simp)
  go_wp2_with fail
  go_ret
  exact ⟨ret_bool (by rw [HE.out]), B15.out⟩
end Go.Proofs.YtekkhjlipijmcaaGreatDoor
/- The document's side: a route's match. -/
namespace Go.Proofs.YtekkhjlipijmcaaGreatDoor
open Go.ChangeShapes Go.WideShapes Go.ChangeAt Go.RowKit
set_option linter.unusedVariables false

theorem isHost_nil : isHostB ⟨#[]⟩ = false := by decide +kernel
def starB (s : ByteArray) : Bool := decide (2 < s.size) && ((s.extract 0 2).data.toList == [42, 46])
theorem pat_is (s : ByteArray) : patB s = (decide (s.size = 0) || (isHostB s || (starB s && isHostB (s.extract 2 s.size)))) := by
  unfold patB
  congr 1
  cases h1 : isHostB s with
  | true => rfl
  | false =>
    simp only [Bool.false_or]
    unfold starB
    cases hp : Lib.hasPrefix s.data.toList [42, 46] with
    | true =>
      have e0 : s.data.toList.take 2 = [42, 46] := by
        have := hp
        unfold Lib.hasPrefix at this
        rw [List.isPrefixOf_iff_prefix, List.prefix_iff_eq_take] at this
        exact this.symm
      have e1 : trimW s = s.extract 2 s.size := by
        apply ByteArray.ext
        apply Array.ext'
        rw [ext_list]
        unfold trimW Lib.trimPrefix
        rw [hp]
        simp only [if_true]
        show s.data.toList.drop 2 = _
        rw [List.take_of_length_le]
        rw [List.length_drop, size_len]
        omega
      have e2 : (s.extract 0 2).data.toList = [42, 46] := by rw [ext_list]; simpa using e0
      rw [e1, e2]
      by_cases h2 : 2 < s.size
      · simp [h2]
      · have e3 : s.extract 2 s.size = ⟨#[]⟩ := by
          apply ByteArray.ext
          apply Array.ext'
          rw [ext_list, List.drop_of_length_le (by rw [size_len]; omega)]
          simp
        rw [e3, isHost_nil]
        simp
    | false =>
      have e1 : trimW s = s := by
        apply ByteArray.ext
        apply Array.ext'
        unfold trimW Lib.trimPrefix
        rw [hp]
        simp
      have e2 : ((s.extract 0 2).data.toList == [42, 46]) = false := by
        rw [beq_eq_false_iff_ne]
        intro e
        rw [ext_list, List.drop_zero] at e
        have : Lib.hasPrefix s.data.toList [42, 46] = true := by
          unfold Lib.hasPrefix
          rw [List.isPrefixOf_iff_prefix, List.prefix_iff_eq_take]
          exact e.symm
        rw [hp] at this
        cases this
      rw [e1, h1, e2]
      simp
set_option maxHeartbeats 2000000 in
set_option maxRecDepth 100000 in
theorem rmatch_any (w : World) (ho pf : ByteArray) (ml : Value) (M : List ByteArray) (hd va : ByteArray) (hM : SRow w ml M) (hMs : ∀ x ∈ M, x.size ≤ 1048576) (hho : ho.size ≤ 1048576) (hhd : hd.size ≤ 1048576) (hva : va.size ≤ 1048576) :
    Calls Tryz.prog 35 #[.agg #[.string ho, .string pf, ml, .string hd, .string va]] w fun e w' => e = .returned (.bool (matB ho pf M hd va)) ∧ Below w.heap.size w w' := by
  have HP := hide (fun W => rplace_any pf W)
  have HQ := hide (fun W => rishost_any ho W (by omega))
  have HQ2 := hide (fun W => rishost_any (ho.extract 2 ho.size) W (by rw [ext_size]; omega))
  have HT := hide (fun W (x : ByteArray) (hx : x.size ≤ 1048576) => rtoken_any x W (by unfold maxLen; omega))
  have HTh := hide (fun W => rtoken_any hd W (by unfold maxLen; omega))
  have HVv := hide (fun W => rvalue_any va W (by unfold maxLen; omega))
  have M0 := hide hM
  have MS := hide hMs
  obtain ⟨a1, c1, rfl, _⟩ := hM
  obtain ⟨R, hR⟩ : ∃ R, matB ho pf M hd va = R := ⟨_, rfl⟩
  rw [hR]
  have HV := hide hR
  unfold matB at HV
  rw [pat_is] at HV
  clear hR hMs hhd hva
  generalize placeB pf = bp at HP HV
  generalize isHostB ho = b1 at HQ HV
  generalize isHostB (ho.extract 2 ho.size) = b2 at HQ2 HV
  by_cases h0 : ho.size = 0
  · have he : ho.toList.isEmpty = true := by rw [Lib.toList_data, isEmpty_size]; exact decide_eq_true h0
    rw [decide_eq_true h0] at HV
    clear h0
    go_enter Tryz.func35, Tryz.ntmps35
    go_upto_region 1 with fail
    have T0 := hide (Bl.one w #[.string ho, .string pf, .slice a1 M.length c1, .string hd, .string va] 37)
    generalize (w.alloc (.cells #[.string ho, .string pf, .slice a1 M.length c1, .string hd, .string va] 37)) = x at T0 ⊢
    have m0 : x.cell? ⟨w.heap.size, 0, none⟩ = some (.string ho) := T0.out.cell 0 rfl 0
    go_upto_region 2 with fail
    clear m0
    have HNM : Hid (R = (decide (M.length ≤ 8) && (bp && (M.all tokS && askB hd va)))) := hide (by rw [← HV.out]; simp)
    have m1 : x.cell? ⟨w.heap.size, 1, none⟩ = some (.string pf) := T0.out.cell 0 rfl 1
    clear HV
    go_wp2_with fail
    refine (HP.out _).mono ?_
    rintro e u1 ⟨rfl, bb⟩
    have P1 := hide (T0.out.below bb)
    clear bb m1 HP T0
    cases bp
    · have HE : Hid (R = false) := hide (by rw [HNM.out]; simp)
      go_wp2_with fail
      go_ret
      exact ⟨ret_bool (by rw [HE.out]), P1.out.b⟩
    · have m2 : u1.cell? ⟨w.heap.size, 2, none⟩ = some (.slice a1 M.length c1) := P1.out.cell 0 rfl 2
      by_cases h8 : 8 < M.length
      · have HE : Hid (R = false) := hide (by rw [HNM.out, decide_eq_false (p := M.length ≤ 8) (by omega)]; rfl)
        go_wp2_with fail
        go_ret
        exact ⟨ret_bool (by rw [HE.out]), P1.out.b⟩
      · have HNN : Hid (R = (M.all tokS && askB hd va)) := hide (by rw [HNM.out, decide_eq_true (p := M.length ≤ 8) (by omega)]; rfl)
        have MR := hide (M0.out.below P1.out.b)
        clear HNM
        go_wp2
        go_loopw [49] (fun i wr => ∃ k : Nat, k ≤ M.length ∧ i = .int .i64 k ∧ Hid ((M.take k).all tokS = true) ∧ Hid (Below u1.heap.size u1 wr)) (fun i _ => M.length - (intOf i).toNat)
        case atStart => exact ⟨0, Nat.zero_le _, rfl, hide rfl, hide (Below.refl _ _)⟩
        case round =>
          obtain ⟨k, hk, rfl, H, HB⟩ := hrel
          have P2 := hide (P1.out.below HB.out)
          by_cases hlt : k < M.length
          · obtain ⟨a2, c2, he2, hcv⟩ := MR.out.below HB.out
            simp only [Value.slice.injEq, true_and] at he2
            obtain ⟨rfl, rfl⟩ := he2
            obtain ⟨g, o, rfl, hg, r1⟩ := hcv k hlt
            have HX := hide (HT.out wr M[k] (MS.out _ (List.getElem_mem hlt)))
            have HS := hide (allS_snocM (A := M) tokS hlt)
            have HN := hide (allS_noM (A := M) tokS hlt)
            generalize M[k] = y at r1 HX HS HN
            have hty : tokenB y.data.toList = tokS y := rfl
            rw [hty] at HX
            generalize tokS y = bq at HX HS HN
            clear hcv hg hty m2
            go_wp2_with fail
            refine HX.out.mono ?_
            rintro e u2 ⟨rfl, bb⟩
            have HB2 := hide (HB.out.trans (bb.mono HB.out.size))
            have P3 := hide (P2.out.below bb)
            clear bb r1
            cases bq
            · have HE : Hid (R = false) := hide (by rw [HNN.out, HN.out rfl]; rfl)
              clear HS HN
              go_wp2_with fail
              go_ret
              exact ⟨ret_bool (by rw [HE.out]), P3.out.b⟩
            · have HZ : Hid ((M.take (k + 1)).all tokS = true) := hide (by rw [HS.out, H.out]; rfl)
              clear HS HN
              go_wp2
              exact ⟨⟨k + 1, by omega, by go_num, HZ, HB2⟩, by simp [intOf]; omega⟩
          · have HZ : Hid (M.all tokS = true) := hide (by have := H.out; rw [List.take_of_length_le (by omega)] at this; exact this)
            have HA : Hid (R = askB hd va) := hide (by rw [HNN.out, HZ.out]; rfl)
            clear m2 HNN HZ H
            have m3 : wr.cell? ⟨w.heap.size, 3, none⟩ = some (.string hd) := P2.out.cell 0 rfl 3
            have m4 : wr.cell? ⟨w.heap.size, 4, none⟩ = some (.string va) := P2.out.cell 0 rfl 4
            unfold askB at HA
            by_cases h0 : hd.size = 0
            · have hee : hd.toList.isEmpty = true := by rw [Lib.toList_data, isEmpty_size]; exact decide_eq_true h0
              have HE : Hid (va.toList.isEmpty = R) := hide (by rw [HA.out, if_pos h0, Lib.toList_data, isEmpty_size])
              clear h0 HA
              go_wp2_with fail
              go_ret
              exact ⟨ret_bool HE.out, P2.out.b⟩
            · have hee : hd.toList.isEmpty = false := by rw [Lib.toList_data, isEmpty_size]; exact decide_eq_false h0
              have HE : Hid (R = (tokenB hd.data.toList && valueB va.data.toList)) := hide (by rw [HA.out, if_neg h0]; rfl)
              clear h0 HA
              generalize tokenB hd.data.toList = t1 at HTh HE
              generalize valueB va.data.toList = t2 at HVv HE
              go_wp2_with fail
              refine (HTh.out _).mono ?_
              rintro e u2 ⟨rfl, bb⟩
              have P3 := hide (P2.out.below bb)
              clear bb m3 m4
              have m4 : u2.cell? ⟨w.heap.size, 4, none⟩ = some (.string va) := P3.out.cell 0 rfl 4
              cases t1
              · go_wp2_with fail
                go_ret
                exact ⟨ret_bool HE.out.symm, P3.out.b⟩
              · go_wp2_with fail
                refine (HVv.out _).mono ?_
                rintro e u3 ⟨rfl, rfl⟩
                go_wp2_with fail
                go_ret
                exact ⟨ret_bool HE.out.symm, P3.out.b⟩

  · have he : ho.toList.isEmpty = false := by rw [Lib.toList_data, isEmpty_size]; exact decide_eq_false h0
    rw [decide_eq_false h0] at HV
    clear h0
    go_enter Tryz.func35, Tryz.ntmps35
    go_upto_region 1 with fail
    have T0 := hide (Bl.one w #[.string ho, .string pf, .slice a1 M.length c1, .string hd, .string va] 37)
    generalize (w.alloc (.cells #[.string ho, .string pf, .slice a1 M.length c1, .string hd, .string va] 37)) = x at T0 ⊢
    have m0 : x.cell? ⟨w.heap.size, 0, none⟩ = some (.string ho) := T0.out.cell 0 rfl 0
    go_wp2_with fail
    refine (HQ.out _).mono ?_
    rintro e w1 ⟨rfl, bb⟩
    have T1 := hide (T0.out.below bb)
    clear bb m0 HQ T0
    have m0 : w1.cell? ⟨w.heap.size, 0, none⟩ = some (.string ho) := T1.out.cell 0 rfl 0
    cases b1
    · unfold starB at HV
      by_cases h2 : 2 < ho.size
      · rw [decide_eq_true h2] at HV
        rw [← Lib.toList_data] at HV
        cases hst : ((ho.extract 0 2).toList == [42, 46]) with
        | false =>
          rw [hst] at HV
          have HE : Hid (R = false) := hide (by rw [← HV.out]; simp)
          go_wp2_with fail
          go_ret
          exact ⟨ret_bool (by rw [HE.out]), T1.out.b⟩

        | true =>
          rw [hst] at HV
          go_wp2_with fail
          refine (HQ2.out _).mono ?_
          rintro e w2 ⟨rfl, bb⟩
          have T2 := hide (T1.out.below bb)
          clear bb m0 HQ2 T1
          cases b2
          · skip
            have HE : Hid (R = false) := hide (by rw [← HV.out]; simp)
            go_wp2_with fail
            go_ret
            exact ⟨ret_bool (by rw [HE.out]), T2.out.b⟩

          · go_upto_region 2 with fail
            clear hst
            have HNM : Hid (R = (decide (M.length ≤ 8) && (bp && (M.all tokS && askB hd va)))) := hide (by rw [← HV.out]; simp)
            have m1 : w2.cell? ⟨w.heap.size, 1, none⟩ = some (.string pf) := T2.out.cell 0 rfl 1
            clear HV
            go_wp2_with fail
            refine (HP.out _).mono ?_
            rintro e u1 ⟨rfl, bb⟩
            have P1 := hide (T2.out.below bb)
            clear bb m1 HP T2
            cases bp
            · have HE : Hid (R = false) := hide (by rw [HNM.out]; simp)
              go_wp2_with fail
              go_ret
              exact ⟨ret_bool (by rw [HE.out]), P1.out.b⟩
            · have m2 : u1.cell? ⟨w.heap.size, 2, none⟩ = some (.slice a1 M.length c1) := P1.out.cell 0 rfl 2
              by_cases h8 : 8 < M.length
              · have HE : Hid (R = false) := hide (by rw [HNM.out, decide_eq_false (p := M.length ≤ 8) (by omega)]; rfl)
                go_wp2_with fail
                go_ret
                exact ⟨ret_bool (by rw [HE.out]), P1.out.b⟩
              · have HNN : Hid (R = (M.all tokS && askB hd va)) := hide (by rw [HNM.out, decide_eq_true (p := M.length ≤ 8) (by omega)]; rfl)
                have MR := hide (M0.out.below P1.out.b)
                clear HNM
                go_wp2
                go_loopw [49] (fun i wr => ∃ k : Nat, k ≤ M.length ∧ i = .int .i64 k ∧ Hid ((M.take k).all tokS = true) ∧ Hid (Below u1.heap.size u1 wr)) (fun i _ => M.length - (intOf i).toNat)
                case atStart => exact ⟨0, Nat.zero_le _, rfl, hide rfl, hide (Below.refl _ _)⟩
                case round =>
                  obtain ⟨k, hk, rfl, H, HB⟩ := hrel
                  have P2 := hide (P1.out.below HB.out)
                  by_cases hlt : k < M.length
                  · obtain ⟨a2, c2, he2, hcv⟩ := MR.out.below HB.out
                    simp only [Value.slice.injEq, true_and] at he2
                    obtain ⟨rfl, rfl⟩ := he2
                    obtain ⟨g, o, rfl, hg, r1⟩ := hcv k hlt
                    have HX := hide (HT.out wr M[k] (MS.out _ (List.getElem_mem hlt)))
                    have HS := hide (allS_snocM (A := M) tokS hlt)
                    have HN := hide (allS_noM (A := M) tokS hlt)
                    generalize M[k] = y at r1 HX HS HN
                    have hty : tokenB y.data.toList = tokS y := rfl
                    rw [hty] at HX
                    generalize tokS y = bq at HX HS HN
                    clear hcv hg hty m2
                    go_wp2_with fail
                    refine HX.out.mono ?_
                    rintro e u2 ⟨rfl, bb⟩
                    have HB2 := hide (HB.out.trans (bb.mono HB.out.size))
                    have P3 := hide (P2.out.below bb)
                    clear bb r1
                    cases bq
                    · have HE : Hid (R = false) := hide (by rw [HNN.out, HN.out rfl]; rfl)
                      clear HS HN
                      go_wp2_with fail
                      go_ret
                      exact ⟨ret_bool (by rw [HE.out]), P3.out.b⟩
                    · have HZ : Hid ((M.take (k + 1)).all tokS = true) := hide (by rw [HS.out, H.out]; rfl)
                      clear HS HN
                      go_wp2
                      exact ⟨⟨k + 1, by omega, by go_num, HZ, HB2⟩, by simp [intOf]; omega⟩
                  · have HZ : Hid (M.all tokS = true) := hide (by have := H.out; rw [List.take_of_length_le (by omega)] at this; exact this)
                    have HA : Hid (R = askB hd va) := hide (by rw [HNN.out, HZ.out]; rfl)
                    clear m2 HNN HZ H
                    have m3 : wr.cell? ⟨w.heap.size, 3, none⟩ = some (.string hd) := P2.out.cell 0 rfl 3
                    have m4 : wr.cell? ⟨w.heap.size, 4, none⟩ = some (.string va) := P2.out.cell 0 rfl 4
                    unfold askB at HA
                    by_cases h0 : hd.size = 0
                    · have hee : hd.toList.isEmpty = true := by rw [Lib.toList_data, isEmpty_size]; exact decide_eq_true h0
                      have HE : Hid (va.toList.isEmpty = R) := hide (by rw [HA.out, if_pos h0, Lib.toList_data, isEmpty_size])
                      clear h0 HA
                      go_wp2_with fail
                      go_ret
                      exact ⟨ret_bool HE.out, P2.out.b⟩
                    · have hee : hd.toList.isEmpty = false := by rw [Lib.toList_data, isEmpty_size]; exact decide_eq_false h0
                      have HE : Hid (R = (tokenB hd.data.toList && valueB va.data.toList)) := hide (by rw [HA.out, if_neg h0]; rfl)
                      clear h0 HA
                      generalize tokenB hd.data.toList = t1 at HTh HE
                      generalize valueB va.data.toList = t2 at HVv HE
                      go_wp2_with fail
                      refine (HTh.out _).mono ?_
                      rintro e u2 ⟨rfl, bb⟩
                      have P3 := hide (P2.out.below bb)
                      clear bb m3 m4
                      have m4 : u2.cell? ⟨w.heap.size, 4, none⟩ = some (.string va) := P3.out.cell 0 rfl 4
                      cases t1
                      · go_wp2_with fail
                        go_ret
                        exact ⟨ret_bool HE.out.symm, P3.out.b⟩
                      · go_wp2_with fail
                        refine (HVv.out _).mono ?_
                        rintro e u3 ⟨rfl, rfl⟩
                        go_wp2_with fail
                        go_ret
                        exact ⟨ret_bool HE.out.symm, P3.out.b⟩

      · rw [decide_eq_false h2] at HV
        have HE : Hid (R = false) := hide (by rw [← HV.out]; simp)
        go_wp2_with fail
        go_ret
        exact ⟨ret_bool (by rw [HE.out]), T1.out.b⟩

    · go_upto_region 2 with fail
      clear m0
      have HNM : Hid (R = (decide (M.length ≤ 8) && (bp && (M.all tokS && askB hd va)))) := hide (by rw [← HV.out]; simp)
      have m1 : w1.cell? ⟨w.heap.size, 1, none⟩ = some (.string pf) := T1.out.cell 0 rfl 1
      clear HV
      go_wp2_with fail
      refine (HP.out _).mono ?_
      rintro e u1 ⟨rfl, bb⟩
      have P1 := hide (T1.out.below bb)
      clear bb m1 HP T1
      cases bp
      · have HE : Hid (R = false) := hide (by rw [HNM.out]; simp)
        go_wp2_with fail
        go_ret
        exact ⟨ret_bool (by rw [HE.out]), P1.out.b⟩
      · have m2 : u1.cell? ⟨w.heap.size, 2, none⟩ = some (.slice a1 M.length c1) := P1.out.cell 0 rfl 2
        by_cases h8 : 8 < M.length
        · have HE : Hid (R = false) := hide (by rw [HNM.out, decide_eq_false (p := M.length ≤ 8) (by omega)]; rfl)
          go_wp2_with fail
          go_ret
          exact ⟨ret_bool (by rw [HE.out]), P1.out.b⟩
        · have HNN : Hid (R = (M.all tokS && askB hd va)) := hide (by rw [HNM.out, decide_eq_true (p := M.length ≤ 8) (by omega)]; rfl)
          have MR := hide (M0.out.below P1.out.b)
          clear HNM
          go_wp2
          go_loopw [49] (fun i wr => ∃ k : Nat, k ≤ M.length ∧ i = .int .i64 k ∧ Hid ((M.take k).all tokS = true) ∧ Hid (Below u1.heap.size u1 wr)) (fun i _ => M.length - (intOf i).toNat)
          case atStart => exact ⟨0, Nat.zero_le _, rfl, hide rfl, hide (Below.refl _ _)⟩
          case round =>
            obtain ⟨k, hk, rfl, H, HB⟩ := hrel
            have P2 := hide (P1.out.below HB.out)
            by_cases hlt : k < M.length
            · obtain ⟨a2, c2, he2, hcv⟩ := MR.out.below HB.out
              simp only [Value.slice.injEq, true_and] at he2
              obtain ⟨rfl, rfl⟩ := he2
              obtain ⟨g, o, rfl, hg, r1⟩ := hcv k hlt
              have HX := hide (HT.out wr M[k] (MS.out _ (List.getElem_mem hlt)))
              have HS := hide (allS_snocM (A := M) tokS hlt)
              have HN := hide (allS_noM (A := M) tokS hlt)
              generalize M[k] = y at r1 HX HS HN
              have hty : tokenB y.data.toList = tokS y := rfl
              rw [hty] at HX
              generalize tokS y = bq at HX HS HN
              clear hcv hg hty m2
              go_wp2_with fail
              refine HX.out.mono ?_
              rintro e u2 ⟨rfl, bb⟩
              have HB2 := hide (HB.out.trans (bb.mono HB.out.size))
              have P3 := hide (P2.out.below bb)
              clear bb r1
              cases bq
              · have HE : Hid (R = false) := hide (by rw [HNN.out, HN.out rfl]; rfl)
                clear HS HN
                go_wp2_with fail
                go_ret
                exact ⟨ret_bool (by rw [HE.out]), P3.out.b⟩
              · have HZ : Hid ((M.take (k + 1)).all tokS = true) := hide (by rw [HS.out, H.out]; rfl)
                clear HS HN
                go_wp2
                exact ⟨⟨k + 1, by omega, by go_num, HZ, HB2⟩, by simp [intOf]; omega⟩
            · have HZ : Hid (M.all tokS = true) := hide (by have := H.out; rw [List.take_of_length_le (by omega)] at this; exact this)
              have HA : Hid (R = askB hd va) := hide (by rw [HNN.out, HZ.out]; rfl)
              clear m2 HNN HZ H
              have m3 : wr.cell? ⟨w.heap.size, 3, none⟩ = some (.string hd) := P2.out.cell 0 rfl 3
              have m4 : wr.cell? ⟨w.heap.size, 4, none⟩ = some (.string va) := P2.out.cell 0 rfl 4
              unfold askB at HA
              by_cases h0 : hd.size = 0
              · have hee : hd.toList.isEmpty = true := by rw [Lib.toList_data, isEmpty_size]; exact decide_eq_true h0
                have HE : Hid (va.toList.isEmpty = R) := hide (by rw [HA.out, if_pos h0, Lib.toList_data, isEmpty_size])
                clear h0 HA
                go_wp2_with fail
                go_ret
                exact ⟨ret_bool HE.out, P2.out.b⟩
              · have hee : hd.toList.isEmpty = false := by rw [Lib.toList_data, isEmpty_size]; exact decide_eq_false h0
                have HE : Hid (R = (tokenB hd.data.toList && valueB va.data.toList)) := hide (by rw [HA.out, if_neg h0]; rfl)
                clear h0 HA
                generalize tokenB hd.data.toList = t1 at HTh HE
                generalize valueB va.data.toList = t2 at HVv HE
                go_wp2_with fail
                refine (HTh.out _).mono ?_
                rintro e u2 ⟨rfl, bb⟩
                have P3 := hide (P2.out.below bb)
                clear bb m3 m4
                have m4 : u2.cell? ⟨w.heap.size, 4, none⟩ = some (.string va) := P3.out.cell 0 rfl 4
                cases t1
                · go_wp2_with fail
                  go_ret
                  exact ⟨ret_bool HE.out.symm, P3.out.b⟩
                · go_wp2_with fail
                  refine (HVv.out _).mono ?_
                  rintro e u3 ⟨rfl, rfl⟩
                  go_wp2_with fail
                  go_ret
                  exact ⟨ret_bool HE.out.symm, P3.out.b⟩

end Go.Proofs.YtekkhjlipijmcaaGreatDoor
/- The document's side: a route. -/
namespace Go.Proofs.YtekkhjlipijmcaaGreatDoor
open Go.ChangeShapes Go.WideShapes Go.ChangeAt Go.RowKit Go.Deep
set_option linter.unusedVariables false

theorem range_ofR {W : World} {b : Nat} {cs : List Value} {t : TypeId} (h : W.heap[b]? = some (.cells cs.toArray t (0, 0))) : W.rangeAt b 0 cs := by
  intro j v hv
  rw [Nat.zero_add, cell_at h, List.getElem?_toArray]
  exact hv
theorem range_take {W : World} {b o : Nat} {cs : List Value} (h : W.rangeAt b o cs) (k : Nat) : W.rangeAt b o (cs.take k) := by
  intro j v hv
  rw [List.getElem?_take] at hv
  split at hv
  · exact h j v hv
  · cases hv
theorem len_in (n a b : Nat) : inB (n : Int) a b = decide (a ≤ n ∧ n ≤ b) := by
  unfold inB
  rw [Bool.eq_iff_iff]
  simp only [Bool.and_eq_true, decide_eq_true_eq]
  omega
theorem okR_eq (n : Int) (r : Rt) : okR n r = (matB r.ho r.pf r.M r.hd r.va && (fitK (numsR r) routeFits_anyL 15 && numsB r.H n)) := by
  unfold okR
  rw [Bool.and_comm (numsB r.H n)]
set_option maxHeartbeats 2000000 in
set_option maxRecDepth 100000 in
theorem rroute_any (w : World) (r : Rt) (m q : Value) (n : Int) (hs : r.Sz) (hm : SRow w m r.M) (hq : IRow w q r.H) (hcq : capOk q) :
    Calls Tryz.prog 23 #[.agg #[.string r.ho, .string r.pf, m, .string r.hd, .string r.va, q, .int .i64 r.r0, .int .i64 r.r1, .int .i64 r.r2, .int .i64 r.r3, .int .i64 r.r4, .int .i64 r.r5, .int .i64 r.r6, .int .i64 r.r7, .int .i64 r.r8, .int .i64 r.r9, .int .i64 r.r10, .int .i64 r.r11, .int .i64 r.r12, .int .i64 r.r13, .int .i64 r.r14], .int .i64 n] w fun e w' => e = .returned (.bool (okR n r)) ∧ Below w.heap.size w w' := by
  have HM := hide (fun W (b : Below w.heap.size w W) => rmatch_any W r.ho r.pf m r.M r.hd r.va (hm.below b) hs.M hs.ho hs.hd hs.va)
  have HQ := hide hq
  obtain ⟨am, cm, rfl, hmx⟩ := hm
  clear hmx
  obtain ⟨aq, cq, rfl, hqx⟩ := hq
  clear hqx
  have HC := hide (hcq _ _ _ rfl)
  have HN := hide (fun W => rnums_any W r (.slice am r.M.length cm) (.slice aq r.H.length cq) rfl rfl)
  have HI := hide (fun W => rcin_any W (r.H.length : Int) 1 16)
  have hLI := len_in r.H.length 1 16
  obtain ⟨R, hR⟩ : ∃ R, okR n r = R := ⟨_, rfl⟩
  rw [hR]
  rw [okR_eq] at hR
  generalize matB r.ho r.pf r.M r.hd r.va = b1 at HM hR
  generalize fitK (numsR r) routeFits_anyL 15 = b2 at HN hR
  unfold numsB at hR
  rw [← show inB (r.H.length : Int) 1 16 = decide (1 ≤ r.H.length ∧ r.H.length ≤ 16) from hLI] at hR
  obtain ⟨b3, hb3⟩ : ∃ b3, inB (r.H.length : Int) 1 16 = b3 := ⟨_, rfl⟩
  rw [hb3] at HI hR
  have HLN : Hid (b3 = true → 1 ≤ r.H.length ∧ r.H.length ≤ 16) := hide (fun e => of_decide_eq_true (hLI.symm.trans (hb3.trans e)))
  have HV := hide hR
  clear hR hLI hs hcq hb3
  obtain ⟨ho, pf, M, hd, va, A, v0, v1, v2, v3, v4, v5, v6, v7, v8, v9, v10, v11, v12, v13, v14⟩ := r
  simp only at HM HN HI HV HQ HC HLN ⊢
  generalize M.length = nM at *
  obtain ⟨nA, HnA⟩ : ∃ nA, Hid (A.length = nA) := ⟨_, hide rfl⟩
  rw [HnA.out] at HN HI HV HQ HC HLN ⊢
  go_enter Tryz.func23, Tryz.ntmps23
  go_upto_region 1 with fail
  have B0 := hide ((Below.refl w.heap.size w).alloc (Nat.le_refl _) (.cells #[.string ho, .string pf, .slice am nM cm, .string hd, .string va, .slice aq nA cq, .int .i64 v0, .int .i64 v1, .int .i64 v2, .int .i64 v3, .int .i64 v4, .int .i64 v5, .int .i64 v6, .int .i64 v7, .int .i64 v8, .int .i64 v9, .int .i64 v10, .int .i64 v11, .int .i64 v12, .int .i64 v13, .int .i64 v14] 40))
  have FA := hide (hp_new w (.cells #[.string ho, .string pf, .slice am nM cm, .string hd, .string va, .slice aq nA cq, .int .i64 v0, .int .i64 v1, .int .i64 v2, .int .i64 v3, .int .i64 v4, .int .i64 v5, .int .i64 v6, .int .i64 v7, .int .i64 v8, .int .i64 v9, .int .i64 v10, .int .i64 v11, .int .i64 v12, .int .i64 v13, .int .i64 v14] 40))
  generalize hx0 : w.alloc (.cells #[.string ho, .string pf, .slice am nM cm, .string hd, .string va, .slice aq nA cq, .int .i64 v0, .int .i64 v1, .int .i64 v2, .int .i64 v3, .int .i64 v4, .int .i64 v5, .int .i64 v6, .int .i64 v7, .int .i64 v8, .int .i64 v9, .int .i64 v10, .int .i64 v11, .int .i64 v12, .int .i64 v13, .int .i64 v14] 40) = x at B0 FA ⊢
  clear hx0
  have HRA : Hid (x.rangeAt w.heap.size 0 ([.string ho, .string pf, .slice am nM cm, .string hd, .string va] : List Value)) := hide (range_take (cs := [.string ho, .string pf, .slice am nM cm, .string hd, .string va, .slice aq nA cq, .int .i64 v0, .int .i64 v1, .int .i64 v2, .int .i64 v3, .int .i64 v4, .int .i64 v5, .int .i64 v6, .int .i64 v7, .int .i64 v8, .int .i64 v9, .int .i64 v10, .int .i64 v11, .int .i64 v12, .int .i64 v13, .int .i64 v14]) (range_ofR FA.out) 5)
  refine wp_region_lit ?_
  refine wpList_want (by kernel_rfl) fun K hK => ?_
  go_simp
  refine hK _ _ ?_
  clear hK K
  refine wpList_load_mid rfl 37 _ rfl w.heap.size 0 rfl ([.string ho, .string pf, .slice am nM cm, .string hd, .string va] : List Value) _ HRA.out Tryz.underlying37 rfl (by kernel_rfl) ?_
  simp only [Act.put, List.setIfInBounds_toArray, List.set_cons_zero, List.set_cons_succ]
  clear HRA
  go_wp2_with fail
  refine (HM.out x B0.out).mono ?_
  rintro e x1 ⟨rfl, bb⟩
  have B1 := hide (B0.out.trans (bb.mono B0.out.size))
  have FA := hide ((bb.block w.heap.size (blk_lt FA.out)).trans FA.out)
  clear bb B0 HM
  cases b1
  · have HE : Hid (R = false) := hide (by rw [← HV.out]; rfl)
    go_wp2_with fail
    go_ret
    exact ⟨ret_bool (by rw [HE.out]), B1.out⟩
  · rename_i hKK
    refine hKK _ _ ?_
    clear hKK
    refine wpList_want (by kernel_rfl) fun K hK => ?_
    go_simp
    refine hK _ _ ?_
    clear hK K
    refine wpList_want (by kernel_rfl) fun K hK => ?_
    go_simp
    refine hK _ _ ?_
    clear hK K
    refine wpList_want (by kernel_rfl) fun K hK => ?_
    refine wp_load_mid 40 _ rfl w.heap.size 0 rfl ([.string ho, .string pf, .slice am nM cm, .string hd, .string va, .slice aq nA cq, .int .i64 v0, .int .i64 v1, .int .i64 v2, .int .i64 v3, .int .i64 v4, .int .i64 v5, .int .i64 v6, .int .i64 v7, .int .i64 v8, .int .i64 v9, .int .i64 v10, .int .i64 v11, .int .i64 v12, .int .i64 v13, .int .i64 v14] : List Value) _ (range_ofR FA.out) Tryz.underlying40 rfl (by kernel_rfl) (hK _ _ ?_)
    clear hK K
    simp only [Act.put, List.setIfInBounds_toArray, List.set_cons_zero, List.set_cons_succ]
    go_wp2_with fail
    refine (HN.out x1).mono ?_
    rintro e x2 ⟨rfl, bb⟩
    have B2 := hide (B1.out.trans (bb.mono B1.out.size))
    have FA := hide ((bb.block w.heap.size (blk_lt FA.out)).trans FA.out)
    clear bb B1 HN
    cases b2
    · have HE : Hid (R = false) := hide (by rw [← HV.out]; rfl)
      go_wp2_with fail
      go_ret
      exact ⟨ret_bool (by rw [HE.out]), B2.out⟩
    · have m5 : x2.cell? ⟨w.heap.size, 5, none⟩ = some (.slice aq nA cq) := cell_at FA.out 5
      go_wp2_with fail
      refine (HI.out x2).mono ?_
      rintro e x3 ⟨rfl, bb⟩
      have B3 := hide (B2.out.trans (bb.mono B2.out.size))
      have FA := hide ((bb.block w.heap.size (blk_lt FA.out)).trans FA.out)
      clear bb B2 HI m5
      cases b3
      · have HE : Hid (R = false) := hide (by rw [← HV.out]; rfl)
        go_wp2_with fail
        go_ret
        exact ⟨ret_bool (by rw [HE.out]), B3.out⟩
      · obtain ⟨hl1, hl2⟩ := HLN.out rfl
        have HVV : Hid (R = (A.all (fun i => decide (0 ≤ i) && decide (i < n)) && !twI A A.length)) := hide (by rw [← HV.out, HnA.out]; rfl)
        have m5 : x3.cell? ⟨w.heap.size, 5, none⟩ = some (.slice aq nA cq) := cell_at FA.out 5
        obtain ⟨a9, c9, e9, hcells⟩ := HQ.out.below B3.out
        rw [HnA.out] at e9
        simp only [Value.slice.injEq, true_and] at e9
        obtain ⟨rfl, rfl⟩ := e9
        have HCE := hide hcells
        clear HV HLN HC HQ hcells
        go_wp2
        go_loop [27] (fun i => ∃ k : Nat, k ≤ nA ∧ i = .int .i64 k ∧ Hid ((A.take k).all (fun i => decide (0 ≤ i) && decide (i < n)) = true) ∧ Hid (twI A k = false)) (fun i => nA - (intOf i).toNat)
        case atStart => exact ⟨0, Nat.zero_le _, rfl, hide rfl, hide rfl⟩
        case round =>
          obtain ⟨k, hk, rfl, H, HW⟩ := hrel
          by_cases hlt : k < nA
          · have hlA : k < A.length := by rw [HnA.out]; exact hlt
            obtain ⟨g, o, rfl, hg, r1⟩ := HCE.out k hlA
            have HS := hide (allI_snoc (A := A) (fun i => decide (0 ≤ i) && decide (i < n)) hlA)
            have HNo := hide (allI_no (A := A) (fun i => decide (0 ≤ i) && decide (i < n)) hlA)
            have HTS := hide (twI_succ A k hlA)
            have HTY := hide (twI_yes A k hlA)
            generalize A[k] = y at r1 HS HNo HTS HTY
            clear hg hlA
            by_cases y0 : y < 0
            · have HE : Hid (R = false) := hide (by rw [HVV.out, HNo.out (by simp only [decide_eq_false (show ¬ 0 ≤ y by omega)]; rfl)]; rfl)
              clear HS HNo HTS HTY
              go_wp2_with fail
              go_ret
              exact ⟨ret_bool (by rw [HE.out]), B3.out⟩
            · by_cases y1 : n ≤ y
              · have HE : Hid (R = false) := hide (by rw [HVV.out, HNo.out (by simp only [decide_eq_false (show ¬ y < n by omega)]; simp)]; rfl)
                clear HS HNo HTS HTY
                go_wp2_with fail
                go_ret
                exact ⟨ret_bool (by rw [HE.out]), B3.out⟩
              · have HX : Hid ((A.take (k + 1)).all (fun i => decide (0 ≤ i) && decide (i < n)) = true) := hide (by
                  rw [HS.out, H.out]; simp only [decide_eq_true (show 0 ≤ y by omega), decide_eq_true (show y < n by omega)]; rfl)
                clear HS HNo
                go_wp2
                go_loop [7] (fun i => ∃ j : Nat, j ≤ k ∧ i = .int .i64 j ∧ Hid (memI (A.take j) y = false)) (fun i => k - (intOf i).toNat)
                case atStart => exact ⟨0, Nat.zero_le _, rfl, hide rfl⟩
                case round =>
                  obtain ⟨j, hj, rfl, HJ⟩ := hrel
                  by_cases hjk : j < k
                  · have hjA : j < A.length := by rw [HnA.out]; omega
                    obtain ⟨g2, o2, e2, hg2, r2⟩ := HCE.out j hjA
                    simp only [Option.some.injEq, Addr.mk.injEq, and_true] at e2
                    obtain ⟨rfl, rfl⟩ := e2
                    have HMS := hide (memI_snoc (A := A) (n := y) hjA)
                    have HMT : Hid (A[j] = y → memI (A.take k) y = true) := hide (fun e => memI_at (A := A.take k) (k := j) (by rw [List.length_take]; omega) (by rw [List.getElem_take]; exact e.symm))
                    generalize A[j] = z at r2 HMS HMT
                    clear hg2 hjA
                    by_cases hyz : z = y
                    · have HE : Hid (R = false) := hide (by rw [HVV.out, HTY.out (HMT.out hyz)]; simp)
                      have hyb : (z == y) = true := by simpa using hyz
                      clear hyz HMS HMT
                      go_wp2_with fail
                      go_ret
                      exact ⟨ret_bool (by rw [HE.out]), B3.out⟩
                    · have HX2 : Hid (memI (A.take (j + 1)) y = false) := hide (by rw [HMS.out, HJ.out, decide_eq_false (fun e => hyz e.symm)]; rfl)
                      have hyb : (z == y) = false := by simpa using hyz
                      clear hyz HMS HMT
                      go_wp2
                      exact ⟨⟨j + 1, by omega, by go_num, HX2⟩, by simp [intOf]; omega⟩
                  · have HX3 : Hid (twI A (k + 1) = false) := hide (by
                      have hjk2 : j = k := by omega
                      have := HJ.out
                      rw [hjk2] at this
                      rw [HTS.out, HW.out, this]; rfl)
                    go_wp2
                    exact ⟨⟨k + 1, by omega, by go_num, HX, HX3⟩, by simp [intOf]; omega⟩
          · have HE : Hid (R = true) := hide (by
              have hkn : k = A.length := by rw [HnA.out]; omega
              have h1 := H.out
              have h2 := HW.out
              rw [hkn] at h1 h2
              rw [List.take_length] at h1
              rw [HVV.out, h1, h2]; rfl)
            go_wp2_with fail
            go_ret
            exact ⟨ret_bool (by rw [HE.out]), B3.out⟩
end Go.Proofs.YtekkhjlipijmcaaGreatDoor
/- The document's side: which configurations are right. -/
namespace Go.Proofs.YtekkhjlipijmcaaGreatDoor
open Go.ChangeShapes Go.WideShapes Go.ChangeAt Go.RowKit Go.Deep
set_option linter.unusedVariables false

def probB (pa : ByteArray) (c0 c1 c2 c3 : Int) : Bool := inB c0 0 1000000 && (inB c1 1 1000000 && (inB c2 1 100 && (inB c3 1 100 && (placeB pa || (decide (pa.size = 0) && decide (c0 = 0))))))
def outB (c4 c5 c6 c7 : Int) : Bool := inB c4 0 1000 && (inB c5 1 1000000 && (inB c6 1 1000000 && (decide (c5 ≤ c6) && inB c7 0 100)))
def sizB (c8 c9 c10 : Int) : Bool := inB c8 16 65536 && (inB c9 0 1048576 && (inB c10 1 1048576))
def finB (c11 c12 c13 c14 : Int) : Bool := inB c11 1 1000000 && (inB c12 1 1000000 && (inB c13 1 1000000 && (inB c14 1 256)))
theorem rest_is (pa : ByteArray) (c0 c1 c2 c3 c4 c5 c6 c7 c8 c9 c10 c11 c12 c13 c14 : Int) : restB pa c0 c1 c2 c3 c4 c5 c6 c7 c8 c9 c10 c11 c12 c13 c14 = (probB pa c0 c1 c2 c3 && (outB c4 c5 c6 c7 && (sizB c8 c9 c10 && finB c11 c12 c13 c14))) := by
  unfold restB fitK restFits_anyL probB outB sizB finB
  simp only [List.zip_cons_cons, List.zip_nil_right, List.take_succ_cons, List.take_zero, List.all_cons, List.all_nil, Bool.and_true]
  ac_rfl
theorem cfgB_eq (C : Cfg) : cfgB C = (inB (C.H.length : Int) 1 16 && (inB (C.R.length : Int) 1 16 && ((C.H.all okH && !twB (nmsH C.H) C.H.length) && (C.R.all (okR (C.H.length : Int)) && restB C.pa C.c0 C.c1 C.c2 C.c3 C.c4 C.c5 C.c6 C.c7 C.c8 C.c9 C.c10 C.c11 C.c12 C.c13 C.c14)))) := by
  unfold cfgB hostsB routesB
  rw [show inB (C.H.length : Int) 1 16 = decide (1 ≤ C.H.length ∧ C.H.length ≤ 16) from len_in _ 1 16, show inB (C.R.length : Int) 1 16 = decide (1 ≤ C.R.length ∧ C.R.length ≤ 16) from len_in _ 1 16]
  ac_rfl
theorem nms_at (L : List Hst) (k : Nat) (h : k < (nmsH L).length) (h2 : k < L.length) : (nmsH L)[k] = L[k].nm := by simp [nmsH]
theorem memN_at {A : List ByteArray} {n : ByteArray} {k : Nat} (h : k < A.length) (he : n = A[k]) : memB A n = true := by
  unfold memB
  rw [List.any_eq_true]
  exact ⟨A[k], List.getElem_mem h, by simp [he]⟩
theorem okH_eq (y : Hst) : okH y = (isHostB y.nm && (inB y.ca 1 64 && inB y.pe 0 64)) := by
  unfold okH fitK hostFits_anyL
  simp
set_option maxHeartbeats 4000000 in
set_option maxRecDepth 100000 in
theorem rright_any (w : World) (a1 a2 : Option Addr) (k1 k2 : Nat) (C : Cfg) (h : InC w a1 a2 k1 k2 C) :
    Calls Tryz.prog 16 #[cfgV a1 a2 k1 k2 C] w fun e w' => e = .returned (.bool (cfgB C)) ∧ Below w.heap.size w w' := by
  have HL1 := hide (fun W => rcin_any W (C.H.length : Int) 1 16)
  have HL2 := hide (fun W => rcin_any W (C.R.length : Int) 1 16)
  have HROW := hide (fun W (b : Below w.heap.size w W) => (h.below b).h)
  have HNS := hide h.hs
  have HRS := hide h.rs
  obtain ⟨CS, hCl, hT2, hRc⟩ := h.r.tb
  have HT2 := hide hT2
  have HRC := hide hRc
  have HCL := hide hCl
  obtain ⟨R, hR⟩ : ∃ R, cfgB C = R := ⟨_, rfl⟩
  rw [hR]
  rw [cfgB_eq, rest_is] at hR
  have hr1 : inB (C.H.length : Int) 1 16 = true → C.H.length ≤ 16 := fun e => (of_decide_eq_true ((show inB (C.H.length : Int) 1 16 = decide (1 ≤ C.H.length ∧ C.H.length ≤ 16) from len_in _ 1 16).symm.trans e)).2
  have hr2 : inB (C.R.length : Int) 1 16 = true → C.R.length ≤ 16 := fun e => (of_decide_eq_true ((show inB (C.R.length : Int) 1 16 = decide (1 ≤ C.R.length ∧ C.R.length ≤ 16) from len_in _ 1 16).symm.trans e)).2
  generalize inB (C.H.length : Int) 1 16 = l1 at HL1 hR hr1
  generalize inB (C.R.length : Int) 1 16 = l2 at HL2 hR hr2
  have HV := hide hR
  have HQ1 := hide hr1
  have HQ2 := hide hr2
  clear hR hr1 hr2 h hCl hT2 hRc
  unfold cfgV
  obtain ⟨H, RR, pa, c0, c1, c2, c3, c4, c5, c6, c7, c8, c9, c10, c11, c12, c13, c14⟩ := C
  simp only at HL1 HL2 HROW HNS HRS HT2 HRC HCL HV HQ1 HQ2 ⊢
  obtain ⟨n1, Hn1⟩ : ∃ n1, Hid (H.length = n1) := ⟨_, hide rfl⟩
  obtain ⟨n2, Hn2⟩ : ∃ n2, Hid (RR.length = n2) := ⟨_, hide rfl⟩
  rw [Hn1.out] at HL1 HROW HV HQ1 ⊢
  rw [Hn2.out] at HL2 HCL HQ2 ⊢
  go_enter Tryz.func16, Tryz.ntmps16
  go_upto_region 1 with fail
  have B0 := hide ((Below.refl w.heap.size w).alloc (Nat.le_refl _) (.cells #[.slice a1 n1 k1, .slice a2 n2 k2, .int .i64 c0, .int .i64 c1, .int .i64 c2, .int .i64 c3, .string pa, .int .i64 c4, .int .i64 c5, .int .i64 c6, .int .i64 c7, .int .i64 c8, .int .i64 c9, .int .i64 c10, .int .i64 c11, .int .i64 c12, .int .i64 c13, .int .i64 c14] 25))
  have FA := hide (hp_new w (.cells #[.slice a1 n1 k1, .slice a2 n2 k2, .int .i64 c0, .int .i64 c1, .int .i64 c2, .int .i64 c3, .string pa, .int .i64 c4, .int .i64 c5, .int .i64 c6, .int .i64 c7, .int .i64 c8, .int .i64 c9, .int .i64 c10, .int .i64 c11, .int .i64 c12, .int .i64 c13, .int .i64 c14] 25))
  generalize hx0 : w.alloc (.cells #[.slice a1 n1 k1, .slice a2 n2 k2, .int .i64 c0, .int .i64 c1, .int .i64 c2, .int .i64 c3, .string pa, .int .i64 c4, .int .i64 c5, .int .i64 c6, .int .i64 c7, .int .i64 c8, .int .i64 c9, .int .i64 c10, .int .i64 c11, .int .i64 c12, .int .i64 c13, .int .i64 c14] 25) = x at B0 FA ⊢
  clear hx0
  have m0 : x.cell? ⟨w.heap.size, 0, none⟩ = some (.slice a1 n1 k1) := cell_at FA.out 0
  go_wp2_with fail
  refine (HL1.out _).mono ?_
  rintro e x1 ⟨rfl, bb⟩
  have B1 := hide (B0.out.trans (bb.mono B0.out.size))
  have FA := hide ((bb.block w.heap.size (blk_lt FA.out)).trans FA.out)
  clear bb B0 HL1 m0
  cases l1
  · have HE : Hid (R = false) := hide (by rw [← HV.out]; rfl)
    go_wp2_with fail
    go_ret
    exact ⟨ret_bool (by rw [HE.out]), B1.out⟩
  have hn1 := HQ1.out rfl
  have m1 : x1.cell? ⟨w.heap.size, 1, none⟩ = some (.slice a2 n2 k2) := cell_at FA.out 1
  go_wp2_with fail
  refine (HL2.out _).mono ?_
  rintro e x2 ⟨rfl, bb⟩
  have B2 := hide (B1.out.trans (bb.mono B1.out.size))
  have FA := hide ((bb.block w.heap.size (blk_lt FA.out)).trans FA.out)
  clear bb B1 HL2 m1
  cases l2
  · have HE : Hid (R = false) := hide (by rw [← HV.out]; rfl)
    go_wp2_with fail
    go_ret
    exact ⟨ret_bool (by rw [HE.out]), B2.out⟩
  have hn2 := HQ2.out rfl
  have m0 : x2.cell? ⟨w.heap.size, 0, none⟩ = some (.slice a1 n1 k1) := cell_at FA.out 0
  have HVV : Hid (R = ((H.all okH && !twB (nmsH H) n1) && (RR.all (okR (n1 : Int)) && (probB pa c0 c1 c2 c3 && (outB c4 c5 c6 c7 && (sizB c8 c9 c10 && finB c11 c12 c13 c14)))))) := hide (by rw [← HV.out]; rfl)
  clear HV HQ1 HQ2
  go_wp2
  go_loopw [26] (fun i wr => ∃ k : Nat, k ≤ n1 ∧ i = .int .i64 k ∧ Hid ((H.take k).all okH = true) ∧ Hid (twB (nmsH H) k = false) ∧ Hid (Below x2.heap.size x2 wr)) (fun i _ => n1 - (intOf i).toNat)
  case atStart => exact ⟨0, Nat.zero_le _, rfl, hide rfl, hide rfl, hide (Below.refl _ _)⟩
  case round =>
    obtain ⟨k, hk, rfl, HA, HW, HB⟩ := hrel
    clear m0
    have FB := hide ((HB.out.block w.heap.size (blk_lt FA.out)).trans FA.out)
    have BW := hide (B2.out.trans (HB.out.mono B2.out.size))
    by_cases hlt : k < n1
    · obtain ⟨a9, c9, e9, hcv⟩ := HROW.out wr BW.out
      rw [Hn1.out] at e9
      simp only [Value.slice.injEq, true_and] at e9
      obtain ⟨rfl, rfl⟩ := e9
      have HCV := hide hcv
      have hlL : k < H.length := by rw [Hn1.out]; exact hlt
      have hlN : k < (nmsH H).length := by unfold nmsH; rw [List.length_map]; exact hlL
      obtain ⟨g, o, rfl, hg, r0, r1, r2⟩ := hcv k hlL
      have HS := hide (allH_snoc hlL)
      have HNO := hide (allH_no hlL)
      have HTS := hide (twB_succ (nmsH H) k hlN)
      have HTY := hide (twB_yes (nmsH H) k hlN)
      have eN : (nmsH H)[k] = H[k].nm := nms_at H k hlN hlL
      rw [eN] at HTS HTY
      have eNL : (nmsH H).length = n1 := by unfold nmsH; rw [List.length_map]; exact Hn1.out
      rw [eNL] at HTY
      have hsz := HNS.out H[k] (List.getElem_mem hlL)
      rw [okH_eq] at HS HNO
      generalize H[k] = y at r0 r1 r2 HS HNO HTS HTY hsz
      obtain ⟨nm, ca, pe⟩ := y
      simp only at r0 r1 r2 HS HNO HTS HTY hsz
      have HI := hide (fun W => rishost_any nm W (by omega))
      have HI2 := hide (fun W => rcin_any W ca 1 64)
      have HI3 := hide (fun W => rcin_any W pe 0 64)
      generalize isHostB nm = b1 at HI HS HNO
      generalize inB ca 1 64 = b2 at HI2 HS HNO
      generalize inB pe 0 64 = b3 at HI3 HS HNO
      clear hcv hg hsz hlL hlN eN
      go_upto_region 6 with fail
      have U1 := hide (Bl.one wr #[.string nm, .int .i64 ca, .int .i64 pe] 43)
      have FB := hide ((U1.out.b.block w.heap.size (blk_lt FB.out)).trans FB.out)
      generalize (wr.alloc (.cells #[.string nm, .int .i64 ca, .int .i64 pe] 43)) = y0 at U1 FB ⊢
      have d0 : y0.cell? ⟨wr.heap.size, 0, none⟩ = some (.string nm) := U1.out.cell 0 rfl 0
      clear r0 r1 r2
      go_wp2_with fail
      refine (HI.out _).mono ?_
      rintro e y1 ⟨rfl, bb⟩
      have FB := hide ((bb.block w.heap.size (blk_lt FB.out)).trans FB.out)
      have U2 := hide (U1.out.below bb)
      clear bb U1 d0 HI
      cases b1
      · have HE : Hid (R = false) := hide (by rw [HVV.out, HNO.out rfl]; rfl)
        go_wp2_with fail
        go_ret
        exact ⟨ret_bool (by rw [HE.out]), BW.out.trans (U2.out.b.mono BW.out.size)⟩
      have d1 : y1.cell? ⟨wr.heap.size, 1, none⟩ = some (.int .i64 ca) := U2.out.cell 0 rfl 1
      go_wp2_with fail
      refine (HI2.out _).mono ?_
      rintro e y2 ⟨rfl, bb⟩
      have FB := hide ((bb.block w.heap.size (blk_lt FB.out)).trans FB.out)
      have U3 := hide (U2.out.below bb)
      clear bb U2 d1 HI2
      cases b2
      · have HE : Hid (R = false) := hide (by rw [HVV.out, HNO.out rfl]; rfl)
        go_wp2_with fail
        go_ret
        exact ⟨ret_bool (by rw [HE.out]), BW.out.trans (U3.out.b.mono BW.out.size)⟩
      have d2 : y2.cell? ⟨wr.heap.size, 2, none⟩ = some (.int .i64 pe) := U3.out.cell 0 rfl 2
      go_wp2_with fail
      refine (HI3.out _).mono ?_
      rintro e y3 ⟨rfl, bb⟩
      have FB := hide ((bb.block w.heap.size (blk_lt FB.out)).trans FB.out)
      have U4 := hide (U3.out.below bb)
      clear bb U3 d2 HI3
      cases b3
      · have HE : Hid (R = false) := hide (by rw [HVV.out, HNO.out rfl]; rfl)
        go_wp2_with fail
        go_ret
        exact ⟨ret_bool (by rw [HE.out]), BW.out.trans (U4.out.b.mono BW.out.size)⟩
      have HX : Hid ((H.take (k + 1)).all okH = true) := hide (by rw [HS.out, HA.out]; rfl)
      have HB4 := hide (HB.out.trans (U4.out.b.mono HB.out.size))
      have d0 : y3.cell? ⟨wr.heap.size, 0, none⟩ = some (.string nm) := U4.out.cell 0 rfl 0
      have m0 : y3.cell? ⟨w.heap.size, 0, none⟩ = some (.slice (some ⟨g, o, none⟩) n1 k1) := cell_at FB.out 0
      clear HS HNO
      go_wp2
      clear d0 m0
      have HU : Hid (∀ W, Below y3.heap.size y3 W → W.cell? ⟨wr.heap.size, 0, none⟩ = some (.string nm) ∧ W.cell? ⟨w.heap.size, 0, none⟩ = some (.slice (some ⟨g, o, none⟩) n1 k1) ∧ Below w.heap.size w W ∧ Below x2.heap.size x2 W ∧ Below wr.heap.size wr W) := hide (fun W b => ⟨(U4.out.below b).cell 0 rfl 0, cell_at ((b.block w.heap.size (blk_lt FB.out)).trans FB.out) 0, BW.out.trans ((U4.out.below b).b.mono BW.out.size), HB4.out.trans (b.mono HB4.out.size), (U4.out.below b).b⟩)
      have HCW : Hid (∀ W, Below y3.heap.size y3 W → ∀ j (hj : j < H.length), W.cell? ⟨g, o + j * 3, none⟩ = some (.string H[j].nm)) := hide (fun W b j hj => by
        obtain ⟨g2, o2, e2, hg2, q0, -, -⟩ := HCV.out j hj
        simp only [Option.some.injEq, Addr.mk.injEq, and_true] at e2
        obtain ⟨rfl, rfl⟩ := e2
        exact ((U4.out.below b).b.cell (p := ⟨g, o + j * 3, none⟩) hg2).trans q0)
      clear U4 HCV HB4 FB
      go_loopw [5] (fun i wr => ∃ j : Nat, j ≤ k ∧ i = .int .i64 j ∧ Hid (memB ((nmsH H).take j) nm = false) ∧ Hid (Below y3.heap.size y3 wr)) (fun i _ => k - (intOf i).toNat)
      case atStart => exact ⟨0, Nat.zero_le _, rfl, hide rfl, hide (Below.refl _ _)⟩
      case round =>
        obtain ⟨j, hj, rfl, HJ, HBJ⟩ := hrel
        obtain ⟨d0, m0, hbw, hbx, -⟩ := HU.out _ HBJ.out
        have HBW := hide hbw
        have HBX := hide hbx
        clear hbw hbx
        by_cases hjk : j < k
        · have hjL : j < H.length := by rw [Hn1.out]; omega
          have hjN : j < (nmsH H).length := by unfold nmsH; rw [List.length_map]; exact hjL
          have q1 := HCW.out _ HBJ.out j hjL
          have eJ : (nmsH H)[j] = H[j].nm := nms_at H j hjN hjL
          have HMS := hide (memB_snoc (A := nmsH H) (n := nm) hjN)
          have HMT : Hid (H[j].nm = nm → memB ((nmsH H).take k) nm = true) := hide (fun e => memN_at (A := (nmsH H).take k) (k := j) (by rw [List.length_take]; omega) (by rw [List.getElem_take, eJ]; exact e.symm))
          rw [eJ] at HMS
          generalize H[j].nm = nj at q1 HMS HMT
          have hbe := bytes_eq nj nm
          clear hjL hjN eJ
          by_cases hyz : nj = nm
          · have HE : Hid (R = false) := hide (by rw [HVV.out, HTY.out (HMT.out hyz)]; simp)
            rw [decide_eq_true hyz] at hbe
            clear hyz HMS HMT
            go_upto_region 11 with fail
            go_region
            go_wp2_with fail
            go_ret
            exact ⟨ret_bool (by rw [HE.out]), HBW.out.drew⟩
          · have HX2 : Hid (memB ((nmsH H).take (j + 1)) nm = false) := hide (by rw [HMS.out, HJ.out, decide_eq_false (fun e => hyz e.symm)]; rfl)
            rw [decide_eq_false hyz] at hbe
            clear hyz HMS HMT
            go_upto_region 11 with fail
            go_region
            go_wp2
            exact ⟨⟨j + 1, by omega, by go_num, HX2, hide HBJ.out.drew⟩, by simp [intOf]; omega⟩
        · have HX3 : Hid (twB (nmsH H) (k + 1) = false) := hide (by
            have hjk2 : j = k := by omega
            have := HJ.out
            rw [hjk2] at this
            rw [HTS.out, HW.out, this]; rfl)
          go_wp2
          exact ⟨⟨k + 1, by omega, by go_num, HX, HX3, HBX⟩, by simp [intOf]; omega⟩
    · have HHA : Hid (R = (RR.all (okR (n1 : Int)) && (probB pa c0 c1 c2 c3 && (outB c4 c5 c6 c7 && (sizB c8 c9 c10 && finB c11 c12 c13 c14))))) := hide (by
        have hkn : k = n1 := by omega
        have h1 := HA.out
        have h2 := HW.out
        rw [hkn] at h1 h2
        rw [← Hn1.out, List.take_length] at h1
        rw [HVV.out, h1, h2]; rfl)
      have m1 : wr.cell? ⟨w.heap.size, 1, none⟩ = some (.slice a2 n2 k2) := cell_at FB.out 1
      clear HVV HA HW HB FA B2 HROW HNS
      generalize wr = z at *
      generalize k = kk at *
      have FD := FB
      clear FB
      go_wp2
      clear m1
      go_loopw [65] (fun i wr => ∃ k : Nat, k ≤ n2 ∧ i = .int .i64 k ∧ Hid ((RR.take k).all (okR (n1 : Int)) = true) ∧ Hid (Below z.heap.size z wr)) (fun i _ => n2 - (intOf i).toNat)
      case atStart => exact ⟨0, Nat.zero_le _, rfl, hide rfl, hide (Below.refl _ _)⟩
      case round =>
        obtain ⟨k, hk, rfl, HA, HB⟩ := hrel
        have FB := hide ((HB.out.block w.heap.size (blk_lt FD.out)).trans FD.out)
        have BX := hide (BW.out.trans (HB.out.mono BW.out.size))
        by_cases hlt : k < n2
        · have hlL : k < RR.length := by rw [Hn2.out]; exact hlt
          have hlC : k < CS.length := by rw [HCL.out]; exact hlt
          obtain ⟨m, q, er, hm, hq, hcq⟩ := HRC.out k hlL hlC
          obtain ⟨g, o, rfl, hg, hra⟩ := HT2.out.below BX.out k hlC
          rw [er] at hra
          have HRA := hide hra
          have HRT : Hid (∀ W, Below w.heap.size w W → Calls Tryz.prog 23 #[.agg (rtC RR[k] m q).toArray, .int .i64 (n1 : Int)] W fun e w' => e = .returned (.bool (okR (n1 : Int) RR[k])) ∧ Below W.heap.size W w') := hide (fun W b => rroute_any W RR[k] m q (n1 : Int) (HRS.out _ (List.getElem_mem hlL)) (hm.below b) (hq.below b) hcq)
          have HS := hide (allR_snoc (n := (n1 : Int)) hlL)
          have HNO := hide (allR_no (n := (n1 : Int)) hlL)
          obtain ⟨am, cm, rfl, hmx⟩ := hm
          obtain ⟨aq, cq, rfl, hqx⟩ := hq
          clear hmx hqx hra hg hcq
          have hone : Hid ((rtC RR[k] (.slice am RR[k].M.length cm) (.slice aq RR[k].H.length cq)).toArray.all (·.oneCell') = true) := hide (by unfold rtC; simp [Value.oneCell'])
          have hlen : Hid ((rtC RR[k] (.slice am RR[k].M.length cm) (.slice aq RR[k].H.length cq)).length = 21) := hide rfl
          generalize rtC RR[k] (.slice am RR[k].M.length cm) (.slice aq RR[k].H.length cq) = c at HRA HRT er hone hlen
          generalize okR (n1 : Int) RR[k] = bk at HRT HS HNO
          clear er hlL hlC
          go_upto_region 16 with fail
          refine wp_region_lit ?_
          refine wpList_plain rfl fun K hK => ?_
          go_simp
          refine hK _ _ ?_
          clear hK K
          refine wpList_load_mid rfl 40 _ rfl g (o + k * 21) rfl c _ HRA.out Tryz.underlying40 rfl (by rw [hlen.out]; kernel_rfl) ?_
          simp only [Act.put, List.setIfInBounds_toArray, List.set_cons_zero, List.set_cons_succ]
          refine wpList_plain rfl fun K hK => ?_
          go_simp
          refine hK _ _ ?_
          clear hK K
          refine wpList_store_new rfl 40 _ _ rfl _ c.toArray rfl rfl (by rw [List.size_toArray, hlen.out]; kernel_rfl) (by have := hlen.out; simp [this]) hone.out ?_
          simp only [Act.put]
          refine wpList_nil ?_
          clear HRA
          have B9 := hide ((Below.refl wr.heap.size wr).alloc (Nat.le_refl _) (.cells c.toArray 40))
          have FE := hide (hp_new wr (.cells c.toArray 40))
          have FB := hide ((B9.out.block w.heap.size (blk_lt FB.out)).trans FB.out)
          generalize hx9 : wr.alloc (.cells c.toArray 40) = y0 at B9 FE FB ⊢
          clear hx9
          go_upto_region 17 with fail
          refine wp_region_lit ?_
          refine wpList_load_mid rfl 40 _ rfl wr.heap.size 0 rfl c _ (range_ofR FE.out) Tryz.underlying40 rfl (by rw [hlen.out]; kernel_rfl) ?_
          simp only [Act.put, List.setIfInBounds_toArray, List.set_cons_zero, List.set_cons_succ]
          have m0 : y0.cell? ⟨w.heap.size, 0, none⟩ = some (.slice a1 n1 k1) := cell_at FB.out 0
          have BY := hide (BX.out.trans (B9.out.mono BX.out.size))
          have HB2 := hide (HB.out.trans (B9.out.mono HB.out.size))
          clear B9 FE
          go_wp2_with fail
          refine (HRT.out y0 BY.out).mono ?_
          rintro e y1 ⟨rfl, bb⟩
          have BZ := hide (BY.out.trans (bb.mono BY.out.size))
          have HB3 := hide (HB2.out.trans (bb.mono HB2.out.size))
          clear bb BY HB2 HRT m0
          cases bk
          · have HE : Hid (R = false) := hide (by rw [HHA.out, HNO.out rfl]; rfl)
            go_wp2_with fail
            go_ret
            exact ⟨ret_bool (by rw [HE.out]), BZ.out⟩
          · have HX : Hid ((RR.take (k + 1)).all (okR (n1 : Int)) = true) := hide (by rw [HS.out, HA.out]; rfl)
            clear HS HNO
            go_wp2
            exact ⟨⟨k + 1, by omega, by go_num, HX, HB3⟩, by simp [intOf]; omega⟩
        · have HH4 : Hid (R = (probB pa c0 c1 c2 c3 && (outB c4 c5 c6 c7 && (sizB c8 c9 c10 && finB c11 c12 c13 c14)))) := hide (by
            have hkn : k = n2 := by omega
            have h1 := HA.out
            rw [hkn, ← Hn2.out, List.take_length] at h1
            rw [HHA.out, h1]; rfl)
          clear HHA HA HT2 HRC HRS HCL HB FD BW
          obtain ⟨pB, HpB⟩ : ∃ b, Hid (probB pa c0 c1 c2 c3 = b) := ⟨_, hide rfl⟩
          obtain ⟨oB, HoB⟩ : ∃ b, Hid (outB c4 c5 c6 c7 = b) := ⟨_, hide rfl⟩
          obtain ⟨zB, HzB⟩ : ∃ b, Hid (sizB c8 c9 c10 = b) := ⟨_, hide rfl⟩
          rw [HpB.out, HoB.out, HzB.out] at HH4
          go_upto_region 20 with fail
          go_cut [8] from 76 to 173 (fun v wc => v = .bool pB ∧ Hid (Below wr.heap.size wr wc))
          case first =>
            have HQ := hide (Below.refl wr.heap.size wr)
            have FQ := FB
            unfold probB at HpB
            have K0 := hide (fun W => rcin_any W c0 0 1000000)
            have K1 := hide (fun W => rspan_any W c1)
            have K2 := hide (fun W => rcin_any W c2 1 100)
            have K3 := hide (fun W => rcin_any W c3 1 100)
            generalize inB c0 0 1000000 = b0 at K0 HpB
            generalize inB c1 1 1000000 = b1 at K1 HpB
            generalize inB c2 1 100 = b2 at K2 HpB
            generalize inB c3 1 100 = b3 at K3 HpB
            have m0 : wr.cell? ⟨w.heap.size, 2, none⟩ = some (.int .i64 c0) := cell_at FQ.out 2
            go_wp2_with fail
            refine (K0.out _).mono ?_
            rintro e v1 ⟨rfl, bb⟩
            have HQ := hide (HQ.out.trans (bb.mono HQ.out.size))
            have FQ := hide ((bb.block w.heap.size (blk_lt FQ.out)).trans FQ.out)
            clear bb K0 m0
            have m0 : v1.cell? ⟨w.heap.size, 3, none⟩ = some (.int .i64 c1) := cell_at FQ.out 3
            cases b0
            · skip
              go_wp2_with fail
              go_meet
              exact ⟨congrArg Value.bool (by rw [← HpB.out]; simp), HQ⟩
            go_wp2_with fail
            refine (K1.out _).mono ?_
            rintro e v2 ⟨rfl, bb⟩
            have HQ := hide (HQ.out.trans (bb.mono HQ.out.size))
            have FQ := hide ((bb.block w.heap.size (blk_lt FQ.out)).trans FQ.out)
            clear bb K1 m0
            have m0 : v2.cell? ⟨w.heap.size, 4, none⟩ = some (.int .i64 c2) := cell_at FQ.out 4
            cases b1
            · skip
              go_wp2_with fail
              go_meet
              exact ⟨congrArg Value.bool (by rw [← HpB.out]; simp), HQ⟩
            go_wp2_with fail
            refine (K2.out _).mono ?_
            rintro e v3 ⟨rfl, bb⟩
            have HQ := hide (HQ.out.trans (bb.mono HQ.out.size))
            have FQ := hide ((bb.block w.heap.size (blk_lt FQ.out)).trans FQ.out)
            clear bb K2 m0
            have m0 : v3.cell? ⟨w.heap.size, 5, none⟩ = some (.int .i64 c3) := cell_at FQ.out 5
            cases b2
            · skip
              go_wp2_with fail
              go_meet
              exact ⟨congrArg Value.bool (by rw [← HpB.out]; simp), HQ⟩
            go_wp2_with fail
            refine (K3.out _).mono ?_
            rintro e v4 ⟨rfl, bb⟩
            have HQ := hide (HQ.out.trans (bb.mono HQ.out.size))
            have FQ := hide ((bb.block w.heap.size (blk_lt FQ.out)).trans FQ.out)
            clear bb K3 m0
            have m0 : v4.cell? ⟨w.heap.size, 6, none⟩ = some (.string pa) := cell_at FQ.out 6
            cases b3
            · skip
              go_wp2_with fail
              go_meet
              exact ⟨congrArg Value.bool (by rw [← HpB.out]; simp), HQ⟩
            have KP := hide (fun W => rplace_any pa W)
            generalize placeB pa = bp at KP HpB
            go_wp2_with fail
            refine (KP.out _).mono ?_
            rintro e v5 ⟨rfl, bb⟩
            have HQ := hide (HQ.out.trans (bb.mono HQ.out.size))
            have FQ := hide ((bb.block w.heap.size (blk_lt FQ.out)).trans FQ.out)
            clear bb KP m0
            cases bp
            · have m0 : v5.cell? ⟨w.heap.size, 6, none⟩ = some (.string pa) := cell_at FQ.out 6
              have m2 : v5.cell? ⟨w.heap.size, 2, none⟩ = some (.int .i64 c0) := cell_at FQ.out 2
              by_cases h0 : pa.size = 0
              · have hee : pa.toList.isEmpty = true := by rw [Lib.toList_data, isEmpty_size]; exact decide_eq_true h0
                rw [decide_eq_true h0] at HpB
                by_cases hc : c0 = 0
                · have hcb : (c0 == 0) = true := by simpa using hc
                  rw [decide_eq_true hc] at HpB
                  clear hc h0
                  go_wp2_with fail
                  go_meet
                  exact ⟨congrArg Value.bool (by rw [← HpB.out]; simp), HQ⟩
                · have hcb : (c0 == 0) = false := by simpa using hc
                  rw [decide_eq_false hc] at HpB
                  clear hc h0
                  go_wp2_with fail
                  go_meet
                  exact ⟨congrArg Value.bool (by rw [← HpB.out]; simp), HQ⟩
              · have hee : pa.toList.isEmpty = false := by rw [Lib.toList_data, isEmpty_size]; exact decide_eq_false h0
                rw [decide_eq_false h0] at HpB
                clear h0
                go_wp2_with fail
                go_meet
                exact ⟨congrArg Value.bool (by rw [← HpB.out]; simp), HQ⟩
            · skip
              go_wp2_with fail
              go_meet
              exact ⟨congrArg Value.bool (by rw [← HpB.out]; simp), HQ⟩
          case rest =>
          obtain ⟨rfl, HQ⟩ := hcut
          have FB := hide ((HQ.out.block w.heap.size (blk_lt FB.out)).trans FB.out)
          have BX := hide (BX.out.trans (HQ.out.mono BX.out.size))
          clear HQ HpB
          generalize wc = wd at *
          go_upto_region 21 with fail
          go_cut [9] from 76 to 173 (fun v wc => v = .bool oB ∧ Hid (Below wd.heap.size wd wc))
          case first =>
            have HQ := hide (Below.refl wd.heap.size wd)
            have FQ := FB
            unfold outB at HoB
            have K0 := hide (fun W => rcin_any W c4 0 1000)
            have K1 := hide (fun W => rspan_any W c5)
            have K2 := hide (fun W => rspan_any W c6)
            generalize inB c4 0 1000 = b0 at K0 HoB
            generalize inB c5 1 1000000 = b1 at K1 HoB
            generalize inB c6 1 1000000 = b2 at K2 HoB
            have m0 : wd.cell? ⟨w.heap.size, 7, none⟩ = some (.int .i64 c4) := cell_at FQ.out 7
            go_wp2_with fail
            refine (K0.out _).mono ?_
            rintro e v1 ⟨rfl, bb⟩
            have HQ := hide (HQ.out.trans (bb.mono HQ.out.size))
            have FQ := hide ((bb.block w.heap.size (blk_lt FQ.out)).trans FQ.out)
            clear bb K0 m0
            have m0 : v1.cell? ⟨w.heap.size, 8, none⟩ = some (.int .i64 c5) := cell_at FQ.out 8
            cases b0
            · skip
              go_wp2_with fail
              go_meet
              exact ⟨congrArg Value.bool (by rw [← HoB.out]; simp), HQ⟩
            go_wp2_with fail
            refine (K1.out _).mono ?_
            rintro e v2 ⟨rfl, bb⟩
            have HQ := hide (HQ.out.trans (bb.mono HQ.out.size))
            have FQ := hide ((bb.block w.heap.size (blk_lt FQ.out)).trans FQ.out)
            clear bb K1 m0
            have m0 : v2.cell? ⟨w.heap.size, 9, none⟩ = some (.int .i64 c6) := cell_at FQ.out 9
            cases b1
            · skip
              go_wp2_with fail
              go_meet
              exact ⟨congrArg Value.bool (by rw [← HoB.out]; simp), HQ⟩
            go_wp2_with fail
            refine (K2.out _).mono ?_
            rintro e v3 ⟨rfl, bb⟩
            have HQ := hide (HQ.out.trans (bb.mono HQ.out.size))
            have FQ := hide ((bb.block w.heap.size (blk_lt FQ.out)).trans FQ.out)
            clear bb K2 m0
            have m0 : v3.cell? ⟨w.heap.size, 9, none⟩ = some (.int .i64 c6) := cell_at FQ.out 9
            cases b2
            · skip
              go_wp2_with fail
              go_meet
              exact ⟨congrArg Value.bool (by rw [← HoB.out]; simp), HQ⟩
            have m5 : v3.cell? ⟨w.heap.size, 8, none⟩ = some (.int .i64 c5) := cell_at FQ.out 8
            have m7 : v3.cell? ⟨w.heap.size, 10, none⟩ = some (.int .i64 c7) := cell_at FQ.out 10
            have K7 := hide (fun W => rcin_any W c7 0 100)
            generalize inB c7 0 100 = b7 at K7 HoB
            by_cases h56 : c5 ≤ c6
            · rw [decide_eq_true h56] at HoB
              go_wp2_with fail
              refine (K7.out _).mono ?_
              rintro e v4 ⟨rfl, bb⟩
              have HQ := hide (HQ.out.trans (bb.mono HQ.out.size))
              clear bb K7 m0 m5 m7
              cases b7
              · skip
                go_wp2_with fail
                go_meet
                exact ⟨congrArg Value.bool (by rw [← HoB.out]; simp), HQ⟩
              · skip
                go_wp2_with fail
                go_meet
                exact ⟨congrArg Value.bool (by rw [← HoB.out]; simp), HQ⟩
            · rw [decide_eq_false h56] at HoB
              go_wp2_with fail
              go_meet
              exact ⟨congrArg Value.bool (by rw [← HoB.out]; simp), HQ⟩
          case rest =>
          obtain ⟨rfl, HQ⟩ := hcut
          have FB := hide ((HQ.out.block w.heap.size (blk_lt FB.out)).trans FB.out)
          have BX := hide (BX.out.trans (HQ.out.mono BX.out.size))
          clear HQ HoB
          generalize wc = we at *
          go_upto_region 22 with fail
          go_cut [10] from 76 to 173 (fun v wc => v = .bool zB ∧ Hid (Below we.heap.size we wc))
          case first =>
            have HQ := hide (Below.refl we.heap.size we)
            have FQ := FB
            unfold sizB at HzB
            have K0 := hide (fun W => rcin_any W c8 16 65536)
            have K1 := hide (fun W => rcin_any W c9 0 1048576)
            have K2 := hide (fun W => rcin_any W c10 1 1048576)
            generalize inB c8 16 65536 = b0 at K0 HzB
            generalize inB c9 0 1048576 = b1 at K1 HzB
            generalize inB c10 1 1048576 = b2 at K2 HzB
            have m0 : we.cell? ⟨w.heap.size, 11, none⟩ = some (.int .i64 c8) := cell_at FQ.out 11
            go_wp2_with fail
            refine (K0.out _).mono ?_
            rintro e v1 ⟨rfl, bb⟩
            have HQ := hide (HQ.out.trans (bb.mono HQ.out.size))
            have FQ := hide ((bb.block w.heap.size (blk_lt FQ.out)).trans FQ.out)
            clear bb K0 m0
            have m0 : v1.cell? ⟨w.heap.size, 12, none⟩ = some (.int .i64 c9) := cell_at FQ.out 12
            cases b0
            · skip
              go_wp2_with fail
              go_meet
              exact ⟨congrArg Value.bool (by rw [← HzB.out]; simp), HQ⟩
            go_wp2_with fail
            refine (K1.out _).mono ?_
            rintro e v2 ⟨rfl, bb⟩
            have HQ := hide (HQ.out.trans (bb.mono HQ.out.size))
            have FQ := hide ((bb.block w.heap.size (blk_lt FQ.out)).trans FQ.out)
            clear bb K1 m0
            have m0 : v2.cell? ⟨w.heap.size, 13, none⟩ = some (.int .i64 c10) := cell_at FQ.out 13
            cases b1
            · skip
              go_wp2_with fail
              go_meet
              exact ⟨congrArg Value.bool (by rw [← HzB.out]; simp), HQ⟩
            go_wp2_with fail
            refine (K2.out _).mono ?_
            rintro e v3 ⟨rfl, bb⟩
            have HQ := hide (HQ.out.trans (bb.mono HQ.out.size))
            have FQ := hide ((bb.block w.heap.size (blk_lt FQ.out)).trans FQ.out)
            clear bb K2 m0
            cases b2
            · skip
              go_wp2_with fail
              go_meet
              exact ⟨congrArg Value.bool (by rw [← HzB.out]; simp), HQ⟩
            go_wp2_with fail
            go_meet
            exact ⟨congrArg Value.bool (by rw [← HzB.out]; simp), HQ⟩
          case rest =>
          obtain ⟨rfl, HQ⟩ := hcut
          have FQ := hide ((HQ.out.block w.heap.size (blk_lt FB.out)).trans FB.out)
          have HQ := hide (BX.out.trans (HQ.out.mono BX.out.size))
          clear HzB FB BX
          generalize wc = wf at *
          cases pB
          · have HE : Hid (R = false) := hide (by rw [HH4.out]; rfl)
            go_wp2_with fail
            go_ret
            exact ⟨ret_bool (by rw [HE.out]), HQ.out⟩
          cases oB
          · have HE : Hid (R = false) := hide (by rw [HH4.out]; rfl)
            go_wp2_with fail
            go_ret
            exact ⟨ret_bool (by rw [HE.out]), HQ.out⟩
          cases zB
          · have HE : Hid (R = false) := hide (by rw [HH4.out]; rfl)
            go_wp2_with fail
            go_ret
            exact ⟨ret_bool (by rw [HE.out]), HQ.out⟩
          unfold finB at HH4
          have K0 := hide (fun W => rspan_any W c11)
          have K1 := hide (fun W => rspan_any W c12)
          have K2 := hide (fun W => rspan_any W c13)
          have K3 := hide (fun W => rcin_any W c14 1 256)
          generalize inB c11 1 1000000 = b0 at K0 HH4
          generalize inB c12 1 1000000 = b1 at K1 HH4
          generalize inB c13 1 1000000 = b2 at K2 HH4
          generalize inB c14 1 256 = b3 at K3 HH4
          have m0 : wf.cell? ⟨w.heap.size, 14, none⟩ = some (.int .i64 c11) := cell_at FQ.out 14
          go_wp2_with fail
          refine (K0.out _).mono ?_
          rintro e v1 ⟨rfl, bb⟩
          have HQ := hide (HQ.out.trans (bb.mono HQ.out.size))
          have FQ := hide ((bb.block w.heap.size (blk_lt FQ.out)).trans FQ.out)
          clear bb K0 m0
          have m0 : v1.cell? ⟨w.heap.size, 15, none⟩ = some (.int .i64 c12) := cell_at FQ.out 15
          cases b0
          · skip
            have HE : Hid (R = false) := hide (by rw [HH4.out]; rfl)
            go_wp2_with fail
            go_ret
            exact ⟨ret_bool (by rw [HE.out]), HQ.out⟩
          go_wp2_with fail
          refine (K1.out _).mono ?_
          rintro e v2 ⟨rfl, bb⟩
          have HQ := hide (HQ.out.trans (bb.mono HQ.out.size))
          have FQ := hide ((bb.block w.heap.size (blk_lt FQ.out)).trans FQ.out)
          clear bb K1 m0
          have m0 : v2.cell? ⟨w.heap.size, 16, none⟩ = some (.int .i64 c13) := cell_at FQ.out 16
          cases b1
          · skip
            have HE : Hid (R = false) := hide (by rw [HH4.out]; rfl)
            go_wp2_with fail
            go_ret
            exact ⟨ret_bool (by rw [HE.out]), HQ.out⟩
          go_wp2_with fail
          refine (K2.out _).mono ?_
          rintro e v3 ⟨rfl, bb⟩
          have HQ := hide (HQ.out.trans (bb.mono HQ.out.size))
          have FQ := hide ((bb.block w.heap.size (blk_lt FQ.out)).trans FQ.out)
          clear bb K2 m0
          have m0 : v3.cell? ⟨w.heap.size, 17, none⟩ = some (.int .i64 c14) := cell_at FQ.out 17
          cases b2
          · skip
            have HE : Hid (R = false) := hide (by rw [HH4.out]; rfl)
            go_wp2_with fail
            go_ret
            exact ⟨ret_bool (by rw [HE.out]), HQ.out⟩
          go_wp2_with fail
          refine (K3.out _).mono ?_
          rintro e v4 ⟨rfl, bb⟩
          have HQ := hide (HQ.out.trans (bb.mono HQ.out.size))
          have FQ := hide ((bb.block w.heap.size (blk_lt FQ.out)).trans FQ.out)
          clear bb K3 m0
          cases b3
          · skip
            have HE : Hid (R = false) := hide (by rw [HH4.out]; rfl)
            go_wp2_with fail
            go_ret
            exact ⟨ret_bool (by rw [HE.out]), HQ.out⟩
          have HE : Hid (R = true) := hide (by rw [HH4.out]; rfl)
          go_wp2_with fail
          go_ret
          exact ⟨ret_bool (by rw [HE.out]), HQ.out⟩
end Go.Proofs.YtekkhjlipijmcaaGreatDoor
/- The document's side: Check. -/
namespace Go.Proofs.YtekkhjlipijmcaaGreatDoor
open Go.ChangeShapes Go.WideShapes Go.ChangeAt Go.RowKit Go.Deep
set_option linter.unusedVariables false

set_option maxHeartbeats 1000000 in
set_option maxRecDepth 100000 in
theorem rcheck_any (w : World) (a1 a2 : Option Addr) (k1 k2 : Nat) (C : Cfg) (h : InC w a1 a2 k1 k2 C) :
    Calls Tryz.prog 10 #[cfgV a1 a2 k1 k2 C] w fun e w' => e = .returned (.int .i64 (cfgE C)) ∧ Below w.heap.size w w' := by
  have HR := hide (fun W (b : Below w.heap.size w W) => rright_any W a1 a2 k1 k2 C (h.below b))
  unfold cfgE
  generalize cfgB C = bc at HR ⊢
  clear h
  unfold cfgV at HR ⊢
  obtain ⟨H, R, pa, c0, c1, c2, c3, c4, c5, c6, c7, c8, c9, c10, c11, c12, c13, c14⟩ := C
  simp only at HR ⊢
  generalize H.length = n1 at *
  generalize R.length = n2 at *
  go_enter Tryz.func10, Tryz.ntmps10
  go_upto_region 1 with fail
  have B0 := hide ((Below.refl w.heap.size w).alloc (Nat.le_refl _) (.cells #[.slice a1 n1 k1, .slice a2 n2 k2, .int .i64 c0, .int .i64 c1, .int .i64 c2, .int .i64 c3, .string pa, .int .i64 c4, .int .i64 c5, .int .i64 c6, .int .i64 c7, .int .i64 c8, .int .i64 c9, .int .i64 c10, .int .i64 c11, .int .i64 c12, .int .i64 c13, .int .i64 c14] 25))
  have FA := hide (hp_new w (.cells #[.slice a1 n1 k1, .slice a2 n2 k2, .int .i64 c0, .int .i64 c1, .int .i64 c2, .int .i64 c3, .string pa, .int .i64 c4, .int .i64 c5, .int .i64 c6, .int .i64 c7, .int .i64 c8, .int .i64 c9, .int .i64 c10, .int .i64 c11, .int .i64 c12, .int .i64 c13, .int .i64 c14] 25))
  generalize hx0 : w.alloc (.cells #[.slice a1 n1 k1, .slice a2 n2 k2, .int .i64 c0, .int .i64 c1, .int .i64 c2, .int .i64 c3, .string pa, .int .i64 c4, .int .i64 c5, .int .i64 c6, .int .i64 c7, .int .i64 c8, .int .i64 c9, .int .i64 c10, .int .i64 c11, .int .i64 c12, .int .i64 c13, .int .i64 c14] 25) = x at B0 FA ⊢
  clear hx0
  refine wp_region_lit ?_
  refine wpList_load_mid rfl 25 _ rfl w.heap.size 0 rfl ([.slice a1 n1 k1, .slice a2 n2 k2, .int .i64 c0, .int .i64 c1, .int .i64 c2, .int .i64 c3, .string pa, .int .i64 c4, .int .i64 c5, .int .i64 c6, .int .i64 c7, .int .i64 c8, .int .i64 c9, .int .i64 c10, .int .i64 c11, .int .i64 c12, .int .i64 c13, .int .i64 c14] : List Value) _ (range_ofR FA.out) Tryz.underlying25 rfl (by kernel_rfl) ?_
  simp only [Act.put, List.setIfInBounds_toArray, List.set_cons_zero, List.set_cons_succ]
  go_wp2_with fail
  refine (HR.out x B0.out).mono ?_
  rintro e w1 ⟨rfl, bb⟩
  have B1 := hide (B0.out.trans (bb.mono B0.out.size))
  clear bb B0 FA HR
  cases bc
  · go_wp2_with fail
    go_ret
    exact ⟨rfl, B1.out⟩
  · go_wp2_with fail
    go_ret
    exact ⟨rfl, B1.out⟩
end Go.Proofs.YtekkhjlipijmcaaGreatDoor
