/- FramingOne, walked: a number below 0. -/
import Derived.Test.YtalihfohdejalaaDoorGOneP
namespace Go.Proofs.YtalihfohdejalaaDoor
open Go.ChangeShapes Go.WideShapes Go.ChangeAt Go.RowKit

set_option maxHeartbeats 8000000 in
set_option maxRecDepth 100000 in
theorem one_low (w : World) (r : Bool) (me ta : ByteArray) (mi st : Int) (re : ByteArray) (l : Value) (A : List (ByteArray × ByteArray)) (m : Int) (fr : Bool) (hA : Flds w l A) (hs : Sm A) (hl : A.length + 1 ≤ 1048576) (t1 : m < 0) :
    Calls Tryd.prog 5 #[.agg (hdC r me ta mi st re l), .int .i64 m, .bool fr] w fun e w' => e = .returned (.bool true) ∧ Below w.heap.size w w' := by
  have H1 := hide (fun W h => req_any W true me ta mi st re l A h hs)
  have HONE := hide (fun m hm h0 => one_reading A mi m fr hm h0)
  have HZ := hide (req_zero A true mi)
  have F0 := hide hA
  have HS := hide hs
  have HL := hide hl
  obtain ⟨a0, c0, rfl, _, _⟩ := hA
  clear hs hl
  generalize reqO A true mi = o at H1 HONE HZ
  obtain ⟨k, n1, b1, e1⟩ := o
  unfold foV frV hdC at H1
  unfold hdC
  dsimp only at HZ
  go_enter Tryd.func5, Tryd.ntmps5
  go_wp2_with fail
  have T0 := hide (Bl.one w #[.bool true, .string me, .string ta, .int .i64 mi, .int .i64 st, .string re, .slice a0 A.length c0] 24)
  have HW0 : Hid ((w.alloc (.cells #[.bool true, .string me, .string ta, .int .i64 mi, .int .i64 st, .string re, .slice a0 A.length c0] 24)).heap.size = w.heap.size + 1) := hide (by simp)
  generalize (w.alloc (.cells #[.bool true, .string me, .string ta, .int .i64 mi, .int .i64 st, .string re, .slice a0 A.length c0] 24)) = x at T0 HW0 ⊢
  refine (H1.out _ (F0.out.below T0.out.b)).mono ?_
  rintro e w1 ⟨rfl, bb⟩
  have HW1 : Hid (w.heap.size + 1 ≤ w1.heap.size) := hide (by have := bb.size; have := HW0.out; omega)
  have T1 := hide (T0.out.below bb)
  clear bb T0 HW0
  go_upto_region 5 with fail
  have U1 := hide (Bl.one w1 #[.int .i64 k, .int .i64 n1, .bool b1] 26)
  have T2 := hide (T1.out.below U1.out.b)
  generalize (w1.alloc (.cells #[.int .i64 k, .int .i64 n1, .bool b1] 26)) = x1 at T2 U1 ⊢
  clear T1
  by_cases he : e1 = 0
  · subst he
    have HX := hide (HONE.out 7 (by decide) rfl)
    clear HONE HZ
    go_wp2_with fail
    refine (text_any 7 (by decide) x1).mono ?_
    rintro e w2 ⟨rfl, rfl⟩
    go_upto_region 9 with fail
    have V1 := hide (Bl.one x1 #[.string moreN, .string (decS 7)] 39)
    have T3 := hide (T2.out.below V1.out.b)
    have U3 := hide (U1.out.below V1.out.b)
    change Code.wp _ _ _ _ (x1.alloc (.cells #[.string moreN, .string (decS 7)] 39))
    generalize (x1.alloc (.cells #[.string moreN, .string (decS 7)] 39)) = y at T3 U3 V1 ⊢
    have HLT : Hid (w.heap.size < y.heap.size) := hide (blk_lt (T3.out.hp 0 _ _ rfl))
    clear T2 U1
    have HSM : Hid (Sm (withN A 7 fr)) := hide (sm_with HS.out HL.out 7 (by decide) fr)
    have HRQ := hide (fun W v h => req_any W true me ta mi st re v (withN A 7 fr) h HSM.out)
    generalize reqO (withN A 7 fr) true mi = o2 at HX HRQ
    obtain ⟨k2, n2, b2, e2⟩ := o2
    unfold foV frV hdC at HRQ
    dsimp only at HX
    have HFE := hide (F0.out.below T3.out.b)
    have v0 : y.cell? ⟨x1.heap.size, 0, none⟩ = some (.string moreN) := V1.out.cell 0 rfl 0
    have v1 : y.cell? ⟨x1.heap.size, 1, none⟩ = some (.string (decS 7)) := V1.out.cell 0 rfl 1
    have r6 : y.cell? ⟨w.heap.size, 6, none⟩ = some (.slice a0 A.length c0) := T3.out.cell 0 rfl 6
    have HWT : Hid (withN A 7 true = (moreN, decS 7) :: A) := hide rfl
    have HWF : Hid (withN A 7 false = A ++ [(moreN, decS 7)]) := hide rfl
    generalize decS 7 = ds at HWT HWF v1 V1
    have hal := HL.out
    cases fr with
    | true =>
      go_wp2_with (at_builtin; apply Hid.out)
      unfold Hid
      refine wpList_append_fld rfl _ _ rfl y y.heap.size (.slice none 0 0) [] moreN ds rfl rfl (FRow.nil _ _) (by simp) (Nat.le_refl _) ?_
      intro v' w3 O' B'
      have R3 := hide O'
      have Y3 := hide B'
      have r7 : w3.cell? ⟨w.heap.size, 6, none⟩ = some (.slice a0 A.length c0) := (T3.out.below B').cell 0 rfl 6
      clear O' B' r6 v0 v1
      obtain ⟨ra, rm, rc, rfl⟩ : ∃ a n c, v' = .slice a n c := by
        obtain ⟨a, c, h, _⟩ := R3.out.shape
        exact ⟨a, _, c, h⟩
      go_wp2_with (at_builtin; apply Hid.out)
      unfold Hid
      refine wpList_append_flds rfl _ _ rfl w3 y.heap.size (.slice ra rm rc) (.slice a0 A.length c0) [(moreN, ds)] A rfl rfl R3.out (HFE.out.below Y3.out) (by simp; omega) Y3.out.size ?_
      intro v' w4 O' B'
      have RW : Hid (∀ g, g < y.heap.size → ∀ i u, Flds (w4.setCell ⟨g, i, none⟩ u) v' (withN A 7 true)) := hide (fun g hg i u => by rw [HWT.out]; exact row_setOld O' hg i u)
      obtain ⟨rb, rl, rd, rfl⟩ : ∃ a n c, v' = .slice a n c := by
        obtain ⟨a, c, h, _⟩ := O'.shape
        exact ⟨a, _, c, h⟩
      have B5 := hide (Y3.out.trans B')
      have T5 := hide (T3.out.below B5.out)
      have U5 := hide (U3.out.below B5.out)
      clear O' B' r7 T3 U3 R3
      have r6 : w4.cell? ⟨w.heap.size, 6, none⟩ = some (.slice a0 A.length c0) := T5.out.cell 0 rfl 6
      have f6 : w4.frozen? ⟨w.heap.size, 6, none⟩ = false := T5.out.fr 0 rfl 6
      go_upto_region 15 with fail
      have T6 : Hid (Bl w (w4.setCell ⟨w.heap.size, 6, none⟩ (.slice rb rl rd)) [(#[.bool true, .string me, .string ta, .int .i64 mi, .int .i64 st, .string re, .slice rb rl rd], 24)]) := hide (T5.out.set 0 rfl 6 (.slice rb rl rd))
      have F6 : Hid (Flds (w4.setCell ⟨w.heap.size, 6, none⟩ (.slice rb rl rd)) (.slice rb rl rd) (withN A 7 true)) := hide (RW.out w.heap.size HLT.out 6 (.slice rb rl rd))
      have U6 : Hid ((w4.setCell ⟨w.heap.size, 6, none⟩ (.slice rb rl rd)).heap[w1.heap.size]? = some (.cells #[.int .i64 k, .int .i64 n1, .bool b1] 26)) := hide ((Below.heap_setCell _ _ _ _ (by have := HW1.out; simp; omega)).trans (U5.out.hp 0 _ _ rfl))
      generalize w4.setCell ⟨w.heap.size, 6, none⟩ (.slice rb rl rd) = w5 at T6 F6 U6 ⊢
      clear r6 f6 T5 U5 RW
      obtain ⟨r0, r1, r2, r3, r4, r5, r6⟩ := T6.out.hd 0 w.heap.size rfl rfl
      go_wp2_with fail
      refine (HRQ.out _ _ F6.out).mono ?_
      rintro e w6 ⟨rfl, bb⟩
      have T7 := hide (T6.out.below bb)
      have U7 := hide ((bb.block _ (blk_lt U6.out)).trans U6.out)
      clear bb T6 U6 F6 HRQ r0 r1 r2 r3 r4 r5 r6
      go_upto_region 16 with fail
      have V8 := hide (Bl.one w6 #[.int .i64 k2, .int .i64 n2, .bool b2] 26)
      have T9 := hide (T7.out.below V8.out.b)
      have U9 := hide ((V8.out.b.block _ (blk_lt U7.out)).trans U7.out)
      generalize (w6.alloc (.cells #[.int .i64 k2, .int .i64 n2, .bool b2] 26)) = z at T9 U9 V8 ⊢
      clear T7 U7
      have p0 : z.cell? ⟨w1.heap.size, 0, none⟩ = some (.int .i64 k) := cell_at U9.out 0
      have p1 : z.cell? ⟨w1.heap.size, 1, none⟩ = some (.int .i64 n1) := cell_at U9.out 1
      obtain ⟨q0, q1, q2, _, _, _⟩ := V8.out.st 0 w6.heap.size rfl rfl
      by_cases k3 : k = 3
      · subst k3
        have hx := HX.out.1 rfl
        subst hx
        clear HX
        go_wp2_with fail
        refine (speaks_any z).mono ?_
        rintro e w9 ⟨rfl, bb⟩
        have B9 := hide (T9.out.below bb)
        clear bb
        go_wp2
        go_ret
        exact ⟨rfl, B9.out.b⟩
      · by_cases k2 : k = 2
        · subst k2
          have hx := HX.out.2.1 rfl
          by_cases hn : n1 = 7
          · rw [if_pos (by first | exact hn | (rw [hn]; rfl))] at hx
            subst hx hn
            clear HX
            go_wp2_with fail
            refine (speaks_any z).mono ?_
            rintro e w9 ⟨rfl, bb⟩
            have B9 := hide (T9.out.below bb)
            clear bb
            go_wp2
            go_ret
            exact ⟨rfl, B9.out.b⟩
          · rw [if_neg (by first | exact hn | (intro h; exact hn (h.trans rfl)))] at hx
            subst hx
            clear HX
            go_wp2_with fail
            refine (speaks_any z).mono ?_
            rintro e w9 ⟨rfl, bb⟩
            have B9 := hide (T9.out.below bb)
            clear bb
            go_wp2
            go_ret
            exact ⟨ret_bool (by rw [beq_eq_false_iff_ne.2 hn]; rfl), B9.out.b⟩
        · obtain ⟨hx1, hx2, hx3⟩ := HX.out.2.2 k3 k2
          subst hx1 hx2 hx3
          clear HX
          go_wp2_with fail
          refine (speaks_any z).mono ?_
          rintro e w9 ⟨rfl, bb⟩
          have B9 := hide (T9.out.below bb)
          clear bb
          go_wp2
          go_ret
          exact ⟨rfl, B9.out.b⟩
    | false =>
      go_wp2_with (at_builtin; apply Hid.out)
      unfold Hid
      refine wpList_append_flds rfl _ _ rfl y y.heap.size (.slice none 0 0) (.slice a0 A.length c0) [] A rfl rfl (FRow.nil _ _) HFE.out (by simp; omega) (Nat.le_refl _) ?_
      intro v' w3 O' B'
      have R3 := hide O'
      have Y3 := hide B'
      have v2 : w3.cell? ⟨x1.heap.size, 0, none⟩ = some (.string moreN) := (V1.out.below B').cell 0 rfl 0
      have v3 : w3.cell? ⟨x1.heap.size, 1, none⟩ = some (.string ds) := (V1.out.below B').cell 0 rfl 1
      clear O' B' r6 v0 v1
      obtain ⟨ra, rm, rc, rfl⟩ : ∃ a n c, v' = .slice a n c := by
        obtain ⟨a, c, h, _⟩ := R3.out.shape
        exact ⟨a, _, c, h⟩
      go_wp2_with (at_builtin; apply Hid.out)
      unfold Hid
      refine wpList_append_fld rfl _ _ rfl w3 y.heap.size (.slice ra rm rc) ([] ++ A) moreN ds rfl rfl R3.out (by simp; omega) Y3.out.size ?_
      intro v' w4 O' B'
      have RW : Hid (∀ g, g < y.heap.size → ∀ i u, Flds (w4.setCell ⟨g, i, none⟩ u) v' (withN A 7 false)) := hide (fun g hg i u => by rw [HWF.out]; exact row_setOld O' hg i u)
      obtain ⟨rb, rl, rd, rfl⟩ : ∃ a n c, v' = .slice a n c := by
        obtain ⟨a, c, h, _⟩ := O'.shape
        exact ⟨a, _, c, h⟩
      have B5 := hide (Y3.out.trans B')
      have T5 := hide (T3.out.below B5.out)
      have U5 := hide (U3.out.below B5.out)
      clear O' B' v2 v3 T3 U3 R3
      have r6 : w4.cell? ⟨w.heap.size, 6, none⟩ = some (.slice a0 A.length c0) := T5.out.cell 0 rfl 6
      have f6 : w4.frozen? ⟨w.heap.size, 6, none⟩ = false := T5.out.fr 0 rfl 6
      go_upto_region 15 with fail
      have T6 : Hid (Bl w (w4.setCell ⟨w.heap.size, 6, none⟩ (.slice rb rl rd)) [(#[.bool true, .string me, .string ta, .int .i64 mi, .int .i64 st, .string re, .slice rb rl rd], 24)]) := hide (T5.out.set 0 rfl 6 (.slice rb rl rd))
      have F6 : Hid (Flds (w4.setCell ⟨w.heap.size, 6, none⟩ (.slice rb rl rd)) (.slice rb rl rd) (withN A 7 false)) := hide (RW.out w.heap.size HLT.out 6 (.slice rb rl rd))
      have U6 : Hid ((w4.setCell ⟨w.heap.size, 6, none⟩ (.slice rb rl rd)).heap[w1.heap.size]? = some (.cells #[.int .i64 k, .int .i64 n1, .bool b1] 26)) := hide ((Below.heap_setCell _ _ _ _ (by have := HW1.out; simp; omega)).trans (U5.out.hp 0 _ _ rfl))
      generalize w4.setCell ⟨w.heap.size, 6, none⟩ (.slice rb rl rd) = w5 at T6 F6 U6 ⊢
      clear r6 f6 T5 U5 RW
      obtain ⟨r0, r1, r2, r3, r4, r5, r6⟩ := T6.out.hd 0 w.heap.size rfl rfl
      go_wp2_with fail
      refine (HRQ.out _ _ F6.out).mono ?_
      rintro e w6 ⟨rfl, bb⟩
      have T7 := hide (T6.out.below bb)
      have U7 := hide ((bb.block _ (blk_lt U6.out)).trans U6.out)
      clear bb T6 U6 F6 HRQ r0 r1 r2 r3 r4 r5 r6
      go_upto_region 16 with fail
      have V8 := hide (Bl.one w6 #[.int .i64 k2, .int .i64 n2, .bool b2] 26)
      have T9 := hide (T7.out.below V8.out.b)
      have U9 := hide ((V8.out.b.block _ (blk_lt U7.out)).trans U7.out)
      generalize (w6.alloc (.cells #[.int .i64 k2, .int .i64 n2, .bool b2] 26)) = z at T9 U9 V8 ⊢
      clear T7 U7
      have p0 : z.cell? ⟨w1.heap.size, 0, none⟩ = some (.int .i64 k) := cell_at U9.out 0
      have p1 : z.cell? ⟨w1.heap.size, 1, none⟩ = some (.int .i64 n1) := cell_at U9.out 1
      obtain ⟨q0, q1, q2, _, _, _⟩ := V8.out.st 0 w6.heap.size rfl rfl
      by_cases k3 : k = 3
      · subst k3
        have hx := HX.out.1 rfl
        subst hx
        clear HX
        go_wp2_with fail
        refine (speaks_any z).mono ?_
        rintro e w9 ⟨rfl, bb⟩
        have B9 := hide (T9.out.below bb)
        clear bb
        go_wp2
        go_ret
        exact ⟨rfl, B9.out.b⟩
      · by_cases k2 : k = 2
        · subst k2
          have hx := HX.out.2.1 rfl
          by_cases hn : n1 = 7
          · rw [if_pos (by first | exact hn | (rw [hn]; rfl))] at hx
            subst hx hn
            clear HX
            go_wp2_with fail
            refine (speaks_any z).mono ?_
            rintro e w9 ⟨rfl, bb⟩
            have B9 := hide (T9.out.below bb)
            clear bb
            go_wp2
            go_ret
            exact ⟨rfl, B9.out.b⟩
          · rw [if_neg (by first | exact hn | (intro h; exact hn (h.trans rfl)))] at hx
            subst hx
            clear HX
            go_wp2_with fail
            refine (speaks_any z).mono ?_
            rintro e w9 ⟨rfl, bb⟩
            have B9 := hide (T9.out.below bb)
            clear bb
            go_wp2
            go_ret
            exact ⟨ret_bool (by rw [beq_eq_false_iff_ne.2 hn]; rfl), B9.out.b⟩
        · obtain ⟨hx1, hx2, hx3⟩ := HX.out.2.2 k3 k2
          subst hx1 hx2 hx3
          clear HX
          go_wp2_with fail
          refine (speaks_any z).mono ?_
          rintro e w9 ⟨rfl, bb⟩
          have B9 := hide (T9.out.below bb)
          clear bb
          go_wp2
          go_ret
          exact ⟨rfl, B9.out.b⟩
  · obtain ⟨z1, z2, z3⟩ := HZ.out he
    subst z1 z2 z3
    obtain ⟨s0, s1, s2, _, _, _⟩ := U1.out.st 0 w1.heap.size rfl rfl
    have t0 : (e1 != 0) = true := bne_iff_ne.2 he
    clear HONE HZ
    go_wp2_with fail
    refine (speaks_any x1).mono ?_
    rintro e w2 ⟨rfl, bb⟩
    have B9 := hide (T2.out.below bb)
    clear bb
    go_wp2
    go_ret
    exact ⟨rfl, B9.out.b⟩
end Go.Proofs.YtalihfohdejalaaDoor
