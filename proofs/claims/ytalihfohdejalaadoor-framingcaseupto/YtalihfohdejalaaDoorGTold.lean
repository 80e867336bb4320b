/- told: the program's. -/
import Derived.Test.YtalihfohdejalaaDoorGKeep
import Derived.Test.YtalihfohdejalaaDoorGLen
namespace Go.Proofs.YtalihfohdejalaaDoor
open Go.ChangeShapes Go.WideShapes Go.ChangeAt Go.RowKit

set_option maxHeartbeats 2000000 in
theorem told_any (w : World) (r : Bool) (me ta : ByteArray) (mi st : Int) (re : ByteArray) (l : Value) (A : List (ByteArray × ByteArray)) (k : Int) (b : Bool) (hA : Flds w l A) (hs : Sm A) :
    Calls Tryd.prog 16 #[.agg (hdC r me ta mi st re l), frV k 0 b] w fun e w' => e = .returned (foV (toldO A mi k b)) ∧ Below w.heap.size w w' := by
  have HT := hide (fun W h => get_any W l A teS h hs (by decide))
  have HC := hide (fun W h => get_any W l A clS h hs (by decide))
  have HL := hide (fun W h => olen_any W r me ta mi st re l A h hs)
  have HO := hide (fun W h => only_any W r me ta mi st re l A h hs)
  have HK := hide (fun W h => keep_any W r me ta mi st re l A h hs)
  have F0 := hide hA
  have hll := lenN_le (itemsS A clS)
  obtain ⟨a0, c0, rfl, _, _⟩ := hA
  have hR : ∃ o, toldO A mi k b = o := ⟨_, rfl⟩
  obtain ⟨o, ho⟩ := hR
  rw [ho]
  unfold toldO toldB at ho
  have HR := hide ho
  clear ho
  generalize decide (0 < (allS A teS).length) = b1 at HT HR
  generalize decide (0 < (allS A clS).length) = b2 at HC HR
  generalize getS (allS A teS) = g1 at HT
  generalize getS (allS A clS) = g2 at HC
  generalize codeOk A mi = b3 at HO HR
  generalize lenOk (itemsS A clS) = b4 at HL HR
  generalize lenN (itemsS A clS) = ln at HL HR hll
  generalize keepB A mi = b5 at HK HR
  unfold teS at HT
  unfold clS at HC
  unfold hdC at HL HO HK ⊢
  unfold frV
  clear hs
  go_enter Tryd.func16, Tryd.ntmps16
  go_wp2_with fail
  have T0 := hide (Bl.three w #[.bool r, .string me, .string ta, .int .i64 mi, .int .i64 st, .string re, .slice a0 A.length c0] 24 #[.int .i64 k, .int .i64 0, .bool b] 26 #[.int .i64 0, .int .i64 0, .bool false] 26)
  generalize (((w.alloc (.cells #[.bool r, .string me, .string ta, .int .i64 mi, .int .i64 st, .string re, .slice a0 A.length c0] 24)).alloc (.cells #[.int .i64 k, .int .i64 0, .bool b] 26)).alloc (.cells #[.int .i64 0, .int .i64 0, .bool false] 26)) = x at T0 ⊢
  refine (HT.out _ (F0.out.below T0.out.b)).mono ?_
  rintro e w1 ⟨rfl, bb⟩
  have T1 := hide (T0.out.below bb)
  have r6 : w1.cell? ⟨w.heap.size, 6, none⟩ = some (.slice a0 A.length c0) := T1.out.cell 0 rfl 6
  clear bb T0 HT
  go_wp2_with fail
  refine (HC.out _ (F0.out.below T1.out.b)).mono ?_
  rintro e w2 ⟨rfl, bb⟩
  have T2 := hide (T1.out.below bb)
  clear bb T1 HC r6
  obtain ⟨r0, r1, r2, r3, r4, r5, r6⟩ := T2.out.hd 0 w.heap.size rfl rfl
  go_wp2_with fail
  refine (HL.out _ (F0.out.below T2.out.b)).mono ?_
  rintro e w3 ⟨rfl, bb⟩
  have T3 := hide (T2.out.below bb)
  clear bb T2 HL r0 r1 r2 r3 r4 r5 r6
  cases b1 <;> cases b2
  · obtain ⟨d0, d1, d2, _, _, _⟩ := T3.out.st 1 (w.heap.size + 1) rfl rfl
    obtain ⟨s0, s1, s2, f0, f1, f2⟩ := T3.out.st 2 (w.heap.size + 2) rfl rfl
    go_wp2
    obtain ⟨k0, k1, k2, kb⟩ := st3 T3.out 2 (w.heap.size + 2) rfl rfl (k) (0) b
    generalize ((w3.setCell ⟨w.heap.size + 2, 0, none⟩ (.int .i64 (k))).setCell ⟨w.heap.size + 2, 1, none⟩ (.int .i64 (0))).setCell ⟨w.heap.size + 2, 2, none⟩ (.bool b) = w9 at k0 k1 k2 kb ⊢
    clear s0 s1 s2 f0 f1 f2
    exact bodyPost_ret (v := .tuple #[.agg #[.int .i64 (k), .int .i64 (0), .bool b], .int .i64 (0)]) (by simp [results, Tryd.results16, go_sem, k0, k1, k2]) rfl ⟨by rw [← HR.out]; rfl, kb⟩
  · cases b4
    · obtain ⟨s0, s1, s2, f0, f1, f2⟩ := T3.out.st 2 (w.heap.size + 2) rfl rfl
      go_wp2
      obtain ⟨k0, k1, k2, kb⟩ := st3 T3.out 2 (w.heap.size + 2) rfl rfl (0) (0) false
      generalize ((w3.setCell ⟨w.heap.size + 2, 0, none⟩ (.int .i64 (0))).setCell ⟨w.heap.size + 2, 1, none⟩ (.int .i64 (0))).setCell ⟨w.heap.size + 2, 2, none⟩ (.bool false) = w9 at k0 k1 k2 kb ⊢
      clear s0 s1 s2 f0 f1 f2
      exact bodyPost_ret (v := .tuple #[.agg #[.int .i64 (0), .int .i64 (0), .bool false], .int .i64 (90)]) (by simp [results, Tryd.results16, go_sem, k0, k1, k2]) rfl ⟨by rw [← HR.out]; rfl, kb⟩
    · obtain ⟨r0, r1, r2, r3, r4, r5, r6⟩ := T3.out.hd 0 w.heap.size rfl rfl
      go_wp2_with fail
      refine (HK.out _ (F0.out.below T3.out.b)).mono ?_
      rintro e w4 ⟨rfl, bb⟩
      have T4 := hide (T3.out.below bb)
      clear bb T3 r0 r1 r2 r3 r4 r5 r6
      obtain ⟨s0, s1, s2, f0, f1, f2⟩ := T4.out.st 2 (w.heap.size + 2) rfl rfl
      go_wp2
      obtain ⟨k0, k1, k2, kb⟩ := st3 T4.out 2 (w.heap.size + 2) rfl rfl (2) ((ln : Int)) b5
      generalize ((w4.setCell ⟨w.heap.size + 2, 0, none⟩ (.int .i64 (2))).setCell ⟨w.heap.size + 2, 1, none⟩ (.int .i64 ((ln : Int)))).setCell ⟨w.heap.size + 2, 2, none⟩ (.bool b5) = w9 at k0 k1 k2 kb ⊢
      clear s0 s1 s2 f0 f1 f2
      exact bodyPost_ret (v := .tuple #[.agg #[.int .i64 (2), .int .i64 ((ln : Int)), .bool b5], .int .i64 (0)]) (by simp [results, Tryd.results16, go_sem, k0, k1, k2]) rfl ⟨by rw [← HR.out]; rfl, kb⟩
  · obtain ⟨r0, r1, r2, r3, r4, r5, r6⟩ := T3.out.hd 0 w.heap.size rfl rfl
    go_wp2_with fail
    refine (HO.out _ (F0.out.below T3.out.b)).mono ?_
    rintro e w4 ⟨rfl, bb⟩
    have T4 := hide (T3.out.below bb)
    clear bb T3 r0 r1 r2 r3 r4 r5 r6
    cases b3
    · obtain ⟨s0, s1, s2, f0, f1, f2⟩ := T4.out.st 2 (w.heap.size + 2) rfl rfl
      go_wp2
      obtain ⟨k0, k1, k2, kb⟩ := st3 T4.out 2 (w.heap.size + 2) rfl rfl (0) (0) false
      generalize ((w4.setCell ⟨w.heap.size + 2, 0, none⟩ (.int .i64 (0))).setCell ⟨w.heap.size + 2, 1, none⟩ (.int .i64 (0))).setCell ⟨w.heap.size + 2, 2, none⟩ (.bool false) = w9 at k0 k1 k2 kb ⊢
      clear s0 s1 s2 f0 f1 f2
      exact bodyPost_ret (v := .tuple #[.agg #[.int .i64 (0), .int .i64 (0), .bool false], .int .i64 (92)]) (by simp [results, Tryd.results16, go_sem, k0, k1, k2]) rfl ⟨by rw [← HR.out]; rfl, kb⟩
    · obtain ⟨r0, r1, r2, r3, r4, r5, r6⟩ := T4.out.hd 0 w.heap.size rfl rfl
      go_wp2_with fail
      refine (HK.out _ (F0.out.below T4.out.b)).mono ?_
      rintro e w5 ⟨rfl, bb⟩
      have T5 := hide (T4.out.below bb)
      clear bb T4 r0 r1 r2 r3 r4 r5 r6
      obtain ⟨s0, s1, s2, f0, f1, f2⟩ := T5.out.st 2 (w.heap.size + 2) rfl rfl
      go_wp2
      obtain ⟨k0, k1, k2, kb⟩ := st3 T5.out 2 (w.heap.size + 2) rfl rfl (3) (0) b5
      generalize ((w5.setCell ⟨w.heap.size + 2, 0, none⟩ (.int .i64 (3))).setCell ⟨w.heap.size + 2, 1, none⟩ (.int .i64 (0))).setCell ⟨w.heap.size + 2, 2, none⟩ (.bool b5) = w9 at k0 k1 k2 kb ⊢
      clear s0 s1 s2 f0 f1 f2
      exact bodyPost_ret (v := .tuple #[.agg #[.int .i64 (3), .int .i64 (0), .bool b5], .int .i64 (0)]) (by simp [results, Tryd.results16, go_sem, k0, k1, k2]) rfl ⟨by rw [← HR.out]; rfl, kb⟩
  · obtain ⟨s0, s1, s2, f0, f1, f2⟩ := T3.out.st 2 (w.heap.size + 2) rfl rfl
    go_wp2
    obtain ⟨k0, k1, k2, kb⟩ := st3 T3.out 2 (w.heap.size + 2) rfl rfl (0) (0) false
    generalize ((w3.setCell ⟨w.heap.size + 2, 0, none⟩ (.int .i64 (0))).setCell ⟨w.heap.size + 2, 1, none⟩ (.int .i64 (0))).setCell ⟨w.heap.size + 2, 2, none⟩ (.bool false) = w9 at k0 k1 k2 kb ⊢
    clear s0 s1 s2 f0 f1 f2
    exact bodyPost_ret (v := .tuple #[.agg #[.int .i64 (0), .int .i64 (0), .bool false], .int .i64 (91)]) (by simp [results, Tryd.results16, go_sem, k0, k1, k2]) rfl ⟨by rw [← HR.out]; rfl, kb⟩
end Go.Proofs.YtalihfohdejalaaDoor
