/- A request's host and path, where its target is of the first form and it has one Host. -/
import Derived.Test.YthbhkgdijoiceaaDoorRRTakes
import Derived.Test.YthbhkgdijoiceaaDoorTSays
namespace Go.Proofs.YthbhkgdijoiceaaDoor
open Go.ChangeShapes Go.WideShapes Go.ChangeAt Go.RowKit

theorem pathOf_one (w : World) (ho : ByteArray) (po : Int) (pa qu : ByteArray) (ak : Bool) (hm : MX w) :
    Calls Tryd.prog 14 #[tgV 1 ho po pa qu ak] w fun e w' => e = .returned (.string (cleanS pa)) ∧ Below w.heap.size w w' := by
  have HC := hide (fun W h => clean_any pa W h)
  have HM := hide hm
  clear hm
  unfold tgV
  generalize cleanS pa = s at HC ⊢
  generalize cleanE pa.data.toList = e0 at HC
  go_enter Tryd.func14, Tryd.ntmps14
  go_wp2_with fail
  have T0 := hide (Bl.one w #[.int .i64 1, .string ho, .int .i64 po, .string pa, .string qu, .bool ak] 40)
  generalize (w.alloc (.cells #[.int .i64 1, .string ho, .int .i64 po, .string pa, .string qu, .bool ak] 40)) = x at T0 ⊢
  refine (HC.out _ (HM.out.below T0.out.b)).mono ?_
  rintro e w1 ⟨rfl, bb⟩
  have T1 := hide (T0.out.below bb)
  clear bb T0
  go_wp2
  go_ret
  exact ⟨rfl, T1.out.b⟩
def hostN : ByteArray := ⟨#[72, 111, 115, 116]⟩
set_option maxHeartbeats 1000000 in
theorem hostOf_one (w : World) (ho : ByteArray) (po : Int) (pa qu : ByteArray) (ak : Bool) (r : Bool) (me ta : ByteArray) (mi st : Int) (re : ByteArray) (l : Value) (A : List (ByteArray × ByteArray)) (hA : Flds w l A) (hs : Sm A) (h1 : (allS A hostN).length = 1) (y : ByteArray) (hy : (allS A hostN)[0]? = some y) :
    Calls Tryd.prog 13 #[tgV 1 ho po pa qu ak, .agg (hdC r me ta mi st re l)] w fun e w' => e = .returned (.tuple #[.string (hostS y), .int .i64 (hostE y.data.toList : Nat)]) ∧ Below w.heap.size w w' := by
  have HAL := hide (fun W h => all_any W l A hostN h hs (by decide))
  have hys : y.size ≤ 1048576 := allS_mem hs (List.mem_of_getElem? hy)
  have HH := hide (fun W => host_any y W (by omega))
  have F0 := hide hA
  obtain ⟨a0, c0, rfl, _, _⟩ := hA
  generalize allS A hostN = V at HAL h1 hy
  clear hs hys
  unfold hdC tgV
  unfold hostN at HAL
  generalize hostS y = s at HH ⊢
  generalize hostE y.data.toList = e0 at HH ⊢
  generalize hostP y.data.toList = p0 at HH
  go_enter Tryd.func13, Tryd.ntmps13
  go_wp2_with fail
  have T0 := hide (Bl.two w #[.int .i64 1, .string ho, .int .i64 po, .string pa, .string qu, .bool ak] 40 #[.bool r, .string me, .string ta, .int .i64 mi, .int .i64 st, .string re, .slice a0 A.length c0] 24)
  generalize ((w.alloc (.cells #[.int .i64 1, .string ho, .int .i64 po, .string pa, .string qu, .bool ak] 40)).alloc (.cells #[.bool r, .string me, .string ta, .int .i64 mi, .int .i64 st, .string re, .slice a0 A.length c0] 24)) = x at T0 ⊢
  refine (HAL.out _ (F0.out.below T0.out.b)).mono ?_
  rintro e w1 ⟨v1, rfl, hV, bb⟩
  have T1 := hide (T0.out.below bb)
  obtain ⟨a1, c1, rfl, hcv⟩ := Strs.of_row hV
  obtain ⟨g, rfl, hg, r0⟩ := hcv 0 (by omega)
  rw [(List.getElem?_eq_some_iff.1 hy).2] at r0
  clear bb T0 HAL hV hcv hy
  have t0 : ((V.length : Int) == 0) = false := beq_eq_false_iff_ne.2 (by omega)
  have t1 : ((V.length : Int) == 1) = true := beq_iff_eq.2 (by omega)
  have hpos : 0 < V.length := by omega
  clear h1
  go_wp2_with fail
  refine (HH.out _).mono ?_
  rintro e w2 ⟨rfl, bb⟩
  have T2 := hide (T1.out.below bb)
  clear bb T1
  go_wp2
  go_ret2
  exact ⟨rfl, T2.out.b⟩
set_option maxHeartbeats 1000000 in
theorem place_one (w : World) (me ta : ByteArray) (mi st : Int) (re : ByteArray) (l : Value) (A : List (ByteArray × ByteArray)) (hA : Flds w l A) (hs : Sm A) (h1 : (allS A hostN).length = 1) (y : ByteArray) (hy : (allS A hostN)[0]? = some y) (hm : MX w)
    (ht : ta.size ≤ 8192) (hf : formN me.data.toList ta.data.toList = 1) (hl : locB ta = true) (he : hostE y.data.toList = 0) :
    Calls Tryd.prog 5 #[.agg (hdC true me ta mi st re l)] w fun e w' => e = .returned (.tuple #[.string (hostS y), .string (cleanS (cutP ta)), .int .i64 0]) ∧ Below w.heap.size w w' := by
  have HP := hide (fun W h => parse_origin me ta W ht h hf)
  have HH := hide (fun W h => hostOf_one W ⟨#[]⟩ (-1) (cutP ta) (cutQ ta) (cutA ta) true me ta mi st re l A h hs h1 y hy)
  have HC := hide (fun W h => pathOf_one W ⟨#[]⟩ (-1) (cutP ta) (cutQ ta) (cutA ta) h)
  rw [hl, if_pos rfl, if_pos rfl] at HP
  rw [he] at HH
  have HM := hide hm
  have F0 := hide hA
  obtain ⟨a0, c0, rfl, _, _⟩ := hA
  clear hs h1 hy hm ht hf hl he
  generalize hostS y = s at HH ⊢
  generalize cleanS (cutP ta) = pt at HC ⊢
  generalize cutP ta = tp at HP HH HC
  generalize cutQ ta = tq at HP HH HC
  generalize cutA ta = tk at HP HH HC
  unfold tgV at HP HH HC
  unfold hdC at HH ⊢
  go_enter Tryd.func5, Tryd.ntmps5
  go_wp2_with fail
  have T0 := hide (Bl.one w #[.bool true, .string me, .string ta, .int .i64 mi, .int .i64 st, .string re, .slice a0 A.length c0] 24)
  generalize (w.alloc (.cells #[.bool true, .string me, .string ta, .int .i64 mi, .int .i64 st, .string re, .slice a0 A.length c0] 24)) = x at T0 ⊢
  refine (HP.out _ (HM.out.below T0.out.b)).mono ?_
  rintro e w1 ⟨rfl, bb⟩
  have T1 := hide (T0.out.below bb)
  clear bb T0 HP
  go_upto_region 6 with fail
  have U2 := hide (Bl.one w1 #[.int .i64 1, .string ⟨#[]⟩, .int .i64 (-1), .string tp, .string tq, .bool tk] 40)
  have T2 := hide (T1.out.below U2.out.b)
  generalize (w1.alloc (.cells #[.int .i64 1, .string ⟨#[]⟩, .int .i64 (-1), .string tp, .string tq, .bool tk] 40)) = y2 at U2 T2 ⊢
  have q0 : y2.cell? ⟨w1.heap.size, 0, none⟩ = some (.int .i64 1) := U2.out.cell 0 rfl 0
  have q1 : y2.cell? ⟨w1.heap.size, 1, none⟩ = some (.string ⟨#[]⟩) := U2.out.cell 0 rfl 1
  have q2 : y2.cell? ⟨w1.heap.size, 2, none⟩ = some (.int .i64 (-1)) := U2.out.cell 0 rfl 2
  have q3 : y2.cell? ⟨w1.heap.size, 3, none⟩ = some (.string tp) := U2.out.cell 0 rfl 3
  have q4 : y2.cell? ⟨w1.heap.size, 4, none⟩ = some (.string tq) := U2.out.cell 0 rfl 4
  have q5 : y2.cell? ⟨w1.heap.size, 5, none⟩ = some (.bool tk) := U2.out.cell 0 rfl 5
  have n0 : y2.cell? ⟨w.heap.size, 0, none⟩ = some (.bool true) := T2.out.cell 0 rfl 0
  have n1 : y2.cell? ⟨w.heap.size, 1, none⟩ = some (.string me) := T2.out.cell 0 rfl 1
  have n2 : y2.cell? ⟨w.heap.size, 2, none⟩ = some (.string ta) := T2.out.cell 0 rfl 2
  have n3 : y2.cell? ⟨w.heap.size, 3, none⟩ = some (.int .i64 mi) := T2.out.cell 0 rfl 3
  have n4 : y2.cell? ⟨w.heap.size, 4, none⟩ = some (.int .i64 st) := T2.out.cell 0 rfl 4
  have n5 : y2.cell? ⟨w.heap.size, 5, none⟩ = some (.string re) := T2.out.cell 0 rfl 5
  have n6 : y2.cell? ⟨w.heap.size, 6, none⟩ = some (.slice a0 A.length c0) := T2.out.cell 0 rfl 6
  clear T1
  go_wp2_with fail
  refine (HH.out _ (F0.out.below T2.out.b)).mono ?_
  rintro e w2 ⟨rfl, bb⟩
  have T3 := hide (T2.out.below bb)
  have U3 := hide (U2.out.below bb)
  clear bb q0 q1 q2 q3 q4 q5 n0 n1 n2 n3 n4 n5 n6 T2 U2
  have q0 : w2.cell? ⟨w1.heap.size, 0, none⟩ = some (.int .i64 1) := U3.out.cell 0 rfl 0
  have q1 : w2.cell? ⟨w1.heap.size, 1, none⟩ = some (.string ⟨#[]⟩) := U3.out.cell 0 rfl 1
  have q2 : w2.cell? ⟨w1.heap.size, 2, none⟩ = some (.int .i64 (-1)) := U3.out.cell 0 rfl 2
  have q3 : w2.cell? ⟨w1.heap.size, 3, none⟩ = some (.string tp) := U3.out.cell 0 rfl 3
  have q4 : w2.cell? ⟨w1.heap.size, 4, none⟩ = some (.string tq) := U3.out.cell 0 rfl 4
  have q5 : w2.cell? ⟨w1.heap.size, 5, none⟩ = some (.bool tk) := U3.out.cell 0 rfl 5
  go_wp2_with fail
  refine (HC.out _ (HM.out.below T3.out.b)).mono ?_
  rintro e w3 ⟨rfl, bb⟩
  have T4 := hide (T3.out.below bb)
  clear bb q0 q1 q2 q3 q4 q5
  go_wp2
  go_ret3
  exact ⟨rfl, T4.out.b⟩
end Go.Proofs.YthbhkgdijoiceaaDoor
