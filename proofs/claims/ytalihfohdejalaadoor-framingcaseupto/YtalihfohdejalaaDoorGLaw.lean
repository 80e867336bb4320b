/- FramingRequests and FramingResponses, walked. -/
import Derived.Test.YtalihfohdejalaaDoorGSays
import Derived.Test.YtalihfohdejalaaDoorBcl
namespace Go.Proofs.YtalihfohdejalaaDoor
open Go.ChangeShapes Go.WideShapes Go.ChangeAt Go.RowKit

theorem cl_drew (w : World) : Cl w w.drew := (Below.refl _ w).drew
theorem Cl.flds {w x W : World} {l : Value} {A : List (ByteArray × ByteArray)} (h : Cl x W) (hb : Below w.heap.size w x) (hA : Flds w l A) : Flds W l A := (hA.below hb).below h.out
set_option maxHeartbeats 4000000 in
set_option maxRecDepth 100000 in
theorem requests_walk (w : World) (r : Bool) (me ta : ByteArray) (mi st : Int) (re : ByteArray) (l : Value) (A : List (ByteArray × ByteArray)) (hA : Flds w l A) (hs : Sm A) :
    Calls Tryd.prog 3 #[.agg (hdC r me ta mi st re l)] w fun e w' => e = .returned (.bool true) ∧ Below w.heap.size w w' := by
  have H1 := hide (fun W h => req_any W r me ta mi st re l A h hs)
  have H2 := hide (fun W h => rreq_any W r me ta mi st re l A h hs)
  have HK := hide (fun W h => keep_any W r me ta mi st re l A h hs)
  have HR := hide (fun W h => rkeep_any W r me ta mi st re l A h hs)
  have F0 := hide hA
  obtain ⟨a0, c0, rfl, _, _⟩ := hA
  clear hs
  generalize reqO A r mi = o at H1 H2
  generalize keepB A mi = b5 at HK HR
  obtain ⟨k, n, b, ee⟩ := o
  unfold foV frV at H1 H2
  unfold hdC at H1 H2 HK HR ⊢
  go_enter Tryd.func3, Tryd.ntmps3
  go_wp2_with fail
  have T0 := hide (Bl.one w #[.bool r, .string me, .string ta, .int .i64 mi, .int .i64 st, .string re, .slice a0 A.length c0] 24)
  generalize (w.alloc (.cells #[.bool r, .string me, .string ta, .int .i64 mi, .int .i64 st, .string re, .slice a0 A.length c0] 24)) = x at T0 ⊢
  refine (H1.out _ (F0.out.below T0.out.b)).mono ?_
  rintro e w1 ⟨rfl, bb⟩
  have T1 := hide (T0.out.below bb)
  clear bb T0 H1
  obtain ⟨r0, r1, r2, r3, r4, r5, r6⟩ := T1.out.hd 0 w.heap.size rfl rfl
  go_upto_region 2 with fail
  have U1 := hide (Bl.one w1 #[.int .i64 k, .int .i64 n, .bool b] 26)
  have T2 := hide (T1.out.below U1.out.b)
  generalize (w1.alloc (.cells #[.int .i64 k, .int .i64 n, .bool b] 26)) = x1 at T2 U1 ⊢
  clear r0 r1 r2 r3 r4 r5 r6 T1
  obtain ⟨r0, r1, r2, r3, r4, r5, r6⟩ := T2.out.hd 0 w.heap.size rfl rfl
  go_wp2_with fail
  refine (H2.out _ (F0.out.below T2.out.b)).mono ?_
  rintro e w2 ⟨rfl, bb⟩
  have T3 := hide (T2.out.below bb)
  have U2 := hide (U1.out.below bb)
  clear bb T2 H2 U1 r0 r1 r2 r3 r4 r5 r6
  go_upto_region 3 with fail
  have V3 := hide (Bl.one w2 #[.int .i64 k, .int .i64 n, .bool b] 26)
  have T4 := hide (T3.out.below V3.out.b)
  have U3 := hide (U2.out.below V3.out.b)
  generalize (w2.alloc (.cells #[.int .i64 k, .int .i64 n, .bool b] 26)) = y at T4 U3 V3 ⊢
  clear T3 U2
  obtain ⟨h0, h1, h2, h3, h4, h5, h6⟩ := T4.out.hd 0 w.heap.size rfl rfl
  obtain ⟨p0, p1, p2, _, _, _⟩ := U3.out.st 0 w1.heap.size rfl rfl
  obtain ⟨q0, q1, q2, _, _, _⟩ := V3.out.st 0 w2.heap.size rfl rfl
  have HB := hide T4.out.b
  have K1 := hide (fun W (hW : Cl y W) => HK.out W (hW.flds HB.out F0.out))
  have K2 := hide (fun W (hW : Cl y W) => HR.out W (hW.flds HB.out F0.out))
  clear HK HR
  refine wp_region_cl (by kernel_rfl) (by kernel_rfl) ?_
  refine cl_val (v := ?_) rfl (fun W hW => ?_) ?_
  rotate_left
  · have l0 := hW.cell p0; have l1 := hW.cell p1; have l2 := hW.cell p2; unfold Oper.quietAt; go_simp; try with_reducible rfl
  simp only [Act.put, List.setIfInBounds_toArray, List.set_cons_zero, List.set_cons_succ]
  refine cl_val (v := ?_) rfl (fun W hW => ?_) ?_
  rotate_left
  · have l0 := hW.cell q0; have l1 := hW.cell q1; have l2 := hW.cell q2; unfold Oper.quietAt; go_simp; try with_reducible rfl
  simp only [Act.put, List.setIfInBounds_toArray, List.set_cons_zero, List.set_cons_succ]
  refine cl_val (v := ?_) rfl (fun W hW => ?_) ?_
  rotate_left
  · unfold Oper.quietAt; go_simp; try with_reducible rfl
  simp only [Act.put, List.setIfInBounds_toArray, List.set_cons_zero, List.set_cons_succ]
  refine cl_move _ rfl rfl ?_
  simp only [Act.put, List.setIfInBounds_toArray, List.set_cons_zero, List.set_cons_succ]
  refine cl_move _ rfl rfl ?_
  simp only [Act.put, List.setIfInBounds_toArray, List.set_cons_zero, List.set_cons_succ]
  refine cl_move _ rfl rfl ?_
  simp only [Act.put, List.setIfInBounds_toArray, List.set_cons_zero, List.set_cons_succ]
  refine cl_val (v := ?_) rfl (fun W hW => ?_) ?_
  rotate_left
  · unfold Oper.quietAt; go_simp; try with_reducible rfl
  simp only [Act.put, List.setIfInBounds_toArray, List.set_cons_zero, List.set_cons_succ]
  refine cl_val (v := ?_) rfl (fun W hW => ?_) ?_
  rotate_left
  · unfold Oper.quietAt; go_simp; try with_reducible rfl
  simp only [Act.put, List.setIfInBounds_toArray, List.set_cons_zero, List.set_cons_succ]
  refine cl_move _ rfl rfl ?_
  simp only [Act.put, List.setIfInBounds_toArray, List.set_cons_zero, List.set_cons_succ]
  refine cl_val (v := ?_) rfl (fun W hW => ?_) ?_
  rotate_left
  · have l0 := hW.cell h0; have l1 := hW.cell h1; have l2 := hW.cell h2; have l3 := hW.cell h3; have l4 := hW.cell h4; have l5 := hW.cell h5; have l6 := hW.cell h6; unfold Oper.quietAt; go_simp; try with_reducible rfl
  simp only [Act.put, List.setIfInBounds_toArray, List.set_cons_zero, List.set_cons_succ]
  refine cl_val (v := .bool b5) rfl (fun W hW => ?_) ?_
  · unfold Oper.quietAt; go_simp; exact call_cl hW (K1.out W hW)
  simp only [Act.put, List.setIfInBounds_toArray, List.set_cons_zero, List.set_cons_succ]
  refine cl_val (v := ?_) rfl (fun W hW => ?_) ?_
  rotate_left
  · have l0 := hW.cell h0; have l1 := hW.cell h1; have l2 := hW.cell h2; have l3 := hW.cell h3; have l4 := hW.cell h4; have l5 := hW.cell h5; have l6 := hW.cell h6; unfold Oper.quietAt; go_simp; try with_reducible rfl
  simp only [Act.put, List.setIfInBounds_toArray, List.set_cons_zero, List.set_cons_succ]
  refine cl_val (v := .bool b5) rfl (fun W hW => ?_) ?_
  · unfold Oper.quietAt; go_simp; exact call_cl hW (K2.out W hW)
  simp only [Act.put, List.setIfInBounds_toArray, List.set_cons_zero, List.set_cons_succ]
  refine cl_val (v := ?_) rfl (fun W hW => ?_) ?_
  rotate_left
  · unfold Oper.quietAt; go_simp; try with_reducible rfl
  simp only [Act.put, List.setIfInBounds_toArray, List.set_cons_zero, List.set_cons_succ]
  refine cl_val (v := ?_) rfl (fun W hW => ?_) ?_
  rotate_left
  · unfold Oper.quietAt; go_simp; try with_reducible rfl
  simp only [Act.put, List.setIfInBounds_toArray, List.set_cons_zero, List.set_cons_succ]
  refine cl_move _ rfl rfl ?_
  simp only [Act.put, List.setIfInBounds_toArray, List.set_cons_zero, List.set_cons_succ]
  refine cl_val (v := .bool true) rfl (fun W hW => ?_) ?_
  · unfold Oper.quietAt; go_simp; exact call_cl hW (speaks_any W)
  simp only [Act.put, List.setIfInBounds_toArray, List.set_cons_zero, List.set_cons_succ]
  refine cl_val (v := ?_) rfl (fun W hW => ?_) ?_
  rotate_left
  · unfold Oper.quietAt; go_simp; try with_reducible rfl
  simp only [Act.put, List.setIfInBounds_toArray, List.set_cons_zero, List.set_cons_succ]
  refine cl_assign _ rfl rfl ?_
  simp only [Act.put, List.setIfInBounds_toArray, List.set_cons_zero, List.set_cons_succ]
  refine wpQuiet_nil ?_
  intro z Hz
  go_wp2
  go_ret
  exact ⟨rfl, HB.out.trans (Hz.out.mono HB.out.size)⟩
set_option maxHeartbeats 4000000 in
set_option maxRecDepth 100000 in
theorem responses_walk (w : World) (r : Bool) (me ta : ByteArray) (mi st : Int) (re : ByteArray) (l : Value) (A : List (ByteArray × ByteArray)) (mt : ByteArray) (hA : Flds w l A) (hs : Sm A) :
    Calls Tryd.prog 4 #[.agg (hdC r me ta mi st re l), .string mt] w fun e w' => e = .returned (.bool true) ∧ Below w.heap.size w w' := by
  have H1 := hide (fun W h => res_any W r me ta mi st re l A mt h hs)
  have H2 := hide (fun W h => rres_any W r me ta mi st re l A mt h hs)
  have F0 := hide hA
  obtain ⟨a0, c0, rfl, _, _⟩ := hA
  clear hs
  generalize resO A r mi st mt = o at H1 H2
  obtain ⟨k, n, b, ee⟩ := o
  unfold foV frV at H1 H2
  unfold hdC at H1 H2 ⊢
  go_enter Tryd.func4, Tryd.ntmps4
  go_wp2_with fail
  have T0 := hide (Bl.one w #[.bool r, .string me, .string ta, .int .i64 mi, .int .i64 st, .string re, .slice a0 A.length c0] 24)
  generalize (w.alloc (.cells #[.bool r, .string me, .string ta, .int .i64 mi, .int .i64 st, .string re, .slice a0 A.length c0] 24)) = x at T0 ⊢
  refine (H1.out _ (F0.out.below T0.out.b)).mono ?_
  rintro e w1 ⟨rfl, bb⟩
  have T1 := hide (T0.out.below bb)
  clear bb T0 H1
  go_upto_region 2 with fail
  have U1 := hide (Bl.one w1 #[.int .i64 k, .int .i64 n, .bool b] 26)
  have T2 := hide (T1.out.below U1.out.b)
  generalize (w1.alloc (.cells #[.int .i64 k, .int .i64 n, .bool b] 26)) = x1 at T2 U1 ⊢
  clear T1
  obtain ⟨r0, r1, r2, r3, r4, r5, r6⟩ := T2.out.hd 0 w.heap.size rfl rfl
  go_wp2_with fail
  refine (H2.out _ (F0.out.below T2.out.b)).mono ?_
  rintro e w2 ⟨rfl, bb⟩
  have T3 := hide (T2.out.below bb)
  have U2 := hide (U1.out.below bb)
  clear bb T2 H2 U1 r0 r1 r2 r3 r4 r5 r6
  go_upto_region 3 with fail
  have V3 := hide (Bl.one w2 #[.int .i64 k, .int .i64 n, .bool b] 26)
  have T4 := hide (T3.out.below V3.out.b)
  have U3 := hide (U2.out.below V3.out.b)
  generalize (w2.alloc (.cells #[.int .i64 k, .int .i64 n, .bool b] 26)) = y at T4 U3 V3 ⊢
  clear T3 U2
  obtain ⟨p0, p1, p2, _, _, _⟩ := U3.out.st 0 w1.heap.size rfl rfl
  obtain ⟨q0, q1, q2, _, _, _⟩ := V3.out.st 0 w2.heap.size rfl rfl
  go_wp2_with fail
  refine (speaks_any y).mono ?_
  rintro e w3 ⟨rfl, bb⟩
  have T5 := hide (T4.out.below bb)
  clear bb
  go_wp2
  go_ret
  exact ⟨rfl, T5.out.b⟩
end Go.Proofs.YtalihfohdejalaaDoor
