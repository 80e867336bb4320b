/- RouteTakes, walked. -/
import Derived.Test.YthbhkgdijoiceaaDoorRSays
import Derived.Test.YthbhkgdijoiceaaDoorBcl
namespace Go.Proofs.YthbhkgdijoiceaaDoor
open Go.ChangeShapes Go.WideShapes Go.ChangeAt Go.RowKit

theorem Cl.flds {w x W : World} {l : Value} {A : List (ByteArray × ByteArray)} (h : Cl x W) (hb : Below w.heap.size w x) (hA : Flds w l A) : Flds W l A := (hA.below hb).below h.out
theorem Cl.srow {w x W : World} {l : Value} {A : List ByteArray} (h : Cl x W) (hb : Below w.heap.size w x) (hA : SRow w l A) : SRow W l A := (hA.below hb).below h.out
set_option maxHeartbeats 4000000 in
set_option maxRecDepth 100000 in
theorem takes_walk (w : World) (ho pf : ByteArray) (ml : Value) (M : List ByteArray) (hd va : ByteArray) (r : Bool) (me ta : ByteArray) (mi st : Int) (re : ByteArray) (l : Value) (A : List (ByteArray × ByteArray)) (host path : ByteArray)
    (hM : SRow w ml M) (hMl : M.length ≤ 1048576) (hA : Flds w l A) (hs : Sm A) (hho : ho.size ≤ 1048576) (hpf : pf.size ≤ 1048576) (hhd : hd.size ≤ 1048576) (hhost : host.size ≤ 1048576) (hpath : path.size ≤ 1048576) (hm : MX w) :
    Calls Tryd.prog 4 #[.agg (mtC ho pf ml hd va), .agg (hdC r me ta mi st re l), .agg #[.string host, .string path]] w fun e w' => e = .returned (.bool true) ∧ Below w.heap.size w w' := by
  have H1 := hide (fun W h g => takes_any W ho pf ml M hd va r me ta mi st re l A host path h hMl g hs hho hpf hhd hhost)
  have H2 := hide (fun W h g => rtakes_any W ho pf ml M hd va r me ta mi st re l A host path h hMl g hs hho hpf hhd hhost hpath)
  have H3 := hide (fun W => cov_any pf path W (by omega))
  have H4 := hide (fun W => rcov_any pf path W (by omega) (by omega))
  have M0 := hide hM
  have F0 := hide hA
  have HM := hide hm
  obtain ⟨a1, c1, rfl, _⟩ := hM
  obtain ⟨a0, c0, rfl, _, _⟩ := hA
  clear hs hho hpf hhd hhost hpath hMl hm
  generalize takB ho pf M hd va me A host path = b1 at H1 H2
  generalize covB pf path = b2 at H3 H4
  unfold mtC hdC at H1 H2 ⊢
  go_enter Tryd.func4, Tryd.ntmps4
  go_upto_region 1 with fail
  have T0 := hide (Bl.three w #[.string ho, .string pf, .slice a1 M.length c1, .string hd, .string va] 34 #[.bool r, .string me, .string ta, .int .i64 mi, .int .i64 st, .string re, .slice a0 A.length c0] 24 #[.string host, .string path] 35)
  generalize (((w.alloc (.cells #[.string ho, .string pf, .slice a1 M.length c1, .string hd, .string va] 34)).alloc (.cells #[.bool r, .string me, .string ta, .int .i64 mi, .int .i64 st, .string re, .slice a0 A.length c0] 24)).alloc (.cells #[.string host, .string path] 35)) = y at T0 ⊢
  have m0 : y.cell? ⟨w.heap.size, 0, none⟩ = some (.string ho) := T0.out.cell 0 rfl 0
  have m1 : y.cell? ⟨w.heap.size, 1, none⟩ = some (.string pf) := T0.out.cell 0 rfl 1
  have m2 : y.cell? ⟨w.heap.size, 2, none⟩ = some (.slice a1 M.length c1) := T0.out.cell 0 rfl 2
  have m3 : y.cell? ⟨w.heap.size, 3, none⟩ = some (.string hd) := T0.out.cell 0 rfl 3
  have m4 : y.cell? ⟨w.heap.size, 4, none⟩ = some (.string va) := T0.out.cell 0 rfl 4
  have n0 : y.cell? ⟨w.heap.size + 1, 0, none⟩ = some (.bool r) := T0.out.cell 1 rfl 0
  have n1 : y.cell? ⟨w.heap.size + 1, 1, none⟩ = some (.string me) := T0.out.cell 1 rfl 1
  have n2 : y.cell? ⟨w.heap.size + 1, 2, none⟩ = some (.string ta) := T0.out.cell 1 rfl 2
  have n3 : y.cell? ⟨w.heap.size + 1, 3, none⟩ = some (.int .i64 mi) := T0.out.cell 1 rfl 3
  have n4 : y.cell? ⟨w.heap.size + 1, 4, none⟩ = some (.int .i64 st) := T0.out.cell 1 rfl 4
  have n5 : y.cell? ⟨w.heap.size + 1, 5, none⟩ = some (.string re) := T0.out.cell 1 rfl 5
  have n6 : y.cell? ⟨w.heap.size + 1, 6, none⟩ = some (.slice a0 A.length c0) := T0.out.cell 1 rfl 6
  have z0 : y.cell? ⟨w.heap.size + 2, 0, none⟩ = some (.string host) := T0.out.cell 2 rfl 0
  have z1 : y.cell? ⟨w.heap.size + 2, 1, none⟩ = some (.string path) := T0.out.cell 2 rfl 1
  have HB := hide T0.out.b
  have K1 := hide (fun W (hW : Cl y W) => H1.out W (hW.srow HB.out M0.out) (hW.flds HB.out F0.out))
  have K2 := hide (fun W (hW : Cl y W) => H2.out W (hW.srow HB.out M0.out) (hW.flds HB.out F0.out))
  have K5 := hide (fun W (hW : Cl y W) => speaks_any W ((HM.out.below HB.out).below hW.out))
  have K3 := hide (fun W => (H3.out W).mono (fun _ _ ⟨h1, h2⟩ => (⟨h1, h2.symm⟩ : _ ∧ W = _)))
  clear H1 H2 H3 T0
  refine wp_region_cl (by kernel_rfl) (by kernel_rfl) ?_
  refine cl_val (v := ?_) rfl (fun W hW => ?_) ?_
  rotate_left
  · have l0 := hW.cell m0; have l1 := hW.cell m1; have l2 := hW.cell m2; have l3 := hW.cell m3; have l4 := hW.cell m4; unfold Oper.quietAt; go_simp; try with_reducible rfl
  simp only [Act.put, List.setIfInBounds_toArray, List.set_cons_zero, List.set_cons_succ]
  refine cl_val (v := ?_) rfl (fun W hW => ?_) ?_
  rotate_left
  · have l0 := hW.cell n0; have l1 := hW.cell n1; have l2 := hW.cell n2; have l3 := hW.cell n3; have l4 := hW.cell n4; have l5 := hW.cell n5; have l6 := hW.cell n6; unfold Oper.quietAt; go_simp; try with_reducible rfl
  simp only [Act.put, List.setIfInBounds_toArray, List.set_cons_zero, List.set_cons_succ]
  refine cl_val (v := ?_) rfl (fun W hW => ?_) ?_
  rotate_left
  · unfold Oper.quietAt; go_simp; try with_reducible rfl
  simp only [Act.put, List.setIfInBounds_toArray, List.set_cons_zero, List.set_cons_succ]
  refine cl_val (v := ?_) rfl (fun W hW => ?_) ?_
  rotate_left
  · have l0 := hW.cell z0; unfold Oper.quietAt; go_simp; try with_reducible rfl
  simp only [Act.put, List.setIfInBounds_toArray, List.set_cons_zero, List.set_cons_succ]
  refine cl_val (v := ?_) rfl (fun W hW => ?_) ?_
  rotate_left
  · unfold Oper.quietAt; go_simp; try with_reducible rfl
  simp only [Act.put, List.setIfInBounds_toArray, List.set_cons_zero, List.set_cons_succ]
  refine cl_val (v := ?_) rfl (fun W hW => ?_) ?_
  rotate_left
  · have l0 := hW.cell z1; unfold Oper.quietAt; go_simp; try with_reducible rfl
  simp only [Act.put, List.setIfInBounds_toArray, List.set_cons_zero, List.set_cons_succ]
  refine cl_val (v := .bool b1) rfl (fun W hW => ?_) ?_
  · unfold Oper.quietAt; go_simp; exact call_cl hW (K1.out W hW)
  simp only [Act.put, List.setIfInBounds_toArray, List.set_cons_zero, List.set_cons_succ]
  refine cl_val (v := ?_) rfl (fun W hW => ?_) ?_
  rotate_left
  · have l0 := hW.cell m0; have l1 := hW.cell m1; have l2 := hW.cell m2; have l3 := hW.cell m3; have l4 := hW.cell m4; unfold Oper.quietAt; go_simp; try with_reducible rfl
  simp only [Act.put, List.setIfInBounds_toArray, List.set_cons_zero, List.set_cons_succ]
  refine cl_val (v := ?_) rfl (fun W hW => ?_) ?_
  rotate_left
  · have l0 := hW.cell n0; have l1 := hW.cell n1; have l2 := hW.cell n2; have l3 := hW.cell n3; have l4 := hW.cell n4; have l5 := hW.cell n5; have l6 := hW.cell n6; unfold Oper.quietAt; go_simp; try with_reducible rfl
  simp only [Act.put, List.setIfInBounds_toArray, List.set_cons_zero, List.set_cons_succ]
  refine cl_val (v := ?_) rfl (fun W hW => ?_) ?_
  rotate_left
  · unfold Oper.quietAt; go_simp; try with_reducible rfl
  simp only [Act.put, List.setIfInBounds_toArray, List.set_cons_zero, List.set_cons_succ]
  refine cl_val (v := ?_) rfl (fun W hW => ?_) ?_
  rotate_left
  · have l0 := hW.cell z0; unfold Oper.quietAt; go_simp; try with_reducible rfl
  simp only [Act.put, List.setIfInBounds_toArray, List.set_cons_zero, List.set_cons_succ]
  refine cl_val (v := ?_) rfl (fun W hW => ?_) ?_
  rotate_left
  · unfold Oper.quietAt; go_simp; try with_reducible rfl
  simp only [Act.put, List.setIfInBounds_toArray, List.set_cons_zero, List.set_cons_succ]
  refine cl_val (v := ?_) rfl (fun W hW => ?_) ?_
  rotate_left
  · have l0 := hW.cell z1; unfold Oper.quietAt; go_simp; try with_reducible rfl
  simp only [Act.put, List.setIfInBounds_toArray, List.set_cons_zero, List.set_cons_succ]
  refine cl_val (v := .bool b1) rfl (fun W hW => ?_) ?_
  · unfold Oper.quietAt; go_simp; exact call_cl hW (K2.out W hW)
  simp only [Act.put, List.setIfInBounds_toArray, List.set_cons_zero, List.set_cons_succ]
  refine cl_val (v := ?_) rfl (fun W hW => ?_) ?_
  rotate_left
  · unfold Oper.quietAt; go_simp; try with_reducible rfl
  simp only [Act.put, List.setIfInBounds_toArray, List.set_cons_zero, List.set_cons_succ]
  refine cl_move _ rfl rfl ?_
  simp only [Act.put, List.setIfInBounds_toArray, List.set_cons_zero, List.set_cons_succ]
  refine cl_val (v := ?_) rfl (fun W hW => ?_) ?_
  rotate_left
  · unfold Oper.quietAt; go_simp; try with_reducible rfl
  simp only [Act.put, List.setIfInBounds_toArray, List.set_cons_zero, List.set_cons_succ]
  refine cl_val (v := ?_) rfl (fun W hW => ?_) ?_
  rotate_left
  · have l0 := hW.cell m1; unfold Oper.quietAt; go_simp; try with_reducible rfl
  simp only [Act.put, List.setIfInBounds_toArray, List.set_cons_zero, List.set_cons_succ]
  refine cl_val (v := ?_) rfl (fun W hW => ?_) ?_
  rotate_left
  · unfold Oper.quietAt; go_simp; try with_reducible rfl
  simp only [Act.put, List.setIfInBounds_toArray, List.set_cons_zero, List.set_cons_succ]
  refine cl_val (v := ?_) rfl (fun W hW => ?_) ?_
  rotate_left
  · have l0 := hW.cell z1; unfold Oper.quietAt; go_simp; try with_reducible rfl
  simp only [Act.put, List.setIfInBounds_toArray, List.set_cons_zero, List.set_cons_succ]
  refine cl_val (v := .bool b2) rfl (fun W hW => ?_) ?_
  · unfold Oper.quietAt; go_simp; exact call_cl_same hW (K3.out W)
  simp only [Act.put, List.setIfInBounds_toArray, List.set_cons_zero, List.set_cons_succ]
  refine cl_val (v := ?_) rfl (fun W hW => ?_) ?_
  rotate_left
  · unfold Oper.quietAt; go_simp; try with_reducible rfl
  simp only [Act.put, List.setIfInBounds_toArray, List.set_cons_zero, List.set_cons_succ]
  refine cl_val (v := ?_) rfl (fun W hW => ?_) ?_
  rotate_left
  · have l0 := hW.cell m1; unfold Oper.quietAt; go_simp; try with_reducible rfl
  simp only [Act.put, List.setIfInBounds_toArray, List.set_cons_zero, List.set_cons_succ]
  refine cl_val (v := ?_) rfl (fun W hW => ?_) ?_
  rotate_left
  · unfold Oper.quietAt; go_simp; try with_reducible rfl
  simp only [Act.put, List.setIfInBounds_toArray, List.set_cons_zero, List.set_cons_succ]
  refine cl_val (v := ?_) rfl (fun W hW => ?_) ?_
  rotate_left
  · have l0 := hW.cell z1; unfold Oper.quietAt; go_simp; try with_reducible rfl
  simp only [Act.put, List.setIfInBounds_toArray, List.set_cons_zero, List.set_cons_succ]
  refine cl_val (v := .bool b2) rfl (fun W hW => ?_) ?_
  · unfold Oper.quietAt; go_simp; exact call_cl hW (H4.out W)
  simp only [Act.put, List.setIfInBounds_toArray, List.set_cons_zero, List.set_cons_succ]
  refine cl_val (v := ?_) rfl (fun W hW => ?_) ?_
  rotate_left
  · unfold Oper.quietAt; go_simp; try with_reducible rfl
  simp only [Act.put, List.setIfInBounds_toArray, List.set_cons_zero, List.set_cons_succ]
  refine cl_val (v := ?_) rfl (fun W hW => ?_) ?_
  rotate_left
  · unfold Oper.quietAt; go_simp; try with_reducible rfl
  simp only [Act.put, List.setIfInBounds_toArray, List.set_cons_zero, List.set_cons_succ]
  refine cl_move _ rfl rfl ?_
  simp only [Act.put, List.setIfInBounds_toArray, List.set_cons_zero, List.set_cons_succ]
  refine cl_val (v := .bool true) rfl (fun W hW => ?_) ?_
  · unfold Oper.quietAt; go_simp; exact call_cl hW (K5.out W hW)
  simp only [Act.put, List.setIfInBounds_toArray, List.set_cons_zero, List.set_cons_succ]
  refine cl_val (v := ?_) rfl (fun W hW => ?_) ?_
  rotate_left
  · unfold Oper.quietAt; go_simp; try with_reducible rfl
  simp only [Act.put, List.setIfInBounds_toArray, List.set_cons_zero, List.set_cons_succ]
  refine cl_assign _ rfl rfl ?_
  simp only [Act.put, List.setIfInBounds_toArray, List.set_cons_zero, List.set_cons_succ]
  refine wpQuiet_nil ?_
  intro z Hz
  go_wp2
  go_ret
  exact ⟨rfl, HB.out.trans (Hz.out.mono HB.out.size)⟩
end Go.Proofs.YthbhkgdijoiceaaDoor
