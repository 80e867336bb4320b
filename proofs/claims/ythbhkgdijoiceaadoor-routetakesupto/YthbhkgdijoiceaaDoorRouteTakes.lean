/- For all that is handed in of bulk at most 1048576: RouteTakes returns true, and changes nothing that it was handed; the library's tables as they are laid. -/
import Derived.Test.YthbhkgdijoiceaaDoorRLaw
import Derived.Test.YthbhkgdijoiceaaDoorROpen
import Derived.Test.YthbhkgdijoiceaaDoorRLaid
import Derived.Test.YthbhkgdijoiceaaDoorCards
import Derived.Test.YthbhkgdijoiceaaDoorTie
import Derived.WalkKit
import Derived.ProofKit
import Derived.OpenShut
import Derived.ShutString
import Derived.ChangeOld
import Derived.Below
import Derived.Lib.SmallJoins
import Derived.Deep.DeepHandedRow
import Derived.SizedLaws
namespace Go.Proofs.YthbhkgdijoiceaaDoor.routeTakes
open Go.ChangeShapes Go.WideShapes Go.ChangeAt Go.RowKit Go.Joins
open Go.ChangeMaps (open_string shut_string)
set_option linter.unusedVariables false

theorem own : ownKnob Tryd.prog.godebug = none := by kernel_rfl
theorem laidOut : laidOutB Tryd.prog = true := by kernel_rfl

set_option maxRecDepth 100000 in
theorem contract (H : Type) (enc : TypeId × Value → H) (W : World) (base : Nat) (args : Array Value) (ds gs : List (DataW H)) (before : List MemPlace)
    (hval : ∀ (j : Nat) t v, Tryd.f4.params[j]? = some t → args[j]? = some v → Value.okWide Tryd.prog W .any base t v)
    (hW : DataW.Whole enc Tryd.prog Tryd.f4.params.toList Rows.routeTakesSpec.vars false W args.toList ds gs before)
    (hsz : (DataW.weightsEach Tryd.prog (Tryd.f4.params.toList ++ []) (ds ++ gs)).all (· ≤ reachBytes) = true) (hk : Rows.uptoSmall H (ds ++ gs) = true)
    (hL : laidMetH Tryd.prog laid2 W) (hS : W.ShapedOpen Tryd.prog) :
    Calls Tryd.prog 4 args W fun e W' => ∃ v, e = .returned v ∧ Rows.routeTakesSpec.post enc Tryd.prog Tryd.f4 false true false false W args v W' := by
  have hW' := hW
  obtain ⟨p, q, hA0, hV, rfl, hfz, hnd⟩ := hW
  have hA : DataW.TrodAll enc Tryd.prog W 0 (fun _ => true) true Tryd.f4.params.toList args.toList ds p := hA0
  rw [Tryd.params4] at hA hval hsz
  obtain ⟨v0, vs0, d0, ds0, p0, q0, hargs, rfl, rfl, h0, r0⟩ := trodAll_cons hA
  obtain ⟨v1, vs1, d1, ds1, p1, q1, rfl, rfl, rfl, h1, r1⟩ := trodAll_cons r0
  obtain ⟨v2, vs2, d2, ds2, p2, q2, rfl, rfl, rfl, h2, r2⟩ := trodAll_cons r1
  obtain ⟨rfl, rfl, rfl⟩ := trodAll_nil r2
  obtain rfl : args = #[v0, v1, v2] := by cases args; simp_all
  obtain ⟨rfl, rfl⟩ := trodVars_none hV
  have j0 := h0
  have lt0 : ∀ x ∈ p0, x.block < W.heap.size := by obtain ⟨m, hm⟩ := j0; exact DataW.trod_lt m _ _ _ hm
  have j1 := h1
  have lt1 : ∀ x ∈ p1, x.block < W.heap.size := by obtain ⟨m, hm⟩ := j1; exact DataW.trod_lt m _ _ _ hm
  have j2 := h2
  have lt2 : ∀ x ∈ p2, x.block < W.heap.size := by obtain ⟨m, hm⟩ := j2; exact DataW.trod_lt m _ _ _ hm
  obtain ⟨kc0, kc1, kc2, kc3, kc4, ky0, ky1, ky2, ky3, ky4, km, rfl, khd, khy0, khy1, khy2, khy3, khy4⟩ := open_agg5 Tryd.underlying34 (by kernel_rfl) (by kernel_rfl) (hval 0 34 v0 rfl rfl) h0
  obtain ⟨ho, ke0, kx0, ki0⟩ := DataW.trod_string Tryd.underlying9 khy0
  obtain ⟨pf, ke1, kx1, ki1⟩ := DataW.trod_string Tryd.underlying9 khy1
  obtain ⟨hdr, ke3, kx3, ki3⟩ := DataW.trod_string Tryd.underlying9 khy3
  obtain ⟨va, ke4, kx4, ki4⟩ := DataW.trod_string Tryd.underlying9 khy4
  obtain ⟨M, hM, hMl⟩ := strs_in khy2
  simp only [List.cons.injEq, and_true] at ke0 ke1 ke3 ke4
  subst ke0 ke1 ke3 ke4
  obtain ⟨c0, c1, c2, c3, c4, c5, c6, y0, y1, y2, y3, y4, y5, y6, m, rfl, hd, hy0, hy1, hy2, hy3, hy4, hy5, hy6⟩ := open_agg7 Tryd.underlying24 (by kernel_rfl) (by kernel_rfl) (hval 1 24 v1 rfl rfl) h1
  obtain ⟨rq, e0, x0⟩ := DataW.trod_bool Tryd.underlying4 hy0
  obtain ⟨me, e1, x1, i1⟩ := DataW.trod_string Tryd.underlying9 hy1
  obtain ⟨ta, e2, x2, i2⟩ := DataW.trod_string Tryd.underlying9 hy2
  obtain ⟨mi, e3, x3, i3⟩ := DataW.trod_int Tryd.underlying3 hy3
  obtain ⟨st, e4, x4, i4⟩ := DataW.trod_int Tryd.underlying3 hy4
  obtain ⟨re, e5, x5, i5⟩ := DataW.trod_string Tryd.underlying9 hy5
  obtain ⟨A, hF, hl, hm⟩ := flds_in hy6
  simp only [List.cons.injEq, and_true] at e0 e1 e2 e3 e4 e5
  subst e0 e1 e2 e3 e4 e5
  obtain ⟨mi0, mi1⟩ := bounds_i64 i3
  obtain ⟨st0, st1⟩ := bounds_i64 i4
  obtain ⟨tc0, tc1, ty0, ty1, tm, rfl, thd, thy0, thy1⟩ := open_arr2 Tryd.underlying35 (by kernel_rfl) (by kernel_rfl) (hval 2 35 v2 rfl rfl) h2
  obtain ⟨hst, te0, tx0, ti0⟩ := DataW.trod_string Tryd.underlying9 thy0
  obtain ⟨pt, te1, tx1, ti1⟩ := DataW.trod_string Tryd.underlying9 thy1
  simp only [List.cons.injEq, and_true] at te0 te1
  subst te0 te1
  have hb : (ho.size + pf.size + Rows.uptoBulk ky2.1 + hdr.size + va.size) + (me.size + ta.size + re.size + Rows.uptoBulk y6.1) + (hst.size + pt.size) ≤ 1048576 := by
    have h := of_decide_eq_true hk
    rw [khd, kx0, kx1, kx3, kx4] at h
    rw [hd, x0, x1, x2, x3, x4, x5] at h
    rw [thd, tx0, tx1] at h
    simp only [List.append_nil, Rows.uptoBulkAll, Rows.uptoBulk, size_len] at h
    omega
  clear hA0
  simp only [List.append_nil] at hW'
  refine (takes_walk W ho pf _ M hdr va rq me ta mi st re _ A hst pt hM (by omega) hF (sm_of hl hm (by omega)) (by omega) (by omega) (by omega) (by omega) (by omega) (mx_of hS)).mono fun e W' ⟨he, bel⟩ => ?_
  subst he
  exact ⟨_, rfl, _, _, _, [], _, [], hW', trodAll_mk1 (shut_bool Tryd.underlying4 _), (trodAll_cons_mk (Below.trod laidOut (by kernel_rfl) (of_decide_eq_true (by kernel_rfl)) j0 bel lt0) (trodAll_cons_mk (Below.trod laidOut (by kernel_rfl) (of_decide_eq_true (by kernel_rfl)) j1 bel lt1) (trodAll_cons_mk (Below.trod laidOut (by kernel_rfl) (of_decide_eq_true (by kernel_rfl)) j2 bel lt2) trodAll_mk0))), rfl, bel.frame _, fun h => by cases h⟩

theorem reads (os : Os) {H : Type} (enc : TypeId × Value → H) : ∃ places, DataW.whole enc Tryd.prog ((World.laidAll Tryd.prog os laid2).forCall (fun _ _ => 0) ⟨#[], #[.agg #[.string ByteArray.empty, .string ByteArray.empty, .slice none 0 0, .string ByteArray.empty, .string ByteArray.empty], .agg #[.bool false, .string ByteArray.empty, .string ByteArray.empty, .int .i64 0, .int .i64 0, .string ByteArray.empty, .slice none 0 0], .agg #[.string ByteArray.empty, .string ByteArray.empty]], []⟩).memory Tryd.f4.params.toList Rows.routeTakesSpec.vars false (#[.agg #[.string ByteArray.empty, .string ByteArray.empty, .slice none 0 0, .string ByteArray.empty, .string ByteArray.empty], .agg #[.bool false, .string ByteArray.empty, .string ByteArray.empty, .int .i64 0, .int .i64 0, .string ByteArray.empty, .slice none 0 0], .agg #[.string ByteArray.empty, .string ByteArray.empty]] : Array Value).toList 8 = some ([.agg [.lit (.string []), .lit (.string []), .nil, .lit (.string []), .lit (.string [])], .agg [.lit (.bool false), .lit (.string []), .lit (.string []), .lit (.int .i64 0), .lit (.int .i64 0), .lit (.string []), .nil], .agg [.lit (.string []), .lit (.string [])]], [], places) :=
  ⟨[], by kernel_rfl⟩

set_option maxRecDepth 100000 in
theorem lifted (os : Os) (started : os.Started) (H : Type) (enc : TypeId × Value → H) (F : Stop.Interp) :
    ReturnsInHanded {} Tryd.checked os 4 .any ((Rows.OpenSpec.upto Rows.routeTakesSpec).preRow enc Tryd.prog Tryd.f4 Rows.routeTakesUptoRow.domain false Rows.routeTakesUptoRow.laid) (((Rows.OpenSpec.upto Rows.routeTakesSpec).at F).post enc Tryd.prog Tryd.f4 false true false false) := by
  obtain ⟨places, hx⟩ := reads os enc
  refine returnsInHanded_of_row (C := Tryd.checked) (s := Rows.OpenSpec.upto Rows.routeTakesSpec) own started (by kernel_rfl) Tryd.func4
    (witness_row_at (enc := enc) (C := Tryd.checked) false (World.laidAll Tryd.prog os laid2) #[.agg #[.string ByteArray.empty, .string ByteArray.empty, .slice none 0 0, .string ByteArray.empty, .string ByteArray.empty], .agg #[.bool false, .string ByteArray.empty, .string ByteArray.empty, .int .i64 0, .int .i64 0, .string ByteArray.empty, .slice none 0 0], .agg #[.string ByteArray.empty, .string ByteArray.empty]] (World.laidAll_os _ _ _) (by kernel_rfl) (by kernel_rfl) (by kernel_rfl)
      (OpenSpec.preRow_of_cond 8 hx (by kernel_rfl) (fun k hk => by cases hk; kernel_rfl) (by kernel_rfl) (met2 os _))) ?_
  intro W base args ds gs before hval hW _ hcond hsz hL hS _
  exact contract H enc W base args ds gs before hval hW hsz (hcond _ rfl) hL hS

theorem said : Rows.RouteTakesUptoSaid :=
  OpenClaim.holds_of_cond 4 Tryd.f4 rfl rfl rfl rfl rfl rfl rfl ⟨rfl, rfl, rfl, rfl, rfl⟩ rfl rfl rfl rfl rfl (by kernel_rfl) Tryd.func4 (by kernel_rfl)
    (of_decide_eq_true (by kernel_rfl)) (by unfold Func.isWrapper; first | (rw [if_pos (by decide +kernel)]; kernel_rfl) | (rw [if_neg (by decide +kernel)]; exact ⟨rfl, rfl⟩))
    (fun os started H enc _ F => by rw [OpenClaim.pre_eq_preRow]; exact lifted os started H enc F)

theorem plain (f : FuncId) (fn : Func) (hf : Tryd.pinned.checked.prog.funcNamed "headrace/headracelaw14.RouteTakes" = some f) (hfn : Tryd.pinned.checked.prog.funcs[f]? = some fn) :
    false = Tryd.pinned.checked.prog.looks [] ∧ ∀ (j : Nat) t, fn.params[j]? = some t → Tryd.pinned.checked.prog.wantsStandIn t = false := by
  obtain rfl : f = 4 := Option.some.inj ((show Tryd.prog.funcNamed "headrace/headracelaw14.RouteTakes" = some 4 by kernel_rfl).symm.trans hf) |>.symm
  obtain rfl : fn = Tryd.f4 := (Option.some.inj (Tryd.func4.symm.trans hfn)).symm
  refine ⟨by kernel_rfl, fun j t ht => ?_⟩
  rw [Tryd.params4] at ht
  have hm : t ∈ [34, 24, 35] := by simpa using Array.mem_of_getElem? ht
  have hall : ([34, 24, 35].all fun u => !Tryd.prog.wantsStandIn u) = true := by kernel_rfl
  exact (show Tryd.prog.wantsStandIn t = false by simpa using List.all_eq_true.1 hall t hm)
end Go.Proofs.YthbhkgdijoiceaaDoor.routeTakes
namespace Go.Proofs.YthbhkgdijoiceaaDoor
theorem routeTakesUpto_holds : Rows.RouteTakesUptoCardSaid :=
  Claim7.holds_tied_plain_at .later [] _ _ _ _ routeTakes.said (fun _ h => by cases h) (by kernel_rfl) (fun _ h => by cases h) routeTakesUpto_row_tie rfl ⟨rfl, rfl⟩ (by kernel_rfl) rfl routeTakes.plain (by kernel_rfl)
#print axioms routeTakesUpto_holds
end Go.Proofs.YthbhkgdijoiceaaDoor
