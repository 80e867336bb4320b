/- errors.As at the two targets of Feed: what is stored. -/
import Derived.Test.YtcagjipdldlehaaGreatDoorHAs2
import Derived.Laws.Tables
import Derived.Laws.Cells
namespace Go.Proofs.YtcagjipdldlehaaGreatDoor
open Go.RowKit Go.Extern

theorem rls_run {v x : Value} {dst src : TypeId} {a b : Addr} {fl fl2 : Nat} {val : Value} {W : World} (h1 : (ReflectliteValue.parts v).run Tryz.prog W = .ok (some (dst, a, fl)) W) (h2 : (ReflectliteValue.parts x).run Tryz.prog W = .ok (some (src, b, fl2)) W)
    (hfl : ¬ fl / ReflectliteValue.flagAddr % 2 = 0) (hv : (loadVar src b).run Tryz.prog W = .ok val W) (hd : (Rtype.directlyAssignable dst src).run Tryz.prog W = .ok true W) :
    (ReflectliteValue.set #[v, x]).run Tryz.prog W = ((storeVar dst a val).run Tryz.prog W).andThen fun _ w' => .ok (.tuple #[]) w' := by
  have e : ReflectliteValue.set #[v, x] = (ReflectliteValue.parts v >>= _) := rfl
  rw [e]
  have h3 : (ReflectliteValue.parts (#[v, x].getLit 1 (n := 2) rfl (by omega))).run Tryz.prog W = .ok (some (src, b, fl2)) W := h2
  simp [Sem.run_bind, h1, h3, hfl, hv, hd, Result.andThen]
  try rfl
theorem as_set26 (ta b : Addr) (k : Int) (old : Value) (W : World) (hb : W.cell? b = some (.int .i64 k)) (ht : W.cell? ta = some old) (hf : W.frozen? ta = false) :
    (ReflectliteValue.set #[.agg #[.pointer (some ⟨7, 24, none⟩), .pointer (some ta), .int .u64 386], .agg #[.pointer (some ⟨7, 24, none⟩), .pointer (some b), .int .u64 130]]).run Tryz.prog W
      = .ok (.tuple #[]) (W.setCell ta (.int .i64 k)) := by
  have hv : (loadVar 24 b).run Tryz.prog W = .ok (.int .i64 k) W := by simp [loadVar, isAgg, underlying, Tryz.underlying24, hb, Result.andThen]
  rw [rls_run (as_parts26a ta W) (as_parts26 b W) (by decide) hv (as_direct26 W)]
  simp [Result.andThen, storeVar, Value.cells, storeCells, Addr.add]
  rw [run_store Tryz.prog W ta _ _ (by rfl)]
  simp [ht, hf]
theorem as_set67 (tb b : Nat) (pl : Int) (x : Value) (u0 u1 : Value) (W : World) (h0 : W.cell? ⟨b, 0, none⟩ = some (.int .i64 pl)) (h1 : W.cell? ⟨b, 1, none⟩ = some (.iface 24 x)) (ht : W.heap[tb]? = some (.cells #[u0, u1] 111 (0, 0))) :
    (ReflectliteValue.set #[.agg #[.pointer (some ⟨7, 111, none⟩), .pointer (some ⟨tb, 0, none⟩), .int .u64 409], .agg #[.pointer (some ⟨7, 111, none⟩), .pointer (some ⟨b, 0, none⟩), .int .u64 153]]).run Tryz.prog W
      = .ok (.tuple #[]) (W.setRow tb #[.int .i64 pl, .iface 24 x]) := by
  have hl : (loadCells ⟨b, 0, none⟩ 2).run Tryz.prog W = .ok #[.int .i64 pl, .iface 24 x] W := by
    refine run_loadCells_list (P := Tryz.prog) W ⟨b, 0, none⟩ [.int .i64 pl, .iface 24 x] ?_
    intro j v hj
    match j, hj with
    | 0, hj => simp at hj; subst hj; simpa [Addr.add] using h0
    | 1, hj => simp at hj; subst hj; simpa [Addr.add] using h1
  have hst : (storeCells ⟨tb, 0, none⟩ [.int .i64 pl, .iface 24 x] 0).run Tryz.prog W = .ok () (W.setRow tb #[.int .i64 pl, .iface 24 x]) :=
    run_storeCells_from tb 111 [.int .i64 pl, .iface 24 x] 0 #[u0, u1] W ht rfl (by intro v hv; simp at hv; rcases hv with rfl | rfl <;> rfl)
  have hv : (loadVar 111 ⟨b, 0, none⟩).run Tryz.prog W = .ok (.agg #[.int .i64 pl, .iface 24 x]) W := by
    simp [loadVar, isAgg, underlying, Tryz.underlying111, Result.andThen, hl]
  rw [rls_run (as_parts67a ⟨tb, 0, none⟩ W) (as_parts67 ⟨b, 0, none⟩ W) (by decide) hv (as_direct67 W)]
  simp [Result.andThen, storeVar, Value.cells, hst]
end Go.Proofs.YtcagjipdldlehaaGreatDoor
