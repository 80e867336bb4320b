/- errors.As at a fault, the target an Errno: the error that it wraps. -/
import Derived.Test.YtcagjipdldlehaaGreatDoorHAs4
namespace Go.Proofs.YtcagjipdldlehaaGreatDoor
open Go.RowKit Go.Extern

theorem as_methodUnwrap (v : Value) (w : World) : (Go.method 293 111 v "Unwrap").run Tryz.prog w = .ok (212, v) w := by kernel_rfl
set_option maxHeartbeats 8000000 in
theorem as_errno (pl k : Int) (g : Nat) (old : Value) (w : World) (hg : w.cell? ⟨0, 0, none⟩ = some (.iface 185 (.agg #[.pointer (some ⟨7, 102, none⟩)]))) (ht0 : w.cell? ⟨g, 14, none⟩ = some old) (hf0 : w.frozen? ⟨g, 14, none⟩ = false) :
    Calls Tryz.prog 61 #[.iface 111 (.agg #[.int .i64 pl, .iface 24 (.int .i64 k)]), .iface 114 (.pointer (some ⟨g, 14, none⟩))] w fun ev w' => ev = .returned (.bool true) ∧ ∃ X, Below w.heap.size w X ∧ w' = X.setCell ⟨g, 14, none⟩ (.int .i64 k) := by
  have h6 := @run_callFunc_extern Tryz.prog 87 _ (fun args => ReflectliteValue.unpack (args.getD 0 (.tuple #[]))) Tryz.func87 (by kernel_rfl) (by kernel_rfl) (by kernel_rfl) (by kernel_rfl)
  have h7 := @run_callFunc_extern Tryz.prog 88 _ (ReflectliteValue.methodAny (ReflectliteValue.valueError "reflectlite.Value.Type" 0) (fun t _ _ _ => ReflectliteType.toType t)) Tryz.func88 (by kernel_rfl) (by kernel_rfl) (by kernel_rfl) (by kernel_rfl)
  have h8 := @run_callFunc_extern Tryz.prog 89 _ (ReflectliteValue.method (ReflectliteValue.valueError "reflectlite.Value.IsNil" 0) ReflectliteValue.isNil) Tryz.func89 (by kernel_rfl) (by kernel_rfl) (by kernel_rfl) (by kernel_rfl)
  have h27 := @run_callFunc_extern Tryz.prog 207 _ (ReflectliteType.abiMethod fun t => do pure (.int .u8 (← Rtype.kind t))) Tryz.func207 (by kernel_rfl) (by kernel_rfl) (by kernel_rfl) (by kernel_rfl)
  have h37 := @run_callFunc_extern Tryz.prog 219 _ (ReflectliteType.method ReflectliteType.elem) Tryz.func219 (by kernel_rfl) (by kernel_rfl) (by kernel_rfl) (by kernel_rfl)
  have h38 := @run_callFunc_extern Tryz.prog 220 _ (ReflectliteType.relation "Implements" ReflectliteType.implements_) Tryz.func220 (by kernel_rfl) (by kernel_rfl) (by kernel_rfl) (by kernel_rfl)
  have h10 := @run_callFunc_extern Tryz.prog 125 _ ReflectliteType.typeOf Tryz.func125 (by kernel_rfl) (by kernel_rfl) (by kernel_rfl) (by kernel_rfl)
  have h35 := @run_callFunc_extern Tryz.prog 217 _ (ReflectliteType.relation "AssignableTo" ReflectliteType.assignableTo) Tryz.func217 (by kernel_rfl) (by kernel_rfl) (by kernel_rfl) (by kernel_rfl)
  have h11 := @run_callFunc_extern Tryz.prog 126 _ (ReflectliteValue.method (ReflectliteValue.valueError "reflectlite.Value.Elem" 0) ReflectliteValue.elem) Tryz.func126 (by kernel_rfl) (by kernel_rfl) (by kernel_rfl) (by kernel_rfl)
  have h12 := @run_callFunc_extern Tryz.prog 127 _ ReflectliteValue.set Tryz.func127 (by kernel_rfl) (by kernel_rfl) (by kernel_rfl) (by kernel_rfl)
  have tO := as_typeOf67
  have tO2 := as_typeOf26
  have mA := as_methodAssignableTo
  have mU := as_methodUnwrap
  have a67 := as_ass67n
  have a26 := as_ass26
  have v26 := as_valueOf26
  have f6 := as_valueOf70
  have f7 := as_type70
  have mK := as_methodKind
  have mE := as_methodElem
  have mI := as_methodImplements
  have k70 := as_kind70
  have k26 := as_kind26
  have e70 := as_elem70
  have i26 := as_impl26
  have nA := as_noAs67
  have uW := as_unwrap67
  have n8 := as_isNil70 ⟨w.heap.size, 0, none⟩ ⟨g, 14, none⟩ ((w.alloc (.cells #[.pointer (some ⟨g, 14, none⟩)] 114)).alloc (.cells #[.pointer (some ⟨7, 114, none⟩), .pointer (some ⟨w.heap.size, 0, none⟩), .int .u64 150] 147)) (by simp)
  have hlt : 0 < w.heap.size := by
    rcases Nat.eq_zero_or_pos w.heap.size with h0 | h
    · simp [World.cell?, h0] at hg
    · exact h
  have hg2 : ((w.alloc (.cells #[.pointer (some ⟨g, 14, none⟩)] 114)).alloc (.cells #[.pointer (some ⟨7, 114, none⟩), .pointer (some ⟨w.heap.size, 0, none⟩), .int .u64 150] 147)).cell? ⟨0, 0, none⟩ = some (.iface 185 (.agg #[.pointer (some ⟨7, 102, none⟩)])) := by
    rw [World.cell?_alloc_lt _ _ ⟨0, 0, none⟩ (by simp), World.cell?_alloc_lt _ _ ⟨0, 0, none⟩ hlt]; exact hg
  have htl : g < w.heap.size := by
    rcases Nat.lt_or_ge g w.heap.size with h | h
    · exact h
    · simp [World.cell?, Array.getElem?_eq_none h] at ht0
  have el := as_elemV70 ⟨w.heap.size, 0, none⟩ ⟨g, 14, none⟩ ((((w.alloc (.cells #[.pointer (some ⟨g, 14, none⟩)] 114)).alloc (.cells #[.pointer (some ⟨7, 114, none⟩), .pointer (some ⟨w.heap.size, 0, none⟩), .int .u64 150] 147)).alloc (.cells #[.pointer (some ⟨7, 114, none⟩), .pointer (some ⟨w.heap.size, 0, none⟩), .int .u64 150] 147)).alloc (.cells #[.int .i64 pl, .iface 24 (.int .i64 k)] 111)) (by
    rw [World.cell?_alloc_lt _ _ ⟨w.heap.size, 0, none⟩ (by simp; omega), World.cell?_alloc_lt _ _ ⟨w.heap.size, 0, none⟩ (by simp; omega), World.cell?_alloc_lt _ _ ⟨w.heap.size, 0, none⟩ (by simp), cell_at (hp_new w _)]; rfl)
  have st := as_set26 ⟨g, 14, none⟩ ⟨w.heap.size + 1 + 1 + 1 + 1, 0, none⟩ k old (((((w.alloc (.cells #[.pointer (some ⟨g, 14, none⟩)] 114)).alloc (.cells #[.pointer (some ⟨7, 114, none⟩), .pointer (some ⟨w.heap.size, 0, none⟩), .int .u64 150] 147)).alloc (.cells #[.pointer (some ⟨7, 114, none⟩), .pointer (some ⟨w.heap.size, 0, none⟩), .int .u64 150] 147)).alloc (.cells #[.int .i64 pl, .iface 24 (.int .i64 k)] 111)).alloc (.cells #[.int .i64 k] 24))
    (by rw [World.cell?_alloc_at _ _ _ _ (by simp)]; rfl)
    (by rw [World.cell?_alloc_lt _ _ ⟨g, 14, none⟩ (by simp; omega), World.cell?_alloc_lt _ _ ⟨g, 14, none⟩ (by simp; omega), World.cell?_alloc_lt _ _ ⟨g, 14, none⟩ (by simp; omega), World.cell?_alloc_lt _ _ ⟨g, 14, none⟩ (by simp; omega), World.cell?_alloc_lt _ _ ⟨g, 14, none⟩ htl]; exact ht0)
    (by rw [World.frozen?_alloc_old _ _ ⟨g, 14, none⟩ (by simp; omega), World.frozen?_alloc_old _ _ ⟨g, 14, none⟩ (by simp; omega), World.frozen?_alloc_old _ _ ⟨g, 14, none⟩ (by simp; omega), World.frozen?_alloc_old _ _ ⟨g, 14, none⟩ (by simp; omega), World.frozen?_alloc_old _ _ ⟨g, 14, none⟩ (Nat.ne_of_lt htl)]; exact hf0)
  have HBW : Below w.heap.size w (((((w.alloc (.cells #[.pointer (some ⟨g, 14, none⟩)] 114)).alloc (.cells #[.pointer (some ⟨7, 114, none⟩), .pointer (some ⟨w.heap.size, 0, none⟩), .int .u64 150] 147)).alloc (.cells #[.pointer (some ⟨7, 114, none⟩), .pointer (some ⟨w.heap.size, 0, none⟩), .int .u64 150] 147)).alloc (.cells #[.int .i64 pl, .iface 24 (.int .i64 k)] 111)).alloc (.cells #[.int .i64 k] 24)) := ((((((Below.refl w.heap.size w).alloc (Nat.le_refl _) _).alloc (by simp) _).alloc (by simp; omega) _).alloc (by simp; omega) _).alloc (by simp; omega) _)
  have HB := hide HBW
  clear HBW ht0 hf0
  go_enter Tryz.func61, Tryz.ntmps61
  go_wp2
  refine wp_loop_rounds 2 ?_
  rw [rounds_succ]
  go_wp2
  rw [rounds_succ]
  go_wp2
  go_ret
  exact ⟨rfl, _, HB.out, rfl⟩
end Go.Proofs.YtcagjipdldlehaaGreatDoor
