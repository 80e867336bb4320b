/- A little configuration. -/
import Derived.Test.YtekkhjlipijmcaaGreatDoorZBnd
namespace Go.Proofs.YtekkhjlipijmcaaGreatDoor
open Go.ChangeShapes Go.WideShapes Go.ChangeAt Go.RowKit
set_option linter.unusedVariables false

def rtL (p : Int) : Rt := ⟨⟨#[]⟩, ⟨#[47]⟩, [], ⟨#[]⟩, ⟨#[]⟩, [0], 1, p, 1, 1, 0, 1, 1, 0, 0, 1, 0, 0, 1, 1, 1⟩
def cfgL (p : Int) : Cfg := ⟨[⟨⟨#[97]⟩, 1, 0⟩], [rtL p], ⟨#[]⟩, 0, 1, 1, 1, 0, 1, 1, 0, 16, 0, 1, 1, 1, 1, 1⟩
theorem cfgL_yes : cfgB (cfgL 1) = true := by decide +kernel
theorem cfgL_no : cfgB (cfgL 0) = false := by decide +kernel
abbrev rtA (q : Nat) (p : Int) : Array Value := #[.string ⟨#[]⟩, .string ⟨#[47]⟩, .slice none 0 0, .string ⟨#[]⟩, .string ⟨#[]⟩, .slice (some ⟨q, 0, none⟩) 1 1, .int .i64 1, .int .i64 p, .int .i64 1, .int .i64 1, .int .i64 0, .int .i64 1, .int .i64 1, .int .i64 0, .int .i64 0, .int .i64 1, .int .i64 0, .int .i64 0, .int .i64 1, .int .i64 1, .int .i64 1]
abbrev cfA (h r : Nat) : Array Value := #[.slice (some ⟨h, 0, none⟩) 1 1, .slice (some ⟨r, 0, none⟩) 1 1, .int .i64 0, .int .i64 1, .int .i64 1, .int .i64 1, .string ⟨#[]⟩, .int .i64 0, .int .i64 1, .int .i64 1, .int .i64 0, .int .i64 16, .int .i64 0, .int .i64 1, .int .i64 1, .int .i64 1, .int .i64 1, .int .i64 1]
theorem keepA {W : World} {o x : Obj} {b : Nat} (h : W.heap[b]? = some x) : (W.alloc o).heap[b]? = some x := (Below.heap_alloc W o b (blk_lt h)).trans h
set_option maxHeartbeats 4000000 in
set_option maxRecDepth 100000 in
theorem little_any (w : World) : Calls Tryz.prog 20 #[] w fun e w' => ∃ h q r, e = .returned (.agg (cfA h r)) ∧ Below w.heap.size w w' ∧ (w.heap.size ≤ h ∧ w.heap.size ≤ q ∧ w.heap.size ≤ r) ∧ (h ≠ r ∧ q ≠ r) ∧ w'.heap[h]? = some (.cells #[.string ⟨#[97]⟩, .int .i64 1, .int .i64 0] 43 (0, 0)) ∧ w'.heap[q]? = some (.cells #[.int .i64 0] 3 (0, 0)) ∧ w'.heap[r]? = some (.cells (rtA q 1) 40 (0, 0)) := by
  go_enter Tryz.func20, Tryz.ntmps20
  go_upto_region 1 with fail
  have B0 := hide ((Below.refl w.heap.size w).alloc (Nat.le_refl _) (.cells #[.slice none 0 0, .slice none 0 0, .int .i64 0, .int .i64 0, .int .i64 0, .int .i64 0, .string ⟨#[]⟩, .int .i64 0, .int .i64 0, .int .i64 0, .int .i64 0, .int .i64 0, .int .i64 0, .int .i64 0, .int .i64 0, .int .i64 0, .int .i64 0, .int .i64 0] 25))
  have FA := hide (hp_new w (.cells #[.slice none 0 0, .slice none 0 0, .int .i64 0, .int .i64 0, .int .i64 0, .int .i64 0, .string ⟨#[]⟩, .int .i64 0, .int .i64 0, .int .i64 0, .int .i64 0, .int .i64 0, .int .i64 0, .int .i64 0, .int .i64 0, .int .i64 0, .int .i64 0, .int .i64 0] 25))
  generalize hW0 : w.alloc (.cells #[.slice none 0 0, .slice none 0 0, .int .i64 0, .int .i64 0, .int .i64 0, .int .i64 0, .string ⟨#[]⟩, .int .i64 0, .int .i64 0, .int .i64 0, .int .i64 0, .int .i64 0, .int .i64 0, .int .i64 0, .int .i64 0, .int .i64 0, .int .i64 0, .int .i64 0] 25) = W0 at B0 FA ⊢
  clear hW0
  generalize ha : w.heap.size = a at *
  refine wp_region_lit ?_
  refine wpList_plain rfl fun K hK => ?_
  go_simp
  refine hK _ _ ?_
  clear hK K
  refine wpList_plain rfl fun K hK => ?_
  go_simp
  refine hK _ _ ?_
  clear hK K
  have Lq : Hid (a < W0.heap.size) := hide (blk_lt FA.out)
  have B1 := hide (B0.out.alloc (by have := Lq.out; omega) (.cells #[.int .i64 0] 3))
  have FQ := hide (hp_new W0 (.cells #[.int .i64 0] 3))
  have FA := hide (keepA (o := .cells #[.int .i64 0] 3) FA.out)
  generalize hW1 : W0.alloc (.cells #[.int .i64 0] 3) = W1 at B1 FA FQ ⊢
  clear hW1 B0
  generalize W0.heap.size = q at *
  refine wpList_plain rfl fun K hK => ?_
  go_simp
  refine hK _ _ ?_
  clear hK K
  refine wpList_plain rfl fun K hK => ?_
  go_simp
  refine hK _ _ ?_
  clear hK K
  refine wpList_store_new rfl 40 _ _ rfl _ (rtA q 1) rfl rfl (by kernel_rfl) rfl (by simp [Value.oneCell']) ?_
  simp only [Act.put]
  refine wpList_nil ?_
  have Lr : Hid (q < W1.heap.size) := hide (blk_lt FQ.out)
  have B2 := hide (B1.out.alloc (by have := Lq.out; have := Lr.out; omega) (.cells (rtA q 1) 40))
  have FA := hide (keepA (o := .cells (rtA q 1) 40) FA.out)
  have FQ := hide (keepA (o := .cells (rtA q 1) 40) FQ.out)
  have FR := hide (hp_new W1 (.cells (rtA q 1) 40))
  generalize hW2 : W1.alloc (.cells (rtA q 1) 40) = W2 at B2 FA FQ FR ⊢
  clear hW2 B1
  generalize W1.heap.size = r0 at *
  go_upto_region 2 with fail
  refine wp_region_lit ?_
  refine wpList_plain rfl fun K hK => ?_
  go_simp
  refine hK _ _ ?_
  clear hK K
  refine wpList_plain rfl fun K hK => ?_
  go_simp
  refine hK _ _ ?_
  clear hK K
  have Lh : Hid (r0 < W2.heap.size) := hide (blk_lt FR.out)
  have B3 := hide (B2.out.alloc (by have := Lq.out; have := Lr.out; have := Lh.out; omega) (.cells #[.string ⟨#[97]⟩, .int .i64 1, .int .i64 0] 43))
  have FA := hide (keepA (o := .cells #[.string ⟨#[97]⟩, .int .i64 1, .int .i64 0] 43) FA.out)
  have FQ := hide (keepA (o := .cells #[.string ⟨#[97]⟩, .int .i64 1, .int .i64 0] 43) FQ.out)
  have FR := hide (keepA (o := .cells #[.string ⟨#[97]⟩, .int .i64 1, .int .i64 0] 43) FR.out)
  have FH := hide (hp_new W2 (.cells #[.string ⟨#[97]⟩, .int .i64 1, .int .i64 0] 43))
  generalize hW3 : W2.alloc (.cells #[.string ⟨#[97]⟩, .int .i64 1, .int .i64 0] 43) = W3 at B3 FA FQ FR FH ⊢
  clear hW3 B2
  generalize W2.heap.size = h at *
  have HRA : Hid (W3.rangeAt r0 0 (rtA q 1).toList) := hide (by
    intro j v hv
    rw [Nat.zero_add, cell_at FR.out]
    simpa using hv)
  refine wpList_load_mid rfl 40 _ rfl r0 0 rfl (rtA q 1).toList _ HRA.out Tryz.underlying40 rfl (by kernel_rfl) ?_
  simp only [Act.put, List.setIfInBounds_toArray, List.set_cons_zero, List.set_cons_succ]
  clear HRA
  refine wpList_plain rfl fun K hK => ?_
  go_simp
  refine hK _ _ ?_
  clear hK K
  have Ls : Hid (h < W3.heap.size) := hide (blk_lt FH.out)
  have B4 := hide (B3.out.alloc (by have := Lq.out; have := Lr.out; have := Lh.out; have := Ls.out; omega) (.cells (rtA q 1) 40))
  have FA := hide (keepA (o := .cells (rtA q 1) 40) FA.out)
  have FQ := hide (keepA (o := .cells (rtA q 1) 40) FQ.out)
  have FH := hide (keepA (o := .cells (rtA q 1) 40) FH.out)
  have FS := hide (hp_new W3 (.cells (rtA q 1) 40))
  generalize hW4 : W3.alloc (.cells (rtA q 1) 40) = W4 at B4 FA FQ FH FS ⊢
  clear hW4 B3 FR
  generalize W3.heap.size = r at *
  refine wpList_plain rfl fun K hK => ?_
  go_simp
  refine hK _ _ ?_
  clear hK K
  refine wpList_plain rfl fun K hK => ?_
  refine wp_store_row 25 _ _ rfl a (cfA h r) rfl rfl 25 _ FA.out (by kernel_rfl) rfl (by simp [Value.oneCell']) (hK _ _ ?_)
  clear hK K
  simp only [Act.put]
  refine wpList_nil ?_
  have Lz : Hid (r < W4.heap.size) := hide (blk_lt FS.out)
  have B5 : Hid (Below a w (W4.setRow a (cfA h r))) := hide ⟨B4.out.os, B4.out.tape, B4.out.output, by rw [show (W4.setRow a (cfA h r)).heap.size = W4.heap.size by simp [World.setRow]]; exact B4.out.size, fun k hk => by rw [setRow_other _ _ _ _ (by omega)]; exact B4.out.block k hk⟩
  have FA := hide (setRow_heap W4 a _ (cfA h r) 25 (0, 0) FA.out)
  have FQ := hide ((setRow_other W4 a q (cfA h r) (by have := Lq.out; omega)).trans FQ.out)
  have FH := hide ((setRow_other W4 a h (cfA h r) (by have := Lq.out; have := Lr.out; have := Lh.out; omega)).trans FH.out)
  have FS := hide ((setRow_other W4 a r (cfA h r) (by have := Lq.out; have := Lr.out; have := Lh.out; have := Ls.out; omega)).trans FS.out)
  generalize W4.setRow a (cfA h r) = W5 at *
  go_wp2_with fail
  have hld := run_loadVar_row (P := Tryz.prog) W5 a 25 25 (cfA h r) (0, 0) _ FA.out Tryz.underlying25 rfl (by kernel_rfl)
  refine bodyPost_ret (v := .agg (cfA h r)) ?_ rfl ⟨h, q, r, rfl, by rw [ha]; exact B5.out, ?_, ?_, FH.out, FQ.out, FS.out⟩
  · clear FA FQ FH FS B5
    simp [results, asAddr, hld]
  · have := Lq.out; have := Lr.out; have := Lh.out; have := Ls.out; omega
  · have := Lq.out; have := Lr.out; have := Lh.out; have := Ls.out; omega
end Go.Proofs.YtekkhjlipijmcaaGreatDoor
