/- Feed: a parser that reads no more; what it lets go. -/
import Derived.Test.YtcagjipdldlehaaGreatDoorHNew
import Derived.Test.YtcagjipdldlehaaGreatDoorHAs5
import Derived.Test.YtcagjipdldlehaaGreatDoorBcl
import Derived.Test.YtcagjipdldlehaaGreatDoorStp
import Derived.Deep.RegionHeld3
import Derived.Laws.CopyOwn
namespace Go.Proofs.YtcagjipdldlehaaGreatDoor
open Go.ChangeShapes Go.WideShapes Go.ChangeAt Go.RowKit

def pShut (p : Pz) : Pz := { p with line := [] }
def pBad (p : Pz) (e : Nat) : Pz := { p with line := [], req := false, me := ⟨#[]⟩, ta := ⟨#[]⟩, minor := 0, status := 0, re := ⟨#[]⟩, fs := [], wrong := e }
/-- What one piece makes of a parser: how many bytes were read, whether the head is whole, what is wrong, the parser behind it. -/
def pFeed (p : Pz) (l : List UInt8) : Nat × Bool × Nat × Pz :=
  if p.whole = true ∨ p.wrong ≠ 0 then (0, p.whole, p.wrong, p)
  else if (pBytes p l).1 = 0 then ((pBytes p l).2.1, (pBytes p l).2.2.whole, 0, if (pBytes p l).2.2.whole then pShut (pBytes p l).2.2 else (pBytes p l).2.2)
  else ((pBytes p l).2.1, (pBytes p l).2.2.whole, (pBytes p l).1, pBad (pBytes p l).2.2 (pBytes p l).1)
def fdV (R : Nat × Bool × Nat × Pz) : Value := .tuple #[.int .i64 (R.1 : Int), .bool R.2.1, .int .i64 (R.2.2.1 : Int)]

theorem Par.nilL {w : World} {base g : Nat} {lv fv : Value} {p : Pz} (h : Par w base g lv fv p) : Par (w.setCell ⟨g, 2, none⟩ (.slice none 0 0)) base g (.slice none 0 0) fv { p with line := [] } := by
  refine ⟨hp_set h.blk 2 (.slice none 0 0), Row.nil _ _ _, ?_, h.gb, by simp [Value.ownBlock], h.gf, by intro k e; simp [Value.ownBlock] at e⟩
  exact h.flds.frame fun k hk => Below.heap_setCell w ⟨g, 2, none⟩ _ k (fun e => h.gf (by rw [hk, e]))
theorem Par.nilF {w : World} {base g : Nat} {lv fv : Value} {p : Pz} (h : Par w base g lv fv p) : Par (w.setCell ⟨g, 12, none⟩ (.slice none 0 0)) base g lv (.slice none 0 0) { p with fs := [] } := by
  refine ⟨hp_set h.blk 12 (.slice none 0 0), ?_, FRow.nil _ _, h.gb, h.gl, by simp [Value.ownBlock], by intro k e; simp [Value.ownBlock]⟩
  exact h.line.frame fun k hk => Below.heap_setCell w ⟨g, 12, none⟩ _ k (fun e => h.gl (by rw [hk, e]))
theorem PKh.nilL (w : World) (g i : Nat) (v lv fv : Value) : PKh w (w.setCell ⟨g, i, none⟩ v) g lv fv (.slice none 0 0) fv :=
  ⟨rfl, rfl, rfl, by simp, fun k _ hk _ _ => Below.heap_setCell w ⟨g, i, none⟩ v k hk, fun _ _ _ => by simp [Value.ownBlock], fun _ _ h => h⟩
theorem PKh.nilF (w : World) (g i : Nat) (v lv fv : Value) : PKh w (w.setCell ⟨g, i, none⟩ v) g lv fv lv (.slice none 0 0) :=
  ⟨rfl, rfl, rfl, by simp, fun k _ hk _ _ => Below.heap_setCell w ⟨g, i, none⟩ v k hk, fun _ _ h => h, fun _ _ _ => by simp [Value.ownBlock]⟩
theorem bytes_wrong : ∀ (l : List UInt8) (p : Pz), Fit p → (pBytes p l).2.2.wrong = p.wrong
  | [], _, _ => rfl
  | c :: r, p, h => by
    rw [pBytes]
    split
    · exact next_wrong p c h.fs
    · split
      · exact next_wrong p c h.fs
      · exact (bytes_wrong r _ (h.next c)).trans (next_wrong p c h.fs)
/-- The cell of errors.errorType. -/
def ET (w : World) : Prop := w.cell? ⟨0, 0, none⟩ = some (.iface 185 (.agg #[.pointer (some ⟨7, 102, none⟩)]))
theorem ET.lt {w : World} (h : ET w) : 0 < w.heap.size := World.block_lt_of_cell? w _ h
theorem ET.below {w w' : World} (h : ET w) (b : Below w.heap.size w w') : ET w' := (b.cell (p := ⟨0, 0, none⟩) h.lt).trans h
theorem ET.pk {w w' : World} {base g : Nat} {lv fv lv' fv' : Value} {p : Pz} (h : ET w) (hP : Par w base g lv fv p) (hb : 3 ≤ base) (k : PKh w w' g lv fv lv' fv') : ET w' := (k.bs hP (b := 0) (o := 0) (by omega) h.lt).trans h
theorem eq_nilFunch (fn g : Nat) (w : World) : (binOp BinOp.eql 90 (.func (.func fn) #[.pointer (some ⟨g, 0, none⟩)] #[]) .nilFunc).run Tryz.prog w = .ok (.bool false) w := by kernel_rfl
set_option maxHeartbeats 2000000 in
theorem hfeed_over {w : World} {base g : Nat} {lv fv : Value} {p : Pz} (h : Par w base g lv fv p) (ho : p.whole = true ∨ p.wrong ≠ 0) (v : Value) :
    Calls Tryz.prog 46 #[.pointer (some ⟨g, 0, none⟩), v] w fun e w' => e = .returned (.tuple #[.int .i64 0, .bool p.whole, .int .i64 (p.wrong : Int)]) ∧ Below w.heap.size w w' := by
  have c5 : w.cell? ⟨g, 5, none⟩ = some (.func (.func p.fn) #[.pointer (some ⟨g, 0, none⟩)] #[]) := h.cell 5
  have c13 : w.cell? ⟨g, 13, none⟩ = some (.bool p.whole) := h.cell 13
  have c14 : w.cell? ⟨g, 14, none⟩ = some (.int .i64 (p.wrong : Int)) := h.cell 14
  have e5 := eq_nilFunch p.fn g
  clear h
  cases hw : p.whole with
  | true =>
    rw [hw] at c13
    clear hw ho
    go_enter Tryz.func46, Tryz.ntmps46
    go_upto_region 4 with fail
    refine wp_region_cl (by kernel_rfl) (by kernel_rfl) ?_
    refine cl_move _ (by kernel_rfl) rfl ?_
    simp only [Act.put, List.setIfInBounds_toArray, List.set_cons_zero, List.set_cons_succ]
    refine cl_val (v := ?_) (by kernel_rfl) (fun W hW => ?_) ?_
    rotate_left
    · unfold Oper.quietAt; go_simp; try with_reducible rfl
    simp only [Act.put, List.setIfInBounds_toArray, List.set_cons_zero, List.set_cons_succ]
    refine cl_val (v := ?_) (by kernel_rfl) (fun W hW => ?_) ?_
    rotate_left
    · unfold Oper.quietAt; go_simp; try with_reducible rfl
    simp only [Act.put, List.setIfInBounds_toArray, List.set_cons_zero, List.set_cons_succ]
    refine cl_val (v := ?_) (by kernel_rfl) (fun W hW => ?_) ?_
    rotate_left
    · have l0 := hW.cell c13; unfold Oper.quietAt; go_simp; try with_reducible rfl
    simp only [Act.put, List.setIfInBounds_toArray, List.set_cons_zero, List.set_cons_succ]
    refine cl_move _ (by kernel_rfl) rfl ?_
    simp only [Act.put, List.setIfInBounds_toArray, List.set_cons_zero, List.set_cons_succ]
    refine cl_val (v := ?_) (by kernel_rfl) (fun W hW => ?_) ?_
    rotate_left
    · unfold Oper.quietAt; go_simp; try with_reducible rfl
    simp only [Act.put, List.setIfInBounds_toArray, List.set_cons_zero, List.set_cons_succ]
    refine cl_val (v := ?_) (by kernel_rfl) (fun W hW => ?_) ?_
    rotate_left
    · unfold Oper.quietAt; go_simp; try with_reducible rfl
    simp only [Act.put, List.setIfInBounds_toArray, List.set_cons_zero, List.set_cons_succ]
    refine cl_val (v := ?_) (by kernel_rfl) (fun W hW => ?_) ?_
    rotate_left
    · have l0 := hW.cell c14; unfold Oper.quietAt; go_simp; try with_reducible rfl
    simp only [Act.put, List.setIfInBounds_toArray, List.set_cons_zero, List.set_cons_succ]
    refine cl_assign _ (by kernel_rfl) rfl ?_
    simp only [Act.put, List.setIfInBounds_toArray, List.set_cons_zero, List.set_cons_succ]
    refine cl_assign _ (by kernel_rfl) rfl ?_
    simp only [Act.put, List.setIfInBounds_toArray, List.set_cons_zero, List.set_cons_succ]
    refine cl_assign _ (by kernel_rfl) rfl ?_
    simp only [Act.put, List.setIfInBounds_toArray, List.set_cons_zero, List.set_cons_succ]
    refine wpQuiet_nil ?_
    intro z Hz
    go_wp2
    go_ret3
    exact ⟨rfl, Hz.out⟩
  | false =>
    rw [hw] at c13
    have hne : p.wrong ≠ 0 := by rcases ho with h | h; · rw [hw] at h; cases h
                                 · exact h
    have t1 : ((p.wrong : Int) != 0) = true := bne_iff_ne.2 (by omega)
    clear hw ho hne
    go_enter Tryz.func46, Tryz.ntmps46
    go_upto_region 4 with fail
    refine wp_region_cl (by kernel_rfl) (by kernel_rfl) ?_
    refine cl_move _ (by kernel_rfl) rfl ?_
    simp only [Act.put, List.setIfInBounds_toArray, List.set_cons_zero, List.set_cons_succ]
    refine cl_val (v := ?_) (by kernel_rfl) (fun W hW => ?_) ?_
    rotate_left
    · unfold Oper.quietAt; go_simp; try with_reducible rfl
    simp only [Act.put, List.setIfInBounds_toArray, List.set_cons_zero, List.set_cons_succ]
    refine cl_val (v := ?_) (by kernel_rfl) (fun W hW => ?_) ?_
    rotate_left
    · unfold Oper.quietAt; go_simp; try with_reducible rfl
    simp only [Act.put, List.setIfInBounds_toArray, List.set_cons_zero, List.set_cons_succ]
    refine cl_val (v := ?_) (by kernel_rfl) (fun W hW => ?_) ?_
    rotate_left
    · have l0 := hW.cell c13; unfold Oper.quietAt; go_simp; try with_reducible rfl
    simp only [Act.put, List.setIfInBounds_toArray, List.set_cons_zero, List.set_cons_succ]
    refine cl_move _ (by kernel_rfl) rfl ?_
    simp only [Act.put, List.setIfInBounds_toArray, List.set_cons_zero, List.set_cons_succ]
    refine cl_val (v := ?_) (by kernel_rfl) (fun W hW => ?_) ?_
    rotate_left
    · unfold Oper.quietAt; go_simp; try with_reducible rfl
    simp only [Act.put, List.setIfInBounds_toArray, List.set_cons_zero, List.set_cons_succ]
    refine cl_val (v := ?_) (by kernel_rfl) (fun W hW => ?_) ?_
    rotate_left
    · unfold Oper.quietAt; go_simp; try with_reducible rfl
    simp only [Act.put, List.setIfInBounds_toArray, List.set_cons_zero, List.set_cons_succ]
    refine cl_val (v := ?_) (by kernel_rfl) (fun W hW => ?_) ?_
    rotate_left
    · have l0 := hW.cell c14; unfold Oper.quietAt; go_simp; try with_reducible rfl
    simp only [Act.put, List.setIfInBounds_toArray, List.set_cons_zero, List.set_cons_succ]
    refine cl_assign _ (by kernel_rfl) rfl ?_
    simp only [Act.put, List.setIfInBounds_toArray, List.set_cons_zero, List.set_cons_succ]
    refine cl_assign _ (by kernel_rfl) rfl ?_
    simp only [Act.put, List.setIfInBounds_toArray, List.set_cons_zero, List.set_cons_succ]
    refine cl_assign _ (by kernel_rfl) rfl ?_
    simp only [Act.put, List.setIfInBounds_toArray, List.set_cons_zero, List.set_cons_succ]
    refine wpQuiet_nil ?_
    intro z Hz
    go_wp2
    go_ret3
    exact ⟨rfl, Hz.out⟩
end Go.Proofs.YtcagjipdldlehaaGreatDoor
