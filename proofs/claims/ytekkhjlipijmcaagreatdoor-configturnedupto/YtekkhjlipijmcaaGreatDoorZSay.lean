/- What a little configuration says. -/
import Derived.Test.YtekkhjlipijmcaaGreatDoorZLit
namespace Go.Proofs.YtekkhjlipijmcaaGreatDoor
open Go.ChangeShapes Go.WideShapes Go.ChangeAt Go.RowKit
set_option linter.unusedVariables false

/-- The tables of ranges, and the longest text. -/
structure Tbl (w : World) : Prop where
  g0 : RG w 0 hostFits_anyL
  g1 : RG w 1 routeFits_anyL
  g2 : RG w 2 restFits_anyL
  mx : MX w
theorem Tbl.below {w w' : World} (h : Tbl w) (b : Below w.heap.size w w') : Tbl w' := ⟨h.g0.below b, h.g1.below b, h.g2.below b, h.mx.below b⟩
theorem inL {W : World} {h q r : Nat} {p : Int} (FH : W.heap[h]? = some (.cells #[.string ⟨#[97]⟩, .int .i64 1, .int .i64 0] 43 (0, 0))) (FQ : W.heap[q]? = some (.cells #[.int .i64 0] 3 (0, 0))) (FR : W.heap[r]? = some (.cells (rtA q p) 40 (0, 0))) (t : Tbl W) :
    InC W (some ⟨h, 0, none⟩) (some ⟨r, 0, none⟩) 1 1 (cfgL p) := by
  refine ⟨⟨_, _, rfl, fun j hj => ?_⟩, ⟨_, _, rfl, fun j hj => ?_⟩, fun x hx => ?_, fun x hx => ?_, t.g0, t.g1, t.g2, t.mx⟩
  · obtain rfl : j = 0 := by simp [cfgL] at hj; omega
    exact ⟨h, 0, rfl, blk_lt FH, cell_at FH 0, cell_at FH 1, cell_at FH 2⟩
  · obtain rfl : j = 0 := by simp [cfgL] at hj; omega
    refine ⟨r, 0, .slice none 0 0, .slice (some ⟨q, 0, none⟩) 1 1, rfl, blk_lt FR, ⟨none, 0, rfl, fun i hi => absurd hi (by simp [cfgL, rtL])⟩, ⟨some ⟨q, 0, none⟩, 1, rfl, fun i hi => ?_⟩, ?_, cell_at FR 0, cell_at FR 1, cell_at FR 2, cell_at FR 3, cell_at FR 4, cell_at FR 5, cell_at FR 6, cell_at FR 7, cell_at FR 8, cell_at FR 9, cell_at FR 10, cell_at FR 11, cell_at FR 12, cell_at FR 13, cell_at FR 14, cell_at FR 15, cell_at FR 16, cell_at FR 17, cell_at FR 18, cell_at FR 19, cell_at FR 20⟩
    · obtain rfl : i = 0 := by simp [cfgL, rtL] at hi; omega
      exact ⟨q, 0, rfl, blk_lt FQ, cell_at FQ 0⟩
    · intro a n c e
      simp only [Value.slice.injEq] at e
      obtain ⟨-, rfl, rfl⟩ := e
      unfold maxLen
      omega
  · simp [cfgL] at hx
    subst hx
    decide
  · simp [cfgL] at hx
    subst hx
    exact ⟨by show (0 : Nat) ≤ 1048576; omega, by show (0 : Nat) ≤ 1048576; omega, by show (0 : Nat) ≤ 1048576; omega, fun y hy => by simp [rtL] at hy⟩
set_option maxHeartbeats 4000000 in
set_option maxRecDepth 100000 in
theorem speaks_any (w : World) (t : Tbl w) : Calls Tryz.prog 12 #[] w fun e w' => e = .returned (.bool true) ∧ Below w.heap.size w w' := by
  have HL := hide (little_any w)
  have HT := hide t
  clear t
  go_enter Tryz.func12, Tryz.ntmps12
  go_wp2_with fail
  refine HL.out.mono ?_
  rintro e w1 ⟨h, q, r, rfl, b1, l1, n1, fh, fq, fr⟩
  have B1 := hide b1
  have HLE := hide l1
  have HNE := hide n1
  have FH := hide fh
  have FQ := hide fq
  have FR := hide fr
  clear b1 l1 n1 HL fh fq fr
  rename_i hKK
  refine hKK _ _ ?_
  clear hKK
  refine wpList_plain rfl fun K hK => ?_
  go_simp
  refine hK _ _ ?_
  clear hK K
  refine wpList_store_new rfl 25 _ _ rfl _ (cfA h r) rfl rfl (by kernel_rfl) rfl (by simp [Value.oneCell']) ?_
  simp only [Act.put]
  refine wpList_nil ?_
  have B2 := hide (B1.out.alloc (by have := B1.out.size; omega) (.cells (cfA h r) 25))
  have FA := hide (hp_new w1 (.cells (cfA h r) 25))
  have FH := hide (keepA (o := .cells (cfA h r) 25) FH.out)
  have FQ := hide (keepA (o := .cells (cfA h r) 25) FQ.out)
  have LR : Hid (r < w1.heap.size) := hide (blk_lt FR.out)
  have FR := hide (keepA (o := .cells (cfA h r) 25) FR.out)
  generalize hW2 : w1.alloc (.cells (cfA h r) 25) = W2 at B2 FA FH FQ FR ⊢
  clear hW2 B1
  generalize w1.heap.size = a at *
  have HC : Hid (Calls Tryz.prog 7 #[.agg (cfA h r)] W2 fun e w' => e = .returned (.tuple #[.int .i64 3, .int .i64 0]) ∧ Below W2.heap.size W2 w') := hide (by
    have := conns_any W2 _ _ _ _ (cfgL 1) (inL FH.out FQ.out FR.out (HT.out.below B2.out))
    rw [show cfgE (cfgL 1) = 0 by unfold cfgE; rw [cfgL_yes]; rfl, cfgL_yes] at this
    exact this)
  have HRA : Hid (W2.rangeAt a 0 (cfA h r).toList) := hide (by
    intro j v hv
    rw [Nat.zero_add, cell_at FA.out]
    simpa using hv)
  go_upto_region 2 with fail
  refine wp_region_lit ?_
  refine wpList_load_mid rfl 25 _ rfl a 0 rfl (cfA h r).toList _ HRA.out Tryz.underlying25 rfl (by kernel_rfl) ?_
  simp only [Act.put, List.setIfInBounds_toArray, List.set_cons_zero, List.set_cons_succ]
  clear HRA
  go_wp2_with fail
  refine HC.out.mono ?_
  rintro e W3 ⟨rfl, bb⟩
  have B3 := hide (B2.out.trans (bb.mono B2.out.size))
  have FA := hide ((bb.block a (blk_lt FA.out)).trans FA.out)
  have FH := hide ((bb.block h (blk_lt FH.out)).trans FH.out)
  have FQ := hide ((bb.block q (blk_lt FQ.out)).trans FQ.out)
  have FR := hide ((bb.block r (blk_lt FR.out)).trans FR.out)
  clear bb B2 HC
  have HC : Hid (Calls Tryz.prog 11 #[.agg (cfA h r)] W3 fun e w' => e = .returned (.int .i64 0) ∧ Below W3.heap.size W3 w') := hide (by
    have := check_any W3 _ _ _ _ (cfgL 1) (inL FH.out FQ.out FR.out (HT.out.below B3.out))
    rw [show cfgE (cfgL 1) = 0 by unfold cfgE; rw [cfgL_yes]; rfl] at this
    exact this)
  have HRA : Hid (W3.rangeAt a 0 (cfA h r).toList) := hide (by
    intro j v hv
    rw [Nat.zero_add, cell_at FA.out]
    simpa using hv)
  go_upto_region 3 with fail
  refine wp_region_lit ?_
  refine wpList_load_mid rfl 25 _ rfl a 0 rfl (cfA h r).toList _ HRA.out Tryz.underlying25 rfl (by kernel_rfl) ?_
  simp only [Act.put, List.setIfInBounds_toArray, List.set_cons_zero, List.set_cons_succ]
  clear HRA
  go_wp2_with fail
  refine HC.out.mono ?_
  rintro e W4 ⟨rfl, bb⟩
  have B4 := hide (B3.out.trans (bb.mono B3.out.size))
  have FA := hide ((bb.block a (blk_lt FA.out)).trans FA.out)
  have FH := hide ((bb.block h (blk_lt FH.out)).trans FH.out)
  have FQ := hide ((bb.block q (blk_lt FQ.out)).trans FQ.out)
  have FR := hide ((bb.block r (blk_lt FR.out)).trans FR.out)
  clear bb B3 HC
  have m1 : W4.cell? ⟨a, 1, none⟩ = some (.slice (some ⟨r, 0, none⟩) 1 1) := cell_at FA.out 1
  have m7 : W4.cell? ⟨r, 7, none⟩ = some (.int .i64 1) := cell_at FR.out 7
  have f7 : W4.frozen? ⟨r, 7, none⟩ = false := by rw [frozen_at FR.out]; simp
  go_upto_region 5 with fail
  have B5 : Hid (Below w.heap.size w (W4.setCell ⟨r, 7, none⟩ (.int .i64 0))) := hide (B4.out.setCell (by have := HLE.out; exact this.2.2) _)
  have FA := hide ((Below.heap_setCell W4 ⟨r, 7, none⟩ (.int .i64 0) a (by have := LR.out; simp; omega)).trans FA.out)
  have FH := hide ((Below.heap_setCell W4 ⟨r, 7, none⟩ (.int .i64 0) h (by have := HNE.out; exact this.1)).trans FH.out)
  have FQ := hide ((Below.heap_setCell W4 ⟨r, 7, none⟩ (.int .i64 0) q (by have := HNE.out; exact this.2)).trans FQ.out)
  have FR : Hid ((W4.setCell ⟨r, 7, none⟩ (.int .i64 0)).heap[r]? = some (.cells (rtA q 0) 40 (0, 0))) := hide (hp_set FR.out 7 _)
  generalize W4.setCell ⟨r, 7, none⟩ (.int .i64 0) = W5 at *
  clear m1 m7 f7 B4
  have HC : Hid (Calls Tryz.prog 11 #[.agg (cfA h r)] W5 fun e w' => e = .returned (.int .i64 3) ∧ Below W5.heap.size W5 w') := hide (by
    have := check_any W5 _ _ _ _ (cfgL 0) (inL FH.out FQ.out FR.out (HT.out.below B5.out))
    rw [show cfgE (cfgL 0) = 3 by unfold cfgE; rw [cfgL_no]; rfl] at this
    exact this)
  have HRA : Hid (W5.rangeAt a 0 (cfA h r).toList) := hide (by
    intro j v hv
    rw [Nat.zero_add, cell_at FA.out]
    simpa using hv)
  refine wp_region_lit ?_
  refine wpList_want (by kernel_rfl) fun K hK => ?_
  go_simp
  refine hK _ _ ?_
  clear hK K
  refine wpList_want (by kernel_rfl) fun K hK => ?_
  go_simp
  refine hK _ _ ?_
  clear hK K
  refine wpList_want (by kernel_rfl) fun K hK => ?_
  go_simp
  refine hK _ _ ?_
  clear hK K
  refine wpList_want (by kernel_rfl) fun K hK => ?_
  go_simp
  refine hK _ _ ?_
  clear hK K
  refine wpList_want (by kernel_rfl) fun K hK => ?_
  go_simp
  refine hK _ _ ?_
  clear hK K
  refine wpList_want (by kernel_rfl) fun K hK => ?_
  go_simp
  refine hK _ _ ?_
  clear hK K
  refine wpList_want (by kernel_rfl) fun K hK => ?_
  go_simp
  refine hK _ _ ?_
  clear hK K
  refine wpList_want (by kernel_rfl) fun K hK => ?_
  go_simp
  refine hK _ _ ?_
  clear hK K
  refine wpList_want (by kernel_rfl) fun K hK => ?_
  go_simp
  refine hK _ _ ?_
  clear hK K
  refine wpList_want (by kernel_rfl) fun K hK => ?_
  go_simp
  refine hK _ _ ?_
  clear hK K
  refine wpList_want (by kernel_rfl) fun K hK => ?_
  go_simp
  refine hK _ _ ?_
  clear hK K
  refine wpList_want (by kernel_rfl) fun K hK => ?_
  refine wp_load_mid 25 _ rfl a 0 rfl (cfA h r).toList _ HRA.out Tryz.underlying25 rfl (by kernel_rfl) (hK _ _ ?_)
  clear hK K HRA
  simp only [Act.put, List.setIfInBounds_toArray, List.set_cons_zero, List.set_cons_succ]
  go_wp2_with fail
  refine HC.out.mono ?_
  rintro e W6 ⟨rfl, bb⟩
  have B6 := hide (B5.out.trans (bb.mono B5.out.size))
  clear bb B5 HC
  go_wp2_with fail
  go_ret
  exact ⟨rfl, B6.out⟩
end Go.Proofs.YtekkhjlipijmcaaGreatDoor
