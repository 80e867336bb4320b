/- speaks. -/
import Derived.Test.YtggeihahbgeneaaDoorBNew
import Derived.Lib.SlBytesConst
namespace Go.Proofs.YtggeihahbgeneaaDoor
open Go.ChangeShapes Go.WideShapes Go.ChangeAt Go.RowKit

theorem bs_lit (w : World) (l : List UInt8) (c : Array Value) (fr : Nat × Nat) (hc : c.toList = l.map fun x => Value.int .u8 (x.toNat : Int)) : Bs (w.alloc (.cells c 5 fr)) (w.alloc (.cells c 5 fr)).heap.size (.slice (some ⟨w.heap.size, 0, none⟩) l.length l.length) l := by
  refine ⟨some ⟨w.heap.size, 0, none⟩, l.length, rfl, Nat.le_refl _, fun j hj => ?_⟩
  have hb := hp_new w (.cells c 5 fr)
  refine ⟨w.heap.size, 0, rfl, lt_heap hb, lt_heap hb, ?_⟩
  rw [cell_at hb, ← Array.getElem?_toList, hc, Nat.zero_add, List.getElem?_map, List.getElem?_eq_getElem hj]
  rfl
theorem Rdr.keep {w W : World} {base gr g gr2 g2 : Nat} {it ct : TypeId} {t : Tal} {X : List Value} (h : Rdr w base gr g it ct t X) (k : RK w W gr2 g2) (h1 : gr ≠ gr2) (h2 : gr ≠ g2) (h3 : g ≠ gr2) (h4 : g ≠ g2) : Rdr W base gr g it ct t X :=
  ⟨(k.block gr (lt_heap' h.rd) h1 h2).trans h.rd, (k.block g (lt_heap' h.fr) h3 h4).trans h.fr, h.ne, h.rb, h.fb⟩
set_option maxHeartbeats 8000000 in
set_option maxRecDepth 100000 in
theorem speaks_any (w : World) : Calls Tryd.prog 10 #[] w fun e w' => e = .returned (.bool true) ∧ Below w.heap.size w w' := by
  have HA := hide (new_of (w := w) (k := 2) (len := 3) (x := false) (most := 9) (.inl rfl) (by decide) (by decide) rfl (by decide) (fun W => framed_len 3 false 9 W))
  unfold frV at HA
  go_enter Tryd.func10, Tryd.ntmps10
  go_wp2_with fail
  refine HA.out.mono ?_
  rintro e w1 ⟨gr, g, rfl, hgr, hg, b1, _, hR1⟩
  have RA1 := hide (hR1 rfl)
  have B1 := hide b1
  have HBB := hide (new_of (w := w1) (k := 4) (len := 0) (x := false) (most := 9) (.inr (.inr (.inl rfl))) (by decide) (by decide) rfl (by decide) (fun W => framed_clos 0 false 9 W))
  unfold frV at HBB
  clear hR1 b1 HA
  go_wp2_with fail
  refine HBB.out.mono ?_
  rintro e w2 ⟨gr2, g2, rfl, hgr2, hg2, b2, _, hR2⟩
  have RB2 := hide (hR2 rfl)
  have RA2 := hide (RA1.out.below b2)
  have B2 := hide (B1.out.trans (b2.mono B1.out.size))
  have l1 := lt_heap' RA1.out.rd
  have l2 := lt_heap' RA1.out.fr
  have l3 := lt_heap' RB2.out.rd
  have l4 := lt_heap' RB2.out.fr
  have s1 := B1.out.size
  have s2 := b2.size
  clear hR2 b2 HBB RA1 B1
  have hcv : (convert 31 31 (.slice (some ⟨w2.heap.size, 0, none⟩) 2 2)).run Tryd.prog (w2.alloc (.cells #[.int .u8 97, .int .u8 98] 5)) = .ok (.slice (some ⟨w2.heap.size, 0, none⟩) 2 2) (w2.alloc (.cells #[.int .u8 97, .int .u8 98] 5 (2, 3))) := Lib.run_convert_bytes_const w2 31 5 #[.int .u8 97, .int .u8 98] 2 2 Tryd.underlying31 Tryd.underlying5
  have BX := hide ((Below.refl w2.heap.size w2).alloc (Nat.le_refl _) (.cells #[.int .u8 97, .int .u8 98] 5 (2, 3)))
  have HFA := hide (feed_meas (RA2.out.below BX.out) (by have := BX.out.size; omega) _ [97, 98] (bs_lit w2 [97, 98] #[.int .u8 97, .int .u8 98] (2, 3) rfl) (.inr ⟨_, _, _, rfl⟩) (L := 3) (by decide) (by decide) (by decide))
  change Hid (Calls _ _ _ _ fun e w' => ∃ ua uc, e = .returned (.tuple #[.slice ua 2 uc, .int .i64 2, .bool false, .int .i64 0]) ∧ Row w' _ 5 (.slice ua 2 uc) (bc [97, 98]) ∧ FdP _ w' _ gr g _ _ ⟨2, false, 0⟩ [.int .i64 3]) at HFA
  have RB3 := hide (RB2.out.below BX.out)
  have B3 := hide (B2.out.trans (BX.out.mono B2.out.size))
  have s3 := BX.out.size
  go_wp2_with fail
  clear hcv BX RA2 RB2 B2
  generalize w2.alloc (.cells #[.int .u8 97, .int .u8 98] 5 (2, 3)) = x at HFA RB3 B3 s3 ⊢
  refine HFA.out.mono ?_
  rintro e w3 ⟨ua, uc, rfl, hr3, hf3⟩
  have k3 := hf3.2.2
  have RA4 := hide (hf3.2.1 rfl)
  have RB4 := hide (RB3.out.keep k3 (by omega) (by omega) (by omega) (by omega))
  have R4 := hide hr3
  have B4 := hide (B3.out.trans (k3.low hgr hg B3.out.size))
  have s4 := k3.size
  clear hf3 hr3 k3 HFA RB3 B3
  go_wp2_with fail
  refine (end_meas RA4.out (by omega)).mono ?_
  rintro e w4 ⟨rfl, hf4⟩
  have k4 := hf4.2.2
  have RB5 := hide (RB4.out.keep k4 (by omega) (by omega) (by omega) (by omega))
  have R5 := hide (R4.out.frame (W' := w4) fun j e => k4.block j (R4.out.lt e).2 (by have := (R4.out.lt e).1; omega) (by have := (R4.out.lt e).1; omega))
  have B5 := hide (B4.out.trans (k4.low hgr hg B4.out.size))
  have s5 := k4.size
  clear hf4 k4 RB4 RA4 R4 B4
  have hcv : (convert 31 31 (.slice (some ⟨w4.heap.size, 0, none⟩) 2 2)).run Tryd.prog (w4.alloc (.cells #[.int .u8 99, .int .u8 100] 5)) = .ok (.slice (some ⟨w4.heap.size, 0, none⟩) 2 2) (w4.alloc (.cells #[.int .u8 99, .int .u8 100] 5 (2, 3))) := Lib.run_convert_bytes_const w4 31 5 #[.int .u8 99, .int .u8 100] 2 2 Tryd.underlying31 Tryd.underlying5
  have BX := hide ((Below.refl w4.heap.size w4).alloc (Nat.le_refl _) (.cells #[.int .u8 99, .int .u8 100] 5 (2, 3)))
  have HFB := hide (feed_clos (RB5.out.below BX.out) (by have := BX.out.size; omega) _ [99, 100] (bs_lit w4 [99, 100] #[.int .u8 99, .int .u8 100] (2, 3) rfl) (.inr ⟨_, _, _, rfl⟩) (L := 9) (by decide) (by decide) (by decide))
  change Hid (Calls _ _ _ _ fun e w' => ∃ ua uc, e = .returned (.tuple #[.slice ua 2 uc, .int .i64 2, .bool false, .int .i64 0]) ∧ Row w' _ 5 (.slice ua 2 uc) (bc [99, 100]) ∧ FdP _ w' _ gr2 g2 _ _ ⟨2, false, 0⟩ [.int .i64 9]) at HFB
  have R6 := hide (R5.out.below BX.out)
  have B6 := hide (B5.out.trans (BX.out.mono B5.out.size))
  have s6 := BX.out.size
  go_wp2_with fail
  clear hcv BX RB5 R5 B5
  generalize w4.alloc (.cells #[.int .u8 99, .int .u8 100] 5 (2, 3)) = y at HFB R6 B6 s6 ⊢
  refine HFB.out.mono ?_
  rintro e w5 ⟨va, vc, rfl, hr5, hf5⟩
  have k5 := hf5.2.2
  have RB7 := hide (hf5.2.1 rfl)
  have R7 := hide (R6.out.frame (W' := w5) fun j e => k5.block j (R6.out.lt e).2 (by have := (R6.out.lt e).1; omega) (by have := (R6.out.lt e).1; omega))
  have Y7 := hide hr5
  have B7 := hide (B6.out.trans (k5.low (base := w.heap.size) (by omega) (by omega) B6.out.size))
  have s7 := k5.size
  clear hf5 hr5 k5 HFB R6 B6
  go_wp2_with fail
  refine (end_clos RB7.out (by omega)).mono ?_
  rintro e w6 ⟨rfl, hf6⟩
  have k6 := hf6.2.2
  obtain ⟨g3, _, hr6⟩ := hf6.1 rfl
  have R8 := hide (R7.out.frame (W' := w6) fun j e => k6.block j (R7.out.lt e).2 (by have := (R7.out.lt e).1; omega) (by have := (R7.out.lt e).1; omega))
  have Y8 := hide (Y7.out.frame (W' := w6) fun j e => k6.block j (Y7.out.lt e).2 (by have := (Y7.out.lt e).1; omega) (by have := (Y7.out.lt e).1; omega))
  have B8 := hide (B7.out.trans (k6.low (base := w.heap.size) (by omega) (by omega) B7.out.size))
  have HW := hide (wholeR_any hr6 (.inr (.inr (.inr rfl))))
  have HG := hide (gotR_any hr6 (.inr (.inr (.inr rfl))))
  clear hf6 k6 RB7 R7 Y7 B7 hr6
  have x1 : (convert 31 9 (.slice ua 2 uc)).run Tryd.prog w6 = .ok (.string ⟨#[97, 98]⟩) w6 := R8.out.text
  have x2 : (convert 31 9 (.slice va 2 vc)).run Tryd.prog w6 = .ok (.string ⟨#[99, 100]⟩) w6 := Y8.out.text
  go_wp2_with fail
  refine HW.out.mono ?_
  rintro e w7 ⟨rfl, rfl⟩
  go_wp2_with fail
  refine HG.out.mono ?_
  rintro e w7 ⟨rfl, rfl⟩
  go_wp2
  go_ret
  exact ⟨rfl, B8.out⟩
theorem feedR_nil (a : Option Addr) (n c : Nat) (w : World) : Calls Tryd.prog 12 #[.pointer none, .slice a n c] w fun e w' => e = .returned (.tuple #[.slice none 0 0, .int .i64 0, .bool false, .int .i64 7]) ∧ w = w' := by
  go_enter Tryd.func12, Tryd.ntmps12
  go_wp2_with fail
  refine (isNone_nil w).mono ?_
  rintro e w1 ⟨rfl, rfl⟩
  go_wp2
  (try simp only [Exit.inBlock, Exit.then])
  exact bodyPost_ret (v := .tuple #[.slice none 0 0, .int .i64 0, .bool false, .int .i64 7]) (by simp [results, Tryd.results12, go_sem]) rfl ⟨rfl, rfl⟩
theorem endR_nil (w : World) : Calls Tryd.prog 16 #[.pointer none] w fun e w' => e = .returned (.tuple #[.bool false, .int .i64 7]) ∧ w = w' := by
  go_enter Tryd.func16, Tryd.ntmps16
  go_wp2_with fail
  refine (isNone_nil w).mono ?_
  rintro e w1 ⟨rfl, rfl⟩
  go_wp2
  go_ret2
  exact ⟨rfl, rfl⟩
theorem wholeR_nil (w : World) : Calls Tryd.prog 13 #[.pointer none] w fun e w' => e = .returned (.bool false) ∧ w = w' := by
  go_enter Tryd.func13, Tryd.ntmps13
  go_wp2_with fail
  refine (isNone_nil w).mono ?_
  rintro e w1 ⟨rfl, rfl⟩
  go_wp2
  go_ret
  exact ⟨rfl, rfl⟩
theorem gotR_nil (w : World) : Calls Tryd.prog 14 #[.pointer none] w fun e w' => e = .returned (.int .i64 0) ∧ w = w' := by
  go_enter Tryd.func14, Tryd.ntmps14
  go_wp2_with fail
  refine (isNone_nil w).mono ?_
  rintro e w1 ⟨rfl, rfl⟩
  go_wp2
  go_ret
  exact ⟨rfl, rfl⟩
set_option maxHeartbeats 2000000 in
set_option maxRecDepth 100000 in
theorem nil_walk (a : Option Addr) (n c : Nat) (w : World) : Calls Tryd.prog 6 #[.slice a n c] w fun e w' => e = .returned (.bool true) ∧ Below w.heap.size w w' := by
  go_enter Tryd.func6, Tryd.ntmps6
  go_wp2_with fail
  refine (feedR_nil a n c w).mono ?_
  rintro e w1 ⟨rfl, rfl⟩
  go_wp2_with fail
  refine (endR_nil w).mono ?_
  rintro e w1 ⟨rfl, rfl⟩
  go_wp2_with fail
  refine (wholeR_nil w).mono ?_
  rintro e w1 ⟨rfl, rfl⟩
  go_wp2_with fail
  refine (gotR_nil w).mono ?_
  rintro e w1 ⟨rfl, rfl⟩
  go_wp2_with fail
  refine (speaks_any w).mono ?_
  rintro e w3 ⟨rfl, b3⟩
  have B3 := hide b3
  clear b3
  go_wp2
  go_ret
  exact ⟨rfl, B3.out⟩
end Go.Proofs.YtggeihahbgeneaaDoor
