/- ChainJoined returns true for all marks and all two rows of bytes that hold together at most 1048576 bytes, and changes nothing that was there. -/
import Derived.Test.YtglhoihiaflmgabOwnWalk
namespace Go.Proofs.Ytglhoihiaflmgab
open Go.ChangeShapes Go.WideShapes Go.ChangeAt Go.RowKit

theorem wpAnyH_weaken {P : Program} {md : Region.Mode} {ops : Array Oper} {Q : Exit → Act → World → Prop} {S S' : World → Prop} (hS : ∀ w, S' w → S w) :
    ∀ (fuel : Nat) (listed : Array Bool) (a : Act) (w : World), wpAnyH P md ops Q S' fuel listed a w → wpAnyH P md ops Q S fuel listed a w
  | 0, _, _, _, h => h
  | fuel + 1, _, _, _, h => ⟨h.1, fun i hi => wpOp_mono (fun a' w' h' => ⟨hS w' h'.1, wpAnyH_weaken hS fuel _ a' w' h'.2⟩) (h.2 i hi)⟩

theorem Fr.ofGrownBy {w w' : World} {v : Value} (G : w.grownBy w' v.ownBlock) : Fr (fun i => v.ownBlock = some i) w w' := ⟨G.os, G.tape, G.output, G.size, fun k hk h => G.block k hk (fun e => h e.symm)⟩
theorem Fr.ofGrown {w w' : World} (G : w.grownBy w' (Value.slice none 0 0).ownBlock) : Fr (fun _ => False) w w' := ⟨G.os, G.tape, G.output, G.size, fun k hk _ => G.block k hk (by simp [Value.ownBlock])⟩

theorem join_take {X Y : List Int} {k1 k2 : Nat} (h : k1 = X.length ∨ k2 = 0) (h1 : k1 ≤ X.length) : (X ++ Y).take (k1 + k2) = X.take k1 ++ Y.take k2 := by
  rcases h with rfl | rfl
  · rw [List.take_append, List.take_of_length_le (by omega), List.take_of_length_le (Nat.le_refl _)]
    congr 2; omega
  · rw [Nat.add_zero, List.take_append, List.take_zero, show k1 - X.length = 0 by omega, List.take_zero]
theorem join_stop {high k1 k2 : Nat} (h : 1 ≤ high) : putStop (putStop false high 0 k1) high k1 k2 = putStop false high 0 (k1 + k2) := by
  unfold putStop
  rw [Bool.eq_iff_iff]
  simp
  omega

theorem joined_bad (bound high low : Int) (a b : Value) (w : World) (h : ¬ (1 ≤ bound ∧ bound ≤ 1048576 ∧ 1 ≤ high ∧ high ≤ bound ∧ 0 ≤ low ∧ low < high)) :
    Calls Try.prog 7 #[.agg #[.int .i64 bound, .int .i64 high, .int .i64 low], a, b] w fun e w' => e = .returned (.bool true) ∧ Below w.heap.size w w' := by
  have hn := hide (fun W => new_no bound high low W h)
  clear h
  go_enter Try.func7, Try.ntmps7
  go_wp2_with (first | (go_at_call 8; refine (hn.out _).mono ?_; rintro e w' ⟨rfl, rfl⟩) | (go_at_call 10; refine (speaks_any _).mono ?_; rintro e w' ⟨rfl, F⟩))
  go_ret
  exact ⟨rfl, ((Below.refl _ _).alloc (Nat.le_refl _) _).trans ((F.below (Nat.le_refl _) (fun _ _ x => x)).mono (by simp))⟩

set_option maxRecDepth 100000 in
set_option maxHeartbeats 4000000 in
theorem joined_good (bound high low : Nat) (m : Marks bound high low) (a b : Option Addr) (ca cb : Nat) (X Y : List Int) (w : World) (hx : Sl w (.slice a X.length ca) X) (lx : Lies (.slice a X.length ca) (fun i => i < w.heap.size))
    (hy : Sl w (.slice b Y.length cb) Y) (ly : Lies (.slice b Y.length cb) (fun i => i < w.heap.size)) (hlen : X.length + Y.length ≤ 1048576) :
    Calls Try.prog 7 #[.agg #[.int .i64 (bound : Int), .int .i64 (high : Int), .int .i64 (low : Int)], .slice a X.length ca, .slice b Y.length cb] w fun e w' => e = .returned (.bool true) ∧ Below w.heap.size w w' := by
  have HX := hide hx
  have LX := hide lx
  have HY := hide hy
  have LY := hide ly
  have M := hide m
  clear hx lx hy ly m
  go_enter Try.func7, Try.ntmps7
  go_wp2_with fail
  refine (new_yes bound high low M.out _).mono ?_
  rintro e w1 ⟨rfl, F1, z1, C1⟩
  have F1' : Hid (Fr (fun _ => False) w w1) := hide ((Fr.alloc _ w _).trans F1 (fun _ _ x => x))
  have zz1 : w.heap.size + 1 < w1.heap.size := by rw [z1]; simp
  have hz1 : Hid (w1.heap.size = w.heap.size + 2) := hide (by rw [z1]; simp)
  have x1 : Hid (w1.heap[w.heap.size]? = some (.cells #[.int .i64 (bound : Int), .int .i64 (high : Int), .int .i64 (low : Int)] 23 (0, 0))) := hide (F1.hd (fun x => x) (hp_new w _))
  have c0 : w1.cell? ⟨w.heap.size, 0, none⟩ = some (.int .i64 (bound : Int)) := by rw [cell_of x1.out]; rfl
  have c1 : w1.cell? ⟨w.heap.size, 1, none⟩ = some (.int .i64 (high : Int)) := by rw [cell_of x1.out]; rfl
  have c2 : w1.cell? ⟨w.heap.size, 2, none⟩ = some (.int .i64 (low : Int)) := by rw [cell_of x1.out]; rfl
  have CC1 : Hid (Chain w1 (w.heap.size + 1) (w.heap.size + 1) bound high low [] false) := hide (by simpa using C1)
  clear F1 z1 C1
  go_wp2_with fail
  refine (new_yes bound high low M.out _).mono ?_
  rintro e w2 ⟨rfl, F2, z2, C2⟩
  have F2' : Hid (Fr (fun _ => False) w w2) := hide (F1'.out.trans F2 (fun _ _ x => x))
  have hz2 : w1.heap.size < w2.heap.size := by rw [z2]; omega
  have x2 := hide (F2.hd (fun x => x) x1.out)
  have A2 := hide (CC1.out.frame F2 (fun x => x) (fun x => x))
  have B2 := hide C2
  have sx2 : Hid (Sl w2 (.slice a X.length ca) X) := hide (HX.out.cellsEq (fun b off n c e hn => F2'.out.block b (LX.out b off n c e hn) (fun x => x)))
  clear F2 z2 C2 c0 c1 c2 x1 CC1 F1'
  have gy : Hid (∀ w3 : World, Fr (fun _ => False) w2 w3 → Sl w3 (.slice b Y.length cb) Y) := hide (fun w3 F => HY.out.cellsEq (fun b off n c e hn => (F2'.out.trans F (fun _ _ x => x)).block b (LY.out b off n c e hn) (fun x => x)))
  go_wp2_with (first | (at_builtin; refine wpList_append_bytes rfl _ _ rfl w2 w2.heap.size (.slice none 0 0) (.slice a X.length ca) [] X rfl rfl (Own.nil _ _) sx2.out (by simp; omega) (Nat.le_refl _) ?_; intro v3 w3 O3 G3; rw [List.nil_append] at O3; have OO3 := hide O3; have hz3 : w2.heap.size ≤ w3.heap.size := G3.size; have F3 := hide (Fr.ofGrown G3); clear O3 G3) | (at_builtin; refine wpList_append_bytes rfl _ _ rfl w3 w2.heap.size v3 (.slice b Y.length cb) X Y rfl rfl OO3.out (gy.out _ F3.out) (by omega) hz3 ?_; intro v4 w4 O4 G4; have OO4 := hide O4; have GG4 := hide G4; have hz4 : w3.heap.size ≤ w4.heap.size := G4.size; clear O4 G4))
  have hb4 : Hid (∀ g, v4.ownBlock = some g → w2.heap.size ≤ g ∧ g < w4.heap.size) := hide (fun g hg => OO4.out.block hg)
  have F24 : Hid (Fr (fun i => w2.heap.size ≤ i) w2 w4) := hide ((F3.out.mono (fun _ _ x => x.elim)).trans (Fr.ofGrownBy GG4.out) (fun i _ hi => (OO3.out.block hi).1))
  have A4 : Hid (Chain w4 (w.heap.size + 1) (w.heap.size + 1) bound high low [] false) := hide (A2.out.frame F24.out (by omega) (by omega))
  have B4 : Hid (Chain w4 w1.heap.size w1.heap.size bound high low [] false) := hide (B2.out.frame F24.out (by omega) (by omega))
  have x4 := hide (F24.out.hd (by omega) x2.out)
  have F04 : Hid (Fr (fun i => w.heap.size ≤ i) w w4) := hide ((F2'.out.mono (fun _ _ x => x.elim)).trans F24.out (fun i _ hi => by omega))
  have e12 : w1.heap.size = w.heap.size + 2 := hz1.out
  have HE := hide e12
  have d1 : w.heap.size + 1 < w1.heap.size := zz1
  clear e12 hz1 A2 B2 x2 F24 OO3 GG4 gy sx2 F3 F2'
  refine (put_any A4.out (.slice a X.length ca) X (HX.out.cellsEq (fun b off n c e hn => F04.out.block b (LX.out b off n c e hn) (by have := LX.out b off n c e hn; omega))) (fun b off n c e hn => ⟨by have := LX.out b off n c e hn; omega, by have := LX.out b off n c e hn; omega, by have := LX.out b off n c e hn; omega⟩) (by omega)).mono ?_
  rintro e w5 ⟨rfl, F5, r5, A5, hr5⟩
  rw [List.length_nil, List.nil_append] at A5
  have AA5 := hide A5
  have hz5 : w4.heap.size ≤ w5.heap.size := F5.size
  have B5 : Hid (Chain w5 w1.heap.size w1.heap.size bound high low [] false) := hide (B4.out.frame F5 (by omega) (by omega))
  have x5 := hide (F5.hd (by omega) x4.out)
  have O5 : Hid (Own w5 w2.heap.size v4 (X ++ Y)) := hide (OO4.out.frame (fun g hg => F5.block g (hb4.out g hg).2 (by have := hb4.out g hg; omega)))
  have F05 : Hid (Fr (fun i => w.heap.size ≤ i) w w5) := hide (F04.out.trans F5 (fun i _ hi => by omega))
  clear A5 F5 A4 B4 x4 OO4 F04
  obtain ⟨k1, Hk1⟩ : ∃ k, Hid (kPut X bound 0 = k) := ⟨_, hide rfl⟩
  rw [Hk1.out] at AA5
  rw [List.length_nil, Hk1.out]
  go_wp2_with fail
  refine (put_any AA5.out (.slice b Y.length cb) Y (HY.out.cellsEq (fun b off n c e hn => F05.out.block b (LY.out b off n c e hn) (by have := LY.out b off n c e hn; omega))) (fun b off n c e hn => ⟨by have := LY.out b off n c e hn; omega, by have := LY.out b off n c e hn; omega, by have := LY.out b off n c e hn; omega⟩) (by omega)).mono ?_
  rintro e w6 ⟨rfl, F6, r6, A6, hr6⟩
  have lk1 : k1 ≤ X.length ∧ k1 ≤ bound := by have := Hk1.out; unfold kPut at this; omega
  have el1 : (X.take k1).length = k1 := by simp; omega
  rw [el1] at A6
  rw [el1]
  obtain ⟨k2, Hk2⟩ : ∃ k, Hid (kPut Y bound k1 = k) := ⟨_, hide rfl⟩
  rw [Hk2.out] at A6
  rw [Hk2.out]
  have AA6 := hide A6
  have hz6 : w5.heap.size ≤ w6.heap.size := F6.size
  have B6 : Hid (Chain w6 w1.heap.size w1.heap.size bound high low [] false) := hide (B5.out.frame F6 (by omega) (by omega))
  have x6 := hide (F6.hd (by omega) x5.out)
  have O6 : Hid (Own w6 w2.heap.size v4 (X ++ Y)) := hide (O5.out.frame (fun g hg => F6.block g (by have := hb4.out g hg; omega) (by have := hb4.out g hg; omega)))
  have F06 : Hid (Fr (fun i => w.heap.size ≤ i) w w6) := hide (F05.out.trans F6 (fun i _ hi => by omega))
  have r6ne : r6 ≠ w1.heap.size := by omega
  have r6ne2 : r6 ≠ w.heap.size := by omega
  have lk2 : k2 ≤ Y.length ∧ k1 + k2 ≤ bound ∧ k1 + k2 = kPut (X ++ Y) bound 0 := by have h1 := Hk1.out; have h2 := Hk2.out; unfold kPut at h1 h2 ⊢; rw [List.length_append]; omega
  have LK2 := hide lk2
  have LK1 := hide lk1
  have EL1 := hide el1
  have hm3 := M.out.h3
  have hsum : (k1 : Int) + k2 ≤ 1048576 := by omega
  clear A6 F6 AA5 B5 x5 O5 F05 lk1 lk2 el1 hr5 hr6
  go_wp2_with fail
  have s6 : Hid (Sl w6.drew v4 (X ++ Y)) := hide (O6.out.sl.cellsEq (fun _ _ _ _ _ _ => rfl))
  have L6 : Hid (Lies v4 (fun i => i ≠ w1.heap.size ∧ i ≠ w1.heap.size ∧ i < w6.drew.heap.size)) := hide (fun g off n c e hn => by have := hb4.out g (by rw [e]; rfl); exact ⟨by omega, by omega, by show g < w6.heap.size; omega⟩)
  have c6 : w6.drew.cell? ⟨w.heap.size, 0, none⟩ = some (.int .i64 (bound : Int)) := by
    have := cell_of x6.out 0
    exact this
  refine wp_region_noPanic ?_
  refine wp_region_held_drew (S := fun W => W.cell? ⟨w.heap.size, 0, none⟩ = some (.int .i64 (bound : Int))) (by kernel_rfl) c6 (fun hHeld => ?_)
  refine wpAnyH_take (i := 0) (v := ?_) rfl (by kernel_rfl) (by kernel_rfl) (by kernel_rfl) (fun _ _ _ h => h) (Or.inl ⟨by rfl, ?_⟩) (by assumption) ?_
  rotate_left
  · (intro w hSw; (try dsimp only at hSw); go_simp; try with_reducible rfl)
  simp only [List.getElem_toArray, List.getElem_cons_zero, Act.put, List.setIfInBounds_toArray, List.set_cons_zero, List.set_cons_succ]
  refine wpAnyH_take (i := 1) (v := ?_) rfl (by kernel_rfl) (by kernel_rfl) (by kernel_rfl) (fun _ _ _ h => h) (Or.inl ⟨by rfl, ?_⟩) (by assumption) ?_
  rotate_left
  · (intro w hSw; (try dsimp only at hSw); go_simp; try with_reducible rfl)
  simp only [List.getElem_toArray, List.getElem_cons_zero, List.getElem_cons_succ, Act.put, List.setIfInBounds_toArray, List.set_cons_zero, List.set_cons_succ]
  refine wpAnyH_take (i := 2) (v := ?_) rfl (by kernel_rfl) (by kernel_rfl) (by kernel_rfl) (fun _ _ _ h => h) (Or.inl ⟨by rfl, ?_⟩) (by assumption) ?_
  rotate_left
  · (intro w hSw; (try dsimp only at hSw); go_simp; try with_reducible rfl)
  simp only [List.getElem_toArray, List.getElem_cons_zero, List.getElem_cons_succ, Act.put, List.setIfInBounds_toArray, List.set_cons_zero, List.set_cons_succ]
  refine wpAnyH_ready (rs := [3]) (by kernel_rfl) (by simp) ?_
  refine AllReadyH.cons rfl (fun K hK => ?_) AllReadyH.nil
  go_simp
  refine (put_any (B6.out.frame (Fr.drew (fun _ => False) _) (fun x => x) (fun x => x)) _ (X ++ Y) s6.out L6.out (by rw [List.length_append]; omega)).mono ?_
  rintro e w7 ⟨rfl, F7, r7, B7, hr7⟩
  rw [List.length_nil, List.nil_append] at B7
  rw [List.length_nil]
  rw [← LK2.out.2.2] at B7
  rw [← LK2.out.2.2]
  have F7' : Hid (Fr (fun i => i = w1.heap.size) w6 w7) := hide ((Fr.drew (fun i => i = w1.heap.size) _).trans F7 (fun _ _ x => by omega))
  have hz7 : w6.heap.size ≤ w7.heap.size := F7'.out.size
  have BB7 := hide B7
  have AA7 : Hid (Chain w7 (w.heap.size + 1) r6 bound high low (X.take k1 ++ Y.take k2) (putStop (putStop false high 0 k1) high k1 k2)) := hide (AA6.out.frame F7'.out (by omega) r6ne)
  have x7 := hide (F7'.out.hd (by omega) x6.out)
  have c7 : w7.cell? ⟨w.heap.size, 0, none⟩ = some (.int .i64 (bound : Int)) := by rw [cell_of x7.out]; rfl
  have F07 : Hid (Fr (fun i => w.heap.size ≤ i) w w7) := hide (F06.out.trans F7'.out (fun i _ hi => by omega))
  have es : (X ++ Y).take (k1 + k2) = X.take k1 ++ Y.take k2 := join_take (by have := Hk1.out; have := Hk2.out; unfold kPut at *; omega) (by have := LK1.out; omega)
  rw [es] at BB7
  have eb : putStop (putStop false high 0 k1) high k1 k2 = putStop false high 0 (k1 + k2) := join_stop M.out.h1
  rw [eb] at AA7
  generalize putStop false high 0 (k1 + k2) = sp at AA7 BB7
  generalize hlc : X.take k1 ++ Y.take k2 = l7 at AA7 BB7
  have l7l : l7.length ≤ bound := AA7.out.fits
  have push : ((k1 + k2 : Nat) : Int) = (k1 : Int) + k2 := by omega
  rw [push]
  clear F7 B7 hr7 es eb hlc push
  go_wp2_with fail
  refine hK.out _ _ c7 (fun hHeld => ?_)
  clear hK K
  try simp only [List.getElem_toArray, List.getElem_cons_zero, List.getElem_cons_succ, Act.put, List.setIfInBounds_toArray, List.set_cons_zero, List.set_cons_succ]
  refine wpAnyH_take (i := 4) (v := ?_) rfl (by kernel_rfl) (by kernel_rfl) (by kernel_rfl) (fun _ _ _ h => h) (Or.inl ⟨by rfl, ?_⟩) (by assumption) ?_
  rotate_left
  · (intro w hSw; (try dsimp only at hSw); go_simp; try with_reducible rfl)
  simp only [List.getElem_toArray, List.getElem_cons_zero, List.getElem_cons_succ, Act.put, List.setIfInBounds_toArray, List.set_cons_zero, List.set_cons_succ]
  refine wpAnyH_take (i := 5) (v := ?_) rfl (by kernel_rfl) (by kernel_rfl) (by kernel_rfl) (fun _ _ _ h => h) (Or.inl ⟨by rfl, ?_⟩) (by assumption) ?_
  rotate_left
  · (intro w hSw; (try dsimp only at hSw); go_simp; try with_reducible rfl)
  simp only [List.getElem_toArray, List.getElem_cons_zero, List.getElem_cons_succ, Act.put, List.setIfInBounds_toArray, List.set_cons_zero, List.set_cons_succ]
  refine wpAnyH_take (i := 6) (v := ?_) rfl (by kernel_rfl) (by kernel_rfl) (by kernel_rfl) (fun _ _ _ h => h) (Or.inl ⟨by rfl, ?_⟩) (by assumption) ?_
  rotate_left
  · (intro w hSw; (try dsimp only at hSw); go_simp; try with_reducible rfl)
  simp only [List.getElem_toArray, List.getElem_cons_zero, List.getElem_cons_succ, Act.put, List.setIfInBounds_toArray, List.set_cons_zero, List.set_cons_succ]
  refine wpAnyH_take (i := 8) (v := ?_) rfl (by kernel_rfl) (by kernel_rfl) (by kernel_rfl) (fun _ _ _ h => h) (Or.inl ⟨by rfl, ?_⟩) (by assumption) ?_
  rotate_left
  · (intro w hSw; (try dsimp only at hSw); go_simp; try with_reducible rfl)
  simp only [List.getElem_toArray, List.getElem_cons_zero, List.getElem_cons_succ, Act.put, List.setIfInBounds_toArray, List.set_cons_zero, List.set_cons_succ]
  refine wpAnyH_ready (rs := [7]) (by kernel_rfl) (by simp) ?_
  refine AllReadyH.cons rfl (fun K hK => ?_) AllReadyH.nil
  go_simp
  refine (stopped_chain AA7.out).mono ?_
  rintro e w' ⟨rfl, rfl⟩
  go_wp2_with fail
  refine hK.out _ _ c7 (fun hHeld => ?_)
  clear hK K
  try simp only [List.getElem_toArray, List.getElem_cons_zero, List.getElem_cons_succ, Act.put, List.setIfInBounds_toArray, List.set_cons_zero, List.set_cons_succ]
  refine wpAnyH_ready (rs := [9]) (by kernel_rfl) (by simp) ?_
  refine AllReadyH.cons rfl (fun K hK => ?_) AllReadyH.nil
  go_simp
  refine (stopped_chain BB7.out).mono ?_
  rintro e w' ⟨rfl, rfl⟩
  go_wp2_with fail
  refine hK.out _ _ c7 (fun hHeld => ?_)
  clear hK K
  try simp only [List.getElem_toArray, List.getElem_cons_zero, List.getElem_cons_succ, Act.put, List.setIfInBounds_toArray, List.set_cons_zero, List.set_cons_succ]
  refine wpAnyH_take (i := 10) (v := ?_) rfl (by kernel_rfl) (by kernel_rfl) (by kernel_rfl) (fun _ _ _ h => h) (Or.inl ⟨by rfl, ?_⟩) (by assumption) ?_
  rotate_left
  · (intro w hSw; (try dsimp only at hSw); go_simp; try with_reducible rfl)
  simp only [List.getElem_toArray, List.getElem_cons_zero, List.getElem_cons_succ, Act.put, List.setIfInBounds_toArray, List.set_cons_zero, List.set_cons_succ]
  refine wpAnyH_take (i := 11) (v := ?_) rfl (by kernel_rfl) (by kernel_rfl) (by kernel_rfl) (fun _ _ _ h => h) (Or.inl ⟨by rfl, ?_⟩) (by assumption) ?_
  rotate_left
  · (intro w hSw; (try dsimp only at hSw); go_simp; try with_reducible rfl)
  simp only [List.getElem_toArray, List.getElem_cons_zero, List.getElem_cons_succ, Act.put, List.setIfInBounds_toArray, List.set_cons_zero, List.set_cons_succ]
  refine wpAnyH_take (i := 12) (v := ?_) rfl (by kernel_rfl) (by kernel_rfl) (by kernel_rfl) (fun _ _ _ h => h) (Or.inl ⟨by rfl, ?_⟩) (by assumption) ?_
  rotate_left
  · (intro w hSw; (try dsimp only at hSw); go_simp; try with_reducible rfl)
  simp only [List.getElem_toArray, List.getElem_cons_zero, List.getElem_cons_succ, Act.put, List.setIfInBounds_toArray, List.set_cons_zero, List.set_cons_succ]
  refine wpAnyH_take (i := 13) (v := ?_) rfl (by kernel_rfl) (by kernel_rfl) (by kernel_rfl) (fun _ _ _ h => h) (Or.inl ⟨by rfl, ?_⟩) (by assumption) ?_
  rotate_left
  · (intro w hSw; (try dsimp only at hSw); go_simp; try with_reducible rfl)
  simp only [List.getElem_toArray, List.getElem_cons_zero, List.getElem_cons_succ, Act.put, List.setIfInBounds_toArray, List.set_cons_zero, List.set_cons_succ]
  refine wpAnyH_take (i := 15) (v := ?_) rfl (by kernel_rfl) (by kernel_rfl) (by kernel_rfl) (fun _ _ _ h => h) (Or.inl ⟨by rfl, ?_⟩) (by assumption) ?_
  rotate_left
  · (intro w hSw; (try dsimp only at hSw); go_simp; try with_reducible rfl)
  simp only [List.getElem_toArray, List.getElem_cons_zero, List.getElem_cons_succ, Act.put, List.setIfInBounds_toArray, List.set_cons_zero, List.set_cons_succ]
  refine wpAnyH_ready (rs := [14]) (by kernel_rfl) (by simp) ?_
  refine AllReadyH.cons rfl (fun K hK => ?_) AllReadyH.nil
  go_simp
  refine (len_chain AA7.out).mono ?_
  rintro e w' ⟨rfl, rfl⟩
  go_wp2_with fail
  refine hK.out _ _ c7 (fun hHeld => ?_)
  clear hK K
  try simp only [List.getElem_toArray, List.getElem_cons_zero, List.getElem_cons_succ, Act.put, List.setIfInBounds_toArray, List.set_cons_zero, List.set_cons_succ]
  refine wpAnyH_ready (rs := [16]) (by kernel_rfl) (by simp) ?_
  refine AllReadyH.cons rfl (fun K hK => ?_) AllReadyH.nil
  go_simp
  refine (len_chain BB7.out).mono ?_
  rintro e w' ⟨rfl, rfl⟩
  go_wp2_with fail
  refine hK.out _ _ c7 (fun hHeld => ?_)
  clear hK K
  try simp only [List.getElem_toArray, List.getElem_cons_zero, List.getElem_cons_succ, Act.put, List.setIfInBounds_toArray, List.set_cons_zero, List.set_cons_succ]
  refine wpAnyH_take (i := 17) (v := ?_) rfl (by kernel_rfl) (by kernel_rfl) (by kernel_rfl) (fun _ _ _ h => h) (Or.inl ⟨by rfl, ?_⟩) (by assumption) ?_
  rotate_left
  · (intro w hSw; (try dsimp only at hSw); go_simp; try with_reducible rfl)
  simp only [List.getElem_toArray, List.getElem_cons_zero, List.getElem_cons_succ, Act.put, List.setIfInBounds_toArray, List.set_cons_zero, List.set_cons_succ]
  refine wpAnyH_take (i := 18) (v := ?_) rfl (by kernel_rfl) (by kernel_rfl) (by kernel_rfl) (fun _ _ _ h => h) (Or.inl ⟨by rfl, ?_⟩) (by assumption) ?_
  rotate_left
  · (intro w hSw; (try dsimp only at hSw); go_simp; try with_reducible rfl)
  simp only [List.getElem_toArray, List.getElem_cons_zero, List.getElem_cons_succ, Act.put, List.setIfInBounds_toArray, List.set_cons_zero, List.set_cons_succ]
  refine wpAnyH_take (i := 19) (v := ?_) rfl (by kernel_rfl) (by kernel_rfl) (by kernel_rfl) (fun _ _ _ h => h) (Or.inl ⟨by rfl, ?_⟩) (by assumption) ?_
  rotate_left
  · (intro w hSw; (try dsimp only at hSw); go_simp; try with_reducible rfl)
  simp only [List.getElem_toArray, List.getElem_cons_zero, List.getElem_cons_succ, Act.put, List.setIfInBounds_toArray, List.set_cons_zero, List.set_cons_succ]
  refine wpAnyH_take (i := 20) (v := ?_) rfl (by kernel_rfl) (by kernel_rfl) (by kernel_rfl) (fun _ _ _ h => h) (Or.inl ⟨by rfl, ?_⟩) (by assumption) ?_
  rotate_left
  · (intro w hSw; (try dsimp only at hSw); go_simp; try with_reducible rfl)
  simp only [List.getElem_toArray, List.getElem_cons_zero, List.getElem_cons_succ, Act.put, List.setIfInBounds_toArray, List.set_cons_zero, List.set_cons_succ]
  refine wpAnyH_take (i := 21) (v := ?_) rfl (by kernel_rfl) (by kernel_rfl) (by kernel_rfl) (fun _ _ _ h => h) (Or.inl ⟨by rfl, ?_⟩) (by assumption) ?_
  rotate_left
  · (intro w hSw; (try dsimp only at hSw); go_simp; try with_reducible rfl)
  simp only [List.getElem_toArray, List.getElem_cons_zero, List.getElem_cons_succ, Act.put, List.setIfInBounds_toArray, List.set_cons_zero, List.set_cons_succ]
  refine wpAnyH_take (i := 22) (v := ?_) rfl (by kernel_rfl) (by kernel_rfl) (by kernel_rfl) (fun _ _ _ h => h) (Or.inl ⟨by rfl, ?_⟩) (by assumption) ?_
  rotate_left
  · (intro w hSw; (try dsimp only at hSw); go_simp; try with_reducible rfl)
  simp only [List.getElem_toArray, List.getElem_cons_zero, List.getElem_cons_succ, Act.put, List.setIfInBounds_toArray, List.set_cons_zero, List.set_cons_succ]
  refine wpAnyH_take (i := 25) (v := ?_) rfl (by kernel_rfl) (by kernel_rfl) (by kernel_rfl) (fun _ _ _ h => h) (Or.inl ⟨by rfl, ?_⟩) (by assumption) ?_
  rotate_left
  · (intro w hSw; (try dsimp only at hSw); go_simp; try with_reducible rfl)
  simp only [List.getElem_toArray, List.getElem_cons_zero, List.getElem_cons_succ, Act.put, List.setIfInBounds_toArray, List.set_cons_zero, List.set_cons_succ]
  refine wpAnyH_take (i := 26) (v := ?_) rfl (by kernel_rfl) (by kernel_rfl) (by kernel_rfl) (fun _ _ _ h => h) (Or.inl ⟨by rfl, ?_⟩) (by assumption) ?_
  rotate_left
  · (intro w hSw; (try dsimp only at hSw); go_simp; try with_reducible rfl)
  simp only [List.getElem_toArray, List.getElem_cons_zero, List.getElem_cons_succ, Act.put, List.setIfInBounds_toArray, List.set_cons_zero, List.set_cons_succ]
  refine wpAnyH_take (i := 27) (v := ?_) rfl (by kernel_rfl) (by kernel_rfl) (by kernel_rfl) (fun _ _ _ h => h) (Or.inl ⟨by rfl, ?_⟩) (by assumption) ?_
  rotate_left
  · (intro w hSw; (try dsimp only at hSw); go_simp; try with_reducible rfl)
  simp only [List.getElem_toArray, List.getElem_cons_zero, List.getElem_cons_succ, Act.put, List.setIfInBounds_toArray, List.set_cons_zero, List.set_cons_succ]
  refine wpAnyH_ready (rs := [23]) (by kernel_rfl) (by simp) ?_
  refine AllReadyH.cons rfl (fun K hK => ?_) AllReadyH.nil
  go_simp
  refine (peek_any AA7.out (bound : Int)).mono ?_
  rintro e w8 ⟨v8, rfl, F8, S8, L8, -⟩
  have ek : kOf (bound : Int) l7.length = l7.length := by unfold kOf; omega
  rw [ek, List.take_length] at S8
  have EK := hide ek
  have BB8 := hide (BB7.out.frame F8 (fun x => x) (fun x => x))
  have x8 := hide (F8.hd (fun x => x) x7.out)
  have c8 : w8.cell? ⟨w.heap.size, 0, none⟩ = some (.int .i64 (bound : Int)) := by rw [cell_of x8.out]; rfl
  have F08 : Hid (Fr (fun i => w.heap.size ≤ i) w w8) := hide (F07.out.trans F8 (fun _ _ x => x.elim))
  have t8 := S8.text
  have SS8 := hide S8
  have LL8 := hide L8
  clear F8 S8 L8 ek
  go_wp2_with fail
  refine hK.out _ _ c8 (fun hHeld => ?_)
  clear hK K
  try simp only [List.getElem_toArray, List.getElem_cons_zero, List.getElem_cons_succ, Act.put, List.setIfInBounds_toArray, List.set_cons_zero, List.set_cons_succ]
  refine wpAnyH_weaken (S' := fun W => W.cell? ⟨w.heap.size, 0, none⟩ = some (.int .i64 (bound : Int)) ∧ (convert 33 9 v8).run Try.prog W = .ok (.string (strOfNums l7)) W) (fun W h => h.1) _ _ _ _ ?_
  have hH2 : w8.cell? ⟨w.heap.size, 0, none⟩ = some (.int .i64 (bound : Int)) ∧ (convert 33 9 v8).run Try.prog w8 = .ok (.string (strOfNums l7)) w8 := ⟨c8, t8⟩
  refine wpAnyH_take (i := 24) (v := ?_) rfl (by kernel_rfl) (by kernel_rfl) (by kernel_rfl) (fun _ _ _ h => h) (Or.inl ⟨by rfl, ?_⟩) (by assumption) ?_
  rotate_left
  · (intro w hSw; (try dsimp only at hSw); go_simp; try with_reducible rfl)
  simp only [List.getElem_toArray, List.getElem_cons_zero, List.getElem_cons_succ, Act.put, List.setIfInBounds_toArray, List.set_cons_zero, List.set_cons_succ]
  refine wpAnyH_ready (rs := [28]) (by kernel_rfl) (by simp) ?_
  refine AllReadyH.cons rfl (fun K hK => ?_) AllReadyH.nil
  go_simp
  refine (peek_any BB8.out (bound : Int)).mono ?_
  rintro e w9 ⟨v9, rfl, F9, S9, L9, -⟩
  rw [EK.out, List.take_length] at S9
  have x9 := hide (F9.hd (fun x => x) x8.out)
  have c9 : w9.cell? ⟨w.heap.size, 0, none⟩ = some (.int .i64 (bound : Int)) := by rw [cell_of x9.out]; rfl
  have F09 : Hid (Fr (fun i => w.heap.size ≤ i) w w9) := hide (F08.out.trans F9 (fun _ _ x => x.elim))
  have t9 := S9.text
  have u9 : (convert 33 9 v8).run Try.prog w9 = .ok (.string (strOfNums l7)) w9 := (SS8.out.cellsEq (fun b off n c e hn => F9.block b (LL8.out b off n c e hn).2 (fun x => x))).text
  have FF9 := hide F9
  clear F9 S9 L9
  go_wp2_with fail
  refine hK.out _ _ ⟨c9, u9⟩ (fun hHeld => ?_)
  clear hK K
  try simp only [List.getElem_toArray, List.getElem_cons_zero, List.getElem_cons_succ, Act.put, List.setIfInBounds_toArray, List.set_cons_zero, List.set_cons_succ]
  refine wpAnyH_ready (rs := [29]) (by kernel_rfl) (by simp) ?_
  refine AllReadyH.cons rfl (fun K hK => ?_) AllReadyH.nil
  go_simp
  refine hK.out _ _ ⟨c9, u9⟩ (fun hHeld => ?_)
  clear hK K
  try simp only [List.getElem_toArray, List.getElem_cons_zero, List.getElem_cons_succ, Act.put, List.setIfInBounds_toArray, List.set_cons_zero, List.set_cons_succ]
  refine wpAnyH_take (i := 30) (v := ?_) rfl (by kernel_rfl) (by kernel_rfl) (by kernel_rfl) (fun _ _ _ h => h) (Or.inl ⟨by rfl, ?_⟩) (by assumption) ?_
  rotate_left
  · (intro w hSw; (try dsimp only at hSw); go_simp; try with_reducible rfl)
  simp only [List.getElem_toArray, List.getElem_cons_zero, List.getElem_cons_succ, Act.put, List.setIfInBounds_toArray, List.set_cons_zero, List.set_cons_succ]
  refine wpAnyH_take (i := 31) (v := ?_) rfl (by kernel_rfl) (by kernel_rfl) (by kernel_rfl) (fun _ _ _ h => h) (Or.inl ⟨by rfl, ?_⟩) (by assumption) ?_
  rotate_left
  · (intro w hSw; (try dsimp only at hSw); go_simp; try with_reducible rfl)
  simp only [List.getElem_toArray, List.getElem_cons_zero, List.getElem_cons_succ, Act.put, List.setIfInBounds_toArray, List.set_cons_zero, List.set_cons_succ]
  refine wpAnyH_take (i := 32) (v := ?_) rfl (by kernel_rfl) (by kernel_rfl) (by kernel_rfl) (fun _ _ _ h => h) (Or.inl ⟨by rfl, ?_⟩) (by assumption) ?_
  rotate_left
  · (intro w hSw; (try dsimp only at hSw); go_simp; try with_reducible rfl)
  simp only [List.getElem_toArray, List.getElem_cons_zero, List.getElem_cons_succ, Act.put, List.setIfInBounds_toArray, List.set_cons_zero, List.set_cons_succ]
  refine wpAnyH_ready (rs := [33]) (by kernel_rfl) (by simp) ?_
  refine AllReadyH.cons rfl (fun K hK => ?_) AllReadyH.nil
  go_simp
  refine (speaks_any _).mono ?_
  rintro e w10 ⟨rfl, F10⟩
  have FF10 := hide F10
  have c10 : w10.cell? ⟨w.heap.size, 0, none⟩ = some (.int .i64 (bound : Int)) := by rw [cell_of (F10.hd (fun x => x) x9.out)]; rfl
  have u10 : (convert 33 9 v8).run Try.prog w10 = .ok (.string (strOfNums l7)) w10 := (SS8.out.cellsEq (fun b off n c e hn => (FF9.out.trans F10 (fun _ _ x => x)).block b (LL8.out b off n c e hn).2 (fun x => x))).text
  clear F10
  go_wp2_with fail
  refine hK.out _ _ ⟨c10, u10⟩ (fun hHeld => ?_)
  clear hK K
  try simp only [List.getElem_toArray, List.getElem_cons_zero, List.getElem_cons_succ, Act.put, List.setIfInBounds_toArray, List.set_cons_zero, List.set_cons_succ]
  refine wpAnyH_take (i := 34) (v := ?_) rfl (by kernel_rfl) (by kernel_rfl) (by kernel_rfl) (fun _ _ _ h => h) (Or.inl ⟨by rfl, ?_⟩) (by assumption) ?_
  rotate_left
  · (intro w hSw; (try dsimp only at hSw); go_simp; try with_reducible rfl)
  simp only [List.getElem_toArray, List.getElem_cons_zero, List.getElem_cons_succ, Act.put, List.setIfInBounds_toArray, List.set_cons_zero, List.set_cons_succ]
  refine wpAnyH_take (i := 35) (v := ?_) rfl (by kernel_rfl) (by kernel_rfl) (by kernel_rfl) (fun _ _ _ h => h) (Or.inl ⟨by rfl, ?_⟩) (by assumption) ?_
  rotate_left
  · (intro w hSw; (try dsimp only at hSw); go_simp; try with_reducible rfl)
  simp only [List.getElem_toArray, List.getElem_cons_zero, List.getElem_cons_succ, Act.put, List.setIfInBounds_toArray, List.set_cons_zero, List.set_cons_succ]
  refine wpAnyH_done (by kernel_rfl) ?_ _
  refine NoPanic.normal ?_
  go_wp2
  go_ret
  refine ⟨rfl, ?_⟩
  exact (F09.out.trans FF10.out (fun _ _ x => x.elim)).below (Nat.le_refl _) (fun k hk x => by omega)
end Go.Proofs.Ytglhoihiaflmgab
