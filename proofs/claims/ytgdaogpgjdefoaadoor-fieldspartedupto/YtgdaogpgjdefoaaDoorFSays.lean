/- What every statement of the layer asks besides: some fields of one connection are left out. -/
import Derived.Test.YtgdaogpgjdefoaaDoorFVia
import Derived.Test.YtgdaogpgjdefoaaDoorStp
import Derived.Test.YtgdaogpgjdefoaaDoorFChk
import Derived.Test.YtgdaogpgjdefoaaDoorFGet
import Derived.Deep.RegionHeld3
namespace Go.Proofs.YtgdaogpgjdefoaaDoor
open Go.ChangeShapes Go.WideShapes Go.ChangeAt Go.RowKit Go.Maps

def L3 : List (ByteArray × ByteArray) := [(⟨#[67, 111, 110, 110, 101, 99, 116, 105, 111, 110]⟩, ⟨#[99, 108, 111, 115, 101, 44, 32, 88, 45, 65]⟩), (⟨#[88, 45, 97]⟩, ⟨#[49]⟩), (⟨#[72, 111, 115, 116]⟩, ⟨#[104]⟩)]
theorem sm3 : Sm L3 := ⟨by decide, by decide⟩
theorem get3 : getS (allS L3 ⟨#[104, 111, 115, 116]⟩) = ⟨#[104]⟩ := by decide +kernel
theorem len3 : decide (0 < (allS L3 ⟨#[104, 111, 115, 116]⟩).length) = true := by decide +kernel
theorem items3 : itemsS L3 connS = [⟨#[99, 108, 111, 115, 101]⟩, ⟨#[120, 45, 97]⟩] := by
  have h : allS L3 connS = [⟨#[99, 108, 111, 115, 101, 44, 32, 88, 45, 65]⟩] := by decide +kernel
  unfold itemsS itemsV
  rw [h]
  simp only [List.flatMap_cons, List.flatMap_nil, List.append_nil]
  unfold smallS listS
  rw [← refL_list]
  rfl
theorem has3 : hasB L3 connS ⟨#[67, 76, 79, 83, 69]⟩ = true := by
  unfold hasB
  rw [items3]
  decide +kernel
theorem strip3 : stripS L3 = [(⟨#[72, 111, 115, 116]⟩, ⟨#[104]⟩)] := by
  unfold stripS
  rw [items3]
  decide +kernel
theorem chk3 : chkL L3 = 0 := by decide +kernel
theorem viaE3 : viaE 1 ⟨#[104, 101, 97, 100, 114, 97, 99, 101]⟩ = 0 := by decide +kernel
theorem itoa1 : itoaS 1 = ⟨#[49]⟩ := by
  unfold itoaS
  rw [show (1 : Int) = ((1 : Nat) : Int) from rfl, Lib.itoa_nonneg, Lib.decDigits]
  rfl
theorem viaT3 : viaT 1 ⟨#[104, 101, 97, 100, 114, 97, 99, 101]⟩ = ⟨#[49, 46, 49, 32, 104, 101, 97, 100, 114, 97, 99, 101]⟩ := by
  unfold viaT
  rw [itoa1]
  decide +kernel
theorem viaS3 : viaS L3 1 ⟨#[104, 101, 97, 100, 114, 97, 99, 101]⟩ = L3 ++ [(viaN, ⟨#[49, 46, 49, 32, 104, 101, 97, 100, 114, 97, 99, 101]⟩)] := by
  unfold viaS
  rw [viaE3, if_pos rfl, viaT3]
theorem flds3 (w : World) : Flds (w.alloc (.cells #[.string ⟨#[67, 111, 110, 110, 101, 99, 116, 105, 111, 110]⟩, .string ⟨#[99, 108, 111, 115, 101, 44, 32, 88, 45, 65]⟩, .string ⟨#[88, 45, 97]⟩, .string ⟨#[49]⟩, .string ⟨#[72, 111, 115, 116]⟩, .string ⟨#[104]⟩] 43)) (.slice (some ⟨w.heap.size, 0, none⟩) 3 3) L3 := by
  refine ⟨some ⟨w.heap.size, 0, none⟩, 3, rfl, ⟨by decide, fun h => by cases h⟩, fun j hj => ⟨w.heap.size, 0, rfl, by simp, ?_, ?_⟩⟩
  · rw [cell_at (hp_new w _)]
    match j, hj with
    | 0, _ => rfl
    | 1, _ => rfl
    | 2, _ => rfl
  · rw [cell_at (hp_new w _)]
    match j, hj with
    | 0, _ => rfl
    | 1, _ => rfl
    | 2, _ => rfl
theorem flds1 (w : World) : Flds (w.alloc (.cells #[.string ⟨#[67, 111, 110, 110, 101, 99, 116, 105, 111, 110]⟩, .string ⟨#[99, 108, 111, 115, 101, 44, 32, 88, 45, 65]⟩, .string ⟨#[88, 45, 97]⟩, .string ⟨#[49]⟩, .string ⟨#[72, 111, 115, 116]⟩, .string ⟨#[104]⟩] 43)) (.slice (some ⟨w.heap.size, 4, none⟩) 1 1) [(⟨#[72, 111, 115, 116]⟩, ⟨#[104]⟩)] := by
  refine ⟨some ⟨w.heap.size, 4, none⟩, 1, rfl, ⟨by decide, fun h => by cases h⟩, fun j hj => ⟨w.heap.size, 4, rfl, by simp, ?_, ?_⟩⟩
  · rw [cell_at (hp_new w _)]
    match j, hj with
    | 0, _ => rfl
  · rw [cell_at (hp_new w _)]
    match j, hj with
    | 0, _ => rfl
theorem ex_of {P : Program} {f : Nat} {args : Array Value} {w : World} {v : Value} {B : World → Prop} (c : Calls P f args w fun e w' => e = .returned v ∧ B w') : Calls P f args w fun e w' => ∃ r, e = .returned r ∧ r = v ∧ B w' := c.mono fun _ _ ⟨h1, h2⟩ => ⟨_, h1, rfl, h2⟩
theorem has3_any (w0 W : World) (l : Value) (hF : Flds w0 l L3) (hb : Below w0.heap.size w0 W) : Calls Tryd.prog 17 #[l, .string ⟨#[99, 111, 110, 110, 101, 99, 116, 105, 111, 110]⟩, .string ⟨#[67, 76, 79, 83, 69]⟩] W fun e w' => ∃ r, e = .returned r ∧ r = .bool true ∧ Hid (Below w0.heap.size w0 w') := by
  refine (has_any W l L3 ⟨#[99, 111, 110, 110, 101, 99, 116, 105, 111, 110]⟩ ⟨#[67, 76, 79, 83, 69]⟩ (hF.below hb) sm3 (by decide) (by decide)).mono ?_
  rintro e w' ⟨rfl, h2⟩
  exact ⟨_, rfl, by rw [show hasB L3 ⟨#[99, 111, 110, 110, 101, 99, 116, 105, 111, 110]⟩ ⟨#[67, 76, 79, 83, 69]⟩ = true from has3], hb.trans (h2.mono hb.size)⟩
theorem strip3_any (w0 W : World) (l : Value) (hF : Flds w0 l L3) (hb : Below w0.heap.size w0 W) : Calls Tryd.prog 27 #[l] W fun e w' => ∃ r, e = .returned r ∧ ∃ a c, r = .slice a 1 c ∧ Hid (Flds w' (.slice a 1 c) [(⟨#[72, 111, 115, 116]⟩, ⟨#[104]⟩)]) ∧ Hid (Below w0.heap.size w0 w') := by
  refine (strip_any W l L3 (hF.below hb) sm3).mono ?_
  rintro e w' ⟨v, rfl, hR, h2⟩
  rw [strip3] at hR
  obtain ⟨a, c, rfl, _, _⟩ := hR.shape
  exact ⟨_, rfl, a, c, rfl, Flds.of_row hR, hb.trans (h2.mono hb.size)⟩
theorem same3_any (w0 W : World) (v u : Value) (hF : Flds w0 u [(⟨#[72, 111, 115, 116]⟩, ⟨#[104]⟩)]) (hb : Below w0.heap.size w0 W) (hv : Flds W v [(⟨#[72, 111, 115, 116]⟩, ⟨#[104]⟩)]) : Calls Tryd.prog 24 #[v, u] W fun e w' => ∃ r, e = .returned r ∧ r = .bool true ∧ Hid (Below w0.heap.size w0 w') := by
  refine (fields_same W v u _ hv (hF.below hb) (by decide)).mono ?_
  rintro e w' ⟨rfl, h2⟩
  exact ⟨_, rfl, rfl, hb.trans (h2.mono hb.size)⟩
theorem chk3_any (w0 W : World) (l : Value) (hF : Flds w0 l L3) (hb : Below w0.heap.size w0 W) : Calls Tryd.prog 10 #[l] W fun e w' => ∃ r, e = .returned r ∧ r = .int .i64 0 ∧ Hid (Below w0.heap.size w0 w') := by
  refine (Check_any W l L3 (hF.below hb) sm3).mono ?_
  rintro e w' ⟨rfl, h2⟩
  rw [chk3]
  exact ⟨_, rfl, rfl, hb.trans (h2.mono hb.size)⟩
set_option maxHeartbeats 8000000 in
set_option maxRecDepth 100000 in
theorem speaks_any (w : World) (ht : PT w) : Calls Tryd.prog 19 #[] w fun e w' => e = .returned (.bool true) ∧ Below w.heap.size w w' := by
  have HT := hide ht
  clear ht
  go_enter Tryd.func19, Tryd.ntmps19
  go_wp2_with fail
  have F3 := hide (flds3 w)
  have F1 := hide (flds1 w)
  have B0 := hide ((Below.refl _ w).alloc (Nat.le_refl _) (.cells #[.string ⟨#[67, 111, 110, 110, 101, 99, 116, 105, 111, 110]⟩, .string ⟨#[99, 108, 111, 115, 101, 44, 32, 88, 45, 65]⟩, .string ⟨#[88, 45, 97]⟩, .string ⟨#[49]⟩, .string ⟨#[72, 111, 115, 116]⟩, .string ⟨#[104]⟩] 43))
  generalize w.alloc (.cells #[.string ⟨#[67, 111, 110, 110, 101, 99, 116, 105, 111, 110]⟩, .string ⟨#[99, 108, 111, 115, 101, 44, 32, 88, 45, 65]⟩, .string ⟨#[88, 45, 97]⟩, .string ⟨#[49]⟩, .string ⟨#[72, 111, 115, 116]⟩, .string ⟨#[104]⟩] 43) = x at F3 F1 B0 ⊢
  refine (get_any x _ L3 _ F3.out sm3 (by decide)).mono ?_
  rintro e w1 ⟨rfl, b1⟩
  rw [get3, len3]
  have B1 := hide (B0.out.trans (b1.mono B0.out.size))
  have F3' := hide (F3.out.below b1)
  have F1' := hide (F1.out.below b1)
  clear F3 F1 B0 b1
  go_wp2_with fail
  refine (via_any w1 _ L3 1 _ F3'.out sm3 (by decide) (HT.out.below B1.out)).mono ?_
  rintro e w2 ⟨v2, rfl, hR, b2⟩
  rw [viaE3]
  rw [viaS3] at hR
  have B2 := hide (B1.out.trans (b2.mono B1.out.size))
  have F3 := hide (F3'.out.below b2)
  have F1 := hide (F1'.out.below b2)
  clear F3' F1' B1 b2
  obtain ⟨a2, c2, rfl, ⟨hc2, _⟩, hcv⟩ := Flds.of_row hR
  obtain ⟨g2, o2, rfl, _, _, r3⟩ := hcv 3 (by decide)
  change w2.cell? ⟨g2, o2 + 3 * 2 + 1, none⟩ = some (.string ⟨#[49, 46, 49, 32, 104, 101, 97, 100, 114, 97, 99, 101]⟩) at r3
  change 4 ≤ c2 at hc2
  clear hcv hR
  rw [show (L3 ++ [(viaN, (⟨#[49, 46, 49, 32, 104, 101, 97, 100, 114, 97, 99, 101]⟩ : ByteArray))]).length = 4 from rfl, show ((0 : Nat) : Int) = 0 from rfl]
  have HHAS := hide (fun W hb => has3_any w2 W _ F3.out hb)
  have HSTR := hide (fun W hb => strip3_any w2 W _ F3.out hb)
  have HSAM := hide (fun W v hb hv => same3_any w2 W v _ F1.out hb hv)
  have HCHK := hide (fun W hb => chk3_any w2 W _ F3.out hb)
  have D0 := hide ((Below.refl w2.heap.size w2).drew)
  clear F3 F1
  have cS : w2.drew.cell? ⟨g2, o2 + 6 + 1, none⟩ = some (.string ⟨#[49, 46, 49, 32, 104, 101, 97, 100, 114, 97, 99, 101]⟩) := r3
  have hg2 : g2 < w2.heap.size := World.block_lt_of_cell? w2 _ r3
  have HG2 := hide hg2
  have HR3 := hide r3
  clear hg2 r3
  go_wp2_with fail
  refine wp_region_noPanic ?_
  refine wp_region_held_drew (S := fun W => W.cell? ⟨g2, o2 + 6 + 1, none⟩ = some (.string ⟨#[49, 46, 49, 32, 104, 101, 97, 100, 114, 97, 99, 101]⟩)) (by kernel_rfl) cS (fun hHeld => ?_)
  refine wpAnyH_take (i := 0) (v := ?_) rfl (by kernel_rfl) (by kernel_rfl) (by kernel_rfl) (fun _ _ _ h => h) (Or.inl ⟨by rfl, ?_⟩) (by assumption) ?_
  rotate_left
  · (intro w hSw; (try dsimp only at hSw); go_simp; try with_reducible rfl)
  simp only [List.getElem_toArray, List.getElem_cons_zero, Act.put, List.setIfInBounds_toArray, List.set_cons_zero, List.set_cons_succ]
  refine wpAnyH_take (i := 1) (v := ?_) rfl (by kernel_rfl) (by kernel_rfl) (by kernel_rfl) (fun _ _ _ h => h) (Or.inl ⟨by rfl, ?_⟩) (by assumption) ?_
  rotate_left
  · (intro w hSw; (try dsimp only at hSw); go_simp; try with_reducible rfl)
  simp only [List.getElem_toArray, List.getElem_cons_zero, List.getElem_cons_succ, Act.put, List.setIfInBounds_toArray, List.set_cons_zero, List.set_cons_succ]
  refine wpAnyH_take (i := 2) (v := ?_) rfl (by kernel_rfl) (by kernel_rfl) (by kernel_rfl) (fun _ _ _ h => h) (Or.inl ⟨by rfl, ?_⟩) (by assumption) ?_
  rotate_left
  · (intro w hSw; (try dsimp only at hSw); go_simp; try with_reducible rfl)
  simp only [List.getElem_toArray, List.getElem_cons_zero, List.getElem_cons_succ, Act.put, List.setIfInBounds_toArray, List.set_cons_zero, List.set_cons_succ]
  refine wpAnyH_take (i := 3) (v := ?_) rfl (by kernel_rfl) (by kernel_rfl) (by kernel_rfl) (fun _ _ _ h => h) (Or.inl ⟨by rfl, ?_⟩) (by assumption) ?_
  rotate_left
  · (intro w hSw; (try dsimp only at hSw); go_simp; try with_reducible rfl)
  simp only [List.getElem_toArray, List.getElem_cons_zero, List.getElem_cons_succ, Act.put, List.setIfInBounds_toArray, List.set_cons_zero, List.set_cons_succ]
  refine wpAnyH_take (i := 4) (v := ?_) rfl (by kernel_rfl) (by kernel_rfl) (by kernel_rfl) (fun _ _ _ h => h) (Or.inl ⟨by rfl, ?_⟩) (by assumption) ?_
  rotate_left
  · (intro w hSw; (try dsimp only at hSw); go_simp; try with_reducible rfl)
  simp only [List.getElem_toArray, List.getElem_cons_zero, List.getElem_cons_succ, Act.put, List.setIfInBounds_toArray, List.set_cons_zero, List.set_cons_succ]
  refine wpAnyH_take (i := 5) (v := ?_) rfl (by kernel_rfl) (by kernel_rfl) (by kernel_rfl) (fun _ _ _ h => h) (Or.inl ⟨by rfl, ?_⟩) (by assumption) ?_
  rotate_left
  · (intro w hSw; (try dsimp only at hSw); go_simp; try with_reducible rfl)
  simp only [List.getElem_toArray, List.getElem_cons_zero, List.getElem_cons_succ, Act.put, List.setIfInBounds_toArray, List.set_cons_zero, List.set_cons_succ]
  refine wpAnyH_take (i := 6) (v := ?_) rfl (by kernel_rfl) (by kernel_rfl) (by kernel_rfl) (fun _ _ _ h => h) (Or.inl ⟨by rfl, ?_⟩) (by assumption) ?_
  rotate_left
  · (intro w hSw; (try dsimp only at hSw); go_simp; try with_reducible rfl)
  simp only [List.getElem_toArray, List.getElem_cons_zero, List.getElem_cons_succ, Act.put, List.setIfInBounds_toArray, List.set_cons_zero, List.set_cons_succ]
  refine wpAnyH_take (i := 7) (v := ?_) rfl (by kernel_rfl) (by kernel_rfl) (by kernel_rfl) (fun _ _ _ h => h) (Or.inl ⟨by rfl, ?_⟩) (by assumption) ?_
  rotate_left
  · (intro w hSw; (try dsimp only at hSw); go_simp; try with_reducible rfl)
  simp only [List.getElem_toArray, List.getElem_cons_zero, List.getElem_cons_succ, Act.put, List.setIfInBounds_toArray, List.set_cons_zero, List.set_cons_succ]
  refine wpAnyH_take (i := 8) (v := ?_) rfl (by kernel_rfl) (by kernel_rfl) (by kernel_rfl) (fun _ _ _ h => h) (Or.inl ⟨by rfl, ?_⟩) (by assumption) ?_
  rotate_left
  · (intro w hSw; (try dsimp only at hSw); go_simp; try with_reducible rfl)
  simp only [List.getElem_toArray, List.getElem_cons_zero, List.getElem_cons_succ, Act.put, List.setIfInBounds_toArray, List.set_cons_zero, List.set_cons_succ]
  refine wpAnyH_take (i := 9) (v := ?_) rfl (by kernel_rfl) (by kernel_rfl) (by kernel_rfl) (fun _ _ _ h => h) (Or.inl ⟨by rfl, ?_⟩) (by assumption) ?_
  rotate_left
  · (intro w hSw; (try dsimp only at hSw); go_simp; try with_reducible rfl)
  simp only [List.getElem_toArray, List.getElem_cons_zero, List.getElem_cons_succ, Act.put, List.setIfInBounds_toArray, List.set_cons_zero, List.set_cons_succ]
  refine wpAnyH_take (i := 10) (v := ?_) rfl (by kernel_rfl) (by kernel_rfl) (by kernel_rfl) (fun _ _ _ h => h) (Or.inl ⟨by rfl, ?_⟩) (by assumption) ?_
  rotate_left
  · (intro w hSw; (try dsimp only at hSw); go_simp; try with_reducible rfl)
  simp only [List.getElem_toArray, List.getElem_cons_zero, List.getElem_cons_succ, Act.put, List.setIfInBounds_toArray, List.set_cons_zero, List.set_cons_succ]
  refine wpAnyH_take (i := 11) (v := ?_) rfl (by kernel_rfl) (by kernel_rfl) (by kernel_rfl) (fun _ _ _ h => h) (Or.inl ⟨by rfl, ?_⟩) (by assumption) ?_
  rotate_left
  · (intro w hSw; (try dsimp only at hSw); go_simp; try with_reducible rfl)
  simp only [List.getElem_toArray, List.getElem_cons_zero, List.getElem_cons_succ, Act.put, List.setIfInBounds_toArray, List.set_cons_zero, List.set_cons_succ]
  refine wpAnyH_take (i := 12) (v := ?_) rfl (by kernel_rfl) (by kernel_rfl) (by kernel_rfl) (fun _ _ _ h => h) (Or.inl ⟨by rfl, ?_⟩) (by assumption) ?_
  rotate_left
  · (intro w hSw; (try dsimp only at hSw); go_simp; try with_reducible rfl)
  simp only [List.getElem_toArray, List.getElem_cons_zero, List.getElem_cons_succ, Act.put, List.setIfInBounds_toArray, List.set_cons_zero, List.set_cons_succ]
  refine wpAnyH_take (i := 13) (v := ?_) rfl (by kernel_rfl) (by kernel_rfl) (by kernel_rfl) (fun _ _ _ h => h) (Or.inl ⟨by rfl, ?_⟩) (by assumption) ?_
  rotate_left
  · (intro w hSw; (try dsimp only at hSw); go_simp; try with_reducible rfl)
  simp only [List.getElem_toArray, List.getElem_cons_zero, List.getElem_cons_succ, Act.put, List.setIfInBounds_toArray, List.set_cons_zero, List.set_cons_succ]
  refine wpAnyH_take (i := 14) (v := ?_) rfl (by kernel_rfl) (by kernel_rfl) (by kernel_rfl) (fun _ _ _ h => h) (Or.inl ⟨by rfl, ?_⟩) (by assumption) ?_
  rotate_left
  · (intro w hSw; (try dsimp only at hSw); go_simp; try with_reducible rfl)
  simp only [List.getElem_toArray, List.getElem_cons_zero, List.getElem_cons_succ, Act.put, List.setIfInBounds_toArray, List.set_cons_zero, List.set_cons_succ]
  refine wpAnyH_take (i := 15) (v := ?_) rfl (by kernel_rfl) (by kernel_rfl) (by kernel_rfl) (fun _ _ _ h => h) (Or.inl ⟨by rfl, ?_⟩) (by assumption) ?_
  rotate_left
  · (intro w hSw; (try dsimp only at hSw); go_simp; try with_reducible rfl)
  simp only [List.getElem_toArray, List.getElem_cons_zero, List.getElem_cons_succ, Act.put, List.setIfInBounds_toArray, List.set_cons_zero, List.set_cons_succ]
  refine wpAnyH_take (i := 16) (v := ?_) rfl (by kernel_rfl) (by kernel_rfl) (by kernel_rfl) (fun _ _ _ h => h) (Or.inl ⟨by rfl, ?_⟩) (by assumption) ?_
  rotate_left
  · (intro w hSw; (try dsimp only at hSw); go_simp; try with_reducible rfl)
  simp only [List.getElem_toArray, List.getElem_cons_zero, List.getElem_cons_succ, Act.put, List.setIfInBounds_toArray, List.set_cons_zero, List.set_cons_succ]
  refine wpAnyH_take (i := 17) (v := ?_) rfl (by kernel_rfl) (by kernel_rfl) (by kernel_rfl) (fun _ _ _ h => h) (Or.inl ⟨by rfl, ?_⟩) (by assumption) ?_
  rotate_left
  · (intro w hSw; (try dsimp only at hSw); go_simp; try with_reducible rfl)
  simp only [List.getElem_toArray, List.getElem_cons_zero, List.getElem_cons_succ, Act.put, List.setIfInBounds_toArray, List.set_cons_zero, List.set_cons_succ]
  refine wpAnyH_take (i := 18) (v := ?_) rfl (by kernel_rfl) (by kernel_rfl) (by kernel_rfl) (fun _ _ _ h => h) (Or.inl ⟨by rfl, ?_⟩) (by assumption) ?_
  rotate_left
  · (intro w hSw; (try dsimp only at hSw); go_simp; try with_reducible rfl)
  simp only [List.getElem_toArray, List.getElem_cons_zero, List.getElem_cons_succ, Act.put, List.setIfInBounds_toArray, List.set_cons_zero, List.set_cons_succ]
  refine wpAnyH_take (i := 19) (v := ?_) rfl (by kernel_rfl) (by kernel_rfl) (by kernel_rfl) (fun _ _ _ h => h) (Or.inl ⟨by rfl, ?_⟩) (by assumption) ?_
  rotate_left
  · (intro w hSw; (try dsimp only at hSw); go_simp; try with_reducible rfl)
  simp only [List.getElem_toArray, List.getElem_cons_zero, List.getElem_cons_succ, Act.put, List.setIfInBounds_toArray, List.set_cons_zero, List.set_cons_succ]
  refine wpAnyH_take (i := 20) (v := ?_) rfl (by kernel_rfl) (by kernel_rfl) (by kernel_rfl) (fun _ _ _ h => h) (Or.inl ⟨by rfl, ?_⟩) (by assumption) ?_
  rotate_left
  · (intro w hSw; (try dsimp only at hSw); go_simp; try with_reducible rfl)
  simp only [List.getElem_toArray, List.getElem_cons_zero, List.getElem_cons_succ, Act.put, List.setIfInBounds_toArray, List.set_cons_zero, List.set_cons_succ]
  refine wpAnyH_take (i := 21) (v := ?_) rfl (by kernel_rfl) (by kernel_rfl) (by kernel_rfl) (fun _ _ _ h => h) (Or.inl ⟨by rfl, ?_⟩) (by assumption) ?_
  rotate_left
  · (intro w hSw; (try dsimp only at hSw); go_simp; try with_reducible rfl)
  simp only [List.getElem_toArray, List.getElem_cons_zero, List.getElem_cons_succ, Act.put, List.setIfInBounds_toArray, List.set_cons_zero, List.set_cons_succ]
  refine wpAnyH_take (i := 22) (v := ?_) rfl (by kernel_rfl) (by kernel_rfl) (by kernel_rfl) (fun _ _ _ h => h) (Or.inl ⟨by rfl, ?_⟩) (by assumption) ?_
  rotate_left
  · (intro w hSw; (try dsimp only at hSw); go_simp; try with_reducible rfl)
  simp only [List.getElem_toArray, List.getElem_cons_zero, List.getElem_cons_succ, Act.put, List.setIfInBounds_toArray, List.set_cons_zero, List.set_cons_succ]
  refine wpAnyH_ready (rs := [23]) (by kernel_rfl) (by simp) ?_
  refine AllReadyH.cons rfl (fun K hK => ?_) AllReadyH.nil
  go_simp
  refine (HHAS.out _ D0.out).mono ?_
  rintro e y1 ⟨r, rfl, rfl, D1⟩
  have cS : y1.cell? ⟨g2, o2 + 6 + 1, none⟩ = some (.string ⟨#[49, 46, 49, 32, 104, 101, 97, 100, 114, 97, 99, 101]⟩) := (D1.out.cell (p := ⟨g2, o2 + 6 + 1, none⟩) HG2.out).trans HR3.out
  go_wp2_with fail
  refine hK.out _ _ cS (fun hHeld => ?_)
  clear hK K
  try simp only [List.getElem_toArray, List.getElem_cons_zero, List.getElem_cons_succ, Act.put, List.setIfInBounds_toArray, List.set_cons_zero, List.set_cons_succ]
  refine wpAnyH_take (i := 24) (v := ?_) rfl (by kernel_rfl) (by kernel_rfl) (by kernel_rfl) (fun _ _ _ h => h) (Or.inl ⟨by rfl, ?_⟩) (by assumption) ?_
  rotate_left
  · (intro w hSw; (try dsimp only at hSw); go_simp; try with_reducible rfl)
  simp only [List.getElem_toArray, List.getElem_cons_zero, List.getElem_cons_succ, Act.put, List.setIfInBounds_toArray, List.set_cons_zero, List.set_cons_succ]
  refine wpAnyH_take (i := 25) (v := ?_) rfl (by kernel_rfl) (by kernel_rfl) (by kernel_rfl) (fun _ _ _ h => h) (Or.inl ⟨by rfl, ?_⟩) (by assumption) ?_
  rotate_left
  · (intro w hSw; (try dsimp only at hSw); go_simp; try with_reducible rfl)
  simp only [List.getElem_toArray, List.getElem_cons_zero, List.getElem_cons_succ, Act.put, List.setIfInBounds_toArray, List.set_cons_zero, List.set_cons_succ]
  refine wpAnyH_take (i := 26) (v := ?_) rfl (by kernel_rfl) (by kernel_rfl) (by kernel_rfl) (fun _ _ _ h => h) (Or.inl ⟨by rfl, ?_⟩) (by assumption) ?_
  rotate_left
  · (intro w hSw; (try dsimp only at hSw); go_simp; try with_reducible rfl)
  simp only [List.getElem_toArray, List.getElem_cons_zero, List.getElem_cons_succ, Act.put, List.setIfInBounds_toArray, List.set_cons_zero, List.set_cons_succ]
  refine wpAnyH_take (i := 28) (v := ?_) rfl (by kernel_rfl) (by kernel_rfl) (by kernel_rfl) (fun _ _ _ h => h) (Or.inl ⟨by rfl, ?_⟩) (by assumption) ?_
  rotate_left
  · (intro w hSw; (try dsimp only at hSw); go_simp; try with_reducible rfl)
  simp only [List.getElem_toArray, List.getElem_cons_zero, List.getElem_cons_succ, Act.put, List.setIfInBounds_toArray, List.set_cons_zero, List.set_cons_succ]
  refine wpAnyH_take (i := 29) (v := ?_) rfl (by kernel_rfl) (by kernel_rfl) (by kernel_rfl) (fun _ _ _ h => h) (Or.inl ⟨by rfl, ?_⟩) (by assumption) ?_
  rotate_left
  · (intro w hSw; (try dsimp only at hSw); go_simp; try with_reducible rfl)
  simp only [List.getElem_toArray, List.getElem_cons_zero, List.getElem_cons_succ, Act.put, List.setIfInBounds_toArray, List.set_cons_zero, List.set_cons_succ]
  refine wpAnyH_ready (rs := [27]) (by kernel_rfl) (by simp) ?_
  refine AllReadyH.cons rfl (fun K hK => ?_) AllReadyH.nil
  go_simp
  refine (HSTR.out _ D1.out).mono ?_
  rintro e y2 ⟨r, rfl, a5, c5, rfl, F5, D2⟩
  have cS : y2.cell? ⟨g2, o2 + 6 + 1, none⟩ = some (.string ⟨#[49, 46, 49, 32, 104, 101, 97, 100, 114, 97, 99, 101]⟩) := (D2.out.cell (p := ⟨g2, o2 + 6 + 1, none⟩) HG2.out).trans HR3.out
  go_wp2_with fail
  refine hK.out _ _ cS (fun hHeld => ?_)
  clear hK K
  try simp only [List.getElem_toArray, List.getElem_cons_zero, List.getElem_cons_succ, Act.put, List.setIfInBounds_toArray, List.set_cons_zero, List.set_cons_succ]
  refine wpAnyH_ready (rs := [30]) (by kernel_rfl) (by simp) ?_
  refine AllReadyH.cons rfl (fun K hK => ?_) AllReadyH.nil
  go_simp
  refine (HSAM.out _ _ D2.out F5.out).mono ?_
  rintro e y3 ⟨r, rfl, rfl, D3⟩
  have cS : y3.cell? ⟨g2, o2 + 6 + 1, none⟩ = some (.string ⟨#[49, 46, 49, 32, 104, 101, 97, 100, 114, 97, 99, 101]⟩) := (D3.out.cell (p := ⟨g2, o2 + 6 + 1, none⟩) HG2.out).trans HR3.out
  go_wp2_with fail
  refine hK.out _ _ cS (fun hHeld => ?_)
  clear hK K
  try simp only [List.getElem_toArray, List.getElem_cons_zero, List.getElem_cons_succ, Act.put, List.setIfInBounds_toArray, List.set_cons_zero, List.set_cons_succ]
  refine wpAnyH_take (i := 31) (v := ?_) rfl (by kernel_rfl) (by kernel_rfl) (by kernel_rfl) (fun _ _ _ h => h) (Or.inl ⟨by rfl, ?_⟩) (by assumption) ?_
  rotate_left
  · (intro w hSw; (try dsimp only at hSw); go_simp; try with_reducible rfl)
  simp only [List.getElem_toArray, List.getElem_cons_zero, List.getElem_cons_succ, Act.put, List.setIfInBounds_toArray, List.set_cons_zero, List.set_cons_succ]
  refine wpAnyH_take (i := 32) (v := ?_) rfl (by kernel_rfl) (by kernel_rfl) (by kernel_rfl) (fun _ _ _ h => h) (Or.inl ⟨by rfl, ?_⟩) (by assumption) ?_
  rotate_left
  · (intro w hSw; (try dsimp only at hSw); go_simp; try with_reducible rfl)
  simp only [List.getElem_toArray, List.getElem_cons_zero, List.getElem_cons_succ, Act.put, List.setIfInBounds_toArray, List.set_cons_zero, List.set_cons_succ]
  refine wpAnyH_take (i := 33) (v := ?_) rfl (by kernel_rfl) (by kernel_rfl) (by kernel_rfl) (fun _ _ _ h => h) (Or.inl ⟨by rfl, ?_⟩) (by assumption) ?_
  rotate_left
  · (intro w hSw; (try dsimp only at hSw); go_simp; try with_reducible rfl)
  simp only [List.getElem_toArray, List.getElem_cons_zero, List.getElem_cons_succ, Act.put, List.setIfInBounds_toArray, List.set_cons_zero, List.set_cons_succ]
  refine wpAnyH_ready (rs := [34]) (by kernel_rfl) (by simp) ?_
  refine AllReadyH.cons rfl (fun K hK => ?_) AllReadyH.nil
  go_simp
  refine (HCHK.out _ D3.out).mono ?_
  rintro e y4 ⟨r, rfl, rfl, D4⟩
  have cS : y4.cell? ⟨g2, o2 + 6 + 1, none⟩ = some (.string ⟨#[49, 46, 49, 32, 104, 101, 97, 100, 114, 97, 99, 101]⟩) := (D4.out.cell (p := ⟨g2, o2 + 6 + 1, none⟩) HG2.out).trans HR3.out
  go_wp2_with fail
  refine hK.out _ _ cS (fun hHeld => ?_)
  clear hK K
  try simp only [List.getElem_toArray, List.getElem_cons_zero, List.getElem_cons_succ, Act.put, List.setIfInBounds_toArray, List.set_cons_zero, List.set_cons_succ]
  refine wpAnyH_take (i := 35) (v := ?_) rfl (by kernel_rfl) (by kernel_rfl) (by kernel_rfl) (fun _ _ _ h => h) (Or.inl ⟨by rfl, ?_⟩) (by assumption) ?_
  rotate_left
  · (intro w hSw; (try dsimp only at hSw); go_simp; try with_reducible rfl)
  simp only [List.getElem_toArray, List.getElem_cons_zero, List.getElem_cons_succ, Act.put, List.setIfInBounds_toArray, List.set_cons_zero, List.set_cons_succ]
  refine wpAnyH_take (i := 36) (v := ?_) rfl (by kernel_rfl) (by kernel_rfl) (by kernel_rfl) (fun _ _ _ h => h) (Or.inl ⟨by rfl, ?_⟩) (by assumption) ?_
  rotate_left
  · (intro w hSw; (try dsimp only at hSw); go_simp; try with_reducible rfl)
  simp only [List.getElem_toArray, List.getElem_cons_zero, List.getElem_cons_succ, Act.put, List.setIfInBounds_toArray, List.set_cons_zero, List.set_cons_succ]
  refine wpAnyH_take (i := 37) (v := ?_) rfl (by kernel_rfl) (by kernel_rfl) (by kernel_rfl) (fun _ _ _ h => h) (Or.inl ⟨by rfl, ?_⟩) (by assumption) ?_
  rotate_left
  · (intro w hSw; (try dsimp only at hSw); go_simp; try with_reducible rfl)
  simp only [List.getElem_toArray, List.getElem_cons_zero, List.getElem_cons_succ, Act.put, List.setIfInBounds_toArray, List.set_cons_zero]
  refine wpAnyH_done (by kernel_rfl) ?_ _
  refine NoPanic.normal ?_
  go_wp2
  go_ret
  exact ⟨rfl, B2.out.trans (D4.out.mono B2.out.size)⟩
end Go.Proofs.YtgdaogpgjdefoaaDoor
