/- Feed: a piece in which something is wrong. -/
import Derived.Test.YtcagjipdldlehaaGreatDoorHFeed
namespace Go.Proofs.YtcagjipdldlehaaGreatDoor
open Go.ChangeShapes Go.WideShapes Go.ChangeAt Go.RowKit

theorem wpAnyH_more {P : Program} {md : Region.Mode} {ops : Array Oper} {Q : Exit → Act → World → Prop} {S S' : World → Prop} (hS : ∀ w, S' w → S w) :
    ∀ (fuel : Nat) (listed : Array Bool) (a : Act) (w : World), wpAnyH P md ops Q S' fuel listed a w → wpAnyH P md ops Q S fuel listed a w
  | 0, _, _, _, h => h
  | fuel + 1, _, _, _, h => ⟨h.1, fun i hi => wpOp_mono (fun a' w' h' => ⟨hS w' h'.1, wpAnyH_more hS fuel _ a' w' h'.2⟩) (h.2 i hi)⟩
set_option maxHeartbeats 8000000 in
set_option maxRecDepth 20000 in
theorem feed_bad {w : World} {base g : Nat} {lv fv : Value} {p : Pz} (h : Par w base g lv fv p) (hf : Fit p) (hm : MX w) (he : ET w) (hb : 3 ≤ base) (v : Value) (l : List UInt8) (hv : Bf w (Ap g lv fv) v l) (hl : l.length ≤ 140737488355328) (h0 : p.whole = false) (h1 : p.wrong = 0) (hR : (pBytes p l).1 ≠ 0) :
    Calls Tryz.prog 46 #[.pointer (some ⟨g, 0, none⟩), v] w fun e w' => e = .returned (.tuple #[.int .i64 ((pBytes p l).2.1 : Int), .bool (pBytes p l).2.2.whole, .int .i64 ((pBytes p l).1 : Int)]) ∧ ∃ lv' fv', Par w' base g lv' fv' (pBad (pBytes p l).2.2 (pBytes p l).1) ∧ PKh w w' g lv fv lv' fv' := by
  have HB := hide (bytes_any h hf hm hb v l hv hl)
  have HWR := hide ((bytes_wrong l p hf).trans h1)
  have HP := hide h
  have HE := hide he
  have HB2 := hide hb
  have c5 : w.cell? ⟨g, 5, none⟩ = some (.func (.func p.fn) #[.pointer (some ⟨g, 0, none⟩)] #[]) := h.cell 5
  have c13 : w.cell? ⟨g, 13, none⟩ = some (.bool false) := by have := h.cell 13; rw [show (pcells p g lv fv)[13]? = some (.bool p.whole) from rfl, h0] at this; exact this
  have c14 : w.cell? ⟨g, 14, none⟩ = some (.int .i64 0) := by have := h.cell 14; rw [show (pcells p g lv fv)[14]? = some (.int .i64 (p.wrong : Int)) from rfl, h1] at this; exact this
  have e5 := eq_nilFunch p.fn g
  obtain ⟨a, cp, rfl, _, _⟩ := hv
  clear h hf hm h0 h1
  obtain ⟨re, rn, q, hq⟩ : ∃ re rn q, pBytes p l = (re, rn, q) := ⟨_, _, _, rfl⟩
  rw [hq] at HB HWR hR ⊢
  clear hq
  dsimp only at hR
  have eV : byV (re, rn, q) = .tuple #[.int .i64 0, .iface 111 (.agg #[.int .i64 (rn : Int), .iface 24 (.int .i64 (re : Int))])] := by unfold byV; rw [if_neg hR]
  rw [eV] at HB
  clear eV
  dsimp only
  have tre : ((re : Int) != 0) = true := bne_iff_ne.2 (by omega)
  clear hR
  go_enter Tryz.func46, Tryz.ntmps46
  go_wp2_with fail
  refine HB.out.mono ?_
  rintro e w1 ⟨rfl, lv1, fv1, h1, k1⟩
  have HP1 := hide h1
  have K1 := hide k1
  have EW1 := hide (HE.out.pk HP.out HB2.out k1)
  have D1 : Hid (Below w1.heap.size w1 (w1.alloc (.cells #[.int .i64 0, .nilIface] 111)).drew) := hide (((Below.refl _ w1).alloc (Nat.le_refl _) (.cells #[.int .i64 0, .nilIface] 111)).drew)
  have TB1 : Hid ((w1.alloc (.cells #[.int .i64 0, .nilIface] 111)).drew.heap[w1.heap.size]? = some (.cells #[.int .i64 0, .nilIface] 111)) := hide (hp_new w1 _)
  have E1 := hide (EW1.out.below D1.out)
  have HLT := hide (lt_heap TB1.out)
  clear h1 k1 HB c5 c13 c14 e5
  go_upto_region 7 with fail
  refine wp_region_noPanic ?_
  refine wp_region_held_drew (S := fun _ => True) (by kernel_rfl) trivial (fun hHeld => ?_)
  refine wpAnyH_take (i := 0) (v := ?_) rfl (by kernel_rfl) (by kernel_rfl) (by kernel_rfl) (fun _ _ _ h => h) (Or.inl ⟨by rfl, ?_⟩) (by assumption) ?_
  rotate_left
  · (intro w hSw; (try dsimp only at hSw); go_simp; try with_reducible rfl)
  simp only [List.getElem_toArray, List.getElem_cons_zero, Act.put, List.setIfInBounds_toArray, List.set_cons_zero, List.set_cons_succ]
  refine wpAnyH_take (i := 1) (v := ?_) rfl (by kernel_rfl) (by kernel_rfl) (by kernel_rfl) (fun _ _ _ h => h) (Or.inl ⟨by rfl, ?_⟩) (by assumption) ?_
  rotate_left
  · (intro w hSw; (try dsimp only at hSw); go_simp; try with_reducible rfl)
  simp only [List.getElem_toArray, List.getElem_cons_zero, List.getElem_cons_succ, Act.put, List.setIfInBounds_toArray, List.set_cons_zero, List.set_cons_succ]
  refine wpAnyH_ready (rs := [2]) (by kernel_rfl) (by simp) ?_
  refine AllReadyH.cons rfl (fun K hK => ?_) AllReadyH.nil
  go_simp
  refine (as_fault (rn : Int) (.int .i64 (re : Int)) w1.heap.size (.int .i64 0) .nilIface _ E1.out TB1.out).mono ?_
  rintro e y0 ⟨rfl, hy⟩
  have D2 : Hid (Below w1.heap.size w1 y0) := hide (by rw [hy]; exact below_setRow ((((D1.out.alloc D1.out.size _).alloc (Nat.le_trans D1.out.size (by simp)) _).alloc (Nat.le_trans D1.out.size (by simp <;> omega)) _).alloc (Nat.le_trans D1.out.size (by simp <;> omega)) _) (Nat.le_refl _) _)
  have TB2 : Hid (y0.heap[w1.heap.size]? = some (.cells #[.int .i64 (rn : Int), .iface 24 (.int .i64 (re : Int))] 111)) := hide (by rw [hy]; exact setRow_heap _ _ #[.int .i64 0, .nilIface] _ 111 (0, 0) (by rw [Below.heap_alloc _ _ _ (by have := D1.out.size; have := HLT.out; simp; omega), Below.heap_alloc _ _ _ (by have := HLT.out; simp; omega), Below.heap_alloc _ _ _ (by have := HLT.out; simp; omega), Below.heap_alloc _ _ _ HLT.out]; exact TB1.out))
  clear hy
  go_wp2_with fail
  refine hK.out _ _ trivial (fun hHeld => ?_)
  clear hK K hHeld
  try simp only [List.getElem_toArray, List.getElem_cons_zero, List.getElem_cons_succ, Act.put, List.setIfInBounds_toArray, List.set_cons_zero, List.set_cons_succ]
  refine wpAnyH_more (S' := fun W => W.cell? ⟨w1.heap.size, 0, none⟩ = some (.int .i64 (rn : Int)) ∧ W.cell? ⟨w1.heap.size, 1, none⟩ = some (.iface 24 (.int .i64 (re : Int)))) (fun _ _ => trivial) _ _ _ _ ?_
  have hHeld : y0.cell? ⟨w1.heap.size, 0, none⟩ = some (.int .i64 (rn : Int)) ∧ y0.cell? ⟨w1.heap.size, 1, none⟩ = some (.iface 24 (.int .i64 (re : Int))) := ⟨cell_at TB2.out 0, cell_at TB2.out 1⟩
  refine wpAnyH_take (i := 3) (v := ?_) rfl (by kernel_rfl) (by kernel_rfl) (by kernel_rfl) (fun _ _ _ h => h) (Or.inl ⟨by rfl, ?_⟩) (by assumption) ?_
  rotate_left
  · (intro w hSw; (try dsimp only at hSw); go_simp; try with_reducible rfl)
  simp only [List.getElem_toArray, List.getElem_cons_zero, List.getElem_cons_succ, Act.put, List.setIfInBounds_toArray, List.set_cons_zero, List.set_cons_succ]
  refine wpAnyH_take (i := 4) (v := ?_) rfl (by kernel_rfl) (by kernel_rfl) (by kernel_rfl) (fun _ _ _ h => h) (Or.inl ⟨by rfl, ?_⟩) (by assumption) ?_
  rotate_left
  · (intro w hSw; (try dsimp only at hSw); go_simp; try with_reducible rfl)
  simp only [List.getElem_toArray, List.getElem_cons_zero, List.getElem_cons_succ, Act.put, List.setIfInBounds_toArray, List.set_cons_zero, List.set_cons_succ]
  refine wpAnyH_take (i := 5) (v := ?_) rfl (by kernel_rfl) (by kernel_rfl) (by kernel_rfl) (fun _ _ _ h => h) (Or.inl ⟨by rfl, ?_⟩) (by assumption) ?_
  rotate_left
  · (intro w hSw; (try dsimp only at hSw); go_simp; try with_reducible rfl)
  simp only [List.getElem_toArray, List.getElem_cons_zero, List.getElem_cons_succ, Act.put, List.setIfInBounds_toArray, List.set_cons_zero, List.set_cons_succ]
  refine wpAnyH_take (i := 6) (v := ?_) rfl (by kernel_rfl) (by kernel_rfl) (by kernel_rfl) (fun _ _ _ h => h) (Or.inl ⟨by rfl, ?_⟩) (by assumption) ?_
  rotate_left
  · (intro w hSw; (try dsimp only at hSw); go_simp; try with_reducible rfl)
  simp only [List.getElem_toArray, List.getElem_cons_zero, List.getElem_cons_succ, Act.put, List.setIfInBounds_toArray, List.set_cons_zero, List.set_cons_succ]
  refine wpAnyH_take (i := 7) (v := ?_) rfl (by kernel_rfl) (by kernel_rfl) (by kernel_rfl) (fun _ _ _ h => h) (Or.inl ⟨by rfl, ?_⟩) (by assumption) ?_
  rotate_left
  · (intro w hSw; (try dsimp only at hSw); go_simp; try with_reducible rfl)
  simp only [List.getElem_toArray, List.getElem_cons_zero, List.getElem_cons_succ, Act.put, List.setIfInBounds_toArray, List.set_cons_zero, List.set_cons_succ]
  refine wpAnyH_take (i := 8) (v := ?_) rfl (by kernel_rfl) (by kernel_rfl) (by kernel_rfl) (fun _ _ _ h => h) (Or.inl ⟨by rfl, ?_⟩) (by assumption) ?_
  rotate_left
  · (intro w hSw; (try dsimp only at hSw); go_simp; try with_reducible rfl)
  simp only [List.getElem_toArray, List.getElem_cons_zero, List.getElem_cons_succ, Act.put, List.setIfInBounds_toArray, List.set_cons_zero, List.set_cons_succ]
  refine wpAnyH_take (i := 9) (v := ?_) rfl (by kernel_rfl) (by kernel_rfl) (by kernel_rfl) (fun _ _ _ h => h) (Or.inl ⟨by rfl, ?_⟩) (by assumption) ?_
  rotate_left
  · (intro w hSw; (try dsimp only at hSw); go_simp; try with_reducible rfl)
  simp only [List.getElem_toArray, List.getElem_cons_zero, List.getElem_cons_succ, Act.put, List.setIfInBounds_toArray, List.set_cons_zero, List.set_cons_succ]
  refine wpAnyH_ready (rs := [10]) (by kernel_rfl) (by simp) ?_
  refine AllReadyH.cons rfl (fun K hK => ?_) AllReadyH.nil
  go_simp
  have P2 := hide (HP1.out.below D2.out)
  have E2 := hide (EW1.out.below D2.out)
  refine (as_errno (rn : Int) (re : Int) g (.int .i64 (q.wrong : Int)) _ E2.out (P2.out.cell 14) (P2.out.froz 14)).mono ?_
  rintro e y1 ⟨rfl, X, hX, hy⟩
  have P3 : Hid (Par y1 base g lv1 fv1 { q with wrong := re }) := hide (by rw [hy]; exact (P2.out.below hX).set 14 (.int .i64 (re : Int)) { q with wrong := re } rfl rfl rfl)
  have K3 : Hid (PKh w y1 g lv fv lv1 fv1) := hide (by rw [hy]; exact ((K1.out.trans (PKh.of_below g lv1 fv1 D2.out)).trans (PKh.of_below g lv1 fv1 hX)).trans (PKh.set X g 14 _ lv1 fv1))
  have TB3 : Hid (y1.heap[w1.heap.size]? = some (.cells #[.int .i64 (rn : Int), .iface 24 (.int .i64 (re : Int))] 111)) := hide (by rw [hy]; exact (Below.heap_setCell X _ _ _ (by have := HP1.out.lt; simp; omega)).trans ((hX.block _ (lt_heap TB2.out)).trans TB2.out))
  clear hy hX
  go_wp2_with fail
  refine hK.out _ _ ⟨cell_at TB3.out 0, cell_at TB3.out 1⟩ (fun hHeld => ?_)
  clear hK K
  try simp only [List.getElem_toArray, List.getElem_cons_zero, List.getElem_cons_succ, Act.put, List.setIfInBounds_toArray, List.set_cons_zero, List.set_cons_succ]
  refine wpAnyH_take (i := 11) (v := ?_) rfl (by kernel_rfl) (by kernel_rfl) (by kernel_rfl) (fun _ _ _ h => h) (Or.inl ⟨by rfl, ?_⟩) (by assumption) ?_
  rotate_left
  · (intro w hSw; (try dsimp only at hSw); go_simp; try with_reducible rfl)
  simp only [List.getElem_toArray, List.getElem_cons_zero, List.getElem_cons_succ, Act.put, List.setIfInBounds_toArray, List.set_cons_zero, List.set_cons_succ]
  refine wpAnyH_done (by kernel_rfl) ?_ _
  refine NoPanic.normal ?_
  clear hHeld D1 D2 TB1 TB2 E1 E2 P2
  have t0 : y1.cell? ⟨w1.heap.size, 0, none⟩ = some (.int .i64 (rn : Int)) := cell_at TB3.out 0
  go_upto_region 9 with fail
  have d6 : y1.cell? ⟨g, 6, none⟩ = some (.bool q.req) := P3.out.cell 6
  have d7 : y1.cell? ⟨g, 7, none⟩ = some (.string q.me) := P3.out.cell 7
  have d8 : y1.cell? ⟨g, 8, none⟩ = some (.string q.ta) := P3.out.cell 8
  have d9 : y1.cell? ⟨g, 9, none⟩ = some (.int .i64 (q.minor : Int)) := P3.out.cell 9
  have d10 : y1.cell? ⟨g, 10, none⟩ = some (.int .i64 (q.status : Int)) := P3.out.cell 10
  have d11 : y1.cell? ⟨g, 11, none⟩ = some (.string q.re) := P3.out.cell 11
  have d12 : y1.cell? ⟨g, 12, none⟩ = some (fv1) := P3.out.cell 12
  have f6 := P3.out.froz 6
  have f7 := P3.out.froz 7
  have f8 := P3.out.froz 8
  have f9 := P3.out.froz 9
  have f10 := P3.out.froz 10
  have f11 := P3.out.froz 11
  have f12 := P3.out.froz 12
  go_upto_region 10 with fail
  have P4 := hide (((((((P3.out.set 6 (.bool false) { q with wrong := re, req := false } rfl rfl rfl).set 7 (.string ⟨#[]⟩) { q with wrong := re, req := false, me := ⟨#[]⟩ } rfl rfl rfl).set 8 (.string ⟨#[]⟩) { q with wrong := re, req := false, me := ⟨#[]⟩, ta := ⟨#[]⟩ } rfl rfl rfl).set 9 (.int .i64 0) { q with wrong := re, req := false, me := ⟨#[]⟩, ta := ⟨#[]⟩, minor := 0 } rfl rfl rfl).set 10 (.int .i64 0) { q with wrong := re, req := false, me := ⟨#[]⟩, ta := ⟨#[]⟩, minor := 0, status := 0 } rfl rfl rfl).set 11 (.string ⟨#[]⟩) { q with wrong := re, req := false, me := ⟨#[]⟩, ta := ⟨#[]⟩, minor := 0, status := 0, re := ⟨#[]⟩ } rfl rfl rfl).nilF)
  have K4 := hide (((((((K3.out.trans (PKh.set _ g 6 (.bool false) lv1 fv1)).trans (PKh.set _ g 7 (.string ⟨#[]⟩) lv1 fv1)).trans (PKh.set _ g 8 (.string ⟨#[]⟩) lv1 fv1)).trans (PKh.set _ g 9 (.int .i64 0) lv1 fv1)).trans (PKh.set _ g 10 (.int .i64 0) lv1 fv1)).trans (PKh.set _ g 11 (.string ⟨#[]⟩) lv1 fv1)).trans (PKh.nilF _ g 12 (.slice none 0 0) lv1 fv1))
  generalize (((((((y1.setCell ⟨g, 6, none⟩ (.bool false)).setCell ⟨g, 7, none⟩ (.string ⟨#[]⟩)).setCell ⟨g, 8, none⟩ (.string ⟨#[]⟩)).setCell ⟨g, 9, none⟩ (.int .i64 0)).setCell ⟨g, 10, none⟩ (.int .i64 0)).setCell ⟨g, 11, none⟩ (.string ⟨#[]⟩)).setCell ⟨g, 12, none⟩ (.slice none 0 0)) = y2 at P4 K4 ⊢
  clear d6 d7 d8 d9 d10 d11 d12 f6 f7 f8 f9 f10 f11 f12 t0 P3 K3 TB3
  have c13 : y2.cell? ⟨g, 13, none⟩ = some (.bool q.whole) := P4.out.cell 13
  have c14 : y2.cell? ⟨g, 14, none⟩ = some (.int .i64 (re : Int)) := P4.out.cell 14
  have c2 : y2.cell? ⟨g, 2, none⟩ = some lv1 := P4.out.cell 2
  have f2 : y2.frozen? ⟨g, 2, none⟩ = false := P4.out.froz 2
  cases hw : q.whole with
  | true =>
    rw [hw] at c13
    go_upto_region 12 with fail
    have P5 := hide P4.out.nilL
    have K5 := hide (K4.out.trans (PKh.nilL y2 g 2 (.slice none 0 0) lv1 (.slice none 0 0)))
    generalize y2.setCell ⟨g, 2, none⟩ (.slice none 0 0) = y3 at P5 K5 ⊢
    clear c13 c14 c2 f2 P4 K4
    have c13 : y3.cell? ⟨g, 13, none⟩ = some (.bool true) := by have := P5.out.cell 13; rw [← hw]; exact this
    have c14 : y3.cell? ⟨g, 14, none⟩ = some (.int .i64 (re : Int)) := P5.out.cell 14
    have HW := hide hw
    clear hw
    refine wp_region_cl (by kernel_rfl) (by kernel_rfl) ?_
    refine cl_move _ (by kernel_rfl) rfl ?_
    simp only [Act.put, List.setIfInBounds_toArray, List.set_cons_zero, List.set_cons_succ]
    refine cl_move _ (by kernel_rfl) rfl ?_
    simp only [Act.put, List.setIfInBounds_toArray, List.set_cons_zero, List.set_cons_succ]
    refine cl_val (v := ?_) (by kernel_rfl) (fun W hW => ?_) ?_
    rotate_left
    · unfold Oper.quietAt; go_simp; try with_reducible rfl
    simp only [Act.put, List.setIfInBounds_toArray, List.set_cons_zero, List.set_cons_succ]
    refine cl_val (v := ?_) (by kernel_rfl) (fun W hW => ?_) ?_
    rotate_left
    · unfold Oper.quietAt; go_simp; try with_reducible rfl
    simp only [Act.put, List.setIfInBounds_toArray, List.set_cons_zero, List.set_cons_succ]
    refine cl_val (v := ?_) (by kernel_rfl) (fun W hW => ?_) ?_
    rotate_left
    · have l0 := hW.cell c13; unfold Oper.quietAt; go_simp; try with_reducible rfl
    simp only [Act.put, List.setIfInBounds_toArray, List.set_cons_zero, List.set_cons_succ]
    refine cl_move _ (by kernel_rfl) rfl ?_
    simp only [Act.put, List.setIfInBounds_toArray, List.set_cons_zero, List.set_cons_succ]
    refine cl_val (v := ?_) (by kernel_rfl) (fun W hW => ?_) ?_
    rotate_left
    · unfold Oper.quietAt; go_simp; try with_reducible rfl
    simp only [Act.put, List.setIfInBounds_toArray, List.set_cons_zero, List.set_cons_succ]
    refine cl_val (v := ?_) (by kernel_rfl) (fun W hW => ?_) ?_
    rotate_left
    · unfold Oper.quietAt; go_simp; try with_reducible rfl
    simp only [Act.put, List.setIfInBounds_toArray, List.set_cons_zero, List.set_cons_succ]
    refine cl_val (v := ?_) (by kernel_rfl) (fun W hW => ?_) ?_
    rotate_left
    · have l0 := hW.cell c14; unfold Oper.quietAt; go_simp; try with_reducible rfl
    simp only [Act.put, List.setIfInBounds_toArray, List.set_cons_zero, List.set_cons_succ]
    refine cl_assign _ (by kernel_rfl) rfl ?_
    simp only [Act.put, List.setIfInBounds_toArray, List.set_cons_zero, List.set_cons_succ]
    refine cl_assign _ (by kernel_rfl) rfl ?_
    simp only [Act.put, List.setIfInBounds_toArray, List.set_cons_zero, List.set_cons_succ]
    refine cl_assign _ (by kernel_rfl) rfl ?_
    simp only [Act.put, List.setIfInBounds_toArray, List.set_cons_zero, List.set_cons_succ]
    refine wpQuiet_nil ?_
    intro u Hu
    go_wp2
    go_ret3
    exact ⟨by first | rfl | (rw [HW.out]; rfl), _, _, P5.out.below Hu.out, K5.out.trans (PKh.of_below g _ _ Hu.out)⟩
  | false =>
    rw [hw] at c13
    go_upto_region 12 with fail
    have P5 := hide P4.out.nilL
    have K5 := hide (K4.out.trans (PKh.nilL y2 g 2 (.slice none 0 0) lv1 (.slice none 0 0)))
    generalize y2.setCell ⟨g, 2, none⟩ (.slice none 0 0) = y3 at P5 K5 ⊢
    clear c13 c14 c2 f2 P4 K4
    have c13 : y3.cell? ⟨g, 13, none⟩ = some (.bool false) := by have := P5.out.cell 13; rw [← hw]; exact this
    have c14 : y3.cell? ⟨g, 14, none⟩ = some (.int .i64 (re : Int)) := P5.out.cell 14
    have HW := hide hw
    clear hw
    refine wp_region_cl (by kernel_rfl) (by kernel_rfl) ?_
    refine cl_move _ (by kernel_rfl) rfl ?_
    simp only [Act.put, List.setIfInBounds_toArray, List.set_cons_zero, List.set_cons_succ]
    refine cl_move _ (by kernel_rfl) rfl ?_
    simp only [Act.put, List.setIfInBounds_toArray, List.set_cons_zero, List.set_cons_succ]
    refine cl_val (v := ?_) (by kernel_rfl) (fun W hW => ?_) ?_
    rotate_left
    · unfold Oper.quietAt; go_simp; try with_reducible rfl
    simp only [Act.put, List.setIfInBounds_toArray, List.set_cons_zero, List.set_cons_succ]
    refine cl_val (v := ?_) (by kernel_rfl) (fun W hW => ?_) ?_
    rotate_left
    · unfold Oper.quietAt; go_simp; try with_reducible rfl
    simp only [Act.put, List.setIfInBounds_toArray, List.set_cons_zero, List.set_cons_succ]
    refine cl_val (v := ?_) (by kernel_rfl) (fun W hW => ?_) ?_
    rotate_left
    · have l0 := hW.cell c13; unfold Oper.quietAt; go_simp; try with_reducible rfl
    simp only [Act.put, List.setIfInBounds_toArray, List.set_cons_zero, List.set_cons_succ]
    refine cl_move _ (by kernel_rfl) rfl ?_
    simp only [Act.put, List.setIfInBounds_toArray, List.set_cons_zero, List.set_cons_succ]
    refine cl_val (v := ?_) (by kernel_rfl) (fun W hW => ?_) ?_
    rotate_left
    · unfold Oper.quietAt; go_simp; try with_reducible rfl
    simp only [Act.put, List.setIfInBounds_toArray, List.set_cons_zero, List.set_cons_succ]
    refine cl_val (v := ?_) (by kernel_rfl) (fun W hW => ?_) ?_
    rotate_left
    · unfold Oper.quietAt; go_simp; try with_reducible rfl
    simp only [Act.put, List.setIfInBounds_toArray, List.set_cons_zero, List.set_cons_succ]
    refine cl_val (v := ?_) (by kernel_rfl) (fun W hW => ?_) ?_
    rotate_left
    · have l0 := hW.cell c14; unfold Oper.quietAt; go_simp; try with_reducible rfl
    simp only [Act.put, List.setIfInBounds_toArray, List.set_cons_zero, List.set_cons_succ]
    refine cl_assign _ (by kernel_rfl) rfl ?_
    simp only [Act.put, List.setIfInBounds_toArray, List.set_cons_zero, List.set_cons_succ]
    refine cl_assign _ (by kernel_rfl) rfl ?_
    simp only [Act.put, List.setIfInBounds_toArray, List.set_cons_zero, List.set_cons_succ]
    refine cl_assign _ (by kernel_rfl) rfl ?_
    simp only [Act.put, List.setIfInBounds_toArray, List.set_cons_zero, List.set_cons_succ]
    refine wpQuiet_nil ?_
    intro u Hu
    go_wp2
    go_ret3
    exact ⟨by first | rfl | (rw [HW.out]; rfl), _, _, P5.out.below Hu.out, K5.out.trans (PKh.of_below g _ _ Hu.out)⟩
end Go.Proofs.YtcagjipdldlehaaGreatDoor
