/- BodyExact, walked. -/
import Derived.Test.YtggeihahbgeneaaDoorBSay
import Derived.Deep.RegionHeld3
namespace Go.Proofs.YtggeihahbgeneaaDoor
open Go.ChangeShapes Go.WideShapes Go.ChangeAt Go.RowKit

theorem new_bad1 (k len : Int) (x : Bool) (most : Int) (w : World) (h : isR k len = false) : Calls Tryd.prog 8 #[frV k len x, .int .i64 most] w fun e w' => e = .returned (.tuple #[.pointer none, .int .i64 1]) ∧ Below w.heap.size w w' := by
  have HI := hide (fun W => isRight_any k len x W)
  rw [h] at HI
  clear h
  unfold frV at HI ⊢
  go_enter Tryd.func8, Tryd.ntmps8
  have BA := hide ((Below.refl w.heap.size w).alloc (Nat.le_refl _) (.cells #[.int .i64 k, .int .i64 len, .bool x] 23))
  have HB := hide (hp_new w (.cells #[.int .i64 k, .int .i64 len, .bool x] 23))
  go_upto_region 1 with fail
  generalize w.alloc (.cells #[.int .i64 k, .int .i64 len, .bool x] 23) = W0 at BA HB ⊢
  have c0 : W0.cell? ⟨w.heap.size, 0, none⟩ = some (.int .i64 k) := cell_at HB.out 0
  have c1 : W0.cell? ⟨w.heap.size, 1, none⟩ = some (.int .i64 len) := cell_at HB.out 1
  have c2 : W0.cell? ⟨w.heap.size, 2, none⟩ = some (.bool x) := cell_at HB.out 2
  go_wp2_with fail
  refine (HI.out W0).mono ?_
  rintro e W1 ⟨rfl, b1⟩
  have B1 := hide (BA.out.trans (b1.mono BA.out.size))
  clear c0 c1 c2 b1 HI
  go_wp2
  go_ret2
  exact ⟨rfl, B1.out⟩
theorem new_long (k len : Int) (x : Bool) (most : Int) (w : World) (h : isR k len = true) (h0 : 0 ≤ most) (hm : most ≤ 9007199254740992) (hl : most < len) : Calls Tryd.prog 8 #[frV k len x, .int .i64 most] w fun e w' => e = .returned (.tuple #[.pointer none, .int .i64 2]) ∧ Below w.heap.size w w' := by
  have HI := hide (fun W => isRight_any k len x W)
  rw [h] at HI
  have t1 : ¬ most < 0 := by omega
  have t2 : ¬ 9007199254740992 < most := by omega
  clear h
  unfold frV at HI ⊢
  go_enter Tryd.func8, Tryd.ntmps8
  have BA := hide ((Below.refl w.heap.size w).alloc (Nat.le_refl _) (.cells #[.int .i64 k, .int .i64 len, .bool x] 23))
  have HB := hide (hp_new w (.cells #[.int .i64 k, .int .i64 len, .bool x] 23))
  have HLT := lt_heap' HB.out
  go_upto_region 1 with fail
  generalize w.alloc (.cells #[.int .i64 k, .int .i64 len, .bool x] 23) = W0 at BA HB HLT ⊢
  have c0 : W0.cell? ⟨w.heap.size, 0, none⟩ = some (.int .i64 k) := cell_at HB.out 0
  have c1 : W0.cell? ⟨w.heap.size, 1, none⟩ = some (.int .i64 len) := cell_at HB.out 1
  have c2 : W0.cell? ⟨w.heap.size, 2, none⟩ = some (.bool x) := cell_at HB.out 2
  go_wp2_with fail
  refine (HI.out W0).mono ?_
  rintro e W1 ⟨rfl, b1⟩
  have B1 := hide (BA.out.trans (b1.mono BA.out.size))
  have HB1 := hide ((b1.block w.heap.size HLT).trans HB.out)
  clear c0 c1 c2 b1 HI
  have c1 : W1.cell? ⟨w.heap.size, 1, none⟩ = some (.int .i64 len) := cell_at HB1.out 1
  go_wp2
  go_ret2
  exact ⟨rfl, B1.out⟩
theorem Bs.text {w : World} {base : Nat} {v : Value} {l : List UInt8} (h : Bs w base v l) : (convert 31 9 v).run Tryd.prog w = .ok (.string ⟨l.toArray⟩) w := by
  obtain ⟨a, c, rfl, _, hx⟩ := h
  cases l with
  | nil =>
    cases a with
    | none => exact run_convert_bytes_nil w 31 5 Tryd.underlying31 Tryd.underlying5 0 c 9 Tryd.underlying9
    | some ad => exact run_convert_bytes_back w 31 9 5 ad c [] Tryd.underlying31 Tryd.underlying5 Tryd.underlying9 (fun j hj => by simp at hj)
  | cons y r =>
    obtain ⟨g, o, rfl, _, _, _⟩ := hx 0 (by simp)
    refine run_convert_bytes_back w 31 9 5 ⟨g, o, none⟩ c (y :: r) Tryd.underlying31 Tryd.underlying5 Tryd.underlying9 (fun j hj => ?_)
    obtain ⟨g', o', h1, _, _, h4⟩ := hx j hj
    simp only [Option.some.injEq, Addr.mk.injEq] at h1
    obtain ⟨rfl, rfl, _⟩ := h1
    have e : (⟨g, o, none⟩ : Addr).add j = ⟨g, o + j, none⟩ := by unfold Addr.add; split <;> simp_all
    rw [e]
    exact h4
theorem Bs.takeB {w : World} {base : Nat} {a : Option Addr} {m c : Nat} {l : List UInt8} (h : Bs w base (.slice a m c) l) (k : Nat) (hk : k ≤ l.length) : Bs w base (.slice a k c) (l.take k) := by
  obtain ⟨a', c', he, hc, h⟩ := h
  simp only [Value.slice.injEq] at he
  obtain ⟨rfl, rfl, rfl⟩ := he
  have hkl : (l.take k).length = k := by rw [List.length_take]; omega
  refine ⟨a, c, by rw [hkl], by rw [hkl]; omega, fun j hj => ?_⟩
  rw [hkl] at hj
  obtain ⟨g, o, h1, h2, h3, h4⟩ := h j (by omega)
  exact ⟨g, o, h1, h2, h3, by rw [h4]; simp⟩
theorem exact_bad (len : Int) (a : Option Addr) (n c : Nat) (w : World) (h : len < 0 ∨ 100000 < len) :
    Calls Tryd.prog 4 #[.int .i64 len, .slice a n c] w fun e w' => e = .returned (.bool true) ∧ Below w.heap.size w w' := by
  have HN : Hid (∃ er : Int, er ≠ 0 ∧ Calls Tryd.prog 8 #[frV 2 len false, .int .i64 100000] w fun e w' => e = .returned (.tuple #[.pointer none, .int .i64 er]) ∧ Below w.heap.size w w') := hide (by
    by_cases h1 : 0 ≤ len ∧ len ≤ 9007199254740992
    · exact ⟨2, by decide, new_long 2 len false 100000 w (by unfold isR; rw [if_pos rfl]; exact decide_eq_true h1) (by decide) (by decide) (by omega)⟩
    · exact ⟨1, by decide, new_bad1 2 len false 100000 w (by unfold isR; rw [if_pos rfl]; exact decide_eq_false h1)⟩)
  obtain ⟨er, he, hn⟩ := HN.out
  have te : (er != 0) = true := bne_iff_ne.2 he
  have HN2 := hide hn
  unfold frV at HN2
  clear hn HN
  rcases h with h | h
  · have t1 : len < 0 := h
    clear h he
    go_enter Tryd.func4, Tryd.ntmps4
    go_wp2_with fail
    refine HN2.out.mono ?_
    rintro e w1 ⟨rfl, b1⟩
    have B1 := hide b1
    clear b1
    go_wp2_with fail
    refine (speaks_any w1).mono ?_
    rintro e w2 ⟨rfl, b2⟩
    have B2 := hide (B1.out.trans (b2.mono B1.out.size))
    clear b2
    go_wp2
    go_ret
    exact ⟨rfl, B2.out⟩
  · have t1 : ¬ len < 0 := by omega
    have t2 : 100000 < len := h
    clear h he
    go_enter Tryd.func4, Tryd.ntmps4
    go_wp2_with fail
    refine HN2.out.mono ?_
    rintro e w1 ⟨rfl, b1⟩
    have B1 := hide b1
    clear b1
    go_wp2_with fail
    refine (speaks_any w1).mono ?_
    rintro e w2 ⟨rfl, b2⟩
    have B2 := hide (B1.out.trans (b2.mono B1.out.size))
    clear b2
    go_wp2
    go_ret
    exact ⟨rfl, B2.out⟩
set_option maxHeartbeats 16000000 in
set_option maxRecDepth 100000 in
theorem exact_walk (len : Int) (v : Value) (b : List UInt8) (w : World) (hB : Bs w w.heap.size v b) (hS : Shp v) (hl : b.length ≤ 140737488355328) :
    Calls Tryd.prog 4 #[.int .i64 len, v] w fun e w' => e = .returned (.bool true) ∧ Below w.heap.size w w' := by
  have HB := hide hB
  have HSH := hide hS
  obtain ⟨va, vc, rfl, hvc, _⟩ := hB
  by_cases hbad : len < 0 ∨ 100000 < len
  · exact exact_bad len va b.length vc w hbad
  obtain ⟨L, rfl⟩ := Int.eq_ofNat_of_zero_le (show 0 ≤ len by omega)
  have hL : L ≤ 100000 := by omega
  clear hbad hS
  have HN := hide (new_of (w := w) (k := 2) (len := (L : Int)) (x := false) (most := 100000) (.inl rfl) (by decide) (by decide) (by unfold isR; rw [if_pos rfl]; exact decide_eq_true (by omega)) (by omega) (fun W => framed_len L false 100000 W))
  unfold frV at HN
  go_enter Tryd.func4, Tryd.ntmps4
  go_wp2_with fail
  refine HN.out.mono ?_
  rintro e w1 ⟨gr, g, rfl, hgr, hg, b1, hO1, hR1⟩
  have B1 := hide b1
  have HO1 := hide hO1
  have HR1 := hide hR1
  have HB1 := hide (HB.out.below b1.size b1)
  clear b1 hO1 hR1 HN
  obtain ⟨k, hk⟩ : ∃ k, min b.length L = k := ⟨_, rfl⟩
  by_cases hL0 : L = 0
  · subst hL0
    obtain ⟨g1, hg1, hr1⟩ := HO1.out rfl
    have HFD := hide (feed_over hr1 B1.out.size va b.length vc)
    have tbl : ¬ (b.length : Int) < 0 := by omega
    clear HO1 HR1 hk k
    go_wp2_with fail
    refine HFD.out.mono ?_
    rintro e w2 ⟨rfl, hf2⟩
    have k2 := hf2.2.2
    obtain ⟨g2, hg2, hr2⟩ := hf2.1 rfl
    have hz2 := k2.size
    have hz1 := B1.out.size
    have B2 := hide (B1.out.trans (k2.low (base := w.heap.size) hgr (by omega) B1.out.size))
    have HRD := hide hr2
    have HB2 := hide (HB.out.below B2.out.size B2.out)
    have CV1 : Hid (∀ W, Below w2.heap.size w2 W → (convert 31 9 (.slice none 0 0)).run Tryd.prog W = .ok (.string ⟨#[]⟩) W) := hide (fun W _ => (Bs.text (base := 0) (l := []) ⟨none, 0, rfl, Nat.le_refl _, fun j hj => by simp at hj⟩))
    have CV2 : Hid (∀ W, Below w2.heap.size w2 W → (convert 31 9 (.slice va 0 vc)).run Tryd.prog W = .ok (.string ⟨#[]⟩) W) := hide (fun W h => (Bs.text ((HB2.out.below h.size h).takeB 0 (Nat.zero_le _))))
    have HED := hide (end_over (HRD.out.below ((Below.refl _ _).drew)) (by show _ ≤ w2.heap.size; omega))
    clear hf2 k2 hr1 hr2 HFD HB1 HB2
    go_upto_region 5 with fail
    have cS : Below w2.heap.size w2 w2.drew := (Below.refl w2.heap.size w2).drew
    refine wp_region_noPanic ?_
    refine wp_region_held_drew (S := fun W => Below w2.heap.size w2 W) (by kernel_rfl) cS (fun hHeld => ?_)
    refine wpAnyH_take (i := 0) (v := ?_) rfl (by kernel_rfl) (by kernel_rfl) (by kernel_rfl) (fun _ _ _ h => h) (Or.inl ⟨by rfl, ?_⟩) (by assumption) ?_
    rotate_left
    · (intro W hSw; (try dsimp only at hSw); go_simp; try with_reducible rfl)
    simp only [List.getElem_toArray, List.getElem_cons_zero, Act.put, List.setIfInBounds_toArray, List.set_cons_zero, List.set_cons_succ]
    refine wpAnyH_take (i := 1) (v := .bool false) rfl (by kernel_rfl) (by kernel_rfl) (by kernel_rfl) (fun _ _ _ h => h) (Or.inl ⟨by rfl, ?_⟩) (by assumption) ?_
    · (intro W hSw; go_simp)
    simp only [List.getElem_toArray, List.getElem_cons_zero, List.getElem_cons_succ, Act.put, List.setIfInBounds_toArray, List.set_cons_zero, List.set_cons_succ]
    refine wpAnyH_take (i := 2) (v := ?_) rfl (by kernel_rfl) (by kernel_rfl) (by kernel_rfl) (fun _ _ _ h => h) (Or.inl ⟨by rfl, ?_⟩) (by assumption) ?_
    rotate_left
    · (intro W hSw; (try dsimp only at hSw); go_simp; try with_reducible rfl)
    simp only [List.getElem_toArray, List.getElem_cons_zero, List.getElem_cons_succ, Act.put, List.setIfInBounds_toArray, List.set_cons_zero, List.set_cons_succ]
    refine wpAnyH_take (i := 3) (v := ?_) rfl (by kernel_rfl) (by kernel_rfl) (by kernel_rfl) (fun _ _ _ h => h) (Or.inl ⟨by rfl, ?_⟩) (by assumption) ?_
    rotate_left
    · (intro W hSw; (try dsimp only at hSw); go_simp; try with_reducible rfl)
    simp only [List.getElem_toArray, List.getElem_cons_zero, List.getElem_cons_succ, Act.put, List.setIfInBounds_toArray, List.set_cons_zero, List.set_cons_succ]
    refine wpAnyH_take (i := 4) (v := ?_) rfl (by kernel_rfl) (by kernel_rfl) (by kernel_rfl) (fun _ _ _ h => h) (Or.inl ⟨by rfl, ?_⟩) (by assumption) ?_
    rotate_left
    · (intro W hSw; (try dsimp only at hSw); go_simp; try with_reducible rfl)
    simp only [List.getElem_toArray, List.getElem_cons_zero, List.getElem_cons_succ, Act.put, List.setIfInBounds_toArray, List.set_cons_zero, List.set_cons_succ]
    refine wpAnyH_take (i := 5) (v := ?_) rfl (by kernel_rfl) (by kernel_rfl) (by kernel_rfl) (fun _ _ _ h => h) (Or.inl ⟨by rfl, ?_⟩) (by assumption) ?_
    rotate_left
    · (intro W hSw; (try dsimp only at hSw); go_simp; try with_reducible rfl)
    simp only [List.getElem_toArray, List.getElem_cons_zero, List.getElem_cons_succ, Act.put, List.setIfInBounds_toArray, List.set_cons_zero, List.set_cons_succ]
    refine wpAnyH_take (i := 6) (v := .bool false) rfl (by kernel_rfl) (by kernel_rfl) (by kernel_rfl) (fun _ _ _ h => h) (Or.inl ⟨by rfl, ?_⟩) (by assumption) ?_
    · (intro W hSw; go_simp)
    simp only [List.getElem_toArray, List.getElem_cons_zero, List.getElem_cons_succ, Act.put, List.setIfInBounds_toArray, List.set_cons_zero, List.set_cons_succ]
    refine wpAnyH_take (i := 7) (v := ?_) rfl (by kernel_rfl) (by kernel_rfl) (by kernel_rfl) (fun _ _ _ h => h) (Or.inl ⟨by rfl, ?_⟩) (by assumption) ?_
    rotate_left
    · (intro W hSw; (try dsimp only at hSw); go_simp; try with_reducible rfl)
    simp only [List.getElem_toArray, List.getElem_cons_zero, List.getElem_cons_succ, Act.put, List.setIfInBounds_toArray, List.set_cons_zero, List.set_cons_succ]
    refine wpAnyH_take (i := 8) (v := ?_) rfl (by kernel_rfl) (by kernel_rfl) (by kernel_rfl) (fun _ _ _ h => h) (Or.inl ⟨by rfl, ?_⟩) (by assumption) ?_
    rotate_left
    · (intro W hSw; (try dsimp only at hSw); go_simp; try with_reducible rfl)
    simp only [List.getElem_toArray, List.getElem_cons_zero, List.getElem_cons_succ, Act.put, List.setIfInBounds_toArray, List.set_cons_zero, List.set_cons_succ]
    refine wpAnyH_take (i := 9) (v := ?_) rfl (by kernel_rfl) (by kernel_rfl) (by kernel_rfl) (fun _ _ _ h => h) (Or.inl ⟨by rfl, ?_⟩) (by assumption) ?_
    rotate_left
    · (intro W hSw; (try dsimp only at hSw); go_simp; try with_reducible rfl)
    simp only [List.getElem_toArray, List.getElem_cons_zero, List.getElem_cons_succ, Act.put, List.setIfInBounds_toArray, List.set_cons_zero, List.set_cons_succ]
    refine wpAnyH_take (i := 10) (v := ?_) rfl (by kernel_rfl) (by kernel_rfl) (by kernel_rfl) (fun _ _ _ h => h) (Or.inl ⟨by rfl, ?_⟩) (by assumption) ?_
    rotate_left
    · (intro W hSw; have hc := CV1.out W hSw; go_simp; try with_reducible rfl)
    simp only [List.getElem_toArray, List.getElem_cons_zero, List.getElem_cons_succ, Act.put, List.setIfInBounds_toArray, List.set_cons_zero, List.set_cons_succ]
    refine wpAnyH_take (i := 11) (v := ?_) rfl (by kernel_rfl) (by kernel_rfl) (by kernel_rfl) (fun _ _ _ h => h) (Or.inl ⟨by rfl, ?_⟩) (by assumption) ?_
    rotate_left
    · (intro W hSw; (try dsimp only at hSw); go_simp; try with_reducible rfl)
    simp only [List.getElem_toArray, List.getElem_cons_zero, List.getElem_cons_succ, Act.put, List.setIfInBounds_toArray, List.set_cons_zero, List.set_cons_succ]
    refine wpAnyH_take (i := 12) (v := ?_) rfl (by kernel_rfl) (by kernel_rfl) (by kernel_rfl) (fun _ _ _ h => h) (Or.inl ⟨by rfl, ?_⟩) (by assumption) ?_
    rotate_left
    · (intro W hSw; (try dsimp only at hSw); go_simp; try with_reducible rfl)
    simp only [List.getElem_toArray, List.getElem_cons_zero, List.getElem_cons_succ, Act.put, List.setIfInBounds_toArray, List.set_cons_zero, List.set_cons_succ]
    refine wpAnyH_take (i := 13) (v := ?_) rfl (by kernel_rfl) (by kernel_rfl) (by kernel_rfl) (fun _ _ _ h => h) (Or.inl ⟨by rfl, ?_⟩) (by assumption) ?_
    rotate_left
    · (intro W hSw; (try dsimp only at hSw); go_simp; try with_reducible rfl)
    simp only [List.getElem_toArray, List.getElem_cons_zero, List.getElem_cons_succ, Act.put, List.setIfInBounds_toArray, List.set_cons_zero, List.set_cons_succ]
    refine wpAnyH_take (i := 14) (v := ?_) rfl (by kernel_rfl) (by kernel_rfl) (by kernel_rfl) (fun _ _ _ h => h) (Or.inl ⟨by rfl, ?_⟩) (by assumption) ?_
    rotate_left
    · (intro W hSw; have hc := CV2.out W hSw; go_simp; try with_reducible rfl)
    simp only [List.getElem_toArray, List.getElem_cons_zero, List.getElem_cons_succ, Act.put, List.setIfInBounds_toArray, List.set_cons_zero, List.set_cons_succ]
    refine wpAnyH_take (i := 15) (v := .bool false) rfl (by kernel_rfl) (by kernel_rfl) (by kernel_rfl) (fun _ _ _ h => h) (Or.inl ⟨by rfl, ?_⟩) (by assumption) ?_
    · (intro W hSw; go_simp)
    simp only [List.getElem_toArray, List.getElem_cons_zero, List.getElem_cons_succ, Act.put, List.setIfInBounds_toArray, List.set_cons_zero, List.set_cons_succ]
    refine wpAnyH_take (i := 16) (v := ?_) rfl (by kernel_rfl) (by kernel_rfl) (by kernel_rfl) (fun _ _ _ h => h) (Or.inl ⟨by rfl, ?_⟩) (by assumption) ?_
    rotate_left
    · (intro W hSw; (try dsimp only at hSw); go_simp; try with_reducible rfl)
    simp only [List.getElem_toArray, List.getElem_cons_zero, List.getElem_cons_succ, Act.put, List.setIfInBounds_toArray, List.set_cons_zero, List.set_cons_succ]
    refine wpAnyH_done (by kernel_rfl) ?_ _
    clear hHeld cS
    refine NoPanic.normal ?_
    go_wp2_with fail
    refine HED.out.mono ?_
    rintro e w3 ⟨rfl, hf3⟩
    have B2 := hide (B2.out.trans (((Below.refl w2.heap.size w2).drew).mono B2.out.size))
    have k3 := hf3.2.2
    have B3 := hide (B2.out.trans (k3.low (base := w.heap.size) hgr (by omega) B2.out.size))
    clear hf3 k3
    go_wp2_with fail
    refine (speaks_any w3).mono ?_
    rintro e w4 ⟨rfl, b4⟩
    have B4 := hide (B3.out.trans (b4.mono B3.out.size))
    clear b4
    go_wp2
    go_ret
    exact ⟨rfl, B4.out⟩
  · by_cases hbl : b.length < L
    · have hr1 := HR1.out (by simp [overT, hL0])
      have HFD := hide (feed_meas (L := L) hr1 B1.out.size (.slice va b.length vc) b HB1.out HSH.out (by omega) (Nat.zero_le _) (by omega))
      have hkd : tkN b L 0 = k := by unfold tkN; omega
      have e0 : (0 : Nat) + k = k := Nat.zero_add k
      dsimp only at HFD
      rw [hkd, e0] at HFD
      have hkb : k = b.length := by omega
      have hov : overT ⟨k, decide (k = L), 0⟩ = false := by simp [overT]; omega
      have tbl : (b.length : Int) < (L : Int) := by omega
      have hnl : decide (k = L) = false := decide_eq_false (by omega)
      have hkl : k ≤ b.length := by omega
      have hkv : k ≤ vc := by omega
      rw [hnl] at HFD hov
      have HKB := hide hkb
      have HOV := hide hov
      clear HO1 HR1 hk hkd e0 hov hnl hkb hbl
      go_wp2_with fail
      refine HFD.out.mono ?_
      rintro e w2 ⟨ua, uc, rfl, hr5, hf2⟩
      have k2 := hf2.2.2
      have hz2 := k2.size
      have hz1 := B1.out.size
      have B2 := hide (B1.out.trans (k2.low (base := w.heap.size) hgr hg B1.out.size))
      have HB2 := hide (HB.out.below B2.out.size B2.out)
      have R2 := hide hr5
      have CV1 : Hid (∀ W, Below w2.heap.size w2 W → (convert 31 9 (.slice ua k uc)).run Tryd.prog W = .ok (.string ⟨(b.take k).toArray⟩) W) := hide (fun W h => (R2.out.below h).text)
      have CV2 : Hid (∀ W, Below w2.heap.size w2 W → (convert 31 9 (.slice va k vc)).run Tryd.prog W = .ok (.string ⟨(b.take k).toArray⟩) W) := hide (fun W h => (Bs.text ((HB2.out.below h.size h).takeB k hkl)))
      have HED := hide (end_meas ((hf2.2.1 HOV.out).below ((Below.refl _ _).drew)) (by show _ ≤ w2.heap.size; omega))
      have hgx := hg
      generalize (⟨(b.take k).toArray⟩ : ByteArray) = so at CV1 CV2
      clear hf2 k2 hr5 hr1 HFD HB1 HB2 R2
      go_upto_region 5 with fail
      have cS : Below w2.heap.size w2 w2.drew := (Below.refl w2.heap.size w2).drew
      refine wp_region_noPanic ?_
      refine wp_region_held_drew (S := fun W => Below w2.heap.size w2 W) (by kernel_rfl) cS (fun hHeld => ?_)
      refine wpAnyH_take (i := 0) (v := ?_) rfl (by kernel_rfl) (by kernel_rfl) (by kernel_rfl) (fun _ _ _ h => h) (Or.inl ⟨by rfl, ?_⟩) (by assumption) ?_
      rotate_left
      · (intro W hSw; (try dsimp only at hSw); go_simp; try with_reducible rfl)
      simp only [List.getElem_toArray, List.getElem_cons_zero, Act.put, List.setIfInBounds_toArray, List.set_cons_zero, List.set_cons_succ]
      refine wpAnyH_take (i := 1) (v := .bool false) rfl (by kernel_rfl) (by kernel_rfl) (by kernel_rfl) (fun _ _ _ h => h) (Or.inl ⟨by rfl, ?_⟩) (by assumption) ?_
      · (intro W hSw; go_simp)
      simp only [List.getElem_toArray, List.getElem_cons_zero, List.getElem_cons_succ, Act.put, List.setIfInBounds_toArray, List.set_cons_zero, List.set_cons_succ]
      refine wpAnyH_take (i := 2) (v := ?_) rfl (by kernel_rfl) (by kernel_rfl) (by kernel_rfl) (fun _ _ _ h => h) (Or.inl ⟨by rfl, ?_⟩) (by assumption) ?_
      rotate_left
      · (intro W hSw; (try dsimp only at hSw); go_simp; try with_reducible rfl)
      simp only [List.getElem_toArray, List.getElem_cons_zero, List.getElem_cons_succ, Act.put, List.setIfInBounds_toArray, List.set_cons_zero, List.set_cons_succ]
      refine wpAnyH_take (i := 3) (v := ?_) rfl (by kernel_rfl) (by kernel_rfl) (by kernel_rfl) (fun _ _ _ h => h) (Or.inl ⟨by rfl, ?_⟩) (by assumption) ?_
      rotate_left
      · (intro W hSw; (try dsimp only at hSw); go_simp; try with_reducible rfl)
      simp only [List.getElem_toArray, List.getElem_cons_zero, List.getElem_cons_succ, Act.put, List.setIfInBounds_toArray, List.set_cons_zero, List.set_cons_succ]
      refine wpAnyH_take (i := 4) (v := ?_) rfl (by kernel_rfl) (by kernel_rfl) (by kernel_rfl) (fun _ _ _ h => h) (Or.inl ⟨by rfl, ?_⟩) (by assumption) ?_
      rotate_left
      · (intro W hSw; (try dsimp only at hSw); go_simp; try with_reducible rfl)
      simp only [List.getElem_toArray, List.getElem_cons_zero, List.getElem_cons_succ, Act.put, List.setIfInBounds_toArray, List.set_cons_zero, List.set_cons_succ]
      refine wpAnyH_take (i := 5) (v := ?_) rfl (by kernel_rfl) (by kernel_rfl) (by kernel_rfl) (fun _ _ _ h => h) (Or.inl ⟨by rfl, ?_⟩) (by assumption) ?_
      rotate_left
      · (intro W hSw; (try dsimp only at hSw); go_simp; try with_reducible rfl)
      simp only [List.getElem_toArray, List.getElem_cons_zero, List.getElem_cons_succ, Act.put, List.setIfInBounds_toArray, List.set_cons_zero, List.set_cons_succ]
      refine wpAnyH_take (i := 6) (v := .bool false) rfl (by kernel_rfl) (by kernel_rfl) (by kernel_rfl) (fun _ _ _ h => h) (Or.inl ⟨by rfl, ?_⟩) (by assumption) ?_
      · (intro W hSw; go_simp)
      simp only [List.getElem_toArray, List.getElem_cons_zero, List.getElem_cons_succ, Act.put, List.setIfInBounds_toArray, List.set_cons_zero, List.set_cons_succ]
      refine wpAnyH_take (i := 7) (v := ?_) rfl (by kernel_rfl) (by kernel_rfl) (by kernel_rfl) (fun _ _ _ h => h) (Or.inl ⟨by rfl, ?_⟩) (by assumption) ?_
      rotate_left
      · (intro W hSw; (try dsimp only at hSw); go_simp; try with_reducible rfl)
      simp only [List.getElem_toArray, List.getElem_cons_zero, List.getElem_cons_succ, Act.put, List.setIfInBounds_toArray, List.set_cons_zero, List.set_cons_succ]
      refine wpAnyH_take (i := 8) (v := ?_) rfl (by kernel_rfl) (by kernel_rfl) (by kernel_rfl) (fun _ _ _ h => h) (Or.inl ⟨by rfl, ?_⟩) (by assumption) ?_
      rotate_left
      · (intro W hSw; (try dsimp only at hSw); go_simp; try with_reducible rfl)
      simp only [List.getElem_toArray, List.getElem_cons_zero, List.getElem_cons_succ, Act.put, List.setIfInBounds_toArray, List.set_cons_zero, List.set_cons_succ]
      refine wpAnyH_take (i := 9) (v := ?_) rfl (by kernel_rfl) (by kernel_rfl) (by kernel_rfl) (fun _ _ _ h => h) (Or.inl ⟨by rfl, ?_⟩) (by assumption) ?_
      rotate_left
      · (intro W hSw; (try dsimp only at hSw); go_simp; try with_reducible rfl)
      simp only [List.getElem_toArray, List.getElem_cons_zero, List.getElem_cons_succ, Act.put, List.setIfInBounds_toArray, List.set_cons_zero, List.set_cons_succ]
      refine wpAnyH_take (i := 10) (v := ?_) rfl (by kernel_rfl) (by kernel_rfl) (by kernel_rfl) (fun _ _ _ h => h) (Or.inl ⟨by rfl, ?_⟩) (by assumption) ?_
      rotate_left
      · (intro W hSw; have hc := CV1.out W hSw; go_simp; try with_reducible rfl)
      simp only [List.getElem_toArray, List.getElem_cons_zero, List.getElem_cons_succ, Act.put, List.setIfInBounds_toArray, List.set_cons_zero, List.set_cons_succ]
      refine wpAnyH_take (i := 11) (v := ?_) rfl (by kernel_rfl) (by kernel_rfl) (by kernel_rfl) (fun _ _ _ h => h) (Or.inl ⟨by rfl, ?_⟩) (by assumption) ?_
      rotate_left
      · (intro W hSw; (try dsimp only at hSw); go_simp; try with_reducible rfl)
      simp only [List.getElem_toArray, List.getElem_cons_zero, List.getElem_cons_succ, Act.put, List.setIfInBounds_toArray, List.set_cons_zero, List.set_cons_succ]
      refine wpAnyH_take (i := 12) (v := ?_) rfl (by kernel_rfl) (by kernel_rfl) (by kernel_rfl) (fun _ _ _ h => h) (Or.inl ⟨by rfl, ?_⟩) (by assumption) ?_
      rotate_left
      · (intro W hSw; (try dsimp only at hSw); go_simp; try with_reducible rfl)
      simp only [List.getElem_toArray, List.getElem_cons_zero, List.getElem_cons_succ, Act.put, List.setIfInBounds_toArray, List.set_cons_zero, List.set_cons_succ]
      refine wpAnyH_take (i := 13) (v := ?_) rfl (by kernel_rfl) (by kernel_rfl) (by kernel_rfl) (fun _ _ _ h => h) (Or.inl ⟨by rfl, ?_⟩) (by assumption) ?_
      rotate_left
      · (intro W hSw; (try dsimp only at hSw); go_simp; try with_reducible rfl)
      simp only [List.getElem_toArray, List.getElem_cons_zero, List.getElem_cons_succ, Act.put, List.setIfInBounds_toArray, List.set_cons_zero, List.set_cons_succ]
      refine wpAnyH_take (i := 14) (v := ?_) rfl (by kernel_rfl) (by kernel_rfl) (by kernel_rfl) (fun _ _ _ h => h) (Or.inl ⟨by rfl, ?_⟩) (by assumption) ?_
      rotate_left
      · (intro W hSw; have hc := CV2.out W hSw; go_simp; try with_reducible rfl)
      simp only [List.getElem_toArray, List.getElem_cons_zero, List.getElem_cons_succ, Act.put, List.setIfInBounds_toArray, List.set_cons_zero, List.set_cons_succ]
      refine wpAnyH_take (i := 15) (v := .bool false) rfl (by kernel_rfl) (by kernel_rfl) (by kernel_rfl) (fun _ _ _ h => h) (Or.inl ⟨by rfl, ?_⟩) (by assumption) ?_
      · (intro W hSw; go_simp)
      simp only [List.getElem_toArray, List.getElem_cons_zero, List.getElem_cons_succ, Act.put, List.setIfInBounds_toArray, List.set_cons_zero, List.set_cons_succ]
      refine wpAnyH_take (i := 16) (v := ?_) rfl (by kernel_rfl) (by kernel_rfl) (by kernel_rfl) (fun _ _ _ h => h) (Or.inl ⟨by rfl, ?_⟩) (by assumption) ?_
      rotate_left
      · (intro W hSw; (try dsimp only at hSw); go_simp; try with_reducible rfl)
      simp only [List.getElem_toArray, List.getElem_cons_zero, List.getElem_cons_succ, Act.put, List.setIfInBounds_toArray, List.set_cons_zero, List.set_cons_succ]
      refine wpAnyH_done (by kernel_rfl) ?_ _
      clear hHeld cS
      refine NoPanic.normal ?_
      have tn : ((k : Int) == (b.length : Int)) = true := by rw [beq_iff_eq]; have := HKB.out; omega
      go_wp2_with fail
      refine HED.out.mono ?_
      rintro e w3 ⟨rfl, hf3⟩
      have B2 := hide (B2.out.trans (((Below.refl w2.heap.size w2).drew).mono B2.out.size))
      have k3 := hf3.2.2
      have B3 := hide (B2.out.trans (k3.low (base := w.heap.size) hgr (by omega) B2.out.size))
      clear hf3 k3
      go_wp2_with fail
      refine (speaks_any w3).mono ?_
      rintro e w4 ⟨rfl, b4⟩
      have B4 := hide (B3.out.trans (b4.mono B3.out.size))
      clear b4
      go_wp2
      go_ret
      exact ⟨rfl, B4.out⟩
    · have hr1 := HR1.out (by simp [overT, hL0])
      have HFD := hide (feed_meas (L := L) hr1 B1.out.size (.slice va b.length vc) b HB1.out HSH.out (by omega) (Nat.zero_le _) (by omega))
      have hkd : tkN b L 0 = k := by unfold tkN; omega
      have e0 : (0 : Nat) + k = k := Nat.zero_add k
      dsimp only at HFD
      rw [hkd, e0] at HFD
      have hkb : k = L := by omega
      have hov : overT ⟨k, decide (k = L), 0⟩ = true := by simp [overT]; omega
      have tbl : ¬ (b.length : Int) < (L : Int) := by omega
      have hnl : decide (k = L) = true := decide_eq_true (by omega)
      have hkl : k ≤ b.length := by omega
      have hkv : k ≤ vc := by omega
      rw [hnl] at HFD hov
      have HKB := hide hkb
      have HOV := hide hov
      clear HO1 HR1 hk hkd e0 hov hnl hkb hbl
      go_wp2_with fail
      refine HFD.out.mono ?_
      rintro e w2 ⟨ua, uc, rfl, hr5, hf2⟩
      have k2 := hf2.2.2
      have hz2 := k2.size
      have hz1 := B1.out.size
      have B2 := hide (B1.out.trans (k2.low (base := w.heap.size) hgr hg B1.out.size))
      have HB2 := hide (HB.out.below B2.out.size B2.out)
      have R2 := hide hr5
      have CV1 : Hid (∀ W, Below w2.heap.size w2 W → (convert 31 9 (.slice ua k uc)).run Tryd.prog W = .ok (.string ⟨(b.take k).toArray⟩) W) := hide (fun W h => (R2.out.below h).text)
      have CV2 : Hid (∀ W, Below w2.heap.size w2 W → (convert 31 9 (.slice va k vc)).run Tryd.prog W = .ok (.string ⟨(b.take k).toArray⟩) W) := hide (fun W h => (Bs.text ((HB2.out.below h.size h).takeB k hkl)))
      obtain ⟨g2, hgx, hr2⟩ := hf2.1 HOV.out
      have HED := hide (end_over (hr2.below ((Below.refl _ _).drew)) (by show _ ≤ w2.heap.size; omega))
      clear hr2
      generalize (⟨(b.take k).toArray⟩ : ByteArray) = so at CV1 CV2
      clear hf2 k2 hr5 hr1 HFD HB1 HB2 R2
      go_upto_region 5 with fail
      have cS : Below w2.heap.size w2 w2.drew := (Below.refl w2.heap.size w2).drew
      refine wp_region_noPanic ?_
      refine wp_region_held_drew (S := fun W => Below w2.heap.size w2 W) (by kernel_rfl) cS (fun hHeld => ?_)
      refine wpAnyH_take (i := 0) (v := ?_) rfl (by kernel_rfl) (by kernel_rfl) (by kernel_rfl) (fun _ _ _ h => h) (Or.inl ⟨by rfl, ?_⟩) (by assumption) ?_
      rotate_left
      · (intro W hSw; (try dsimp only at hSw); go_simp; try with_reducible rfl)
      simp only [List.getElem_toArray, List.getElem_cons_zero, Act.put, List.setIfInBounds_toArray, List.set_cons_zero, List.set_cons_succ]
      refine wpAnyH_take (i := 1) (v := .bool false) rfl (by kernel_rfl) (by kernel_rfl) (by kernel_rfl) (fun _ _ _ h => h) (Or.inl ⟨by rfl, ?_⟩) (by assumption) ?_
      · (intro W hSw; go_simp)
      simp only [List.getElem_toArray, List.getElem_cons_zero, List.getElem_cons_succ, Act.put, List.setIfInBounds_toArray, List.set_cons_zero, List.set_cons_succ]
      refine wpAnyH_take (i := 2) (v := ?_) rfl (by kernel_rfl) (by kernel_rfl) (by kernel_rfl) (fun _ _ _ h => h) (Or.inl ⟨by rfl, ?_⟩) (by assumption) ?_
      rotate_left
      · (intro W hSw; (try dsimp only at hSw); go_simp; try with_reducible rfl)
      simp only [List.getElem_toArray, List.getElem_cons_zero, List.getElem_cons_succ, Act.put, List.setIfInBounds_toArray, List.set_cons_zero, List.set_cons_succ]
      refine wpAnyH_take (i := 3) (v := ?_) rfl (by kernel_rfl) (by kernel_rfl) (by kernel_rfl) (fun _ _ _ h => h) (Or.inl ⟨by rfl, ?_⟩) (by assumption) ?_
      rotate_left
      · (intro W hSw; (try dsimp only at hSw); go_simp; try with_reducible rfl)
      simp only [List.getElem_toArray, List.getElem_cons_zero, List.getElem_cons_succ, Act.put, List.setIfInBounds_toArray, List.set_cons_zero, List.set_cons_succ]
      refine wpAnyH_take (i := 4) (v := ?_) rfl (by kernel_rfl) (by kernel_rfl) (by kernel_rfl) (fun _ _ _ h => h) (Or.inl ⟨by rfl, ?_⟩) (by assumption) ?_
      rotate_left
      · (intro W hSw; (try dsimp only at hSw); go_simp; try with_reducible rfl)
      simp only [List.getElem_toArray, List.getElem_cons_zero, List.getElem_cons_succ, Act.put, List.setIfInBounds_toArray, List.set_cons_zero, List.set_cons_succ]
      refine wpAnyH_take (i := 5) (v := ?_) rfl (by kernel_rfl) (by kernel_rfl) (by kernel_rfl) (fun _ _ _ h => h) (Or.inl ⟨by rfl, ?_⟩) (by assumption) ?_
      rotate_left
      · (intro W hSw; (try dsimp only at hSw); go_simp; try with_reducible rfl)
      simp only [List.getElem_toArray, List.getElem_cons_zero, List.getElem_cons_succ, Act.put, List.setIfInBounds_toArray, List.set_cons_zero, List.set_cons_succ]
      refine wpAnyH_take (i := 6) (v := .bool false) rfl (by kernel_rfl) (by kernel_rfl) (by kernel_rfl) (fun _ _ _ h => h) (Or.inl ⟨by rfl, ?_⟩) (by assumption) ?_
      · (intro W hSw; go_simp)
      simp only [List.getElem_toArray, List.getElem_cons_zero, List.getElem_cons_succ, Act.put, List.setIfInBounds_toArray, List.set_cons_zero, List.set_cons_succ]
      refine wpAnyH_take (i := 7) (v := ?_) rfl (by kernel_rfl) (by kernel_rfl) (by kernel_rfl) (fun _ _ _ h => h) (Or.inl ⟨by rfl, ?_⟩) (by assumption) ?_
      rotate_left
      · (intro W hSw; (try dsimp only at hSw); go_simp; try with_reducible rfl)
      simp only [List.getElem_toArray, List.getElem_cons_zero, List.getElem_cons_succ, Act.put, List.setIfInBounds_toArray, List.set_cons_zero, List.set_cons_succ]
      refine wpAnyH_take (i := 8) (v := ?_) rfl (by kernel_rfl) (by kernel_rfl) (by kernel_rfl) (fun _ _ _ h => h) (Or.inl ⟨by rfl, ?_⟩) (by assumption) ?_
      rotate_left
      · (intro W hSw; (try dsimp only at hSw); go_simp; try with_reducible rfl)
      simp only [List.getElem_toArray, List.getElem_cons_zero, List.getElem_cons_succ, Act.put, List.setIfInBounds_toArray, List.set_cons_zero, List.set_cons_succ]
      refine wpAnyH_take (i := 9) (v := ?_) rfl (by kernel_rfl) (by kernel_rfl) (by kernel_rfl) (fun _ _ _ h => h) (Or.inl ⟨by rfl, ?_⟩) (by assumption) ?_
      rotate_left
      · (intro W hSw; (try dsimp only at hSw); go_simp; try with_reducible rfl)
      simp only [List.getElem_toArray, List.getElem_cons_zero, List.getElem_cons_succ, Act.put, List.setIfInBounds_toArray, List.set_cons_zero, List.set_cons_succ]
      refine wpAnyH_take (i := 10) (v := ?_) rfl (by kernel_rfl) (by kernel_rfl) (by kernel_rfl) (fun _ _ _ h => h) (Or.inl ⟨by rfl, ?_⟩) (by assumption) ?_
      rotate_left
      · (intro W hSw; have hc := CV1.out W hSw; go_simp; try with_reducible rfl)
      simp only [List.getElem_toArray, List.getElem_cons_zero, List.getElem_cons_succ, Act.put, List.setIfInBounds_toArray, List.set_cons_zero, List.set_cons_succ]
      refine wpAnyH_take (i := 11) (v := ?_) rfl (by kernel_rfl) (by kernel_rfl) (by kernel_rfl) (fun _ _ _ h => h) (Or.inl ⟨by rfl, ?_⟩) (by assumption) ?_
      rotate_left
      · (intro W hSw; (try dsimp only at hSw); go_simp; try with_reducible rfl)
      simp only [List.getElem_toArray, List.getElem_cons_zero, List.getElem_cons_succ, Act.put, List.setIfInBounds_toArray, List.set_cons_zero, List.set_cons_succ]
      refine wpAnyH_take (i := 12) (v := ?_) rfl (by kernel_rfl) (by kernel_rfl) (by kernel_rfl) (fun _ _ _ h => h) (Or.inl ⟨by rfl, ?_⟩) (by assumption) ?_
      rotate_left
      · (intro W hSw; (try dsimp only at hSw); go_simp; try with_reducible rfl)
      simp only [List.getElem_toArray, List.getElem_cons_zero, List.getElem_cons_succ, Act.put, List.setIfInBounds_toArray, List.set_cons_zero, List.set_cons_succ]
      refine wpAnyH_take (i := 13) (v := ?_) rfl (by kernel_rfl) (by kernel_rfl) (by kernel_rfl) (fun _ _ _ h => h) (Or.inl ⟨by rfl, ?_⟩) (by assumption) ?_
      rotate_left
      · (intro W hSw; (try dsimp only at hSw); go_simp; try with_reducible rfl)
      simp only [List.getElem_toArray, List.getElem_cons_zero, List.getElem_cons_succ, Act.put, List.setIfInBounds_toArray, List.set_cons_zero, List.set_cons_succ]
      refine wpAnyH_take (i := 14) (v := ?_) rfl (by kernel_rfl) (by kernel_rfl) (by kernel_rfl) (fun _ _ _ h => h) (Or.inl ⟨by rfl, ?_⟩) (by assumption) ?_
      rotate_left
      · (intro W hSw; have hc := CV2.out W hSw; go_simp; try with_reducible rfl)
      simp only [List.getElem_toArray, List.getElem_cons_zero, List.getElem_cons_succ, Act.put, List.setIfInBounds_toArray, List.set_cons_zero, List.set_cons_succ]
      refine wpAnyH_take (i := 15) (v := .bool false) rfl (by kernel_rfl) (by kernel_rfl) (by kernel_rfl) (fun _ _ _ h => h) (Or.inl ⟨by rfl, ?_⟩) (by assumption) ?_
      · (intro W hSw; go_simp)
      simp only [List.getElem_toArray, List.getElem_cons_zero, List.getElem_cons_succ, Act.put, List.setIfInBounds_toArray, List.set_cons_zero, List.set_cons_succ]
      refine wpAnyH_take (i := 16) (v := ?_) rfl (by kernel_rfl) (by kernel_rfl) (by kernel_rfl) (fun _ _ _ h => h) (Or.inl ⟨by rfl, ?_⟩) (by assumption) ?_
      rotate_left
      · (intro W hSw; (try dsimp only at hSw); go_simp; try with_reducible rfl)
      simp only [List.getElem_toArray, List.getElem_cons_zero, List.getElem_cons_succ, Act.put, List.setIfInBounds_toArray, List.set_cons_zero, List.set_cons_succ]
      refine wpAnyH_done (by kernel_rfl) ?_ _
      clear hHeld cS
      refine NoPanic.normal ?_
      have tn : ((k : Int) == (L : Int)) = true := by rw [beq_iff_eq]; have := HKB.out; omega
      go_wp2_with fail
      refine HED.out.mono ?_
      rintro e w3 ⟨rfl, hf3⟩
      have B2 := hide (B2.out.trans (((Below.refl w2.heap.size w2).drew).mono B2.out.size))
      have k3 := hf3.2.2
      have B3 := hide (B2.out.trans (k3.low (base := w.heap.size) hgr (by omega) B2.out.size))
      clear hf3 k3
      go_wp2_with fail
      refine (speaks_any w3).mono ?_
      rintro e w4 ⟨rfl, b4⟩
      have B4 := hide (B3.out.trans (b4.mono B3.out.size))
      clear b4
      go_wp2
      go_ret
      exact ⟨rfl, B4.out⟩
end Go.Proofs.YtggeihahbgeneaaDoor
