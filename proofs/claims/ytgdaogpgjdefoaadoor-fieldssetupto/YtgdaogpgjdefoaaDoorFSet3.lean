/- Set: the program's, walked. -/
import Derived.Test.YtgdaogpgjdefoaaDoorFSet2
namespace Go.Proofs.YtgdaogpgjdefoaaDoor
open Go.ChangeShapes Go.WideShapes Go.ChangeAt Go.RowKit Go.Maps

theorem set_bad (w : World) (l : Value) (n v : ByteArray) (hn : n.size ≤ 1048576) (hv : v.size ≤ 1048576) (h : setE n v ≠ 0) :
    Calls Tryd.prog 20 #[l, .string n, .string v] w fun e w' => e = .returned (.tuple #[.slice none 0 0, .int .i64 (setE n v : Nat)]) ∧ Below w.heap.size w w' := by
  have HC := hide (fun W => check_any n v W (by unfold maxLen; omega) (by unfold maxLen; omega))
  unfold setE at *
  have tb : (((chkF (n, v) : Nat) : Int) != 0) = true := by rw [bne_iff_ne]; omega
  generalize chkF (n, v) = c at HC tb ⊢
  clear h hn hv
  go_enter Tryd.func20, Tryd.ntmps20
  go_wp2_with fail
  have B0 := hide ((Below.refl _ w).alloc (Nat.le_refl _) (.cells #[.string n, .string v] 43))
  generalize w.alloc (.cells #[.string n, .string v] 43) = x at B0 ⊢
  refine (HC.out x).mono ?_
  rintro e w1 ⟨rfl, b1⟩
  go_wp2
  go_ret2
  exact ⟨rfl, B0.out.trans (b1.mono B0.out.size)⟩
theorem fl_empty (w : World) (a : Option Addr) (c : Nat) (h : a = none → c = 0) (A : List (ByteArray × ByteArray)) : Flds w (.slice a 0 c) (A.drop A.length) := by
  rw [List.drop_length]
  exact ⟨a, c, rfl, ⟨Nat.zero_le _, h⟩, fun j hj => by simp at hj⟩
theorem FRow.base_le {W : World} {base : Nat} {v : Value} {A : List (ByteArray × ByteArray)} (h : FRow W base v A) (hA : 0 < A.length) : base ≤ W.heap.size := by
  rcases h.2 with ⟨_, h0⟩ | ⟨g, cap, cur, rfl, h1, _⟩
  · omega
  · have := h.lt (g := g) rfl
    omega
theorem key_ex (n : ByteArray) (W : World) (hn : n.size ≤ maxLen) : Calls Tryd.prog 44 #[.string n] W fun e w' => ∃ r, e = .returned r ∧ ∃ b, r = .map (some b) ∧ Hid (Names w' b [lowS n]) ∧ Hid (Below W.heap.size W w') := by
  refine (key_any n W hn).mono ?_
  rintro e w' ⟨b, rfl, h1, h2⟩
  exact ⟨_, rfl, b, rfl, h1, h2⟩
theorem set_last {w y : World} {k b : Nat} {u lv : Value} {O B : List (ByteArray × ByteArray)} {S : List ByteArray} (hk : w.heap.size ≤ k) (hF : Flds w lv B) (hs : Sm B) (hb : Below w.heap.size w y) (hN : Names y b S) (hR : FRow y (k + 1) u O) (hky : k + 1 ≤ y.heap.size) (hl : O.length + B.length ≤ 1099511627776) :
    Calls Tryd.prog 42 #[lv, .map (some b)] y fun e z => ∃ r, e = .returned r ∧ ∃ ad m c, r = .slice ad m c ∧ ∃ ad2 m2 c2 W', (Builtin.append_ #[22, 22] 22 #[u, .slice ad m c]).run Tryd.prog z = .ok (.slice ad2 m2 c2) W' ∧ Hid (FRow W' (k + 1) (.slice ad2 m2 c2) (O ++ dropS B S)) ∧ Hid (Below w.heap.size w W') := by
  refine (without_any y lv (.map (some b)) B S (hF.below hb) hs (MapIs.of hN)).mono ?_
  rintro e z ⟨v, rfl, hV, hz⟩
  have hd : (dropS B S).length ≤ B.length := by unfold dropS; exact List.length_filter_le _ _
  obtain ⟨v', W', hr, h1, h2⟩ := append_flds z (k + 1) 22 u v O (dropS B S) (hR.below hz) (Flds.of_row hV) (by omega) (Nat.le_trans hky hz.size)
  obtain ⟨ad, m, c, rfl⟩ := hV.slice
  obtain ⟨ad2, m2, c2, rfl⟩ := h1.slice
  exact ⟨_, rfl, ad, m, c, rfl, ad2, m2, c2, W', hr, h1, (hb.trans (hz.mono hb.size)).trans (h2.mono (by omega))⟩
set_option maxHeartbeats 8000000 in
set_option maxRecDepth 100000 in
theorem set_ok (w : World) (l : Value) (A : List (ByteArray × ByteArray)) (n v : ByteArray) (hA : Flds w l A) (hs : Sm A) (hl1 : A.length + 1 ≤ 1048576) (hn : n.size ≤ 1048576) (hv : v.size ≤ 1048576) (h : setE n v = 0) :
    Calls Tryd.prog 20 #[l, .string n, .string v] w fun e w' => ∃ r, e = .returned (.tuple #[r, .int .i64 0]) ∧ FRow w' w.heap.size r (setS A n v) ∧ Below w.heap.size w w' := by
  have HC := hide (fun W => check_any n v W (by unfold maxLen; omega) (by unfold maxLen; omega))
  unfold setE at h
  rw [h] at HC
  have HNA := hide (fun W => named_any n W (by unfold maxLen; omega))
  have HIX := hide (fun W g (hF : Flds W l A) (hg : W.cell? ⟨g, 0, none⟩ = some (.string (lowS n))) => indexf_any W l A n g hF hs hg)
  have F0 := hide hA
  have HS := hide hs
  have hfi := fi_le n A
  unfold setS
  generalize fi n A = i at HIX hfi ⊢
  obtain ⟨a0, c0, rfl, ⟨hc0, hc1⟩, hcells⟩ := hA
  clear hs h hcells
  have hic : i ≤ c0 := by omega
  have hicI : (i : Int) ≤ (c0 : Int) := by omega
  have hilI : (i : Int) ≤ (A.length : Int) := by omega
  go_enter Tryd.func20, Tryd.ntmps20
  go_wp2_with fail
  have V0 : Hid (VS w (w.alloc (.cells #[.string n, .string v] 43)) w.heap.size n v) := hide ⟨hp_new w _, (Below.refl _ w).alloc (Nat.le_refl _) _⟩
  generalize w.alloc (.cells #[.string n, .string v] 43) = x at V0 ⊢
  refine (HC.out x).mono ?_
  rintro e w1 ⟨rfl, b1⟩
  have V1 := hide (V0.out.below b1)
  clear V0 b1 HC
  go_wp2_with fail
  refine (HNA.out w1).mono ?_
  rintro e w2 ⟨g, rfl, hg, b2⟩
  have V2 := hide (V1.out.below b2)
  have HG := hide hg
  clear V1 b2 HNA hg
  go_wp2_with fail
  refine (HIX.out w2 g (F0.out.below V2.out.b) HG.out).mono ?_
  rintro e w3 ⟨r, rfl, hr, b3⟩
  have V3 := hide (V2.out.below b3)
  clear V2 b3 HIX HG
  have HWO := hide (fun (y : World) (j : Nat) (hj : j ≤ A.length) (h : VS w y w.heap.size n v) => h.withoutm (F0.out.take j hj) (HS.out.take j) (MapIs.nil y))
  have HCL := hide (fun (y : World) (u : Value) (j : Nat) (h : VS w y w.heap.size n v) (hR : FRow y (w.heap.size + 1) u (A.take j)) => h.clone (Nat.le_refl _) (by omega) (by omega) hR (by rw [List.length_take]; omega))
  have HKY := hide (fun W => key_ex n W (by unfold maxLen; omega))
  have hl2 := HS.out.1
  simp only [dropS_nil] at HWO
  rcases hr with ⟨rfl, hri⟩ | ⟨rfl, hlt⟩
  · subst hri
    cases a0 with
    | none =>
      have hz0 : c0 = 0 := hc1 rfl
      subst hz0
      have hA0 : A = [] := List.eq_nil_of_length_eq_zero (by omega)
      subst hA0
      go_upto_region 8 with fail
      have V4 := hide (V3.out.below ((Below.refl w3.heap.size w3).drew))
      have d0 : w3.cell? ⟨w.heap.size, 0, none⟩ = some (.string n) := cell_at V3.out.h 0
      have d1 : w3.cell? ⟨w.heap.size, 1, none⟩ = some (.string v) := cell_at V3.out.h 1
      have HF9 := hide (F0.out : Flds w (.slice none 0 0) (([] : List (ByteArray × ByteArray)).drop 0))
      go_region_law (first
        | (refine step_append_is rfl (.tmp 31) (.tmp 34) 22 rfl (.slice ad m c) (.slice (some ⟨z.heap.size, 0, none⟩) 1 1) (.slice ad2 n2 c2) (by simp [Act.eval]) (by simp [Act.eval]) hrun ?_)
        | (refine step_call rfl 42 _ _ rfl (enters_of Tryd.func42 (by kernel_rfl) rfl) #[.slice none 0 0, .map none] (by simp [Act.eval, Act.put]) _ (HWO.out _ 0 (Nat.zero_le _) V4.out) ?_; rintro r y ⟨ad, m, c, rfl, e0, e1, VY, RY⟩)
        | (refine step_call rfl 43 _ _ rfl (enters_of Tryd.func43 (by kernel_rfl) rfl) #[.agg #[.string n, .string v]] (by simp [Act.eval]) _ (HCL.out _ (.slice ad m c) 0 VY.out RY.out) ?_; rintro r z ⟨rfl, ad2, n2, c2, W2, hrun, RW, BW⟩))
      all_goals (clear hrun)
      all_goals (go_upto_region 9 with fail)
      all_goals (simp only [List.getElem_toArray, List.getElem_cons_zero, List.getElem_cons_succ, Act.put, List.setIfInBounds_toArray, List.set_cons_zero, List.set_cons_succ])
      all_goals (have D9 := hide ((Below.refl W2.heap.size W2).drew))
      all_goals (have R9 := hide (RW.out.below D9.out))
      all_goals (have B9 := hide (BW.out.trans (D9.out.mono BW.out.size)))
      all_goals (have K9 := hide (RW.out.base_le (by simp)))
      all_goals (have HLEN := hide (show (([] : List (ByteArray × ByteArray)).take 0 ++ [(n, v)]).length + (([] : List (ByteArray × ByteArray)).drop 0).length ≤ 1099511627776 by rw [List.length_append, List.length_take, List.length_drop]; simp <;> omega))
      all_goals (go_region_law (first
        | (refine step_append_is rfl (.tmp 36) (.tmp 42) 22 rfl (.slice ad2 n2 c2) (.slice ad5 m5 c5) (.slice ad6 m6 c6) (by simp [Act.eval]) (by simp [Act.eval]) hrun2 ?_)
        | (refine step_call rfl 44 _ _ rfl (enters_of Tryd.func44 (by kernel_rfl) rfl) #[.string n] (by simp [Act.eval, Act.put]) _ (HKY.out _) ?_; rintro r y9 ⟨bm, rfl, N9, D10⟩)
        | (refine step_call rfl 42 _ _ rfl (enters_of Tryd.func42 (by kernel_rfl) rfl) #[.slice none 0 0, .map (some bm)] (by simp [Act.eval]) _ (set_last (Nat.le_refl _) HF9.out (HS.out.drop 0) (B9.out.trans (D10.out.mono B9.out.size)) N9.out (R9.out.below D10.out) (Nat.le_trans K9.out (Nat.le_trans D9.out.size D10.out.size)) HLEN.out) ?_; rintro r z9 ⟨ad5, m5, c5, rfl, ad6, m6, c6, W6, hrun2, RW6, BW6⟩)))
      all_goals (go_wp2)
      all_goals (go_ret2)
      all_goals (have h9 := RW6.out.lower (Nat.le_succ w.heap.size))
      all_goals (rw [← outN_drop] at h9)
      all_goals (first | exact ⟨_, rfl, h9, BW6.out⟩ | (rw [List.append_assoc] at h9; exact ⟨_, rfl, h9, BW6.out⟩))
    | some ad0 =>
      clear hc1
      by_cases hcc : A.length = c0
      · subst hcc
        go_upto_region 8 with fail
        have V4 := hide (V3.out.below ((Below.refl w3.heap.size w3).drew))
        have d0 : w3.cell? ⟨w.heap.size, 0, none⟩ = some (.string n) := cell_at V3.out.h 0
        have d1 : w3.cell? ⟨w.heap.size, 1, none⟩ = some (.string v) := cell_at V3.out.h 1
        have HF9 := hide (fl_empty w (some ad0) 0 (fun h => by cases h) A : Flds w (.slice (some ad0) 0 0) (A.drop A.length))
        go_region_law (first
          | (refine step_append_is rfl (.tmp 31) (.tmp 34) 22 rfl (.slice ad m c) (.slice (some ⟨z.heap.size, 0, none⟩) 1 1) (.slice ad2 n2 c2) (by simp [Act.eval]) (by simp [Act.eval]) hrun ?_)
          | (refine step_call rfl 42 _ _ rfl (enters_of Tryd.func42 (by kernel_rfl) rfl) #[.slice (some ad0) A.length A.length, .map none] (by simp [Act.eval, Act.put]) _ (HWO.out _ A.length (Nat.le_refl _) V4.out) ?_; rintro r y ⟨ad, m, c, rfl, e0, e1, VY, RY⟩)
          | (refine step_call rfl 43 _ _ rfl (enters_of Tryd.func43 (by kernel_rfl) rfl) #[.agg #[.string n, .string v]] (by simp [Act.eval]) _ (HCL.out _ (.slice ad m c) A.length VY.out RY.out) ?_; rintro r z ⟨rfl, ad2, n2, c2, W2, hrun, RW, BW⟩))
        all_goals (clear hrun)
        all_goals (go_upto_region 9 with fail)
        all_goals (simp only [List.getElem_toArray, List.getElem_cons_zero, List.getElem_cons_succ, Act.put, List.setIfInBounds_toArray, List.set_cons_zero, List.set_cons_succ])
        all_goals (have D9 := hide ((Below.refl W2.heap.size W2).drew))
        all_goals (have R9 := hide (RW.out.below D9.out))
        all_goals (have B9 := hide (BW.out.trans (D9.out.mono BW.out.size)))
        all_goals (have K9 := hide (RW.out.base_le (by simp)))
        all_goals (have HLEN := hide (show (A.take A.length ++ [(n, v)]).length + (A.drop A.length).length ≤ 1099511627776 by rw [List.length_append, List.length_take, List.length_drop]; simp <;> omega))
        all_goals (go_region_law (first
          | (refine step_append_is rfl (.tmp 36) (.tmp 42) 22 rfl (.slice ad2 n2 c2) (.slice ad5 m5 c5) (.slice ad6 m6 c6) (by simp [Act.eval]) (by simp [Act.eval]) hrun2 ?_)
          | (refine step_call rfl 44 _ _ rfl (enters_of Tryd.func44 (by kernel_rfl) rfl) #[.string n] (by simp [Act.eval, Act.put]) _ (HKY.out _) ?_; rintro r y9 ⟨bm, rfl, N9, D10⟩)
          | (refine step_call rfl 42 _ _ rfl (enters_of Tryd.func42 (by kernel_rfl) rfl) #[.slice (some ad0) 0 0, .map (some bm)] (by simp [Act.eval]) _ (set_last (Nat.le_refl _) HF9.out (HS.out.drop A.length) (B9.out.trans (D10.out.mono B9.out.size)) N9.out (R9.out.below D10.out) (Nat.le_trans K9.out (Nat.le_trans D9.out.size D10.out.size)) HLEN.out) ?_; rintro r z9 ⟨ad5, m5, c5, rfl, ad6, m6, c6, W6, hrun2, RW6, BW6⟩)))
        all_goals (go_wp2)
        all_goals (go_ret2)
        all_goals (have h9 := RW6.out.lower (Nat.le_succ w.heap.size))
        all_goals (rw [← outN_drop] at h9)
        all_goals (first | exact ⟨_, rfl, h9, BW6.out⟩ | (rw [List.append_assoc] at h9; exact ⟨_, rfl, h9, BW6.out⟩))
      · by_cases hA0 : A.length = 0
        · have hA1 : A = [] := List.eq_nil_of_length_eq_zero hA0
          subst hA1
          have hne : ¬ c0 = 0 := fun h => hcc (by rw [h]; rfl)
          clear hcc hA0
          go_upto_region 8 with fail
          have V4 := hide (V3.out.below ((Below.refl w3.heap.size w3).drew))
          have d0 : w3.cell? ⟨w.heap.size, 0, none⟩ = some (.string n) := cell_at V3.out.h 0
          have d1 : w3.cell? ⟨w.heap.size, 1, none⟩ = some (.string v) := cell_at V3.out.h 1
          have HF9 := hide (F0.out : Flds w (.slice (some ad0) 0 c0) (([] : List (ByteArray × ByteArray)).drop 0))
          go_region_law (first
            | (refine step_append_is rfl (.tmp 31) (.tmp 34) 22 rfl (.slice ad m c) (.slice (some ⟨z.heap.size, 0, none⟩) 1 1) (.slice ad2 n2 c2) (by simp [Act.eval]) (by simp [Act.eval]) hrun ?_)
            | (refine step_call rfl 42 _ _ rfl (enters_of Tryd.func42 (by kernel_rfl) rfl) #[.slice (some ad0) 0 c0, .map none] (by simp [Act.eval, Act.put]) _ (HWO.out _ 0 (Nat.zero_le _) V4.out) ?_; rintro r y ⟨ad, m, c, rfl, e0, e1, VY, RY⟩)
            | (refine step_call rfl 43 _ _ rfl (enters_of Tryd.func43 (by kernel_rfl) rfl) #[.agg #[.string n, .string v]] (by simp [Act.eval]) _ (HCL.out _ (.slice ad m c) 0 VY.out RY.out) ?_; rintro r z ⟨rfl, ad2, n2, c2, W2, hrun, RW, BW⟩))
          all_goals (clear hrun)
          all_goals (go_upto_region 9 with fail)
          all_goals (simp only [List.getElem_toArray, List.getElem_cons_zero, List.getElem_cons_succ, Act.put, List.setIfInBounds_toArray, List.set_cons_zero, List.set_cons_succ])
          all_goals (have D9 := hide ((Below.refl W2.heap.size W2).drew))
          all_goals (have R9 := hide (RW.out.below D9.out))
          all_goals (have B9 := hide (BW.out.trans (D9.out.mono BW.out.size)))
          all_goals (have K9 := hide (RW.out.base_le (by simp)))
          all_goals (have HLEN := hide (show (([] : List (ByteArray × ByteArray)).take 0 ++ [(n, v)]).length + (([] : List (ByteArray × ByteArray)).drop 0).length ≤ 1099511627776 by rw [List.length_append, List.length_take, List.length_drop]; simp <;> omega))
          all_goals (go_region_law (first
            | (refine step_append_is rfl (.tmp 36) (.tmp 42) 22 rfl (.slice ad2 n2 c2) (.slice ad5 m5 c5) (.slice ad6 m6 c6) (by simp [Act.eval]) (by simp [Act.eval]) hrun2 ?_)
            | (refine step_call rfl 44 _ _ rfl (enters_of Tryd.func44 (by kernel_rfl) rfl) #[.string n] (by simp [Act.eval, Act.put]) _ (HKY.out _) ?_; rintro r y9 ⟨bm, rfl, N9, D10⟩)
            | (refine step_call rfl 42 _ _ rfl (enters_of Tryd.func42 (by kernel_rfl) rfl) #[.slice (some ad0) 0 c0, .map (some bm)] (by simp [Act.eval]) _ (set_last (Nat.le_refl _) HF9.out (HS.out.drop 0) (B9.out.trans (D10.out.mono B9.out.size)) N9.out (R9.out.below D10.out) (Nat.le_trans K9.out (Nat.le_trans D9.out.size D10.out.size)) HLEN.out) ?_; rintro r z9 ⟨ad5, m5, c5, rfl, ad6, m6, c6, W6, hrun2, RW6, BW6⟩)))
          all_goals (go_wp2)
          all_goals (go_ret2)
          all_goals (have h9 := RW6.out.lower (Nat.le_succ w.heap.size))
          all_goals (rw [← outN_drop] at h9)
          all_goals (first | exact ⟨_, rfl, h9, BW6.out⟩ | (rw [List.append_assoc] at h9; exact ⟨_, rfl, h9, BW6.out⟩))
        · obtain ⟨g0, o0, rfl⟩ : ∃ g0 o0, ad0 = ⟨g0, o0, none⟩ := by
            obtain ⟨a', c', he, _, hcell⟩ := F0.out
            simp only [Value.slice.injEq] at he
            obtain ⟨g0, o0, h1, _⟩ := hcell 0 (by omega)
            exact ⟨g0, o0, Option.some.inj (he.1.trans h1)⟩
          have hne : ¬ c0 = A.length := fun h => hcc h.symm
          clear hcc hA0
          go_upto_region 8 with fail
          have V4 := hide (V3.out.below ((Below.refl w3.heap.size w3).drew))
          have d0 : w3.cell? ⟨w.heap.size, 0, none⟩ = some (.string n) := cell_at V3.out.h 0
          have d1 : w3.cell? ⟨w.heap.size, 1, none⟩ = some (.string v) := cell_at V3.out.h 1
          have HF9 := hide (fl_empty w _ _ (fun h => by cases h) A : Flds w (.slice (some ⟨g0, o0 + A.length * 2, none⟩) 0 (c0 - A.length)) (A.drop A.length))
          go_region_law (first
            | (refine step_append_is rfl (.tmp 31) (.tmp 34) 22 rfl (.slice ad m c) (.slice (some ⟨z.heap.size, 0, none⟩) 1 1) (.slice ad2 n2 c2) (by simp [Act.eval]) (by simp [Act.eval]) hrun ?_)
            | (refine step_call rfl 42 _ _ rfl (enters_of Tryd.func42 (by kernel_rfl) rfl) #[.slice (some ⟨g0, o0, none⟩) A.length c0, .map none] (by simp [Act.eval, Act.put]) _ (HWO.out _ A.length (Nat.le_refl _) V4.out) ?_; rintro r y ⟨ad, m, c, rfl, e0, e1, VY, RY⟩)
            | (refine step_call rfl 43 _ _ rfl (enters_of Tryd.func43 (by kernel_rfl) rfl) #[.agg #[.string n, .string v]] (by simp [Act.eval]) _ (HCL.out _ (.slice ad m c) A.length VY.out RY.out) ?_; rintro r z ⟨rfl, ad2, n2, c2, W2, hrun, RW, BW⟩))
          all_goals (clear hrun)
          all_goals (go_upto_region 9 with fail)
          all_goals (simp only [List.getElem_toArray, List.getElem_cons_zero, List.getElem_cons_succ, Act.put, List.setIfInBounds_toArray, List.set_cons_zero, List.set_cons_succ])
          all_goals (have D9 := hide ((Below.refl W2.heap.size W2).drew))
          all_goals (have R9 := hide (RW.out.below D9.out))
          all_goals (have B9 := hide (BW.out.trans (D9.out.mono BW.out.size)))
          all_goals (have K9 := hide (RW.out.base_le (by simp)))
          all_goals (have HLEN := hide (show (A.take A.length ++ [(n, v)]).length + (A.drop A.length).length ≤ 1099511627776 by rw [List.length_append, List.length_take, List.length_drop]; simp <;> omega))
          all_goals (go_region_law (first
            | (refine step_append_is rfl (.tmp 36) (.tmp 42) 22 rfl (.slice ad2 n2 c2) (.slice ad5 m5 c5) (.slice ad6 m6 c6) (by simp [Act.eval]) (by simp [Act.eval]) hrun2 ?_)
            | (refine step_call rfl 44 _ _ rfl (enters_of Tryd.func44 (by kernel_rfl) rfl) #[.string n] (by simp [Act.eval, Act.put]) _ (HKY.out _) ?_; rintro r y9 ⟨bm, rfl, N9, D10⟩)
            | (refine step_call rfl 42 _ _ rfl (enters_of Tryd.func42 (by kernel_rfl) rfl) #[.slice (some ⟨g0, o0 + A.length * 2, none⟩) 0 (c0 - A.length), .map (some bm)] (by simp [Act.eval]) _ (set_last (Nat.le_refl _) HF9.out (HS.out.drop A.length) (B9.out.trans (D10.out.mono B9.out.size)) N9.out (R9.out.below D10.out) (Nat.le_trans K9.out (Nat.le_trans D9.out.size D10.out.size)) HLEN.out) ?_; rintro r z9 ⟨ad5, m5, c5, rfl, ad6, m6, c6, W6, hrun2, RW6, BW6⟩)))
          all_goals (go_wp2)
          all_goals (go_ret2)
          all_goals (have h9 := RW6.out.lower (Nat.le_succ w.heap.size))
          all_goals (rw [← outN_drop] at h9)
          all_goals (first | exact ⟨_, rfl, h9, BW6.out⟩ | (rw [List.append_assoc] at h9; exact ⟨_, rfl, h9, BW6.out⟩))
  · obtain ⟨g0, o0, rfl⟩ : ∃ g0 o0, a0 = some ⟨g0, o0, none⟩ := by
      obtain ⟨a', c', he, _, hcell⟩ := F0.out
      simp only [Value.slice.injEq] at he
      obtain ⟨g0, o0, h1, _⟩ := hcell i hlt
      exact ⟨g0, o0, he.1.trans h1⟩
    have hltI : (i : Int) < (A.length : Int) := by omega
    have hltc : i < c0 := by omega
    have hne : ¬ c0 = i := by omega
    clear hc1
    go_upto_region 8 with fail
    have V4 := hide (V3.out.below ((Below.refl w3.heap.size w3).drew))
    have d0 : w3.cell? ⟨w.heap.size, 0, none⟩ = some (.string n) := cell_at V3.out.h 0
    have d1 : w3.cell? ⟨w.heap.size, 1, none⟩ = some (.string v) := cell_at V3.out.h 1
    have HF9 := hide (F0.out.drop i hfi _ (.inl rfl) : Flds w (.slice (some ⟨g0, o0 + i * 2, none⟩) (A.length - i) (c0 - i)) (A.drop i))
    go_region_law (first
      | (refine step_append_is rfl (.tmp 31) (.tmp 34) 22 rfl (.slice ad m c) (.slice (some ⟨z.heap.size, 0, none⟩) 1 1) (.slice ad2 n2 c2) (by simp [Act.eval]) (by simp [Act.eval]) hrun ?_)
      | (refine step_call rfl 42 _ _ rfl (enters_of Tryd.func42 (by kernel_rfl) rfl) #[.slice (some ⟨g0, o0, none⟩) i c0, .map none] (by simp [Act.eval, Act.put]) _ (HWO.out _ i hfi V4.out) ?_; rintro r y ⟨ad, m, c, rfl, e0, e1, VY, RY⟩)
      | (refine step_call rfl 43 _ _ rfl (enters_of Tryd.func43 (by kernel_rfl) rfl) #[.agg #[.string n, .string v]] (by simp [Act.eval]) _ (HCL.out _ (.slice ad m c) i VY.out RY.out) ?_; rintro r z ⟨rfl, ad2, n2, c2, W2, hrun, RW, BW⟩))
    all_goals (clear hrun)
    all_goals (go_upto_region 9 with fail)
    all_goals (simp only [List.getElem_toArray, List.getElem_cons_zero, List.getElem_cons_succ, Act.put, List.setIfInBounds_toArray, List.set_cons_zero, List.set_cons_succ])
    all_goals (have D9 := hide ((Below.refl W2.heap.size W2).drew))
    all_goals (have R9 := hide (RW.out.below D9.out))
    all_goals (have B9 := hide (BW.out.trans (D9.out.mono BW.out.size)))
    all_goals (have K9 := hide (RW.out.base_le (by simp)))
    all_goals (have HLEN := hide (show (A.take i ++ [(n, v)]).length + (A.drop i).length ≤ 1099511627776 by rw [List.length_append, List.length_take, List.length_drop]; simp <;> omega))
    all_goals (go_region_law (first
      | (refine step_append_is rfl (.tmp 36) (.tmp 42) 22 rfl (.slice ad2 n2 c2) (.slice ad5 m5 c5) (.slice ad6 m6 c6) (by simp [Act.eval]) (by simp [Act.eval]) hrun2 ?_)
      | (refine step_call rfl 44 _ _ rfl (enters_of Tryd.func44 (by kernel_rfl) rfl) #[.string n] (by simp [Act.eval, Act.put]) _ (HKY.out _) ?_; rintro r y9 ⟨bm, rfl, N9, D10⟩)
      | (refine step_call rfl 42 _ _ rfl (enters_of Tryd.func42 (by kernel_rfl) rfl) #[.slice (some ⟨g0, o0 + i * 2, none⟩) (A.length - i) (c0 - i), .map (some bm)] (by simp [Act.eval]) _ (set_last (Nat.le_refl _) HF9.out (HS.out.drop i) (B9.out.trans (D10.out.mono B9.out.size)) N9.out (R9.out.below D10.out) (Nat.le_trans K9.out (Nat.le_trans D9.out.size D10.out.size)) HLEN.out) ?_; rintro r z9 ⟨ad5, m5, c5, rfl, ad6, m6, c6, W6, hrun2, RW6, BW6⟩)))
    all_goals (go_wp2)
    all_goals (go_ret2)
    all_goals (have h9 := RW6.out.lower (Nat.le_succ w.heap.size))
    all_goals (rw [← outN_drop] at h9)
    all_goals (first | exact ⟨_, rfl, h9, BW6.out⟩ | (rw [List.append_assoc] at h9; exact ⟨_, rfl, h9, BW6.out⟩))
theorem set_any (w : World) (l : Value) (A : List (ByteArray × ByteArray)) (n v : ByteArray) (hA : Flds w l A) (hs : Sm A) (hl1 : A.length + 1 ≤ 1048576) (hn : n.size ≤ 1048576) (hv : v.size ≤ 1048576) :
    Calls Tryd.prog 20 #[l, .string n, .string v] w fun e w' => ∃ r, e = .returned (.tuple #[r, .int .i64 (setE n v : Nat)]) ∧ FRow w' w.heap.size r (setO A n v) ∧ Below w.heap.size w w' := by
  unfold setO
  by_cases h : setE n v = 0
  · rw [h, if_pos rfl]
    have h2 := set_ok w l A n v hA hs hl1 hn hv h
    exact h2
  · rw [if_neg h]
    exact (set_bad w l n v hn hv h).mono fun _ _ ⟨h1, h2⟩ => ⟨_, h1, FRow.nil _ _, h2⟩
end Go.Proofs.YtgdaogpgjdefoaaDoor
