/- ConfigTurned, walked. -/
import Derived.Test.YtekkhjlipijmcaaGreatDoorZTn
namespace Go.Proofs.YtekkhjlipijmcaaGreatDoor
open Go.ChangeShapes Go.WideShapes Go.ChangeAt Go.RowKit Go.Deep
set_option linter.unusedVariables false

/-- The cells of a configuration, its two rows apart. -/
def cfgCs (v1 v2 : Value) (C : Cfg) : List Value := [v1, v2, .int .i64 C.c0, .int .i64 C.c1, .int .i64 C.c2, .int .i64 C.c3, .string C.pa, .int .i64 C.c4, .int .i64 C.c5, .int .i64 C.c6, .int .i64 C.c7, .int .i64 C.c8, .int .i64 C.c9, .int .i64 C.c10, .int .i64 C.c11, .int .i64 C.c12, .int .i64 C.c13, .int .i64 C.c14]
theorem check_turned (W : World) (b1 b2 : Option Addr) (l1 l2 : Nat) (C : Cfg) (h : InC W b1 b2 l1 l2 (revC C)) :
    Calls Tryz.prog 11 #[.agg (cfgCs (.slice b1 C.H.length l1) (.slice b2 C.R.length l2) C).toArray] W fun e w' => e = .returned (.int .i64 (cfgE C)) ∧ Below W.heap.size W w' := by
  have q := check_any W b1 b2 l1 l2 (revC C) h
  have e : cfgV b1 b2 l1 l2 (revC C) = .agg (cfgCs (.slice b1 C.H.length l1) (.slice b2 C.R.length l2) C).toArray := by
    unfold cfgV cfgCs revC
    simp only [List.length_reverse]
  rw [e, cfgE_rev] at q
  exact q
def bufI (C : Cfg) : Int := if cfgB C then C.c14 * (2 * C.c8 + C.c9 + C.c10 + 8192) + capsI C.H * (C.c8 + C.c9 + 8192) else 0
theorem bufI_rev (C : Cfg) : bufI (revC C) = bufI C := by
  unfold bufI
  rw [cfgB_rev]
  have e : capsI (revC C).H = capsI C.H := capsI_rev C.H
  rw [e]
  rfl
theorem buffered_turned (W : World) (b1 b2 : Option Addr) (l1 l2 : Nat) (C : Cfg) (h : InC W b1 b2 l1 l2 (revC C)) :
    Calls Tryz.prog 9 #[.agg (cfgCs (.slice b1 C.H.length l1) (.slice b2 C.R.length l2) C).toArray] W fun e w' => e = .returned (.tuple #[.int .i64 (bufI C), .int .i64 (cfgE C)]) ∧ Below W.heap.size W w' := by
  have q := buffered_any W b1 b2 l1 l2 (revC C) h
  have e : cfgV b1 b2 l1 l2 (revC C) = .agg (cfgCs (.slice b1 C.H.length l1) (.slice b2 C.R.length l2) C).toArray := by
    unfold cfgV cfgCs revC
    simp only [List.length_reverse]
  have e2 := bufI_rev C
  unfold bufI at e2
  rw [e, cfgE_rev, e2] at q
  exact q
theorem rev_snoc {α : Type} (L : List α) (k : Nat) (h : k < L.length) (h2 : L.length - 1 - k < L.length) : L.reverse.take (k + 1) = L.reverse.take k ++ [L[L.length - 1 - k]] := by
  rw [List.take_succ_eq_append_getElem (by simpa using h), List.getElem_reverse]
theorem rev_flat (CS : List (List Value)) (k : Nat) (h : k < CS.length) (h2 : CS.length - 1 - k < CS.length) : (CS.reverse.take (k + 1)).flatten = (CS.reverse.take k).flatten ++ CS[CS.length - 1 - k] := by
  rw [rev_snoc CS k h h2, List.flatten_append]
  simp
theorem rev_flat2 (CS : List (List Value)) (k j : Nat) (h : CS.length = k + 1 + j) (hj : j < CS.length) : (CS.reverse.take (k + 1)).flatten = (CS.reverse.take k).flatten ++ CS[j] := by
  obtain rfl : j = CS.length - 1 - k := by omega
  exact rev_flat CS k (by omega) hj
theorem range_of {W : World} {b : Nat} {cs : List Value} {t : TypeId} (h : W.heap[b]? = some (.cells cs.toArray t (0, 0))) : W.rangeAt b 0 cs := by
  intro j v hv
  rw [Nat.zero_add, cell_at h, List.getElem?_toArray]
  exact hv
theorem infoHst : ∃ i, Tryz.prog.info? 43 = some i ∧ i.zero = some (.agg #[.string ⟨#[]⟩, .int .i64 0, .int .i64 0]) ∧ i.size = 3 ∧ i.bytes = 32 := by
  have h : (Tryz.prog.info? 43).map (fun i => (i.zero, i.size, i.bytes)) = some (some (.agg #[.string ⟨#[]⟩, .int .i64 0, .int .i64 0]), 3, 32) := by kernel_rfl
  obtain ⟨i, hi, hz⟩ := Option.map_eq_some_iff.1 h
  simp only [Prod.mk.injEq] at hz
  exact ⟨i, hi, hz.1, hz.2.1, hz.2.2⟩
theorem infoRoute : ∃ i, Tryz.prog.info? 40 = some i ∧ i.zero = some (.agg #[.string ⟨#[]⟩, .string ⟨#[]⟩, .slice none 0 0, .string ⟨#[]⟩, .string ⟨#[]⟩, .slice none 0 0, .int .i64 0, .int .i64 0, .int .i64 0, .int .i64 0, .int .i64 0, .int .i64 0, .int .i64 0, .int .i64 0, .int .i64 0, .int .i64 0, .int .i64 0, .int .i64 0, .int .i64 0, .int .i64 0, .int .i64 0]) ∧ i.size = 21 ∧ i.bytes = 232 := by
  have h : (Tryz.prog.info? 40).map (fun i => (i.zero, i.size, i.bytes)) = some (some (.agg #[.string ⟨#[]⟩, .string ⟨#[]⟩, .slice none 0 0, .string ⟨#[]⟩, .string ⟨#[]⟩, .slice none 0 0, .int .i64 0, .int .i64 0, .int .i64 0, .int .i64 0, .int .i64 0, .int .i64 0, .int .i64 0, .int .i64 0, .int .i64 0, .int .i64 0, .int .i64 0, .int .i64 0, .int .i64 0, .int .i64 0, .int .i64 0]), 21, 232) := by kernel_rfl
  obtain ⟨i, hi, hz⟩ := Option.map_eq_some_iff.1 h
  simp only [Prod.mk.injEq] at hz
  exact ⟨i, hi, hz.1, hz.2.1, hz.2.2⟩
set_option maxHeartbeats 1000000 in
set_option maxRecDepth 100000 in
theorem turned_walk (w : World) (a1 a2 : Option Addr) (k1 k2 : Nat) (C : Cfg) (h : InC w a1 a2 k1 k2 C) (hln : C.H.length ≤ 1048576 ∧ C.R.length ≤ 1048576) :
    Calls Tryz.prog 6 #[cfgV a1 a2 k1 k2 C] w fun e w' => e = .returned (.bool true) ∧ Below w.heap.size w w' := by
  have HTB : Hid (Tbl w) := hide ⟨h.g0, h.g1, h.g2, h.mx⟩
  obtain ⟨CS, hCl, hT2, hR⟩ := h.r.tb
  have HT1 := hide h.h.tb
  have HT2 := hide hT2
  have HM1 := hide (hC_cm C.H)
  have HM2 := hide (RC.cm hCl hR)
  have HCL : Hid (CS.length = C.R.length) := hide hCl
  have HCH : Hid ((C.H.map hC).length = C.H.length) := hide (by simp)
  have HC1 : Hid (∀ W, Below w.heap.size w W → Calls Tryz.prog 11 #[.agg (cfgCs (.slice a1 C.H.length k1) (.slice a2 C.R.length k2) C).toArray] W fun e w' => e = .returned (.int .i64 (cfgE C)) ∧ Below W.heap.size W w') := hide (fun W b => check_any W a1 a2 k1 k2 C (h.below b))
  have HC2 : Hid (∀ W, Below w.heap.size w W → Calls Tryz.prog 9 #[.agg (cfgCs (.slice a1 C.H.length k1) (.slice a2 C.R.length k2) C).toArray] W fun e w' => e = .returned (.tuple #[.int .i64 (bufI C), .int .i64 (cfgE C)]) ∧ Below W.heap.size W w') := hide (fun W b => buffered_any W a1 a2 k1 k2 C (h.below b))
  have HD1 := hide (fun W b1 b2 l1 l2 (b : Below w.heap.size w W) (t1 : Tb W b1 3 (C.H.map hC).reverse) (t2 : Tb W b2 21 CS.reverse) => check_turned W b1 b2 l1 l2 C (h.turned b hCl hR t1 t2))
  have HD2 := hide (fun W b1 b2 l1 l2 (b : Below w.heap.size w W) (t1 : Tb W b1 3 (C.H.map hC).reverse) (t2 : Tb W b2 21 CS.reverse) => buffered_turned W b1 b2 l1 l2 C (h.turned b hCl hR t1 t2))
  generalize cfgE C = E at *
  generalize bufI C = V at *
  unfold cfgV
  generalize C.H.map hC = HS at *
  obtain ⟨hl1, hl2⟩ := hln
  clear hCl hT2 hR h
  generalize C.H.length = n1 at *
  generalize C.R.length = n2 at *
  go_enter Tryz.func6, Tryz.ntmps6
  go_upto_region 1 with fail
  have B0 := hide ((Below.refl w.heap.size w).alloc (Nat.le_refl _) (.cells #[.slice a1 n1 k1, .slice a2 n2 k2, .int .i64 C.c0, .int .i64 C.c1, .int .i64 C.c2, .int .i64 C.c3, .string C.pa, .int .i64 C.c4, .int .i64 C.c5, .int .i64 C.c6, .int .i64 C.c7, .int .i64 C.c8, .int .i64 C.c9, .int .i64 C.c10, .int .i64 C.c11, .int .i64 C.c12, .int .i64 C.c13, .int .i64 C.c14] 25))
  have FA := hide (hp_new w (.cells #[.slice a1 n1 k1, .slice a2 n2 k2, .int .i64 C.c0, .int .i64 C.c1, .int .i64 C.c2, .int .i64 C.c3, .string C.pa, .int .i64 C.c4, .int .i64 C.c5, .int .i64 C.c6, .int .i64 C.c7, .int .i64 C.c8, .int .i64 C.c9, .int .i64 C.c10, .int .i64 C.c11, .int .i64 C.c12, .int .i64 C.c13, .int .i64 C.c14] 25))
  generalize hx0 : w.alloc (.cells #[.slice a1 n1 k1, .slice a2 n2 k2, .int .i64 C.c0, .int .i64 C.c1, .int .i64 C.c2, .int .i64 C.c3, .string C.pa, .int .i64 C.c4, .int .i64 C.c5, .int .i64 C.c6, .int .i64 C.c7, .int .i64 C.c8, .int .i64 C.c9, .int .i64 C.c10, .int .i64 C.c11, .int .i64 C.c12, .int .i64 C.c13, .int .i64 C.c14] 25) = x at B0 FA ⊢
  clear hx0
  have FA : Hid (x.heap[w.heap.size]? = some (.cells (cfgCs (.slice a1 n1 k1) (.slice a2 n2 k2) C).toArray 25 (0, 0))) := FA
  have m0 : x.cell? ⟨w.heap.size, 0, none⟩ = some (.slice a1 n1 k1) := cell_at FA.out 0
  go_wp2
  clear m0
  go_loopw [15, 3] (fun i v wr => ∃ k : Nat, k ≤ n1 ∧ i = .int .i64 k ∧ Hid (wr.ownsRow x.heap.size 43 3 v k (HS.reverse.take k).flatten) ∧ Hid (Below x.heap.size x wr)) (fun i _ _ => n1 - (intOf i).toNat)
  case atStart => exact ⟨0, Nat.zero_le _, rfl, hide (own_nil _ _ _ _), hide (Below.refl _ _)⟩
  case round =>
    obtain ⟨k, hk, rfl, HR, HB⟩ := hrel
    obtain ⟨b9, l9, hv9⟩ := own_shape HR.out
    subst hv9
    have FB := hide ((HB.out.block w.heap.size (Nat.lt_of_lt_of_le (blk_lt FA.out) (Nat.le_refl _))).trans FA.out)
    by_cases hlt : k < n1
    · have m0 : wr.cell? ⟨w.heap.size, 0, none⟩ = some (.slice a1 n1 k1) := cell_at FB.out 0
      obtain ⟨j, HJ⟩ : ∃ j : Nat, Hid (n1 = k + 1 + j) := ⟨n1 - (k + 1), hide (by omega)⟩
      have hjn : j < n1 := by have := HJ.out; omega
      have hjl : j < HS.length := by rw [HCH.out]; exact hjn
      have HSN := hide (rev_flat2 HS k j (by rw [HCH.out]; exact HJ.out) hjl)
      obtain ⟨g, o, rfl, hg, hra⟩ := HT1.out j hjl
      have HRA : Hid (wr.rangeAt g (o + j * 3) HS[j]) := hide (fun i v hv => ((B0.out.trans (HB.out.mono B0.out.size)).cell (p := ⟨g, o + j * 3 + i, none⟩) hg).trans (hra i v hv))
      obtain ⟨hc1, hc2⟩ := HM1.out HS[j] (List.getElem_mem hjl)
      have HC9 := hide hc2
      have HLC := hide hc1
      clear hra hg hc1 hc2
      generalize HS[j] = c at HRA HSN HC9 HLC
      have hw : IntKind.i64.wrap (IntKind.i64.wrap ((n1 : Int) - 1) - (k : Int)) = (j : Int) := by
        rw [IntWalk.i64_in ((n1 : Int) - 1) ⟨by omega, by omega⟩, IntWalk.i64_in _ ⟨by have := HJ.out; omega, by have := HJ.out; omega⟩]
        have := HJ.out
        omega
      clear hjl
      go_upto_region 5 with fail
      refine wp_region_lit ?_
      refine wpList_want (by kernel_rfl) fun K hK => ?_
      go_simp
      refine hK _ _ ?_
      clear hK K
      refine wpList_want (by kernel_rfl) fun K hK => ?_
      go_simp
      refine hK _ _ ?_
      clear hK K
      refine wpList_want (by kernel_rfl) fun K hK => ?_
      go_simp
      refine hK _ _ ?_
      clear hK K
      refine wpList_want (by kernel_rfl) fun K hK => ?_
      go_simp
      refine hK _ _ ?_
      clear hK K
      refine wpList_want (by kernel_rfl) fun K hK => ?_
      go_simp
      refine hK _ _ ?_
      clear hK K
      refine wpList_want (by kernel_rfl) fun K hK => ?_
      go_simp
      refine hK _ _ ?_
      clear hK K
      refine wpList_want (by kernel_rfl) fun K hK => ?_
      go_simp
      refine hK _ _ ?_
      clear hK K
      refine wpList_want (by kernel_rfl) fun K hK => ?_
      go_simp
      refine hK _ _ ?_
      clear hK K
      refine wpList_want (by kernel_rfl) fun K hK => ?_
      go_simp
      refine hK _ _ ?_
      clear hK K
      refine wpList_want (by kernel_rfl) fun K hK => ?_
      go_simp
      refine hK _ _ ?_
      clear hK K
      refine wpList_load_mid rfl 43 _ rfl g (o + j * 3) rfl c _ HRA.out Tryz.underlying43 rfl (by rw [HLC.out]; kernel_rfl) ?_
      simp only [Act.put, List.setIfInBounds_toArray, List.set_cons_zero, List.set_cons_succ]
      refine wpList_build_st Tryz.underlying22 infoHst (by omega) (by omega) rfl _ rfl c rfl HLC.out ?_
      simp only [Act.put, List.setIfInBounds_toArray, List.set_cons_zero, List.set_cons_succ]
      refine wpList_append_st Tryz.underlying22 infoHst rfl (by omega) rfl _ _ rfl wr x.heap.size (.slice b9 k l9) k _ c rfl rfl HR.out HLC.out HC9.out (by omega) (by omega) HB.out.size ?_
      intro v' w4 O4 B4
      simp only [Act.put, List.setIfInBounds_toArray, List.set_cons_zero, List.set_cons_succ]
      have O5 := hide O4
      have B5 := hide (HB.out.trans B4)
      clear O4 B4 hw m0
      go_wp2
      exact ⟨⟨k + 1, by omega, by go_num, hide (by rw [HSN.out]; exact O5.out), B5⟩, by simp [intOf]; omega⟩
    · obtain rfl : n1 = k := by omega
      have HO1 : Hid (wr.ownsRow x.heap.size 43 3 (.slice b9 n1 l9) n1 HS.reverse.flatten) := hide (by have := HR.out; rwa [List.take_of_length_le (by rw [List.length_reverse, HCH.out]; exact Nat.le_refl _)] at this)
      have B1 := hide (B0.out.trans (HB.out.mono B0.out.size))
      have m0 : wr.cell? ⟨w.heap.size, 1, none⟩ = some (.slice a2 n2 k2) := cell_at FB.out 1
      have LX : Hid (w.heap.size < x.heap.size) := hide (blk_lt FA.out)
      have LY : Hid (w.heap.size < wr.heap.size) := hide (blk_lt FB.out)
      clear HR HB hk hlt FA B0
      have FD := FB
      clear FB
      generalize wr = y at *
      generalize b9 = b1 at *
      generalize l9 = l1 at *
      go_wp2
      clear m0
      go_loopw [35, 5] (fun i v wr => ∃ k : Nat, k ≤ n2 ∧ i = .int .i64 k ∧ Hid (wr.ownsRow y.heap.size 40 21 v k (CS.reverse.take k).flatten) ∧ Hid (Below y.heap.size y wr)) (fun i _ _ => n2 - (intOf i).toNat)
      case atStart => exact ⟨0, Nat.zero_le _, rfl, hide (own_nil _ _ _ _), hide (Below.refl _ _)⟩
      case round =>
        obtain ⟨k, hk, rfl, HR, HB⟩ := hrel
        obtain ⟨b9, l9, hv9⟩ := own_shape HR.out
        subst hv9
        have FB := hide ((HB.out.block w.heap.size (Nat.lt_of_lt_of_le (blk_lt FD.out) (Nat.le_refl _))).trans FD.out)
        by_cases hlt : k < n2
        · have m0 : wr.cell? ⟨w.heap.size, 1, none⟩ = some (.slice a2 n2 k2) := cell_at FB.out 1
          obtain ⟨j, HJ⟩ : ∃ j : Nat, Hid (n2 = k + 1 + j) := ⟨n2 - (k + 1), hide (by omega)⟩
          have hjn : j < n2 := by have := HJ.out; omega
          have hjl : j < CS.length := by rw [HCL.out]; exact hjn
          have HSN := hide (rev_flat2 CS k j (by rw [HCL.out]; exact HJ.out) hjl)
          obtain ⟨g, o, rfl, hg, hra⟩ := HT2.out j hjl
          have HRA : Hid (wr.rangeAt g (o + j * 21) CS[j]) := hide (fun i v hv => ((B1.out.trans (HB.out.mono B1.out.size)).cell (p := ⟨g, o + j * 21 + i, none⟩) hg).trans (hra i v hv))
          obtain ⟨hc1, hc2⟩ := HM2.out CS[j] (List.getElem_mem hjl)
          have HC9 := hide hc2
          have HLC := hide hc1
          clear hra hg hc1 hc2
          generalize CS[j] = c at HRA HSN HC9 HLC
          have hw : IntKind.i64.wrap (IntKind.i64.wrap ((n2 : Int) - 1) - (k : Int)) = (j : Int) := by
            rw [IntWalk.i64_in ((n2 : Int) - 1) ⟨by omega, by omega⟩, IntWalk.i64_in _ ⟨by have := HJ.out; omega, by have := HJ.out; omega⟩]
            have := HJ.out
            omega
          clear hjl
          go_upto_region 11 with fail
          refine wp_region_lit ?_
          refine wpList_want (by kernel_rfl) fun K hK => ?_
          go_simp
          refine hK _ _ ?_
          clear hK K
          refine wpList_want (by kernel_rfl) fun K hK => ?_
          go_simp
          refine hK _ _ ?_
          clear hK K
          refine wpList_want (by kernel_rfl) fun K hK => ?_
          go_simp
          refine hK _ _ ?_
          clear hK K
          refine wpList_want (by kernel_rfl) fun K hK => ?_
          go_simp
          refine hK _ _ ?_
          clear hK K
          refine wpList_want (by kernel_rfl) fun K hK => ?_
          go_simp
          refine hK _ _ ?_
          clear hK K
          refine wpList_want (by kernel_rfl) fun K hK => ?_
          go_simp
          refine hK _ _ ?_
          clear hK K
          refine wpList_want (by kernel_rfl) fun K hK => ?_
          go_simp
          refine hK _ _ ?_
          clear hK K
          refine wpList_want (by kernel_rfl) fun K hK => ?_
          go_simp
          refine hK _ _ ?_
          clear hK K
          refine wpList_want (by kernel_rfl) fun K hK => ?_
          go_simp
          refine hK _ _ ?_
          clear hK K
          refine wpList_want (by kernel_rfl) fun K hK => ?_
          go_simp
          refine hK _ _ ?_
          clear hK K
          refine wpList_load_mid rfl 40 _ rfl g (o + j * 21) rfl c _ HRA.out Tryz.underlying40 rfl (by rw [HLC.out]; kernel_rfl) ?_
          simp only [Act.put, List.setIfInBounds_toArray, List.set_cons_zero, List.set_cons_succ]
          refine wpList_build_st Tryz.underlying23 infoRoute (by omega) (by omega) rfl _ rfl c rfl HLC.out ?_
          simp only [Act.put, List.setIfInBounds_toArray, List.set_cons_zero, List.set_cons_succ]
          refine wpList_append_st Tryz.underlying23 infoRoute rfl (by omega) rfl _ _ rfl wr y.heap.size (.slice b9 k l9) k _ c rfl rfl HR.out HLC.out HC9.out (by omega) (by omega) HB.out.size ?_
          intro v' w4 O4 B4
          simp only [Act.put, List.setIfInBounds_toArray, List.set_cons_zero, List.set_cons_succ]
          have O5 := hide O4
          have B5 := hide (HB.out.trans B4)
          clear O4 B4 hw m0
          go_wp2
          exact ⟨⟨k + 1, by omega, by go_num, hide (by rw [HSN.out]; exact O5.out), B5⟩, by simp [intOf]; omega⟩
        · obtain rfl : n2 = k := by omega
          have HO2 : Hid (wr.ownsRow y.heap.size 40 21 (.slice b9 n2 l9) n2 CS.reverse.flatten) := hide (by have := HR.out; rwa [List.take_of_length_le (by rw [List.length_reverse, HCL.out]; exact Nat.le_refl _)] at this)
          have HO1 := hide (own_below HO1.out HB.out)
          have B2 := hide (B1.out.trans (HB.out.mono B1.out.size))
          have FC := FB
          clear HR HB hk hlt FB B1 HT1 HT2 hl1 hl2 FD
          go_upto_region 13 with fail
          refine wp_region_lit ?_
          refine wpList_load_mid rfl 25 _ rfl w.heap.size 0 rfl (cfgCs (.slice a1 n1 k1) (.slice a2 n2 k2) C) _ (range_of FC.out) Tryz.underlying25 rfl (by kernel_rfl) ?_
          simp only [Act.put, List.setIfInBounds_toArray, List.set_cons_zero, List.set_cons_succ]
          go_wp2_with fail
          refine (HC1.out wr B2.out).mono ?_
          rintro e w1 ⟨rfl, bb⟩
          have FC := hide ((bb.block w.heap.size (blk_lt FC.out)).trans FC.out)
          have B3 := hide (B2.out.trans (bb.mono B2.out.size))
          have HO1 := hide (own_below HO1.out bb)
          have HO2 := hide (own_below HO2.out bb)
          clear bb B2 HC1
          go_upto_region 14 with fail
          refine wp_region_lit ?_
          refine wpList_load_mid rfl 25 _ rfl w.heap.size 0 rfl (cfgCs (.slice a1 n1 k1) (.slice a2 n2 k2) C) _ (range_of FC.out) Tryz.underlying25 rfl (by kernel_rfl) ?_
          simp only [Act.put, List.setIfInBounds_toArray, List.set_cons_zero, List.set_cons_succ]
          go_wp2_with fail
          refine (HC2.out w1 B3.out).mono ?_
          rintro e w2 ⟨rfl, bb⟩
          have FC := hide ((bb.block w.heap.size (blk_lt FC.out)).trans FC.out)
          have B4 := hide (B3.out.trans (bb.mono B3.out.size))
          have HO1 := hide (own_below HO1.out bb)
          have HO2 := hide (own_below HO2.out bb)
          clear bb B3 HC2
          have m0 : w2.cell? ⟨w.heap.size, 0, none⟩ = some (.slice a1 n1 k1) := cell_at FC.out 0
          have f0 : w2.frozen? ⟨w.heap.size, 0, none⟩ = false := by rw [frozen_at FC.out]; simp
          go_upto_region 16 with fail
          have FC : Hid ((w2.setCell ⟨w.heap.size, 0, none⟩ (.slice b1 n1 l1)).heap[w.heap.size]? = some (.cells (cfgCs (.slice b1 n1 l1) (.slice a2 n2 k2) C).toArray 25 (0, 0))) := hide (hp_set FC.out 0 _)
          have B5 := hide (B4.out.setCell (p := ⟨w.heap.size, 0, none⟩) (by simp) (.slice b1 n1 l1))
          have HO1 := hide (own_frame HO1.out (fun g hg => Below.heap_setCell w2 ⟨w.heap.size, 0, none⟩ (.slice b1 n1 l1) g (by have := (World.ownsRow.lt HO1.out g hg).1; have := LX.out; simp; omega)))
          have HO2 := hide (own_frame HO2.out (fun g hg => Below.heap_setCell w2 ⟨w.heap.size, 0, none⟩ (.slice b1 n1 l1) g (by have := (World.ownsRow.lt HO2.out g hg).1; have := LY.out; simp; omega)))
          clear m0 f0 B4
          generalize w2.setCell ⟨w.heap.size, 0, none⟩ (.slice b1 n1 l1) = w3 at *
          have m1 : w3.cell? ⟨w.heap.size, 1, none⟩ = some (.slice a2 n2 k2) := cell_at FC.out 1
          have f1 : w3.frozen? ⟨w.heap.size, 1, none⟩ = false := by rw [frozen_at FC.out]; simp
          go_upto_region 17 with fail
          have FC : Hid ((w3.setCell ⟨w.heap.size, 1, none⟩ (.slice b9 n2 l9)).heap[w.heap.size]? = some (.cells (cfgCs (.slice b1 n1 l1) (.slice b9 n2 l9) C).toArray 25 (0, 0))) := hide (hp_set FC.out 1 _)
          have B6 := hide (B5.out.setCell (p := ⟨w.heap.size, 1, none⟩) (by simp) (.slice b9 n2 l9))
          have HO1 := hide (own_frame HO1.out (fun g hg => Below.heap_setCell w3 ⟨w.heap.size, 1, none⟩ (.slice b9 n2 l9) g (by have := (World.ownsRow.lt HO1.out g hg).1; have := LX.out; simp; omega)))
          have HO2 := hide (own_frame HO2.out (fun g hg => Below.heap_setCell w3 ⟨w.heap.size, 1, none⟩ (.slice b9 n2 l9) g (by have := (World.ownsRow.lt HO2.out g hg).1; have := LY.out; simp; omega)))
          clear m1 f1 B5
          generalize w3.setCell ⟨w.heap.size, 1, none⟩ (.slice b9 n2 l9) = w4 at *
          have Q1 := hide (own_tb HO1.out (by rw [List.length_reverse, HCH.out]) (fun c hc => HM1.out c (List.mem_reverse.1 hc)))
          have Q2 := hide (own_tb HO2.out (by rw [List.length_reverse, HCL.out]) (fun c hc => HM2.out c (List.mem_reverse.1 hc)))
          clear HO1 HO2 HM1 HM2 HCL HCH LX LY
          go_upto_region 17 with fail
          refine wp_region_lit ?_
          refine wpList_load_mid rfl 25 _ rfl w.heap.size 0 rfl (cfgCs (.slice b1 n1 l1) (.slice b9 n2 l9) C) _ (range_of FC.out) Tryz.underlying25 rfl (by kernel_rfl) ?_
          simp only [Act.put, List.setIfInBounds_toArray, List.set_cons_zero, List.set_cons_succ]
          go_wp2_with fail
          refine (HD2.out w4 _ _ _ _ B6.out Q1.out Q2.out).mono ?_
          rintro e w5 ⟨rfl, bb⟩
          have FC := hide ((bb.block w.heap.size (blk_lt FC.out)).trans FC.out)
          have B7 := hide (B6.out.trans (bb.mono B6.out.size))
          have Q1 := hide (Q1.out.below bb)
          have Q2 := hide (Q2.out.below bb)
          clear bb B6 HD2
          go_upto_region 18 with fail
          refine wp_region_lit ?_
          refine wpList_load_mid rfl 25 _ rfl w.heap.size 0 rfl (cfgCs (.slice b1 n1 l1) (.slice b9 n2 l9) C) _ (range_of FC.out) Tryz.underlying25 rfl (by kernel_rfl) ?_
          simp only [Act.put, List.setIfInBounds_toArray, List.set_cons_zero, List.set_cons_succ]
          go_wp2_with fail
          refine (HD1.out w5 _ _ _ _ B7.out Q1.out Q2.out).mono ?_
          rintro e w6 ⟨rfl, bb⟩
          have B8 := hide (B7.out.trans (bb.mono B7.out.size))
          have HSP := hide (speaks_any w6 (HTB.out.below B8.out))
          clear bb B7 HD1 FC Q1 Q2 HTB
          have eE : (E == E) = true := by simp
          have eV : (V == V) = true := by simp
          go_wp2_with (go_at_call 12; refine HSP.out.mono ?_; rintro e w7 ⟨rfl, HG⟩)
          go_ret
          exact ⟨rfl, B8.out.trans (HG.mono B8.out.size)⟩


end Go.Proofs.YtekkhjlipijmcaaGreatDoor
