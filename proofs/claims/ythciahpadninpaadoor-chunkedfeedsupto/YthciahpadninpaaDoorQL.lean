/- QL: CFeed4 CFeedsP CCutW. -/
import Derived.Test.YthciahpadninpaaDoorQD
import Derived.Test.YthciahpadninpaaDoorQF
import Derived.Test.YthciahpadninpaaDoorQH
import Derived.Test.YthciahpadninpaaDoorQK
/- Feed, walked: what is told lies apart from the decoder. -/
namespace Go.Proofs.YthciahpadninpaaDoor
open Go.ChangeShapes Go.WideShapes Go.ChangeAt Go.RowKit

set_option maxHeartbeats 8000000 in
set_option maxRecDepth 100000 in
theorem feed_on2 {w : World} {base g : Nat} {A : Nat → Prop} {lv tv : Value} {d : Dz} (hD : Dec w base g lv tv d) (hf : FitD d) (hw : d.whole = false) (hwr : d.wrong = 0) (hm : MX w) (hb : 2 ≤ base) (v : Value) (l : List UInt8) (hv : Bf w A v l) (hs : Shp v) (gA : ¬ A g) (lA : ∀ k, lv.ownBlock = some k → ¬ A k) (tA : ∀ k, tv.ownBlock = some k → ¬ A k) (AL : ∀ k, A k → k < w.heap.size) (hl : l.length ≤ 70368744177664) :
    Calls Tryd.prog 13 #[.pointer (some ⟨g, 0, none⟩), v] w fun e w' => ∃ bv lv' tv', e = .returned (.tuple #[bv, .int .i64 ((dBytes d l).2.1 : Int), .bool (dBytes d l).2.2.2.whole, .int .i64 ((dBytes d l).1 : Int)]) ∧ Row w' w.heap.size 5 bv (bc (dBytes d l).2.2.1) ∧ Dec w' base g lv' tv' (dForget { (dBytes d l).2.2.2 with wrong := (dBytes d l).1 }) ∧ PK w w' g lv tv lv' tv' ∧ (∀ k, bv.ownBlock = some k → k ≠ g ∧ lv'.ownBlock ≠ some k ∧ tv'.ownBlock ≠ some k) := by
  have HD := hide hD
  have HF := hide hf
  have HM := hide hm
  have HV := hide hv
  have HSH := hide hs
  have HW := hide hw
  have HWR := hide hwr
  obtain ⟨va, vc, rfl, _, _⟩ := hv
  have c0 : w.cell? ⟨g, 0, none⟩ = some (stV d.fn g) := hD.cell 0
  unfold stV at c0
  have e5 := eq_nilFunc d.fn g
  have hgl : g < w.heap.size := hD.lt
  have hbs : base ≤ w.heap.size := Nat.le_of_lt (Nat.lt_of_le_of_lt hD.gb hD.lt)
  clear hD hf hm hs hw hwr
  generalize hRD : dBytes d l = RD
  have HRD := hide hRD
  clear hRD
  go_enter Tryd.func13, Tryd.ntmps13
  go_upto_region 4 with fail
  have B1 := hide ((Below.refl w.heap.size w).alloc (Nat.le_refl _) (.cells #[.slice va l.length vc, .slice none 0 0] 59))
  have HB1 := hide (hp_new w (.cells #[.slice va l.length vc, .slice none 0 0] 59))
  generalize w.alloc (.cells #[.slice va l.length vc, .slice none 0 0] 59) = w1 at B1 HB1 ⊢
  have HP1 : Hid (DP w1 base A g w.heap.size lv tv (.slice va l.length vc) (.slice none 0 0) d l []) := hide ⟨HD.out.below B1.out, ⟨HB1.out, HV.out.below B1.out, HSH.out, Row.nil _ _ _, hbs, by simp [Value.ownBlock], (fun hA => by have := AL _ hA; omega), (fun k e => by simp [Value.ownBlock] at e), (fun k hA => Nat.lt_of_lt_of_le (AL k hA) B1.out.size)⟩, by omega, (fun e => by have := (HD.out.line.lt e).2; omega), (fun e => by have := (HD.out.trs.lt e).2; omega), by simp [Value.ownBlock], (fun k e => by simp [Value.ownBlock] at e), (fun k e => by simp [Value.ownBlock] at e), gA, lA, tA⟩
  clear c0 e5
  go_loopw [20] (fun _ wr => ∃ (k : Nat) (o : List UInt8) (en : Nat) (d1 : Dz) (lv1 tv1 rv1 bv1 : Value), Hid (Dn d l k o en d1) ∧ Hid (FitD d1) ∧ Hid (d1.wrong = 0) ∧ Hid (DP wr base A g w.heap.size lv1 tv1 rv1 bv1 { d1 with wrong := en } (l.drop k) o) ∧ Hid (DK w1 wr g w.heap.size lv tv (.slice none 0 0) lv1 tv1 bv1)) (fun _ wr => restLen w.heap.size wr)
  case atStart => exact ⟨0, [], 0, d, lv, tv, _, _, hide (Dn.refl d l HW.out), HF, HWR, hide (by rw [List.drop_zero, eta_wrong HWR.out]; exact HP1.out), hide (DK.refl _ _ _ _ _ _)⟩
  case round =>
    obtain ⟨k, o, en, d1, lv1, tv1, rv1, bv1, HDN, HF1, HWR1, HP2, HK2⟩ := hrel
    have hkl : k ≤ l.length := HDN.out.1
    have HDL : Hid ((l.drop k).length = l.length - k) := hide (by rw [List.length_drop])
    have HRL := hide HP2.out.restLen
    obtain ⟨ra, rc, hre, _, _⟩ := HP2.out.pce.rest
    rw [HDL.out] at hre
    subst hre
    have p0 : wr.cell? ⟨w.heap.size, 0, none⟩ = some (.slice ra (l.length - k) rc) := HP2.out.pce.cell 0
    by_cases hr : k < l.length
    · have HOV := hide (over_any HP2.out.dec)
      have t1 : (0 : Int) < ((l.length - k : Nat) : Int) := by omega
      by_cases hov : en ≠ 0 ∨ d1.whole = true
      · have e1 : overB { d1 with wrong := en } = true := by
          unfold overB
          rw [Bool.or_eq_true]
          rcases hov with h5 | h5
          · exact .inr (decide_eq_true h5)
          · exact .inl h5
        rw [e1] at HOV
        have HBY := hide (HRD.out.symm.trans (HDN.out.done (.inl hov)))
        clear e1 hov
        go_wp2_with fail
        refine HOV.out.mono ?_
        rintro e w' ⟨rfl, rfl⟩
        have HFG := hide (forget_any HP2.out.dec)
        go_wp2_with fail
        refine HFG.out.mono ?_
        rintro e w5 ⟨rfl, lv5, tv5, hd5, hk5⟩
        have HP5 := hide (HP2.out.of_PK hd5 hk5)
        have HK5 := hide (HK2.out.trans (DK.of_PK (h := w.heap.size) _ hk5))
        clear hd5 hk5 HFG
        obtain ⟨ba5, bc5, hbe5, _, _⟩ := HP5.out.pce.body.shape
        rw [bc_len] at hbe5
        subst hbe5
        have p0 := HP5.out.pce.cell 0
        have p1 := HP5.out.pce.cell 1
        have c6 : w5.cell? ⟨g, 6, none⟩ = some (.bool d1.whole) := HP5.out.dec.cell 6
        have c7 : w5.cell? ⟨g, 7, none⟩ = some (.int .i64 (en : Int)) := HP5.out.dec.cell 7
        go_upto_region 7 with fail
        have hsub : (l.length : Int) - ((l.length - k : Nat) : Int) = (k : Int) := by omega
        have hwrap : IntKind.i64.wrap (k : Int) = (k : Int) := IntWalk.i64_in _ ⟨by omega, by omega⟩
        refine wp_region_cl (by kernel_rfl) (by kernel_rfl) ?_
        refine cl_val (v := ?_) rfl (fun W hW => ?_) ?_
        rotate_left
        · unfold Oper.quietAt; go_simp; try with_reducible rfl
        simp only [Act.put, List.setIfInBounds_toArray, List.set_cons_zero, List.set_cons_succ]
        refine cl_val (v := ?_) rfl (fun W hW => ?_) ?_
        rotate_left
        · have l0 := hW.cell p1; unfold Oper.quietAt; go_simp; try with_reducible rfl
        simp only [Act.put, List.setIfInBounds_toArray, List.set_cons_zero, List.set_cons_succ]
        refine cl_move _ rfl rfl ?_
        simp only [Act.put, List.setIfInBounds_toArray, List.set_cons_zero, List.set_cons_succ]
        refine cl_val (v := ?_) rfl (fun W hW => ?_) ?_
        rotate_left
        · unfold Oper.quietAt; go_simp; try with_reducible rfl
        simp only [Act.put, List.setIfInBounds_toArray, List.set_cons_zero, List.set_cons_succ]
        refine cl_val (v := ?_) rfl (fun W hW => ?_) ?_
        rotate_left
        · unfold Oper.quietAt; go_simp; try with_reducible rfl
        simp only [Act.put, List.setIfInBounds_toArray, List.set_cons_zero, List.set_cons_succ]
        refine cl_val (v := ?_) rfl (fun W hW => ?_) ?_
        rotate_left
        · have l0 := hW.cell p0; unfold Oper.quietAt; go_simp; try with_reducible rfl
        simp only [Act.put, List.setIfInBounds_toArray, List.set_cons_zero, List.set_cons_succ]
        refine cl_val (v := ?_) rfl (fun W hW => ?_) ?_
        rotate_left
        · unfold Oper.quietAt; go_simp; try with_reducible rfl
        simp only [Act.put, List.setIfInBounds_toArray, List.set_cons_zero, List.set_cons_succ]
        refine cl_val (v := ?_) rfl (fun W hW => ?_) ?_
        rotate_left
        · unfold Oper.quietAt; go_simp; try with_reducible rfl
        simp only [Act.put, List.setIfInBounds_toArray, List.set_cons_zero, List.set_cons_succ]
        refine cl_move _ rfl rfl ?_
        simp only [Act.put, List.setIfInBounds_toArray, List.set_cons_zero, List.set_cons_succ]
        refine cl_val (v := ?_) rfl (fun W hW => ?_) ?_
        rotate_left
        · unfold Oper.quietAt; go_simp; try with_reducible rfl
        simp only [Act.put, List.setIfInBounds_toArray, List.set_cons_zero, List.set_cons_succ]
        refine cl_val (v := ?_) rfl (fun W hW => ?_) ?_
        rotate_left
        · unfold Oper.quietAt; go_simp; try with_reducible rfl
        simp only [Act.put, List.setIfInBounds_toArray, List.set_cons_zero, List.set_cons_succ]
        refine cl_val (v := ?_) rfl (fun W hW => ?_) ?_
        rotate_left
        · have l0 := hW.cell c6; unfold Oper.quietAt; go_simp; try with_reducible rfl
        simp only [Act.put, List.setIfInBounds_toArray, List.set_cons_zero, List.set_cons_succ]
        refine cl_move _ rfl rfl ?_
        simp only [Act.put, List.setIfInBounds_toArray, List.set_cons_zero, List.set_cons_succ]
        refine cl_val (v := ?_) rfl (fun W hW => ?_) ?_
        rotate_left
        · unfold Oper.quietAt; go_simp; try with_reducible rfl
        simp only [Act.put, List.setIfInBounds_toArray, List.set_cons_zero, List.set_cons_succ]
        refine cl_val (v := ?_) rfl (fun W hW => ?_) ?_
        rotate_left
        · unfold Oper.quietAt; go_simp; try with_reducible rfl
        simp only [Act.put, List.setIfInBounds_toArray, List.set_cons_zero, List.set_cons_succ]
        refine cl_val (v := ?_) rfl (fun W hW => ?_) ?_
        rotate_left
        · have l0 := hW.cell c7; unfold Oper.quietAt; go_simp; try with_reducible rfl
        simp only [Act.put, List.setIfInBounds_toArray, List.set_cons_zero, List.set_cons_succ]
        refine cl_assign _ rfl rfl ?_
        simp only [Act.put, List.setIfInBounds_toArray, List.set_cons_zero, List.set_cons_succ]
        refine cl_assign _ rfl rfl ?_
        simp only [Act.put, List.setIfInBounds_toArray, List.set_cons_zero, List.set_cons_succ]
        refine cl_assign _ rfl rfl ?_
        simp only [Act.put, List.setIfInBounds_toArray, List.set_cons_zero, List.set_cons_succ]
        refine cl_assign _ rfl rfl ?_
        simp only [Act.put, List.setIfInBounds_toArray, List.set_cons_zero, List.set_cons_succ]
        refine wpQuiet_nil ?_
        intro z Hz
        have HP9 := hide (HP5.out.below Hz.out)
        have HK9 := hide (HK5.out.trans (DK.of_below g w.heap.size lv5 tv5 (.slice ba5 o.length bc5) Hz.out))
        clear p0 p1 c6 c7
        go_wp2
        exact bodyPost_ret (v := .tuple #[.slice ba5 o.length bc5, .int .i64 (k : Int), .bool d1.whole, .int .i64 (en : Int)]) (by simp [results, Tryd.results13, go_sem]) rfl ⟨_, _, _, by rw [HBY.out], by rw [HBY.out]; exact Row.raise HP9.out.pce.body (fun i e => Nat.le_of_not_lt fun h9 => HK9.out.ba i (Nat.lt_of_lt_of_le h9 B1.out.size) (by simp [Value.ownBlock]) e), by rw [HBY.out]; exact HP9.out.dec, HK9.out.pk B1.out (Nat.le_refl _) (fun i e => by simp [Value.ownBlock] at e), fun i e => ⟨fun e2 => HP9.out.bg (by rw [e, e2]), HP9.out.bl i e, HP9.out.bt i e⟩⟩
      · have e1 : overB { d1 with wrong := en } = false := by
          unfold overB
          rw [not_or] at hov
          rw [Bool.or_eq_false_iff]
          exact ⟨by simpa using hov.2, decide_eq_false (by simpa using hov.1)⟩
        rw [not_or] at hov
        have hen : en = 0 := by simpa using hov.1
        have hw1 : d1.whole = false := by simpa using hov.2
        subst hen
        have HW1 := hide hw1
        rw [e1] at HOV
        clear e1 hov hw1
        have hp2 := HP2.out
        rw [eta_wrong HWR1.out] at hp2
        have HP3 := hide hp2
        clear hp2 HP2
        have HM2 := hide ((HM.out.below B1.out).dk HP1.out hb HK2.out)
        have hdn : l.drop k ≠ [] := fun h6 => by
          have := HDL.out
          rw [h6] at this
          simp at this
          omega
        have hlo : (l.drop k).length + o.length ≤ 140737488355328 := by
          have h7 := dn_out HDN.out
          rw [HDL.out]
          omega
        have hld : (l.drop k).length ≤ 140737488355328 := by omega
        go_wp2_with fail
        refine HOV.out.mono ?_
        rintro e w' ⟨rfl, rfl⟩
        have c0 := HP3.out.dec.cell 0
        rw [show (dcells d1 g lv1 tv1)[0]? = some (stV d1.fn g) from rfl] at c0
        rcases HF1.out.fn with hfn | hfn | hfn
        · have HS := hide (sizeLine_any HP3.out HF1.out hfn HW1.out HM2.out hb hld)
          have c0' : wr.cell? ⟨g, 0, none⟩ = some (.func (.func 20) #[.pointer (some ⟨g, 0, none⟩)] #[]) := by
            rw [c0]
            unfold stV
            rw [hfn]
            rfl
          clear c0 hfn
          go_wp2_with fail
          refine HS.out.mono ?_
          rintro e w4 ⟨en, k2, o2, d2, lv2, tv2, rv2, bv2, rfl, h1, h2, h3, h4, h5, h6⟩
          have HDN2 := hide (HDN.out.trans HW1.out h1)
          have HF2 := hide h2
          have HWR2 := hide (h4.trans HWR1.out)
          have HDD := hide (h5.dec.set 7 (.int .i64 (en : Int)) { d2 with wrong := en } rfl rfl rfl)
          have HP4 := hide (h5.of_PK HDD.out (PK.set w4 g 7 (.int .i64 (en : Int)) lv2 tv2))
          have HK4 := hide (HK2.out.trans (h6.trans (DK.of_PK (h := w.heap.size) bv2 (PK.set w4 g 7 (.int .i64 (en : Int)) lv2 tv2))))
          have c7 := h5.dec.cell 7
          have f7 := h5.dec.froz 7
          have hk2 := h3 hdn
          have hk3 := h1.1
          rw [HDL.out] at hk3
          clear h1 h2 h3 h4 h5 h6 HS
          go_wp2_with fail
          exact ⟨⟨k + k2, o ++ o2, en, d2, lv2, tv2, rv2, bv2, HDN2, HF2, HWR2, hide (by rw [← List.drop_drop]; exact HP4.out), HK4⟩, by rw [HP4.out.restLen, HRL.out, List.length_drop, HDL.out]; omega⟩
        · have HS := hide (body_any HP3.out HF1.out hfn HW1.out hdn HM2.out hb hlo)
          have c0' : wr.cell? ⟨g, 0, none⟩ = some (.func (.func 46) #[.pointer (some ⟨g, 0, none⟩)] #[]) := by
            rw [c0]
            unfold stV
            rw [hfn]
            rfl
          clear c0 hfn
          go_wp2_with fail
          refine HS.out.mono ?_
          rintro e w4 ⟨en, k2, o2, d2, lv2, tv2, rv2, bv2, rfl, h1, h2, h3, h4, h5, h6⟩
          have HDN2 := hide (HDN.out.trans HW1.out h1)
          have HF2 := hide h2
          have HWR2 := hide (h4.trans HWR1.out)
          have HDD := hide (h5.dec.set 7 (.int .i64 (en : Int)) { d2 with wrong := en } rfl rfl rfl)
          have HP4 := hide (h5.of_PK HDD.out (PK.set w4 g 7 (.int .i64 (en : Int)) lv2 tv2))
          have HK4 := hide (HK2.out.trans (h6.trans (DK.of_PK (h := w.heap.size) bv2 (PK.set w4 g 7 (.int .i64 (en : Int)) lv2 tv2))))
          have c7 := h5.dec.cell 7
          have f7 := h5.dec.froz 7
          have hk2 := h3 hdn
          have hk3 := h1.1
          rw [HDL.out] at hk3
          clear h1 h2 h3 h4 h5 h6 HS
          go_wp2_with fail
          exact ⟨⟨k + k2, o ++ o2, en, d2, lv2, tv2, rv2, bv2, HDN2, HF2, HWR2, hide (by rw [← List.drop_drop]; exact HP4.out), HK4⟩, by rw [HP4.out.restLen, HRL.out, List.length_drop, HDL.out]; omega⟩
        · have HS := hide (trailerLine_any HP3.out HF1.out hfn HW1.out HM2.out hb hld)
          have c0' : wr.cell? ⟨g, 0, none⟩ = some (.func (.func 47) #[.pointer (some ⟨g, 0, none⟩)] #[]) := by
            rw [c0]
            unfold stV
            rw [hfn]
            rfl
          clear c0 hfn
          go_wp2_with fail
          refine HS.out.mono ?_
          rintro e w4 ⟨en, k2, o2, d2, lv2, tv2, rv2, bv2, rfl, h1, h2, h3, h4, h5, h6⟩
          have HDN2 := hide (HDN.out.trans HW1.out h1)
          have HF2 := hide h2
          have HWR2 := hide (h4.trans HWR1.out)
          have HDD := hide (h5.dec.set 7 (.int .i64 (en : Int)) { d2 with wrong := en } rfl rfl rfl)
          have HP4 := hide (h5.of_PK HDD.out (PK.set w4 g 7 (.int .i64 (en : Int)) lv2 tv2))
          have HK4 := hide (HK2.out.trans (h6.trans (DK.of_PK (h := w.heap.size) bv2 (PK.set w4 g 7 (.int .i64 (en : Int)) lv2 tv2))))
          have c7 := h5.dec.cell 7
          have f7 := h5.dec.froz 7
          have hk2 := h3 hdn
          have hk3 := h1.1
          rw [HDL.out] at hk3
          clear h1 h2 h3 h4 h5 h6 HS
          go_wp2_with fail
          exact ⟨⟨k + k2, o ++ o2, en, d2, lv2, tv2, rv2, bv2, HDN2, HF2, HWR2, hide (by rw [← List.drop_drop]; exact HP4.out), HK4⟩, by rw [HP4.out.restLen, HRL.out, List.length_drop, HDL.out]; omega⟩
    · have hd0 : l.drop k = [] := List.drop_of_length_le (by omega)
      have t1 : ¬ (0 : Int) < ((l.length - k : Nat) : Int) := by omega
      have HBY := hide (HRD.out.symm.trans (HDN.out.done (.inr hd0)))
      clear hd0
      have HFG := hide (forget_any HP2.out.dec)
      go_wp2_with fail
      refine HFG.out.mono ?_
      rintro e w5 ⟨rfl, lv5, tv5, hd5, hk5⟩
      have HP5 := hide (HP2.out.of_PK hd5 hk5)
      have HK5 := hide (HK2.out.trans (DK.of_PK (h := w.heap.size) _ hk5))
      clear hd5 hk5 HFG
      obtain ⟨ba5, bc5, hbe5, _, _⟩ := HP5.out.pce.body.shape
      rw [bc_len] at hbe5
      subst hbe5
      have p0 := HP5.out.pce.cell 0
      have p1 := HP5.out.pce.cell 1
      have c6 : w5.cell? ⟨g, 6, none⟩ = some (.bool d1.whole) := HP5.out.dec.cell 6
      have c7 : w5.cell? ⟨g, 7, none⟩ = some (.int .i64 (en : Int)) := HP5.out.dec.cell 7
      go_upto_region 7 with fail
      have hsub : (l.length : Int) - ((l.length - k : Nat) : Int) = (k : Int) := by omega
      have hwrap : IntKind.i64.wrap (k : Int) = (k : Int) := IntWalk.i64_in _ ⟨by omega, by omega⟩
      refine wp_region_cl (by kernel_rfl) (by kernel_rfl) ?_
      refine cl_val (v := ?_) rfl (fun W hW => ?_) ?_
      rotate_left
      · unfold Oper.quietAt; go_simp; try with_reducible rfl
      simp only [Act.put, List.setIfInBounds_toArray, List.set_cons_zero, List.set_cons_succ]
      refine cl_val (v := ?_) rfl (fun W hW => ?_) ?_
      rotate_left
      · have l0 := hW.cell p1; unfold Oper.quietAt; go_simp; try with_reducible rfl
      simp only [Act.put, List.setIfInBounds_toArray, List.set_cons_zero, List.set_cons_succ]
      refine cl_move _ rfl rfl ?_
      simp only [Act.put, List.setIfInBounds_toArray, List.set_cons_zero, List.set_cons_succ]
      refine cl_val (v := ?_) rfl (fun W hW => ?_) ?_
      rotate_left
      · unfold Oper.quietAt; go_simp; try with_reducible rfl
      simp only [Act.put, List.setIfInBounds_toArray, List.set_cons_zero, List.set_cons_succ]
      refine cl_val (v := ?_) rfl (fun W hW => ?_) ?_
      rotate_left
      · unfold Oper.quietAt; go_simp; try with_reducible rfl
      simp only [Act.put, List.setIfInBounds_toArray, List.set_cons_zero, List.set_cons_succ]
      refine cl_val (v := ?_) rfl (fun W hW => ?_) ?_
      rotate_left
      · have l0 := hW.cell p0; unfold Oper.quietAt; go_simp; try with_reducible rfl
      simp only [Act.put, List.setIfInBounds_toArray, List.set_cons_zero, List.set_cons_succ]
      refine cl_val (v := ?_) rfl (fun W hW => ?_) ?_
      rotate_left
      · unfold Oper.quietAt; go_simp; try with_reducible rfl
      simp only [Act.put, List.setIfInBounds_toArray, List.set_cons_zero, List.set_cons_succ]
      refine cl_val (v := ?_) rfl (fun W hW => ?_) ?_
      rotate_left
      · unfold Oper.quietAt; go_simp; try with_reducible rfl
      simp only [Act.put, List.setIfInBounds_toArray, List.set_cons_zero, List.set_cons_succ]
      refine cl_move _ rfl rfl ?_
      simp only [Act.put, List.setIfInBounds_toArray, List.set_cons_zero, List.set_cons_succ]
      refine cl_val (v := ?_) rfl (fun W hW => ?_) ?_
      rotate_left
      · unfold Oper.quietAt; go_simp; try with_reducible rfl
      simp only [Act.put, List.setIfInBounds_toArray, List.set_cons_zero, List.set_cons_succ]
      refine cl_val (v := ?_) rfl (fun W hW => ?_) ?_
      rotate_left
      · unfold Oper.quietAt; go_simp; try with_reducible rfl
      simp only [Act.put, List.setIfInBounds_toArray, List.set_cons_zero, List.set_cons_succ]
      refine cl_val (v := ?_) rfl (fun W hW => ?_) ?_
      rotate_left
      · have l0 := hW.cell c6; unfold Oper.quietAt; go_simp; try with_reducible rfl
      simp only [Act.put, List.setIfInBounds_toArray, List.set_cons_zero, List.set_cons_succ]
      refine cl_move _ rfl rfl ?_
      simp only [Act.put, List.setIfInBounds_toArray, List.set_cons_zero, List.set_cons_succ]
      refine cl_val (v := ?_) rfl (fun W hW => ?_) ?_
      rotate_left
      · unfold Oper.quietAt; go_simp; try with_reducible rfl
      simp only [Act.put, List.setIfInBounds_toArray, List.set_cons_zero, List.set_cons_succ]
      refine cl_val (v := ?_) rfl (fun W hW => ?_) ?_
      rotate_left
      · unfold Oper.quietAt; go_simp; try with_reducible rfl
      simp only [Act.put, List.setIfInBounds_toArray, List.set_cons_zero, List.set_cons_succ]
      refine cl_val (v := ?_) rfl (fun W hW => ?_) ?_
      rotate_left
      · have l0 := hW.cell c7; unfold Oper.quietAt; go_simp; try with_reducible rfl
      simp only [Act.put, List.setIfInBounds_toArray, List.set_cons_zero, List.set_cons_succ]
      refine cl_assign _ rfl rfl ?_
      simp only [Act.put, List.setIfInBounds_toArray, List.set_cons_zero, List.set_cons_succ]
      refine cl_assign _ rfl rfl ?_
      simp only [Act.put, List.setIfInBounds_toArray, List.set_cons_zero, List.set_cons_succ]
      refine cl_assign _ rfl rfl ?_
      simp only [Act.put, List.setIfInBounds_toArray, List.set_cons_zero, List.set_cons_succ]
      refine cl_assign _ rfl rfl ?_
      simp only [Act.put, List.setIfInBounds_toArray, List.set_cons_zero, List.set_cons_succ]
      refine wpQuiet_nil ?_
      intro z Hz
      have HP9 := hide (HP5.out.below Hz.out)
      have HK9 := hide (HK5.out.trans (DK.of_below g w.heap.size lv5 tv5 (.slice ba5 o.length bc5) Hz.out))
      clear p0 p1 c6 c7
      go_wp2
      exact bodyPost_ret (v := .tuple #[.slice ba5 o.length bc5, .int .i64 (k : Int), .bool d1.whole, .int .i64 (en : Int)]) (by simp [results, Tryd.results13, go_sem]) rfl ⟨_, _, _, by rw [HBY.out], by rw [HBY.out]; exact Row.raise HP9.out.pce.body (fun i e => Nat.le_of_not_lt fun h9 => HK9.out.ba i (Nat.lt_of_lt_of_le h9 B1.out.size) (by simp [Value.ownBlock]) e), by rw [HBY.out]; exact HP9.out.dec, HK9.out.pk B1.out (Nat.le_refl _) (fun i e => by simp [Value.ownBlock] at e), fun i e => ⟨fun e2 => HP9.out.bg (by rw [e, e2]), HP9.out.bl i e, HP9.out.bt i e⟩⟩
end Go.Proofs.YthciahpadninpaaDoor
/- How a decoder stands behind bytes; pieces: pure. -/
namespace Go.Proofs.YthciahpadninpaaDoor
open Go.ChangeShapes Go.WideShapes Go.ChangeAt Go.RowKit

theorem end_wrong (d : Dz) (s : ByteArray) : (dEnd d s).2.wrong = d.wrong := by
  unfold dEnd dSized dRead dTrl
  repeat' split
  all_goals rfl
theorem next_wrong (d : Dz) (c : UInt8) : (dNext d c).2.2.wrong = d.wrong := by
  unfold dNext
  split
  · rfl
  · split
    · rfl
    · split
      · exact end_wrong { d with line := [], ending := false } (sS d.line)
      · repeat' split
        all_goals rfl
theorem bytes_wrong : ∀ (l : List UInt8) (d : Dz), (dBytes d l).2.2.2.wrong = d.wrong
  | [], _ => rfl
  | c :: r, d => by
    rw [dBytes]
    split
    · exact next_wrong d c
    · split
      · exact next_wrong d c
      · exact (bytes_wrong r _).trans (next_wrong d c)
theorem forget_on {d : Dz} (h : d.whole = false) (h2 : d.wrong = 0) : dForget { d with wrong := 0 } = d := by
  have h3 : ({ d with wrong := 0 } : Dz) = d := eta_wrong h2
  rw [h3]
  unfold dForget overB
  rw [h, h2]
  cases d
  simp_all
/-- How a decoder stands behind bytes. -/
def stD (most : Nat) (l : List UInt8) : Dz := dForget { (dBytes (dNew most) l).2.2.2 with wrong := (dBytes (dNew most) l).1 }
/-- What the document says of bytes. -/
def rdT (most : Nat) (l : List UInt8) : List (ByteArray × ByteArray) := if (dBytes (dNew most) l).2.2.2.whole = true then (dBytes (dNew most) l).2.2.2.tr else []
theorem fin_eq {most N E : Nat} {b o : List UInt8} {t : List (ByteArray × ByteArray)} {wh : Bool} (h : Fin' most b o t N wh E) : o = (dBytes (dNew most) b).2.2.1 ∧ t = rdT most b ∧ N = (dBytes (dNew most) b).2.1 ∧ wh = (dBytes (dNew most) b).2.2.2.whole ∧ E = (dBytes (dNew most) b).1 := by
  obtain ⟨d', h1, h2, h3⟩ := h
  unfold rdT
  rw [h1]
  refine ⟨rfl, ?_, rfl, h2.symm, rfl⟩
  rw [h3]
  dsimp only
  rw [h2]
/-- A piece more: the decoder is over, and nothing changes; or it reads on from where it stands. -/
theorem step_over {most : Nat} {a b : List UInt8} (h : overB (stD most a) = true) (ha : a ≠ []) : dBytes (dNew most) (a ++ b) = dBytes (dNew most) a := by
  rw [bytes_append, if_pos]
  unfold stD overB dForget at h
  simp only [Bool.or_eq_true, decide_eq_true_eq] at h
  rcases h with h | h
  · exact .inr ⟨ha, h⟩
  · exact .inl h
theorem over_parts {most : Nat} {a : List UInt8} (h : overB (stD most a) = false) : (dBytes (dNew most) a).1 = 0 ∧ (dBytes (dNew most) a).2.2.2.whole = false ∧ stD most a = (dBytes (dNew most) a).2.2.2 := by
  unfold overB stD dForget at h
  simp only [Bool.or_eq_false_iff, decide_eq_false_iff_not, Decidable.not_not] at h
  refine ⟨h.2, h.1, ?_⟩
  unfold stD
  rw [h.2]
  exact forget_on h.1 (bytes_wrong a _)
theorem step_on {most : Nat} {a b : List UInt8} (h : overB (stD most a) = false) : dBytes (dNew most) (a ++ b) = sh (dBytes (stD most a) b) (dBytes (dNew most) a).2.1 (dBytes (dNew most) a).2.2.1 := by
  obtain ⟨h1, h2, h3⟩ := over_parts h
  rw [bytes_append, if_neg, h3]
  intro h4
  rcases h4 with h4 | h4
  · exact h4 h1
  · rw [h2] at h4; cases h4.2
theorem st_new (most : Nat) : stD most [] = dNew most := rfl
theorem st_over {most : Nat} (h : overB (stD most []) = true) : False := by
  unfold stD overB dForget at h
  simp [dBytes, dNew] at h
theorem forget_forget (d : Dz) : dForget (dForget d) = dForget d := by
  unfold dForget overB
  by_cases h : d.wrong = 0 <;> cases d.whole <;> simp [h]
theorem st_fit {most : Nat} (h : most ≤ 9007199254740992) (l : List UInt8) : FitD (stD most l) := by
  have hf := fit_dbytes l (dNew most) (fit_dnew most h)
  unfold stD dForget
  refine ⟨hf.fn, hf.room, hf.left, ?_, ?_, ?_⟩
  · dsimp only
    split
    · exact Nat.zero_le _
    · exact hf.line
  · dsimp only
    split
    · exact hf.tr
    · exact Nat.zero_le _
  · intro h1
    dsimp only
    split
    · rfl
    · exact hf.bd h1
theorem st_trs {most : Nat} (h : most ≤ 9007199254740992) (l : List UInt8) : TrS (stD most l) := by
  have hf := TrS.bytes l (dNew most) (fit_dnew most h) (TrS.new most)
  unfold stD dForget
  intro f hm
  dsimp only at hm
  split at hm
  · exact hf f hm
  · cases hm
end Go.Proofs.YthciahpadninpaaDoor
/- ChunkedCut, walked. -/
namespace Go.Proofs.YthciahpadninpaaDoor
open Go.ChangeShapes Go.WideShapes Go.ChangeAt Go.RowKit

theorem flds_nil0 (w : World) : Flds w (.slice none 0 0) [] := ⟨none, 0, rfl, ⟨Nat.le_refl _, fun _ => rfl⟩, fun j hj => by simp at hj⟩
theorem Row.some_ {W : World} {base : Nat} {a : Option Addr} {n c : Nat} {l : List UInt8} (h : Row W base 5 (.slice a n c) (bc l)) (h0 : 0 < l.length) : n = l.length ∧ l.length ≤ c ∧ ∃ g, a = some ⟨g, 0, none⟩ := by
  have h1 := h.shape
  rw [bc_len] at h1
  obtain ⟨a', c', e, h2, _⟩ := h1
  simp only [Value.slice.injEq] at e
  obtain ⟨rfl, rfl, rfl⟩ := e
  obtain ⟨g, hg, _⟩ := h.cell (j := 0) (by rw [bc_len]; exact h0)
  exact ⟨rfl, h2, g, hg⟩
theorem two_eq {a b c : List UInt8} (h : c = a ++ b) : (((⟨a.toArray⟩ : ByteArray) ++ ⟨b.toArray⟩).toList == (⟨c.toArray⟩ : ByteArray).toList) = true := by
  rw [Lib.toList_data, Lib.toList_data, app_list, h]
  simp
set_option maxHeartbeats 16000000 in
set_option maxRecDepth 100000 in
theorem cut_walk (v : Value) (L : List (List UInt8)) (cut : Int) (w : World) (hP : Pcs w v L) (hfl : L.flatten.length ≤ 1048576) (hn : L.length ≤ 1048576) (hm : MX w) (hdb : DB w) :
    Calls Tryd.prog 8 #[v, .int .i64 cut] w fun e w' => e = .returned (.bool true) ∧ Below w.heap.size w w' := by
  have HM := hide hm
  have HDB := hide hdb
  have hw2 : 2 ≤ w.heap.size := hm.1
  obtain ⟨pa, pc, rfl, hpc, hcells⟩ := hP
  have HPC := hide hcells
  clear hm hdb hcells
  go_enter Tryd.func8, Tryd.ntmps8
  go_wp2_with fail
  have TW0 : Hid (Tw w w (.slice none 0 0) (.slice none 0 0) (.slice none 0 0) [] [] []) := hide ⟨Row.nil _ _ _, Row.nil _ _ _, Row.nil _ _ _, by intro k e; simp [Value.ownBlock] at e, by intro k e; simp [Value.ownBlock] at e, by intro k e; simp [Value.ownBlock] at e, Below.refl _ _⟩
  go_loopw [5, 6, 23] (fun pv cv i wr => ∃ (k : Nat) (pa2 : Option Addr) (pn pc2 : Nat) (ca : Option Addr) (cn cc : Nat), k ≤ L.length ∧ pv = .slice pa2 pn pc2 ∧ cv = .slice ca cn cc ∧ i = .int .i64 k ∧ Hid (Tw w wr (.slice pa2 pn pc2) (.slice ca cn cc) (.slice none 0 0) (L.take k).flatten ((L.take k).flatMap chunkL) [])) (fun _ _ i _ => L.length - (intOf i).toNat)
  case atStart => exact ⟨0, none, 0, 0, none, 0, 0, Nat.zero_le _, rfl, rfl, rfl, TW0⟩
  case round =>
    clear TW0
    obtain ⟨k, pa2, pn, pc2, ca, cn, cc, hk, rfl, rfl, rfl, TW⟩ := hrel
    have hfk := flat_le L k
    have hck := chunks_len (L := L) (by omega) k hk
    by_cases hlt : k < L.length
    · obtain ⟨g1, o1, ba, bcp, rfl, hg1, q1, hbs, hsh⟩ := HPC.out k hlt
      have HFT := hide (flat_take hlt)
      have HCT := hide (chunks_snoc hlt)
      have hle := flat_le L (k + 1)
      rw [HFT.out, List.length_append] at hle
      have HBS := hide hbs
      have HSH := hide hsh
      have r1 : wr.cell? ⟨g1, o1 + k, none⟩ = some (.slice ba L[k].length bcp) := (TW.out.b.cell (p := ⟨g1, o1 + k, none⟩) hg1).trans q1
      generalize L[k] = b at HFT HCT hle HBS HSH r1
      generalize hPK : (L.take k).flatten = PK0 at TW HFT hfk hck hle
      generalize hCK : (L.take k).flatMap chunkL = CK0 at TW HCT hck
      clear q1 hbs hsh hPK hCK
      go_wp2_with (at_builtin; apply Hid.out)
      unfold Hid
      refine wpList_append_bs_k rfl _ _ rfl wr w.heap.size w.heap.size (.slice pa2 pn pc2) (.slice ba b.length bcp) PK0 b rfl rfl TW.out.p (HBS.out.below (Nat.le_refl _) TW.out.b) HSH.out (by omega) TW.out.b.size ?_
      intro v' W1 O' B' K'
      obtain ⟨na, nn, nc, rfl⟩ : ∃ a n c, v' = .slice a n c := by
        obtain ⟨a, c, h, _⟩ := O'.shape
        exact ⟨a, _, c, h⟩
      have TW1 := hide (TW.out.growP K' O' B')
      clear O' B' K' r1 TW
      have HCH := hide (chunk_any (.slice ba b.length bcp) b W1 (HBS.out.below TW1.out.b.size TW1.out.b) HSH.out (by omega) (HDB.out.below TW1.out.b))
      go_wp2_with (first | (go_at_call 18; refine HCH.out.mono ?_; rintro e W2 ⟨u2, rfl, hu2, b2⟩; obtain ⟨xa, xn, xc, rfl⟩ : ∃ a n c, u2 = .slice a n c := (by obtain ⟨a, c, h, _⟩ := hu2.shape; exact ⟨a, _, c, h⟩)) | (at_builtin; apply Hid.out))
      unfold Hid
      have TW2 := hide (TW1.out.below b2)
      have hcl := chunk_len (p := b) (by omega)
      refine wpList_append_bs_k rfl _ _ rfl W2 w.heap.size W2.heap.size (.slice ca cn cc) (.slice xa xn xc) CK0 (chunkL b) rfl rfl TW2.out.c (Bs.of_row hu2) hu2.shp (by omega) TW2.out.b.size ?_
      intro v3 W3 O3 B3 K3
      obtain ⟨da, dn, dc, rfl⟩ : ∃ a n c, v3 = .slice a n c := by
        obtain ⟨a, c, h, _⟩ := O3.shape
        exact ⟨a, _, c, h⟩
      have TW3 := hide (TW2.out.growC K3 O3 B3)
      clear O3 B3 K3 TW2 TW1 hu2 b2 HCH
      go_wp2_with fail
      exact ⟨⟨k + 1, na, nn, nc, da, dn, dc, by omega, rfl, rfl, by go_num, hide (by rw [HFT.out, HCT.out]; exact TW3.out)⟩, by simp [intOf]; omega⟩
    · have tw := TW.out
      rw [List.take_of_length_le (by omega)] at tw hck hfk
      have TW1 := hide tw
      obtain rfl : k = L.length := by omega
      have h00 : chkL ([] : List (ByteArray × ByteArray)) = 0 := rfl
      obtain ⟨d', hd1, hd2, hd3⟩ := fed (L := L) (A := []) [] h00 (by simp) (by omega)
      rw [List.append_nil] at hd1
      have HLA := hide (last_any (.slice none 0 0) [] wr (flds_nil0 wr) ⟨by simp, fun f hf => by cases hf⟩)
      rw [h00] at HLA
      clear tw TW hlt hk h00
      have hPn : pn = L.flatten.length := by
        obtain ⟨a, c, h, _⟩ := TW1.out.p.shape
        simp only [Value.slice.injEq, bc_len] at h
        exact h.2.1
      subst hPn
      have hE5 : (lastL []).length = 5 := rfl
      have HDB2 := hide hd1
      have HDW := hide hd2
      clear hd1 hd2 hd3
      obtain ⟨PL, hPL⟩ : ∃ X, L.flatten = X := ⟨_, rfl⟩
      obtain ⟨CL, hCL⟩ : ∃ X, L.flatMap chunkL = X := ⟨_, rfl⟩
      obtain ⟨EL, hEL⟩ : ∃ X, lastL [] = X := ⟨_, rfl⟩
      rw [hPL] at TW1 HDB2 hfl hfk hck ⊢
      rw [hCL] at TW1 HDB2 hck
      rw [hEL] at HLA HDB2 hE5
      clear hPL hCL hEL
      have hcb : CL.length ≤ 19922944 := by omega
      go_wp2_with fail
      refine HLA.out.mono ?_
      rintro e W1 ⟨vx, rfl, hx1, _, b1⟩
      have E1 := hide (hx1 (by first | rfl | trivial))
      have TW2 := hide (TW1.out.below b1)
      obtain ⟨ea, en, ec, rfl⟩ : ∃ a n c, vx = .slice a n c := by
        obtain ⟨a, c, h, _⟩ := E1.out.shape
        exact ⟨a, _, c, h⟩
      clear hx1 b1 HLA TW1
      go_wp2_with (at_builtin; apply Hid.out)
      unfold Hid
      refine wpList_append_bs_k rfl _ _ rfl W1 w.heap.size W1.heap.size (.slice ca cn cc) (.slice ea en ec) CL EL rfl rfl TW2.out.c (Bs.of_row E1.out) E1.out.shp (by omega) TW2.out.b.size ?_
      intro v3 W4 O3 B3 K3
      obtain ⟨fa, dn, fc, rfl⟩ : ∃ a n c, v3 = .slice a n c := by
        obtain ⟨a, c, h, _⟩ := O3.shape
        exact ⟨a, _, c, h⟩
      have hCE : (CL ++ EL).length = CL.length + EL.length := List.length_append
      obtain ⟨hdn, hfc, gC, hgC⟩ := O3.some_ (by omega)
      subst hgC
      have TW4 := hide (TW2.out.growC K3 O3 B3)
      clear O3 B3 K3 TW2 E1
      obtain ⟨AL, hAL⟩ : ∃ X, CL ++ EL = X := ⟨_, rfl⟩
      rw [hAL] at TW4 HDB2 hdn hfc hCE
      have HN : Hid (CL.length + EL.length = AL.length) := hide hCE.symm
      rw [HN.out] at HDB2
      subst hdn
      have hN1 : 0 < AL.length := by omega
      have hN2 : AL.length ≤ 300000000 := by omega
      have t9 : ((AL.length : Int) == 0) = false := by rw [beq_eq_false_iff_ne]; omega
      clear hAL hCE hck hfk
      by_cases hc1 : cut < 0
      · have hsub : (AL.length : Int) - 1 = ((AL.length - 1 : Nat) : Int) := by omega
        obtain ⟨c, hcd⟩ : ∃ c, AL.length - 1 = c := ⟨_, rfl⟩
        rw [hcd] at hsub
        have hcl : c < AL.length := by omega
        have hcc : ¬ fc = c := by omega
        have hcf : c ≤ fc := by omega
        have HSP := hide (List.take_append_drop c AL)
        have hcut := HDB2.out
        rw [← HSP.out] at hcut
        obtain ⟨oa, da, ob, q1, q2, q3, q4⟩ := bytes_cut (a := AL.take c) (b := AL.drop c) rfl hcut (by rw [List.length_append, List.length_take, List.length_drop]; omega)
        have hl1 : (AL.take c).length = c := by rw [List.length_take]; omega
        rw [hl1] at q1 q3
        have e3 : (AL.take c ++ AL.drop c).length - c = AL.length - c := by rw [HSP.out]
        have Q1 := hide q1
        have Q2 := hide q2
        have Q3 := hide q3
        have Q4 := hide q4
        have hfd := fit_dbytes (AL.take c) _ (fit_dnew PL.length (by omega))
        have hfw := bytes_wrong (AL.take c) (dNew PL.length)
        rw [q1] at hfd hfw
        have HFD := hide hfd
        have HFG := hide (forget_on (d := da) q2 hfw)
        have HFW := hide hfw
        clear hcut q1 q2 q3 q4 hfd hfw
        go_wp2_with fail
        refine (new_any PL.length W4 (by omega)).mono ?_
        rintro e W5 ⟨rfl, D5, b5⟩
        have TW5 := hide (TW4.out.below b5)
        have HBF := hide ((Bf.of_row TW4.out.c).below b5)
        have hs5 : W4.heap.size ≤ W5.heap.size := b5.size
        have hw4 := TW4.out.b.size
        have P5 : Hid (∀ (W' : World), (∀ k, k < W4.heap.size → W'.heap[k]? = W5.heap[k]?) → Row W' w.heap.size 5 (.slice pa2 PL.length pc2) (bc PL)) := hide (fun W' hW => TW4.out.p.frame fun k e => (hW k (TW4.out.p.lt e).2).trans (b5.block k (TW4.out.p.lt e).2))
        have hg5 := D5.lt
        have HFE := hide (feed_on2 (A := fun k => k < W4.heap.size) D5 (fit_dnew PL.length (by omega)) rfl rfl (HM.out.below TW5.out.b) (by omega) _ (AL.take c) (HBF.out.take c (by omega)) (.inr ⟨_, _, _, rfl⟩) (by omega) (fun k e => by simp [Value.ownBlock] at e) (fun k e => by simp [Value.ownBlock] at e) (fun k e => by omega) (by rw [hl1]; omega))
        rw [Q1.out] at HFE
        dsimp only at HFE
        rw [Q2.out] at HFE
        clear D5 b5 TW4
        go_wp2_with fail
        refine HFE.out.mono ?_
        rintro e W6 ⟨bv, lv', tv', rfl, hr6, hd6, hk6, hap⟩
        obtain ⟨xa, xn, xc, rfl⟩ : ∃ a n c, bv = .slice a n c := by
          obtain ⟨a, c, h, _⟩ := hr6.shape
          exact ⟨a, _, c, h⟩
        have BL6 : Hid (Below W4.heap.size W5 W6) := hide (hk6.low (Nat.le_refl _) hs5)
        have HBF6 : Hid (Bf W6 (fun k => k < W4.heap.size) (.slice (some ⟨gC, 0 + c, none⟩) (AL.length - c) (fc - c)) (AL.drop c)) := hide ((HBF.out.keep BL6.out.size (fun k hk _ => BL6.out.block k hk)).drop c (by omega))
        have B6 := hide (TW5.out.b.trans (BL6.out.mono hw4))
        have hlA : ∀ k, lv'.ownBlock = some k → ¬ k < W4.heap.size := fun k e hk => hk6.la k (by omega) (by simp [Value.ownBlock]) e
        have htA : ∀ k, tv'.ownBlock = some k → ¬ k < W4.heap.size := fun k e hk => hk6.fa k (by omega) (by simp [Value.ownBlock]) e
        have hz6 := hk6.size
        have R6 := hide hr6
        have HAP := hide hap
        have e6 : dForget { da with whole := false, wrong := 0 } = da := by
          have h := HFG.out
          rw [← Q2.out]
          exact h
        rw [e6] at hd6
        have HFE2 := hide (feed_on2 (A := fun k => k < W4.heap.size) hd6 HFD.out Q2.out HFW.out (HM.out.below B6.out) (by omega) _ (AL.drop c) HBF6.out (.inr ⟨_, _, _, rfl⟩) (by omega) hlA htA (fun k e => by omega) (by rw [List.length_drop]; omega))
        rw [Q3.out] at HFE2
        dsimp only at HFE2
        rw [HDW.out, e3] at HFE2
        rw [Nat.zero_add] at HFE2
        have P6 := hide (fun k hk => BL6.out.block k hk)
        clear hr6 hk6 hap HFE e6 HBF6
        go_wp2_with fail
        refine HFE2.out.mono ?_
        rintro e W7 ⟨bv2, lv2, tv2, rfl, hr7, hd7, hk7, _⟩
        obtain ⟨ya, yn, yc, rfl⟩ : ∃ a n c, bv2 = .slice a n c := by
          obtain ⟨a, c, h, _⟩ := hr7.shape
          exact ⟨a, _, c, h⟩
        have hB7 : ∀ k, k < W4.heap.size → W7.heap[k]? = W6.heap[k]? := fun k hk => hk7.block k (by omega) (by omega) (fun e => hlA k e hk) (fun e => htA k e hk)
        have P7 := hide (P5.out W7 (fun k hk => (hB7 k hk).trans (P6.out k hk)))
        have R7 := hide (R6.out.frame (W' := W7) fun k e => hk7.block k (R6.out.lt e).2 (HAP.out k e).1 (HAP.out k e).2.1 (HAP.out k e).2.2)
        have B7 : Hid (Below w.heap.size w W7) := hide (B6.out.trans ⟨hk7.os, hk7.tape, hk7.output, hk7.size, fun k hk => hB7 k (by omega)⟩)
        have x1 : (convert 29 9 (.slice xa xn xc)).run Tryd.prog W7 = .ok (.string ⟨oa.toArray⟩) W7 := R7.out.text
        have x2 : (convert 29 9 (.slice ya yn yc)).run Tryd.prog W7 = .ok (.string ⟨ob.toArray⟩) W7 := hr7.text
        have x3 : (convert 29 9 (.slice pa2 PL.length pc2)).run Tryd.prog W7 = .ok (.string ⟨PL.toArray⟩) W7 := P7.out.text
        have x4 := two_eq Q4.out
        have s1 : (⟨oa.toArray⟩ : ByteArray).size ≤ 1048576 := by have := congrArg List.length Q4.out; rw [List.length_append] at this; rw [← size_len]; simp; omega
        have s2 : (⟨ob.toArray⟩ : ByteArray).size ≤ 1048576 := by have := congrArg List.length Q4.out; rw [List.length_append] at this; rw [← size_len]; simp; omega
        generalize (⟨oa.toArray⟩ : ByteArray) = sa at x1 x4 s1
        generalize (⟨ob.toArray⟩ : ByteArray) = sb at x2 x4 s2
        generalize (⟨PL.toArray⟩ : ByteArray) = sp at x3 x4
        have y1 : (sa ++ sb).size ≤ 2097152 := by rw [app_size]; omega
        have hsb : (AL.length : Int) - (c : Int) = ((AL.length - c : Nat) : Int) := by omega
        clear hr7 hd7 hk7 HFE2 hd6
        go_wp2_with fail
        refine (speaks_any W7 (HM.out.below B7.out) (HDB.out.below B7.out)).mono ?_
        rintro e W9 ⟨rfl, b9⟩
        have B9 := hide (B7.out.trans (b9.mono B7.out.size))
        clear b9
        go_wp2
        go_ret
        exact ⟨rfl, B9.out⟩
      · by_cases hc2 : (AL.length : Int) ≤ cut
        · have hsub : (AL.length : Int) - 1 = ((AL.length - 1 : Nat) : Int) := by omega
          obtain ⟨c, hcd⟩ : ∃ c, AL.length - 1 = c := ⟨_, rfl⟩
          rw [hcd] at hsub
          have hcl : c < AL.length := by omega
          have hcc : ¬ fc = c := by omega
          have hcf : c ≤ fc := by omega
          have HSP := hide (List.take_append_drop c AL)
          have hcut := HDB2.out
          rw [← HSP.out] at hcut
          obtain ⟨oa, da, ob, q1, q2, q3, q4⟩ := bytes_cut (a := AL.take c) (b := AL.drop c) rfl hcut (by rw [List.length_append, List.length_take, List.length_drop]; omega)
          have hl1 : (AL.take c).length = c := by rw [List.length_take]; omega
          rw [hl1] at q1 q3
          have e3 : (AL.take c ++ AL.drop c).length - c = AL.length - c := by rw [HSP.out]
          have Q1 := hide q1
          have Q2 := hide q2
          have Q3 := hide q3
          have Q4 := hide q4
          have hfd := fit_dbytes (AL.take c) _ (fit_dnew PL.length (by omega))
          have hfw := bytes_wrong (AL.take c) (dNew PL.length)
          rw [q1] at hfd hfw
          have HFD := hide hfd
          have HFG := hide (forget_on (d := da) q2 hfw)
          have HFW := hide hfw
          clear hcut q1 q2 q3 q4 hfd hfw
          go_wp2_with fail
          refine (new_any PL.length W4 (by omega)).mono ?_
          rintro e W5 ⟨rfl, D5, b5⟩
          have TW5 := hide (TW4.out.below b5)
          have HBF := hide ((Bf.of_row TW4.out.c).below b5)
          have hs5 : W4.heap.size ≤ W5.heap.size := b5.size
          have hw4 := TW4.out.b.size
          have P5 : Hid (∀ (W' : World), (∀ k, k < W4.heap.size → W'.heap[k]? = W5.heap[k]?) → Row W' w.heap.size 5 (.slice pa2 PL.length pc2) (bc PL)) := hide (fun W' hW => TW4.out.p.frame fun k e => (hW k (TW4.out.p.lt e).2).trans (b5.block k (TW4.out.p.lt e).2))
          have hg5 := D5.lt
          have HFE := hide (feed_on2 (A := fun k => k < W4.heap.size) D5 (fit_dnew PL.length (by omega)) rfl rfl (HM.out.below TW5.out.b) (by omega) _ (AL.take c) (HBF.out.take c (by omega)) (.inr ⟨_, _, _, rfl⟩) (by omega) (fun k e => by simp [Value.ownBlock] at e) (fun k e => by simp [Value.ownBlock] at e) (fun k e => by omega) (by rw [hl1]; omega))
          rw [Q1.out] at HFE
          dsimp only at HFE
          rw [Q2.out] at HFE
          clear D5 b5 TW4
          go_wp2_with fail
          refine HFE.out.mono ?_
          rintro e W6 ⟨bv, lv', tv', rfl, hr6, hd6, hk6, hap⟩
          obtain ⟨xa, xn, xc, rfl⟩ : ∃ a n c, bv = .slice a n c := by
            obtain ⟨a, c, h, _⟩ := hr6.shape
            exact ⟨a, _, c, h⟩
          have BL6 : Hid (Below W4.heap.size W5 W6) := hide (hk6.low (Nat.le_refl _) hs5)
          have HBF6 : Hid (Bf W6 (fun k => k < W4.heap.size) (.slice (some ⟨gC, 0 + c, none⟩) (AL.length - c) (fc - c)) (AL.drop c)) := hide ((HBF.out.keep BL6.out.size (fun k hk _ => BL6.out.block k hk)).drop c (by omega))
          have B6 := hide (TW5.out.b.trans (BL6.out.mono hw4))
          have hlA : ∀ k, lv'.ownBlock = some k → ¬ k < W4.heap.size := fun k e hk => hk6.la k (by omega) (by simp [Value.ownBlock]) e
          have htA : ∀ k, tv'.ownBlock = some k → ¬ k < W4.heap.size := fun k e hk => hk6.fa k (by omega) (by simp [Value.ownBlock]) e
          have hz6 := hk6.size
          have R6 := hide hr6
          have HAP := hide hap
          have e6 : dForget { da with whole := false, wrong := 0 } = da := by
            have h := HFG.out
            rw [← Q2.out]
            exact h
          rw [e6] at hd6
          have HFE2 := hide (feed_on2 (A := fun k => k < W4.heap.size) hd6 HFD.out Q2.out HFW.out (HM.out.below B6.out) (by omega) _ (AL.drop c) HBF6.out (.inr ⟨_, _, _, rfl⟩) (by omega) hlA htA (fun k e => by omega) (by rw [List.length_drop]; omega))
          rw [Q3.out] at HFE2
          dsimp only at HFE2
          rw [HDW.out, e3] at HFE2
          rw [Nat.zero_add] at HFE2
          have P6 := hide (fun k hk => BL6.out.block k hk)
          clear hr6 hk6 hap HFE e6 HBF6
          go_wp2_with fail
          refine HFE2.out.mono ?_
          rintro e W7 ⟨bv2, lv2, tv2, rfl, hr7, hd7, hk7, _⟩
          obtain ⟨ya, yn, yc, rfl⟩ : ∃ a n c, bv2 = .slice a n c := by
            obtain ⟨a, c, h, _⟩ := hr7.shape
            exact ⟨a, _, c, h⟩
          have hB7 : ∀ k, k < W4.heap.size → W7.heap[k]? = W6.heap[k]? := fun k hk => hk7.block k (by omega) (by omega) (fun e => hlA k e hk) (fun e => htA k e hk)
          have P7 := hide (P5.out W7 (fun k hk => (hB7 k hk).trans (P6.out k hk)))
          have R7 := hide (R6.out.frame (W' := W7) fun k e => hk7.block k (R6.out.lt e).2 (HAP.out k e).1 (HAP.out k e).2.1 (HAP.out k e).2.2)
          have B7 : Hid (Below w.heap.size w W7) := hide (B6.out.trans ⟨hk7.os, hk7.tape, hk7.output, hk7.size, fun k hk => hB7 k (by omega)⟩)
          have x1 : (convert 29 9 (.slice xa xn xc)).run Tryd.prog W7 = .ok (.string ⟨oa.toArray⟩) W7 := R7.out.text
          have x2 : (convert 29 9 (.slice ya yn yc)).run Tryd.prog W7 = .ok (.string ⟨ob.toArray⟩) W7 := hr7.text
          have x3 : (convert 29 9 (.slice pa2 PL.length pc2)).run Tryd.prog W7 = .ok (.string ⟨PL.toArray⟩) W7 := P7.out.text
          have x4 := two_eq Q4.out
          have s1 : (⟨oa.toArray⟩ : ByteArray).size ≤ 1048576 := by have := congrArg List.length Q4.out; rw [List.length_append] at this; rw [← size_len]; simp; omega
          have s2 : (⟨ob.toArray⟩ : ByteArray).size ≤ 1048576 := by have := congrArg List.length Q4.out; rw [List.length_append] at this; rw [← size_len]; simp; omega
          generalize (⟨oa.toArray⟩ : ByteArray) = sa at x1 x4 s1
          generalize (⟨ob.toArray⟩ : ByteArray) = sb at x2 x4 s2
          generalize (⟨PL.toArray⟩ : ByteArray) = sp at x3 x4
          have y1 : (sa ++ sb).size ≤ 2097152 := by rw [app_size]; omega
          have hsb : (AL.length : Int) - (c : Int) = ((AL.length - c : Nat) : Int) := by omega
          clear hr7 hd7 hk7 HFE2 hd6
          go_wp2_with fail
          refine (speaks_any W7 (HM.out.below B7.out) (HDB.out.below B7.out)).mono ?_
          rintro e W9 ⟨rfl, b9⟩
          have B9 := hide (B7.out.trans (b9.mono B7.out.size))
          clear b9
          go_wp2
          go_ret
          exact ⟨rfl, B9.out⟩
        · obtain ⟨c, rfl⟩ := Int.eq_ofNat_of_zero_le (show 0 ≤ cut by omega)
          have hcl : c < AL.length := by omega
          have hcc : ¬ fc = c := by omega
          have hcf : c ≤ fc := by omega
          have HSP := hide (List.take_append_drop c AL)
          have hcut := HDB2.out
          rw [← HSP.out] at hcut
          obtain ⟨oa, da, ob, q1, q2, q3, q4⟩ := bytes_cut (a := AL.take c) (b := AL.drop c) rfl hcut (by rw [List.length_append, List.length_take, List.length_drop]; omega)
          have hl1 : (AL.take c).length = c := by rw [List.length_take]; omega
          rw [hl1] at q1 q3
          have e3 : (AL.take c ++ AL.drop c).length - c = AL.length - c := by rw [HSP.out]
          have Q1 := hide q1
          have Q2 := hide q2
          have Q3 := hide q3
          have Q4 := hide q4
          have hfd := fit_dbytes (AL.take c) _ (fit_dnew PL.length (by omega))
          have hfw := bytes_wrong (AL.take c) (dNew PL.length)
          rw [q1] at hfd hfw
          have HFD := hide hfd
          have HFG := hide (forget_on (d := da) q2 hfw)
          have HFW := hide hfw
          clear hcut q1 q2 q3 q4 hfd hfw
          go_wp2_with fail
          refine (new_any PL.length W4 (by omega)).mono ?_
          rintro e W5 ⟨rfl, D5, b5⟩
          have TW5 := hide (TW4.out.below b5)
          have HBF := hide ((Bf.of_row TW4.out.c).below b5)
          have hs5 : W4.heap.size ≤ W5.heap.size := b5.size
          have hw4 := TW4.out.b.size
          have P5 : Hid (∀ (W' : World), (∀ k, k < W4.heap.size → W'.heap[k]? = W5.heap[k]?) → Row W' w.heap.size 5 (.slice pa2 PL.length pc2) (bc PL)) := hide (fun W' hW => TW4.out.p.frame fun k e => (hW k (TW4.out.p.lt e).2).trans (b5.block k (TW4.out.p.lt e).2))
          have hg5 := D5.lt
          have HFE := hide (feed_on2 (A := fun k => k < W4.heap.size) D5 (fit_dnew PL.length (by omega)) rfl rfl (HM.out.below TW5.out.b) (by omega) _ (AL.take c) (HBF.out.take c (by omega)) (.inr ⟨_, _, _, rfl⟩) (by omega) (fun k e => by simp [Value.ownBlock] at e) (fun k e => by simp [Value.ownBlock] at e) (fun k e => by omega) (by rw [hl1]; omega))
          rw [Q1.out] at HFE
          dsimp only at HFE
          rw [Q2.out] at HFE
          clear D5 b5 TW4
          go_wp2_with fail
          refine HFE.out.mono ?_
          rintro e W6 ⟨bv, lv', tv', rfl, hr6, hd6, hk6, hap⟩
          obtain ⟨xa, xn, xc, rfl⟩ : ∃ a n c, bv = .slice a n c := by
            obtain ⟨a, c, h, _⟩ := hr6.shape
            exact ⟨a, _, c, h⟩
          have BL6 : Hid (Below W4.heap.size W5 W6) := hide (hk6.low (Nat.le_refl _) hs5)
          have HBF6 : Hid (Bf W6 (fun k => k < W4.heap.size) (.slice (some ⟨gC, 0 + c, none⟩) (AL.length - c) (fc - c)) (AL.drop c)) := hide ((HBF.out.keep BL6.out.size (fun k hk _ => BL6.out.block k hk)).drop c (by omega))
          have B6 := hide (TW5.out.b.trans (BL6.out.mono hw4))
          have hlA : ∀ k, lv'.ownBlock = some k → ¬ k < W4.heap.size := fun k e hk => hk6.la k (by omega) (by simp [Value.ownBlock]) e
          have htA : ∀ k, tv'.ownBlock = some k → ¬ k < W4.heap.size := fun k e hk => hk6.fa k (by omega) (by simp [Value.ownBlock]) e
          have hz6 := hk6.size
          have R6 := hide hr6
          have HAP := hide hap
          have e6 : dForget { da with whole := false, wrong := 0 } = da := by
            have h := HFG.out
            rw [← Q2.out]
            exact h
          rw [e6] at hd6
          have HFE2 := hide (feed_on2 (A := fun k => k < W4.heap.size) hd6 HFD.out Q2.out HFW.out (HM.out.below B6.out) (by omega) _ (AL.drop c) HBF6.out (.inr ⟨_, _, _, rfl⟩) (by omega) hlA htA (fun k e => by omega) (by rw [List.length_drop]; omega))
          rw [Q3.out] at HFE2
          dsimp only at HFE2
          rw [HDW.out, e3] at HFE2
          rw [Nat.zero_add] at HFE2
          have P6 := hide (fun k hk => BL6.out.block k hk)
          clear hr6 hk6 hap HFE e6 HBF6
          go_wp2_with fail
          refine HFE2.out.mono ?_
          rintro e W7 ⟨bv2, lv2, tv2, rfl, hr7, hd7, hk7, _⟩
          obtain ⟨ya, yn, yc, rfl⟩ : ∃ a n c, bv2 = .slice a n c := by
            obtain ⟨a, c, h, _⟩ := hr7.shape
            exact ⟨a, _, c, h⟩
          have hB7 : ∀ k, k < W4.heap.size → W7.heap[k]? = W6.heap[k]? := fun k hk => hk7.block k (by omega) (by omega) (fun e => hlA k e hk) (fun e => htA k e hk)
          have P7 := hide (P5.out W7 (fun k hk => (hB7 k hk).trans (P6.out k hk)))
          have R7 := hide (R6.out.frame (W' := W7) fun k e => hk7.block k (R6.out.lt e).2 (HAP.out k e).1 (HAP.out k e).2.1 (HAP.out k e).2.2)
          have B7 : Hid (Below w.heap.size w W7) := hide (B6.out.trans ⟨hk7.os, hk7.tape, hk7.output, hk7.size, fun k hk => hB7 k (by omega)⟩)
          have x1 : (convert 29 9 (.slice xa xn xc)).run Tryd.prog W7 = .ok (.string ⟨oa.toArray⟩) W7 := R7.out.text
          have x2 : (convert 29 9 (.slice ya yn yc)).run Tryd.prog W7 = .ok (.string ⟨ob.toArray⟩) W7 := hr7.text
          have x3 : (convert 29 9 (.slice pa2 PL.length pc2)).run Tryd.prog W7 = .ok (.string ⟨PL.toArray⟩) W7 := P7.out.text
          have x4 := two_eq Q4.out
          have s1 : (⟨oa.toArray⟩ : ByteArray).size ≤ 1048576 := by have := congrArg List.length Q4.out; rw [List.length_append] at this; rw [← size_len]; simp; omega
          have s2 : (⟨ob.toArray⟩ : ByteArray).size ≤ 1048576 := by have := congrArg List.length Q4.out; rw [List.length_append] at this; rw [← size_len]; simp; omega
          generalize (⟨oa.toArray⟩ : ByteArray) = sa at x1 x4 s1
          generalize (⟨ob.toArray⟩ : ByteArray) = sb at x2 x4 s2
          generalize (⟨PL.toArray⟩ : ByteArray) = sp at x3 x4
          have y1 : (sa ++ sb).size ≤ 2097152 := by rw [app_size]; omega
          have hsb : (AL.length : Int) - (c : Int) = ((AL.length - c : Nat) : Int) := by omega
          clear hr7 hd7 hk7 HFE2 hd6
          go_wp2_with fail
          refine (speaks_any W7 (HM.out.below B7.out) (HDB.out.below B7.out)).mono ?_
          rintro e W9 ⟨rfl, b9⟩
          have B9 := hide (B7.out.trans (b9.mono B7.out.size))
          clear b9
          go_wp2
          go_ret
          exact ⟨rfl, B9.out⟩
end Go.Proofs.YthciahpadninpaaDoor
