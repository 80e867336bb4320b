/- Feed, walked, at a decoder that reads on. -/
import Derived.Test.YtggeihahbgeneaaDoorCFeed
namespace Go.Proofs.YtggeihahbgeneaaDoor
open Go.ChangeShapes Go.WideShapes Go.ChangeAt Go.RowKit

/-- Two steps in a row. -/
theorem Dn.trans {d d1 d2 : Dz} {l : List UInt8} {k k2 e2 : Nat} {o o2 : List UInt8} (h : Dn d l k o 0 d1) (hw : d1.whole = false) (h2 : Dn d1 (l.drop k) k2 o2 e2 d2) : Dn d l (k + k2) (o ++ o2) e2 d2 := by
  obtain ⟨a1, a2⟩ := h
  obtain ⟨b1, b2⟩ := h2
  rw [if_neg (by simp [hw])] at a2
  rw [List.length_drop] at b1
  refine ⟨by omega, ?_⟩
  split at b2
  · rename_i hx
    rw [if_pos hx, a2, b2]
    simp [sh, Nat.add_comm]
  · rename_i hx
    rw [if_neg hx, a2, b2, List.drop_drop, sh_sh, Nat.add_comm k2 k]
theorem Dn.done {d d1 : Dz} {l : List UInt8} {k e : Nat} {o : List UInt8} (h : Dn d l k o e d1) (hx : (e ≠ 0 ∨ d1.whole = true) ∨ l.drop k = []) : dBytes d l = (e, k, o, d1) := by
  obtain ⟨a1, a2⟩ := h
  by_cases h1 : e ≠ 0 ∨ d1.whole = true
  · rw [if_pos h1] at a2; exact a2
  · rw [if_neg h1] at a2
    have h2 : l.drop k = [] := hx.resolve_left h1
    have h3 : e = 0 := by rw [not_or] at h1; simpa using h1.1
    rw [a2, h2, h3]
    simp [sh, dBytes]
theorem Row.raise {W : World} {base base2 : Nat} {e : TypeId} {v : Value} {xs : List Value} (h : Row W base e v xs) (hb : ∀ k, v.ownBlock = some k → base2 ≤ k) : Row W base2 e v xs := by
  refine ⟨h.1, ?_⟩
  rcases h.2 with x | ⟨g, cap, cur, rfl, h1, hg, hc, hmx, hs, ht⟩
  · exact .inl x
  · exact .inr ⟨g, cap, cur, rfl, hb g rfl, hg, hc, hmx, hs, ht⟩
theorem eta_wrong {d : Dz} {e : Nat} (h : d.wrong = e) : { d with wrong := e } = d := by subst h; rfl
theorem bytes_out : ∀ (l : List UInt8) (d : Dz), (dBytes d l).2.2.1.length ≤ (dBytes d l).2.1
  | [], _ => Nat.le_refl _
  | c :: r, d => by
    have h1 : (dNext d c).2.1.length ≤ 1 := by
      unfold dNext
      repeat' split
      all_goals simp
    rw [dBytes]
    split
    · exact h1
    · split
      · exact h1
      · have := bytes_out r (dNext d c).2.2
        simp only [List.length_append]
        omega
theorem bytes_len : ∀ (l : List UInt8) (d : Dz), (dBytes d l).2.1 ≤ l.length
  | [], _ => Nat.le_refl _
  | c :: r, d => by
    rw [dBytes, List.length_cons]
    split
    · exact Nat.le_add_left _ _
    · split
      · exact Nat.le_add_left _ _
      · have := bytes_len r (dNext d c).2.2
        dsimp only
        omega
theorem dn_out {d d1 : Dz} {l : List UInt8} {k e : Nat} {o : List UInt8} (h : Dn d l k o e d1) : o.length ≤ l.length := by
  have h1 := bytes_out l d
  have h2 := bytes_len l d
  obtain ⟨_, h4⟩ := h
  split at h4
  · rw [h4] at h1 h2; dsimp only at h1 h2; omega
  · rw [h4] at h1 h2; simp only [sh, List.length_append] at h1 h2; omega
theorem eq_nilFunc (fn g : Nat) (w : World) : (binOp BinOp.eql 79 (.func (.func fn) #[.pointer (some ⟨g, 0, none⟩)] #[]) .nilFunc).run Tryd.prog w = .ok (.bool false) w := by kernel_rfl
theorem DK.pk {w w' : World} {g h : Nat} {lv tv bv lv' tv' bv' : Value} (k : DK w w' g h lv tv bv lv' tv' bv') {w0 : World} (h0 : Below w0.heap.size w0 w) (hh : w0.heap.size ≤ h) (hb : ∀ i, bv.ownBlock = some i → w0.heap.size ≤ i) : PK w0 w' g lv tv lv' tv' :=
  ⟨k.os.trans h0.os, k.tape.trans h0.tape, k.output.trans h0.output, Nat.le_trans h0.size k.size,
    fun i hi h1 h2 h3 => (k.block i (Nat.lt_of_lt_of_le hi h0.size) h1 (by omega) h2 h3 (fun e => by have := hb i e; omega)).trans (h0.block i hi),
    fun i hi e => k.la i (Nat.lt_of_lt_of_le hi h0.size) e, fun i hi e => k.ta i (Nat.lt_of_lt_of_le hi h0.size) e⟩
set_option maxHeartbeats 8000000 in
set_option maxRecDepth 100000 in
theorem feed_on {w : World} {base g : Nat} {A : Nat → Prop} {lv tv : Value} {d : Dz} (hD : Dec w base g lv tv d) (hf : FitD d) (hw : d.whole = false) (hwr : d.wrong = 0) (hm : MX w) (hb : 2 ≤ base) (v : Value) (l : List UInt8) (hv : Bf w A v l) (hs : Shp v) (gA : ¬ A g) (lA : ∀ k, lv.ownBlock = some k → ¬ A k) (tA : ∀ k, tv.ownBlock = some k → ¬ A k) (AL : ∀ k, A k → k < w.heap.size) (hl : l.length ≤ 70368744177664) :
    Calls Tryd.prog 105 #[.pointer (some ⟨g, 0, none⟩), v] w fun e w' => ∃ bv lv' tv', e = .returned (.tuple #[bv, .int .i64 ((dBytes d l).2.1 : Int), .bool (dBytes d l).2.2.2.whole, .int .i64 ((dBytes d l).1 : Int)]) ∧ Row w' w.heap.size 5 bv (bc (dBytes d l).2.2.1) ∧ Dec w' base g lv' tv' (dForget { (dBytes d l).2.2.2 with wrong := (dBytes d l).1 }) ∧ PK w w' g lv tv lv' tv' := by
  have HD := hide hD
  have HF := hide hf
  have HM := hide hm
  have HV := hide hv
  have HSH := hide hs
  have HW := hide hw
  have HWR := hide hwr
  obtain ⟨va, vc, rfl, _, _⟩ := hv
  have c0 : w.cell? ⟨g, 0, none⟩ = some (stV d.fn g) := hD.cell 0
  unfold stV at c0
  have e5 := eq_nilFunc d.fn g
  have hgl : g < w.heap.size := hD.lt
  have hbs : base ≤ w.heap.size := Nat.le_of_lt (Nat.lt_of_le_of_lt hD.gb hD.lt)
  clear hD hf hm hs hw hwr
  generalize hRD : dBytes d l = RD
  have HRD := hide hRD
  clear hRD
  go_enter Tryd.func105, Tryd.ntmps105
  go_upto_region 4 with fail
  have B1 := hide ((Below.refl w.heap.size w).alloc (Nat.le_refl _) (.cells #[.slice va l.length vc, .slice none 0 0] 95))
  have HB1 := hide (hp_new w (.cells #[.slice va l.length vc, .slice none 0 0] 95))
  generalize w.alloc (.cells #[.slice va l.length vc, .slice none 0 0] 95) = w1 at B1 HB1 ⊢
  have HP1 : Hid (DP w1 base A g w.heap.size lv tv (.slice va l.length vc) (.slice none 0 0) d l []) := hide ⟨HD.out.below B1.out, ⟨HB1.out, HV.out.below B1.out, HSH.out, Row.nil _ _ _, hbs, by simp [Value.ownBlock], (fun hA => by have := AL _ hA; omega), (fun k e => by simp [Value.ownBlock] at e), (fun k hA => Nat.lt_of_lt_of_le (AL k hA) B1.out.size)⟩, by omega, (fun e => by have := (HD.out.line.lt e).2; omega), (fun e => by have := (HD.out.trs.lt e).2; omega), by simp [Value.ownBlock], (fun k e => by simp [Value.ownBlock] at e), (fun k e => by simp [Value.ownBlock] at e), gA, lA, tA⟩
  clear c0 e5
  go_loopw [20] (fun _ wr => ∃ (k : Nat) (o : List UInt8) (en : Nat) (d1 : Dz) (lv1 tv1 rv1 bv1 : Value), Hid (Dn d l k o en d1) ∧ Hid (FitD d1) ∧ Hid (d1.wrong = 0) ∧ Hid (DP wr base A g w.heap.size lv1 tv1 rv1 bv1 { d1 with wrong := en } (l.drop k) o) ∧ Hid (DK w1 wr g w.heap.size lv tv (.slice none 0 0) lv1 tv1 bv1)) (fun _ wr => restLen w.heap.size wr)
  case atStart => exact ⟨0, [], 0, d, lv, tv, _, _, hide (Dn.refl d l HW.out), HF, HWR, hide (by rw [List.drop_zero, eta_wrong HWR.out]; exact HP1.out), hide (DK.refl _ _ _ _ _ _)⟩
  case round =>
    obtain ⟨k, o, en, d1, lv1, tv1, rv1, bv1, HDN, HF1, HWR1, HP2, HK2⟩ := hrel
    have hkl : k ≤ l.length := HDN.out.1
    have HDL : Hid ((l.drop k).length = l.length - k) := hide (by rw [List.length_drop])
    have HRL := hide HP2.out.restLen
    obtain ⟨ra, rc, hre, _, _⟩ := HP2.out.pce.rest
    rw [HDL.out] at hre
    subst hre
    have p0 : wr.cell? ⟨w.heap.size, 0, none⟩ = some (.slice ra (l.length - k) rc) := HP2.out.pce.cell 0
    by_cases hr : k < l.length
    · have HOV := hide (over_any HP2.out.dec)
      have t1 : (0 : Int) < ((l.length - k : Nat) : Int) := by omega
      by_cases hov : en ≠ 0 ∨ d1.whole = true
      · have e1 : overB { d1 with wrong := en } = true := by
          unfold overB
          rw [Bool.or_eq_true]
          rcases hov with h5 | h5
          · exact .inr (decide_eq_true h5)
          · exact .inl h5
        rw [e1] at HOV
        have HBY := hide (HRD.out.symm.trans (HDN.out.done (.inl hov)))
        clear e1 hov
        go_wp2_with fail
        refine HOV.out.mono ?_
        rintro e w' ⟨rfl, rfl⟩
        have HFG := hide (forget_any HP2.out.dec)
        go_wp2_with fail
        refine HFG.out.mono ?_
        rintro e w5 ⟨rfl, lv5, tv5, hd5, hk5⟩
        have HP5 := hide (HP2.out.of_PK hd5 hk5)
        have HK5 := hide (HK2.out.trans (DK.of_PK (h := w.heap.size) _ hk5))
        clear hd5 hk5 HFG
        obtain ⟨ba5, bc5, hbe5, _, _⟩ := HP5.out.pce.body.shape
        rw [bc_len] at hbe5
        subst hbe5
        have p0 := HP5.out.pce.cell 0
        have p1 := HP5.out.pce.cell 1
        have c6 : w5.cell? ⟨g, 6, none⟩ = some (.bool d1.whole) := HP5.out.dec.cell 6
        have c7 : w5.cell? ⟨g, 7, none⟩ = some (.int .i64 (en : Int)) := HP5.out.dec.cell 7
        go_upto_region 7 with fail
        have hsub : (l.length : Int) - ((l.length - k : Nat) : Int) = (k : Int) := by omega
        have hwrap : IntKind.i64.wrap (k : Int) = (k : Int) := IntWalk.i64_in _ ⟨by omega, by omega⟩
        refine wp_region_cl (by kernel_rfl) (by kernel_rfl) ?_
        refine cl_val (v := ?_) rfl (fun W hW => ?_) ?_
        rotate_left
        · unfold Oper.quietAt; go_simp; try with_reducible rfl
        simp only [Act.put, List.setIfInBounds_toArray, List.set_cons_zero, List.set_cons_succ]
        refine cl_val (v := ?_) rfl (fun W hW => ?_) ?_
        rotate_left
        · have l0 := hW.cell p1; unfold Oper.quietAt; go_simp; try with_reducible rfl
        simp only [Act.put, List.setIfInBounds_toArray, List.set_cons_zero, List.set_cons_succ]
        refine cl_move _ rfl rfl ?_
        simp only [Act.put, List.setIfInBounds_toArray, List.set_cons_zero, List.set_cons_succ]
        refine cl_val (v := ?_) rfl (fun W hW => ?_) ?_
        rotate_left
        · unfold Oper.quietAt; go_simp; try with_reducible rfl
        simp only [Act.put, List.setIfInBounds_toArray, List.set_cons_zero, List.set_cons_succ]
        refine cl_val (v := ?_) rfl (fun W hW => ?_) ?_
        rotate_left
        · unfold Oper.quietAt; go_simp; try with_reducible rfl
        simp only [Act.put, List.setIfInBounds_toArray, List.set_cons_zero, List.set_cons_succ]
        refine cl_val (v := ?_) rfl (fun W hW => ?_) ?_
        rotate_left
        · have l0 := hW.cell p0; unfold Oper.quietAt; go_simp; try with_reducible rfl
        simp only [Act.put, List.setIfInBounds_toArray, List.set_cons_zero, List.set_cons_succ]
        refine cl_val (v := ?_) rfl (fun W hW => ?_) ?_
        rotate_left
        · unfold Oper.quietAt; go_simp; try with_reducible rfl
        simp only [Act.put, List.setIfInBounds_toArray, List.set_cons_zero, List.set_cons_succ]
        refine cl_val (v := ?_) rfl (fun W hW => ?_) ?_
        rotate_left
        · unfold Oper.quietAt; go_simp; try with_reducible rfl
        simp only [Act.put, List.setIfInBounds_toArray, List.set_cons_zero, List.set_cons_succ]
        refine cl_move _ rfl rfl ?_
        simp only [Act.put, List.setIfInBounds_toArray, List.set_cons_zero, List.set_cons_succ]
        refine cl_val (v := ?_) rfl (fun W hW => ?_) ?_
        rotate_left
        · unfold Oper.quietAt; go_simp; try with_reducible rfl
        simp only [Act.put, List.setIfInBounds_toArray, List.set_cons_zero, List.set_cons_succ]
        refine cl_val (v := ?_) rfl (fun W hW => ?_) ?_
        rotate_left
        · unfold Oper.quietAt; go_simp; try with_reducible rfl
        simp only [Act.put, List.setIfInBounds_toArray, List.set_cons_zero, List.set_cons_succ]
        refine cl_val (v := ?_) rfl (fun W hW => ?_) ?_
        rotate_left
        · have l0 := hW.cell c6; unfold Oper.quietAt; go_simp; try with_reducible rfl
        simp only [Act.put, List.setIfInBounds_toArray, List.set_cons_zero, List.set_cons_succ]
        refine cl_move _ rfl rfl ?_
        simp only [Act.put, List.setIfInBounds_toArray, List.set_cons_zero, List.set_cons_succ]
        refine cl_val (v := ?_) rfl (fun W hW => ?_) ?_
        rotate_left
        · unfold Oper.quietAt; go_simp; try with_reducible rfl
        simp only [Act.put, List.setIfInBounds_toArray, List.set_cons_zero, List.set_cons_succ]
        refine cl_val (v := ?_) rfl (fun W hW => ?_) ?_
        rotate_left
        · unfold Oper.quietAt; go_simp; try with_reducible rfl
        simp only [Act.put, List.setIfInBounds_toArray, List.set_cons_zero, List.set_cons_succ]
        refine cl_val (v := ?_) rfl (fun W hW => ?_) ?_
        rotate_left
        · have l0 := hW.cell c7; unfold Oper.quietAt; go_simp; try with_reducible rfl
        simp only [Act.put, List.setIfInBounds_toArray, List.set_cons_zero, List.set_cons_succ]
        refine cl_assign _ rfl rfl ?_
        simp only [Act.put, List.setIfInBounds_toArray, List.set_cons_zero, List.set_cons_succ]
        refine cl_assign _ rfl rfl ?_
        simp only [Act.put, List.setIfInBounds_toArray, List.set_cons_zero, List.set_cons_succ]
        refine cl_assign _ rfl rfl ?_
        simp only [Act.put, List.setIfInBounds_toArray, List.set_cons_zero, List.set_cons_succ]
        refine cl_assign _ rfl rfl ?_
        simp only [Act.put, List.setIfInBounds_toArray, List.set_cons_zero, List.set_cons_succ]
        refine wpQuiet_nil ?_
        intro z Hz
        have HP9 := hide (HP5.out.below Hz.out)
        have HK9 := hide (HK5.out.trans (DK.of_below g w.heap.size lv5 tv5 (.slice ba5 o.length bc5) Hz.out))
        clear p0 p1 c6 c7
        go_wp2
        exact bodyPost_ret (v := .tuple #[.slice ba5 o.length bc5, .int .i64 (k : Int), .bool d1.whole, .int .i64 (en : Int)]) (by simp [results, Tryd.results105, go_sem]) rfl ⟨_, _, _, by rw [HBY.out], by rw [HBY.out]; exact Row.raise HP9.out.pce.body (fun i e => Nat.le_of_not_lt fun h9 => HK9.out.ba i (Nat.lt_of_lt_of_le h9 B1.out.size) (by simp [Value.ownBlock]) e), by rw [HBY.out]; exact HP9.out.dec, HK9.out.pk B1.out (Nat.le_refl _) (fun i e => by simp [Value.ownBlock] at e)⟩
      · have e1 : overB { d1 with wrong := en } = false := by
          unfold overB
          rw [not_or] at hov
          rw [Bool.or_eq_false_iff]
          exact ⟨by simpa using hov.2, decide_eq_false (by simpa using hov.1)⟩
        rw [not_or] at hov
        have hen : en = 0 := by simpa using hov.1
        have hw1 : d1.whole = false := by simpa using hov.2
        subst hen
        have HW1 := hide hw1
        rw [e1] at HOV
        clear e1 hov hw1
        have hp2 := HP2.out
        rw [eta_wrong HWR1.out] at hp2
        have HP3 := hide hp2
        clear hp2 HP2
        have HM2 := hide ((HM.out.below B1.out).dk HP1.out hb HK2.out)
        have hdn : l.drop k ≠ [] := fun h6 => by
          have := HDL.out
          rw [h6] at this
          simp at this
          omega
        have hlo : (l.drop k).length + o.length ≤ 140737488355328 := by
          have h7 := dn_out HDN.out
          rw [HDL.out]
          omega
        have hld : (l.drop k).length ≤ 140737488355328 := by omega
        go_wp2_with fail
        refine HOV.out.mono ?_
        rintro e w' ⟨rfl, rfl⟩
        have c0 := HP3.out.dec.cell 0
        rw [show (dcells d1 g lv1 tv1)[0]? = some (stV d1.fn g) from rfl] at c0
        rcases HF1.out.fn with hfn | hfn | hfn
        · have HS := hide (sizeLine_any HP3.out HF1.out hfn HW1.out HM2.out hb hld)
          have c0' : wr.cell? ⟨g, 0, none⟩ = some (.func (.func 26) #[.pointer (some ⟨g, 0, none⟩)] #[]) := by
            rw [c0]
            unfold stV
            rw [hfn]
            rfl
          clear c0 hfn
          go_wp2_with fail
          refine HS.out.mono ?_
          rintro e w4 ⟨en, k2, o2, d2, lv2, tv2, rv2, bv2, rfl, h1, h2, h3, h4, h5, h6⟩
          have HDN2 := hide (HDN.out.trans HW1.out h1)
          have HF2 := hide h2
          have HWR2 := hide (h4.trans HWR1.out)
          have HDD := hide (h5.dec.set 7 (.int .i64 (en : Int)) { d2 with wrong := en } rfl rfl rfl)
          have HP4 := hide (h5.of_PK HDD.out (PK.set w4 g 7 (.int .i64 (en : Int)) lv2 tv2))
          have HK4 := hide (HK2.out.trans (h6.trans (DK.of_PK (h := w.heap.size) bv2 (PK.set w4 g 7 (.int .i64 (en : Int)) lv2 tv2))))
          have c7 := h5.dec.cell 7
          have f7 := h5.dec.froz 7
          have hk2 := h3 hdn
          have hk3 := h1.1
          rw [HDL.out] at hk3
          clear h1 h2 h3 h4 h5 h6 HS
          go_wp2_with fail
          exact ⟨⟨k + k2, o ++ o2, en, d2, lv2, tv2, rv2, bv2, HDN2, HF2, HWR2, hide (by rw [← List.drop_drop]; exact HP4.out), HK4⟩, by rw [HP4.out.restLen, HRL.out, List.length_drop, HDL.out]; omega⟩
        · have HS := hide (body_any HP3.out HF1.out hfn HW1.out hdn HM2.out hb hlo)
          have c0' : wr.cell? ⟨g, 0, none⟩ = some (.func (.func 38) #[.pointer (some ⟨g, 0, none⟩)] #[]) := by
            rw [c0]
            unfold stV
            rw [hfn]
            rfl
          clear c0 hfn
          go_wp2_with fail
          refine HS.out.mono ?_
          rintro e w4 ⟨en, k2, o2, d2, lv2, tv2, rv2, bv2, rfl, h1, h2, h3, h4, h5, h6⟩
          have HDN2 := hide (HDN.out.trans HW1.out h1)
          have HF2 := hide h2
          have HWR2 := hide (h4.trans HWR1.out)
          have HDD := hide (h5.dec.set 7 (.int .i64 (en : Int)) { d2 with wrong := en } rfl rfl rfl)
          have HP4 := hide (h5.of_PK HDD.out (PK.set w4 g 7 (.int .i64 (en : Int)) lv2 tv2))
          have HK4 := hide (HK2.out.trans (h6.trans (DK.of_PK (h := w.heap.size) bv2 (PK.set w4 g 7 (.int .i64 (en : Int)) lv2 tv2))))
          have c7 := h5.dec.cell 7
          have f7 := h5.dec.froz 7
          have hk2 := h3 hdn
          have hk3 := h1.1
          rw [HDL.out] at hk3
          clear h1 h2 h3 h4 h5 h6 HS
          go_wp2_with fail
          exact ⟨⟨k + k2, o ++ o2, en, d2, lv2, tv2, rv2, bv2, HDN2, HF2, HWR2, hide (by rw [← List.drop_drop]; exact HP4.out), HK4⟩, by rw [HP4.out.restLen, HRL.out, List.length_drop, HDL.out]; omega⟩
        · have HS := hide (trailerLine_any HP3.out HF1.out hfn HW1.out HM2.out hb hld)
          have c0' : wr.cell? ⟨g, 0, none⟩ = some (.func (.func 39) #[.pointer (some ⟨g, 0, none⟩)] #[]) := by
            rw [c0]
            unfold stV
            rw [hfn]
            rfl
          clear c0 hfn
          go_wp2_with fail
          refine HS.out.mono ?_
          rintro e w4 ⟨en, k2, o2, d2, lv2, tv2, rv2, bv2, rfl, h1, h2, h3, h4, h5, h6⟩
          have HDN2 := hide (HDN.out.trans HW1.out h1)
          have HF2 := hide h2
          have HWR2 := hide (h4.trans HWR1.out)
          have HDD := hide (h5.dec.set 7 (.int .i64 (en : Int)) { d2 with wrong := en } rfl rfl rfl)
          have HP4 := hide (h5.of_PK HDD.out (PK.set w4 g 7 (.int .i64 (en : Int)) lv2 tv2))
          have HK4 := hide (HK2.out.trans (h6.trans (DK.of_PK (h := w.heap.size) bv2 (PK.set w4 g 7 (.int .i64 (en : Int)) lv2 tv2))))
          have c7 := h5.dec.cell 7
          have f7 := h5.dec.froz 7
          have hk2 := h3 hdn
          have hk3 := h1.1
          rw [HDL.out] at hk3
          clear h1 h2 h3 h4 h5 h6 HS
          go_wp2_with fail
          exact ⟨⟨k + k2, o ++ o2, en, d2, lv2, tv2, rv2, bv2, HDN2, HF2, HWR2, hide (by rw [← List.drop_drop]; exact HP4.out), HK4⟩, by rw [HP4.out.restLen, HRL.out, List.length_drop, HDL.out]; omega⟩
    · have hd0 : l.drop k = [] := List.drop_of_length_le (by omega)
      have t1 : ¬ (0 : Int) < ((l.length - k : Nat) : Int) := by omega
      have HBY := hide (HRD.out.symm.trans (HDN.out.done (.inr hd0)))
      clear hd0
      have HFG := hide (forget_any HP2.out.dec)
      go_wp2_with fail
      refine HFG.out.mono ?_
      rintro e w5 ⟨rfl, lv5, tv5, hd5, hk5⟩
      have HP5 := hide (HP2.out.of_PK hd5 hk5)
      have HK5 := hide (HK2.out.trans (DK.of_PK (h := w.heap.size) _ hk5))
      clear hd5 hk5 HFG
      obtain ⟨ba5, bc5, hbe5, _, _⟩ := HP5.out.pce.body.shape
      rw [bc_len] at hbe5
      subst hbe5
      have p0 := HP5.out.pce.cell 0
      have p1 := HP5.out.pce.cell 1
      have c6 : w5.cell? ⟨g, 6, none⟩ = some (.bool d1.whole) := HP5.out.dec.cell 6
      have c7 : w5.cell? ⟨g, 7, none⟩ = some (.int .i64 (en : Int)) := HP5.out.dec.cell 7
      go_upto_region 7 with fail
      have hsub : (l.length : Int) - ((l.length - k : Nat) : Int) = (k : Int) := by omega
      have hwrap : IntKind.i64.wrap (k : Int) = (k : Int) := IntWalk.i64_in _ ⟨by omega, by omega⟩
      refine wp_region_cl (by kernel_rfl) (by kernel_rfl) ?_
      refine cl_val (v := ?_) rfl (fun W hW => ?_) ?_
      rotate_left
      · unfold Oper.quietAt; go_simp; try with_reducible rfl
      simp only [Act.put, List.setIfInBounds_toArray, List.set_cons_zero, List.set_cons_succ]
      refine cl_val (v := ?_) rfl (fun W hW => ?_) ?_
      rotate_left
      · have l0 := hW.cell p1; unfold Oper.quietAt; go_simp; try with_reducible rfl
      simp only [Act.put, List.setIfInBounds_toArray, List.set_cons_zero, List.set_cons_succ]
      refine cl_move _ rfl rfl ?_
      simp only [Act.put, List.setIfInBounds_toArray, List.set_cons_zero, List.set_cons_succ]
      refine cl_val (v := ?_) rfl (fun W hW => ?_) ?_
      rotate_left
      · unfold Oper.quietAt; go_simp; try with_reducible rfl
      simp only [Act.put, List.setIfInBounds_toArray, List.set_cons_zero, List.set_cons_succ]
      refine cl_val (v := ?_) rfl (fun W hW => ?_) ?_
      rotate_left
      · unfold Oper.quietAt; go_simp; try with_reducible rfl
      simp only [Act.put, List.setIfInBounds_toArray, List.set_cons_zero, List.set_cons_succ]
      refine cl_val (v := ?_) rfl (fun W hW => ?_) ?_
      rotate_left
      · have l0 := hW.cell p0; unfold Oper.quietAt; go_simp; try with_reducible rfl
      simp only [Act.put, List.setIfInBounds_toArray, List.set_cons_zero, List.set_cons_succ]
      refine cl_val (v := ?_) rfl (fun W hW => ?_) ?_
      rotate_left
      · unfold Oper.quietAt; go_simp; try with_reducible rfl
      simp only [Act.put, List.setIfInBounds_toArray, List.set_cons_zero, List.set_cons_succ]
      refine cl_val (v := ?_) rfl (fun W hW => ?_) ?_
      rotate_left
      · unfold Oper.quietAt; go_simp; try with_reducible rfl
      simp only [Act.put, List.setIfInBounds_toArray, List.set_cons_zero, List.set_cons_succ]
      refine cl_move _ rfl rfl ?_
      simp only [Act.put, List.setIfInBounds_toArray, List.set_cons_zero, List.set_cons_succ]
      refine cl_val (v := ?_) rfl (fun W hW => ?_) ?_
      rotate_left
      · unfold Oper.quietAt; go_simp; try with_reducible rfl
      simp only [Act.put, List.setIfInBounds_toArray, List.set_cons_zero, List.set_cons_succ]
      refine cl_val (v := ?_) rfl (fun W hW => ?_) ?_
      rotate_left
      · unfold Oper.quietAt; go_simp; try with_reducible rfl
      simp only [Act.put, List.setIfInBounds_toArray, List.set_cons_zero, List.set_cons_succ]
      refine cl_val (v := ?_) rfl (fun W hW => ?_) ?_
      rotate_left
      · have l0 := hW.cell c6; unfold Oper.quietAt; go_simp; try with_reducible rfl
      simp only [Act.put, List.setIfInBounds_toArray, List.set_cons_zero, List.set_cons_succ]
      refine cl_move _ rfl rfl ?_
      simp only [Act.put, List.setIfInBounds_toArray, List.set_cons_zero, List.set_cons_succ]
      refine cl_val (v := ?_) rfl (fun W hW => ?_) ?_
      rotate_left
      · unfold Oper.quietAt; go_simp; try with_reducible rfl
      simp only [Act.put, List.setIfInBounds_toArray, List.set_cons_zero, List.set_cons_succ]
      refine cl_val (v := ?_) rfl (fun W hW => ?_) ?_
      rotate_left
      · unfold Oper.quietAt; go_simp; try with_reducible rfl
      simp only [Act.put, List.setIfInBounds_toArray, List.set_cons_zero, List.set_cons_succ]
      refine cl_val (v := ?_) rfl (fun W hW => ?_) ?_
      rotate_left
      · have l0 := hW.cell c7; unfold Oper.quietAt; go_simp; try with_reducible rfl
      simp only [Act.put, List.setIfInBounds_toArray, List.set_cons_zero, List.set_cons_succ]
      refine cl_assign _ rfl rfl ?_
      simp only [Act.put, List.setIfInBounds_toArray, List.set_cons_zero, List.set_cons_succ]
      refine cl_assign _ rfl rfl ?_
      simp only [Act.put, List.setIfInBounds_toArray, List.set_cons_zero, List.set_cons_succ]
      refine cl_assign _ rfl rfl ?_
      simp only [Act.put, List.setIfInBounds_toArray, List.set_cons_zero, List.set_cons_succ]
      refine cl_assign _ rfl rfl ?_
      simp only [Act.put, List.setIfInBounds_toArray, List.set_cons_zero, List.set_cons_succ]
      refine wpQuiet_nil ?_
      intro z Hz
      have HP9 := hide (HP5.out.below Hz.out)
      have HK9 := hide (HK5.out.trans (DK.of_below g w.heap.size lv5 tv5 (.slice ba5 o.length bc5) Hz.out))
      clear p0 p1 c6 c7
      go_wp2
      exact bodyPost_ret (v := .tuple #[.slice ba5 o.length bc5, .int .i64 (k : Int), .bool d1.whole, .int .i64 (en : Int)]) (by simp [results, Tryd.results105, go_sem]) rfl ⟨_, _, _, by rw [HBY.out], by rw [HBY.out]; exact Row.raise HP9.out.pce.body (fun i e => Nat.le_of_not_lt fun h9 => HK9.out.ba i (Nat.lt_of_lt_of_le h9 B1.out.size) (by simp [Value.ownBlock]) e), by rw [HBY.out]; exact HP9.out.dec, HK9.out.pk B1.out (Nat.le_refl _) (fun i e => by simp [Value.ownBlock] at e)⟩
end Go.Proofs.YtggeihahbgeneaaDoor
