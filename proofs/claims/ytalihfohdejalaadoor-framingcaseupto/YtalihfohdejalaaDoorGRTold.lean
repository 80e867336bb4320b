/- told: the document's. -/
import Derived.Test.YtalihfohdejalaaDoorGKeep
import Derived.Test.YtalihfohdejalaaDoorGLen
namespace Go.Proofs.YtalihfohdejalaaDoor
open Go.ChangeShapes Go.WideShapes Go.ChangeAt Go.RowKit

theorem code_yes {I : List ByteArray} (h1 : 0 < I.length) (h2 : I.length ≤ 1) (h3 : I[0] = chS) : decide (I = [chS]) = true := by
  match I, h1, h2, h3 with
  | [x], _, _, h3 => simp at h3; subst h3; exact decide_eq_true rfl
theorem code_len {I : List ByteArray} (h : I.length ≠ 1) : decide (I = [chS]) = false := decide_eq_false (by rintro rfl; exact h rfl)
theorem code_no {I : List ByteArray} (h1 : 0 < I.length) (h3 : I[0] ≠ chS) : decide (I = [chS]) = false := decide_eq_false (by rintro rfl; exact h3 rfl)
set_option maxHeartbeats 4000000 in
theorem rtold_any (w : World) (r : Bool) (me ta : ByteArray) (mi st : Int) (re : ByteArray) (l : Value) (A : List (ByteArray × ByteArray)) (k : Int) (hA : Flds w l A) (hs : Sm A) :
    Calls Tryd.prog 17 #[.agg (hdC r me ta mi st re l), .int .i64 k] w fun e w' => e = .returned (foV (toldO A mi k (keepB A mi && (k != 4)))) ∧ Below w.heap.size w w' := by
  have HT := hide (fun W h => rget_any W l A teS h hs (by decide))
  have HC := hide (fun W h => rget_any W l A clS h hs (by decide))
  have HIT := hide (fun W h => ritems_any W l A teS h hs (by decide))
  have HIC := hide (fun W h => ritems_any W l A clS h hs (by decide))
  have HM := hide (fun x (hx : x ∈ itemsS A clS) => itemsV_mem (allS A clS) (fun y hy => allS_mem hs hy) x hx)
  have HK := hide (fun W h => rkeep_any W r me ta mi st re l A h hs)
  have F0 := hide hA
  have hL1 := itemsS_len hs teS
  have hL2 := itemsS_len hs clS
  obtain ⟨a0, c0, rfl, _, _⟩ := hA
  have hR : ∃ o, toldO A mi k (keepB A mi && (k != 4)) = o := ⟨_, rfl⟩
  obtain ⟨o, ho⟩ := hR
  rw [ho]
  unfold toldO toldB codeOk at ho
  have HR := hide ho
  clear ho
  generalize decide (0 < (allS A teS).length) = b1 at HT HR
  generalize decide (0 < (allS A clS).length) = b2 at HC HR
  generalize getS (allS A teS) = g1 at HT
  generalize getS (allS A clS) = g2 at HC
  generalize itemsS A teS = I1 at HIT HR hL1
  generalize itemsS A clS = I2 at HIC HR HM hL2
  generalize keepB A mi = b5 at HK HR
  unfold teS at HT HIT
  unfold clS at HC HIC
  unfold hdC at HK ⊢
  clear hs
  go_enter Tryd.func17, Tryd.ntmps17
  go_wp2_with fail
  have T0 := hide (Bl.two w #[.bool r, .string me, .string ta, .int .i64 mi, .int .i64 st, .string re, .slice a0 A.length c0] 24 #[.int .i64 0, .int .i64 0, .bool false] 26)
  generalize ((w.alloc (.cells #[.bool r, .string me, .string ta, .int .i64 mi, .int .i64 st, .string re, .slice a0 A.length c0] 24)).alloc (.cells #[.int .i64 0, .int .i64 0, .bool false] 26)) = x at T0 ⊢
  refine (HT.out _ (F0.out.below T0.out.b)).mono ?_
  rintro e w1 ⟨rfl, bb⟩
  have T1 := hide (T0.out.below bb)
  have r6 : w1.cell? ⟨w.heap.size, 6, none⟩ = some (.slice a0 A.length c0) := T1.out.cell 0 rfl 6
  clear bb T0 HT
  go_wp2_with fail
  refine (HC.out _ (F0.out.below T1.out.b)).mono ?_
  rintro e w2 ⟨rfl, bb⟩
  have T2 := hide (T1.out.below bb)
  clear bb T1 HC r6
  cases b1
  · cases b2
    · -- neither
      obtain ⟨r0, r1, r2, r3, r4, r5, r6⟩ := T2.out.hd 0 w.heap.size rfl rfl
      go_wp2_with fail
      refine (HK.out _ (F0.out.below T2.out.b)).mono ?_
      rintro e w4 ⟨rfl, bb⟩
      have T4 := hide (T2.out.below bb)
      clear bb T2 r0 r1 r2 r3 r4 r5 r6
      obtain ⟨s0, s1, s2, f0, f1, f2⟩ := T4.out.st 1 (w.heap.size + 1) rfl rfl
      cases b5
      · go_wp2
        obtain ⟨k0, k1, k2, kb⟩ := st3 T4.out 1 (w.heap.size + 1) rfl rfl (k) (0) false
        generalize ((w4.setCell ⟨w.heap.size + 1, 0, none⟩ (.int .i64 (k))).setCell ⟨w.heap.size + 1, 1, none⟩ (.int .i64 (0))).setCell ⟨w.heap.size + 1, 2, none⟩ (.bool false) = w9 at k0 k1 k2 kb ⊢
        clear s0 s1 s2 f0 f1 f2
        exact bodyPost_ret (v := .tuple #[.agg #[.int .i64 (k), .int .i64 (0), .bool false], .int .i64 (0)]) (by simp [results, Tryd.results17, go_sem, k0, k1, k2]) rfl ⟨by rw [← HR.out]; rfl, kb⟩
      · go_wp2
        obtain ⟨k0, k1, k2, kb⟩ := st3 T4.out 1 (w.heap.size + 1) rfl rfl (k) (0) (k != 4)
        generalize ((w4.setCell ⟨w.heap.size + 1, 0, none⟩ (.int .i64 (k))).setCell ⟨w.heap.size + 1, 1, none⟩ (.int .i64 (0))).setCell ⟨w.heap.size + 1, 2, none⟩ (.bool (k != 4)) = w9 at k0 k1 k2 kb ⊢
        clear s0 s1 s2 f0 f1 f2
        exact bodyPost_ret (v := .tuple #[.agg #[.int .i64 (k), .int .i64 (0), .bool (k != 4)], .int .i64 (0)]) (by simp [results, Tryd.results17, go_sem, k0, k1, k2]) rfl ⟨by rw [← HR.out]; rfl, kb⟩
    · -- a length
      have r6 : w2.cell? ⟨w.heap.size, 6, none⟩ = some (.slice a0 A.length c0) := T2.out.cell 0 rfl 6
      go_wp2_with fail
      refine (HIC.out _ (F0.out.below T2.out.b)).mono ?_
      rintro e w3 ⟨v, rfl, hRw, bb⟩
      have T3 := hide (T2.out.below bb)
      obtain ⟨a1, c1, rfl, hcv⟩ := Strs.of_row hRw
      have HV := hide hcv
      clear bb T2 HIC hRw hcv r6
      have HFN : Hid (firstN I2 ≤ 9007199254740992) := hide (by
        cases I2 with
        | nil => simp [firstN]
        | cons x r => exact num_topN _)
      have HF0 := hide (fun (h : 0 < I2.length) x (hx : I2[0] = x) => firstN_at h hx)
      have HO := hide (fun (h : 0 < I2.length) => lenOk_cons h)
      generalize hfn : firstN I2 = fn at HFN HF0 HO
      have HFE := hide hfn
      clear hfn
      go_wp2
      go_loop [71, 12] (fun i n => ∃ (k : Nat) (m : Int), k ≤ I2.length ∧ i = .int .i64 k ∧ n = .int .i64 m ∧ Hid (m = if k = 0 then -1 else (fn : Int)) ∧ Hid (oneIs (I2.take k) fn = true)) (fun i _ => I2.length - (intOf i).toNat)
      case atStart => exact ⟨0, -1, Nat.zero_le _, rfl, rfl, hide rfl, hide rfl⟩
      case round =>
        obtain ⟨k, m, hk, rfl, rfl, Hm, HKk⟩ := hrel
        have hfl := HFN.out
        by_cases hlt : k < I2.length
        · obtain ⟨g, rfl, hgl, q1⟩ := HV.out k hlt
          have hz := HM.out I2[k] (List.getElem_mem hlt)
          have HNO := hide (fun x hx h => oneIs_no (n := fn) hlt (x := x) hx h)
          have HYE := hide (fun x hx h2 => oneIs_snoc (n := fn) hlt (x := x) hx HKk.out h2)
          have HZE : Hid (k = 0 → ∀ x, I2[k] = x → fn = numV 10 x.data.toList) := hide (by intro h0 x hx; subst h0; exact HF0.out hlt x hx)
          obtain ⟨x, hx⟩ : ∃ x, I2[k] = x := ⟨_, rfl⟩
          rw [hx] at q1 hz
          have HN1 := hide (HNO.out x hx)
          have HY1 := hide (HYE.out x hx)
          have HZ1 := hide (fun h0 => HZE.out h0 x hx)
          clear hx HNO HYE HZE hgl
          have hpos : 0 < I2.length := by omega
          have HLO := hide (HO.out hpos)
          go_wp2_with fail
          refine (rnumber_10 x w3 (by unfold maxLen; omega)).mono ?_
          rintro e w4 ⟨rfl, rfl⟩
          have hxl := num_topN x.data.toList
          generalize numE 10 x.data.toList = xe at HN1 HY1 ⊢
          generalize numV 10 x.data.toList = xv at HN1 HY1 HZ1 hxl ⊢
          clear q1 hz
          obtain ⟨s0, s1, s2, f0, f1, f2⟩ := T3.out.st 1 (w.heap.size + 1) rfl rfl
          by_cases he : xe = 0
          · subst he
            by_cases h0 : k = 0
            · have hmm : m = -1 := by rw [Hm.out, if_pos h0]
              have hxf := HZ1.out h0
              subst hmm hxf
              have HK2 := hide (HY1.out ⟨rfl, rfl⟩)
              go_wp2
              exact ⟨⟨k + 1, _, by omega, by go_num, rfl, hide (by rw [if_neg (by omega)]), HK2⟩, by simp [intOf]; omega⟩
            · have hmm : m = (fn : Int) := by rw [Hm.out, if_neg h0]
              subst hmm
              by_cases hv : xv = fn
              · subst hv
                have HK2 := hide (HY1.out ⟨rfl, rfl⟩)
                go_wp2
                exact ⟨⟨k + 1, _, by omega, by go_num, rfl, hide (by rw [if_neg (by omega)]), HK2⟩, by simp [intOf]; omega⟩
              · have t1 : ((xv : Int) != (fn : Int)) = true := bne_iff_ne.2 (by omega)
                have HZ : Hid (oneIs I2 fn = false) := hide (HN1.out (fun h => hv h.2))
                clear hv
                go_wp2
                obtain ⟨k0, k1, k2, kb⟩ := st3 T3.out 1 (w.heap.size + 1) rfl rfl (0) (0) false
                generalize ((w3.setCell ⟨w.heap.size + 1, 0, none⟩ (.int .i64 (0))).setCell ⟨w.heap.size + 1, 1, none⟩ (.int .i64 (0))).setCell ⟨w.heap.size + 1, 2, none⟩ (.bool false) = w9 at k0 k1 k2 kb ⊢
                clear s0 s1 s2 f0 f1 f2
                exact bodyPost_ret (v := .tuple #[.agg #[.int .i64 (0), .int .i64 (0), .bool false], .int .i64 (90)]) (by simp [results, Tryd.results17, go_sem, k0, k1, k2]) rfl ⟨by rw [← HR.out, HLO.out, HZ.out]; rfl, kb⟩
          · have t1 : ((xe : Int) != 0) = true := bne_iff_ne.2 (by omega)
            have HZ : Hid (oneIs I2 fn = false) := hide (HN1.out (fun h => he h.1))
            clear he
            go_wp2
            obtain ⟨k0, k1, k2, kb⟩ := st3 T3.out 1 (w.heap.size + 1) rfl rfl (0) (0) false
            generalize ((w3.setCell ⟨w.heap.size + 1, 0, none⟩ (.int .i64 (0))).setCell ⟨w.heap.size + 1, 1, none⟩ (.int .i64 (0))).setCell ⟨w.heap.size + 1, 2, none⟩ (.bool false) = w9 at k0 k1 k2 kb ⊢
            clear s0 s1 s2 f0 f1 f2
            exact bodyPost_ret (v := .tuple #[.agg #[.int .i64 (0), .int .i64 (0), .bool false], .int .i64 (90)]) (by simp [results, Tryd.results17, go_sem, k0, k1, k2]) rfl ⟨by rw [← HR.out, HLO.out, HZ.out]; rfl, kb⟩
        · have HZ : Hid (oneIs I2 fn = true) := hide (by have := HKk.out; rw [List.take_of_length_le (by omega)] at this; exact this)
          by_cases h0 : k = 0
          · have hmm : m = -1 := by rw [Hm.out, if_pos h0]
            subst hmm
            have HI0 : Hid (I2 = []) := hide (List.eq_nil_of_length_eq_zero (by omega))
            obtain ⟨s0, s1, s2, f0, f1, f2⟩ := T3.out.st 1 (w.heap.size + 1) rfl rfl
            go_wp2
            obtain ⟨k0, k1, k2, kb⟩ := st3 T3.out 1 (w.heap.size + 1) rfl rfl (0) (0) false
            generalize ((w3.setCell ⟨w.heap.size + 1, 0, none⟩ (.int .i64 (0))).setCell ⟨w.heap.size + 1, 1, none⟩ (.int .i64 (0))).setCell ⟨w.heap.size + 1, 2, none⟩ (.bool false) = w9 at k0 k1 k2 kb ⊢
            clear s0 s1 s2 f0 f1 f2
            exact bodyPost_ret (v := .tuple #[.agg #[.int .i64 (0), .int .i64 (0), .bool false], .int .i64 (90)]) (by simp [results, Tryd.results17, go_sem, k0, k1, k2]) rfl ⟨by rw [← HR.out, HI0.out]; rfl, kb⟩
          · have hmm : m = (fn : Int) := by rw [Hm.out, if_neg h0]
            subst hmm
            have HLO := hide (HO.out (by omega))
            obtain ⟨r0, r1, r2, r3, r4, r5, r6⟩ := T3.out.hd 0 w.heap.size rfl rfl
            go_wp2_with fail
            refine (HK.out _ (F0.out.below T3.out.b)).mono ?_
            rintro e w4 ⟨rfl, bb⟩
            have T4 := hide (T3.out.below bb)
            clear bb T3 r0 r1 r2 r3 r4 r5 r6
            obtain ⟨s0, s1, s2, f0, f1, f2⟩ := T4.out.st 1 (w.heap.size + 1) rfl rfl
            go_wp2
            obtain ⟨k0, k1, k2, kb⟩ := st3 T4.out 1 (w.heap.size + 1) rfl rfl (2) ((fn : Int)) b5
            generalize ((w4.setCell ⟨w.heap.size + 1, 0, none⟩ (.int .i64 (2))).setCell ⟨w.heap.size + 1, 1, none⟩ (.int .i64 ((fn : Int)))).setCell ⟨w.heap.size + 1, 2, none⟩ (.bool b5) = w9 at k0 k1 k2 kb ⊢
            clear s0 s1 s2 f0 f1 f2
            exact bodyPost_ret (v := .tuple #[.agg #[.int .i64 (2), .int .i64 ((fn : Int)), .bool b5], .int .i64 (0)]) (by simp [results, Tryd.results17, go_sem, k0, k1, k2]) rfl ⟨by rw [← HR.out]; unfold lenN; rw [HLO.out, HZ.out, HFE.out]; rfl, kb⟩
  · cases b2
    · -- a coding
      have r6 : w2.cell? ⟨w.heap.size, 6, none⟩ = some (.slice a0 A.length c0) := T2.out.cell 0 rfl 6
      go_wp2_with fail
      refine (HIT.out _ (F0.out.below T2.out.b)).mono ?_
      rintro e w3 ⟨v, rfl, hRw, bb⟩
      have T3 := hide (T2.out.below bb)
      obtain ⟨a1, c1, rfl, hcv⟩ := Strs.of_row hRw
      have HV := hide hcv
      clear bb T2 HIT hRw hcv r6
      obtain ⟨r0, r1, r2, r3, r4, r5, r6⟩ := T3.out.hd 0 w.heap.size rfl rfl
      obtain ⟨s0, s1, s2, f0, f1, f2⟩ := T3.out.st 1 (w.heap.size + 1) rfl rfl
      by_cases m1 : mi = 1
      · subst m1
        by_cases h1 : I1.length = 1
        · have hpos : 0 < I1.length := by omega
          obtain ⟨g, rfl, hgl, q1⟩ := HV.out 0 hpos
          have HY := hide (code_yes hpos (by omega))
          have HN := hide (code_no hpos)
          have t1 : ((I1.length : Int) != 1) = false := bne_eq_false_iff_eq.2 (by omega)
          obtain ⟨x, hx⟩ : ∃ x, I1[0] = x := ⟨_, rfl⟩
          rw [hx] at q1 HY HN
          clear hx h1 hgl
          have hb := bytes_eq x chS
          rw [show chS.toList = [99, 104, 117, 110, 107, 101, 100] by rw [Lib.toList_data]; rfl] at hb
          by_cases hc : x = chS
          · have t2 : (x.toList == [99, 104, 117, 110, 107, 101, 100]) = true := by rw [hb]; exact decide_eq_true hc
            have HD := hide (HY.out hc)
            clear hb hc HY HN
            go_wp2_with fail
            refine (HK.out _ (F0.out.below T3.out.b)).mono ?_
            rintro e w4 ⟨rfl, bb⟩
            have T4 := hide (T3.out.below bb)
            clear bb T3 r0 r1 r2 r3 r4 r5 r6 s0 s1 s2 f0 f1 f2
            obtain ⟨s0, s1, s2, f0, f1, f2⟩ := T4.out.st 1 (w.heap.size + 1) rfl rfl
            go_wp2
            obtain ⟨k0, k1, k2, kb⟩ := st3 T4.out 1 (w.heap.size + 1) rfl rfl (3) (0) b5
            generalize ((w4.setCell ⟨w.heap.size + 1, 0, none⟩ (.int .i64 (3))).setCell ⟨w.heap.size + 1, 1, none⟩ (.int .i64 (0))).setCell ⟨w.heap.size + 1, 2, none⟩ (.bool b5) = w9 at k0 k1 k2 kb ⊢
            clear s0 s1 s2 f0 f1 f2
            exact bodyPost_ret (v := .tuple #[.agg #[.int .i64 (3), .int .i64 (0), .bool b5], .int .i64 (0)]) (by simp [results, Tryd.results17, go_sem, k0, k1, k2]) rfl ⟨by rw [← HR.out, HD.out]; rfl, kb⟩
          · have t2 : (x.toList == [99, 104, 117, 110, 107, 101, 100]) = false := by rw [hb]; exact decide_eq_false hc
            have HD := hide (HN.out hc)
            clear hb hc HY HN
            go_wp2
            obtain ⟨k0, k1, k2, kb⟩ := st3 T3.out 1 (w.heap.size + 1) rfl rfl (0) (0) false
            generalize ((w3.setCell ⟨w.heap.size + 1, 0, none⟩ (.int .i64 (0))).setCell ⟨w.heap.size + 1, 1, none⟩ (.int .i64 (0))).setCell ⟨w.heap.size + 1, 2, none⟩ (.bool false) = w9 at k0 k1 k2 kb ⊢
            clear s0 s1 s2 f0 f1 f2
            exact bodyPost_ret (v := .tuple #[.agg #[.int .i64 (0), .int .i64 (0), .bool false], .int .i64 (92)]) (by simp [results, Tryd.results17, go_sem, k0, k1, k2]) rfl ⟨by rw [← HR.out, HD.out]; rfl, kb⟩
        · have t1 : ((I1.length : Int) != 1) = true := bne_iff_ne.2 (by omega)
          have HD := hide (code_len h1)
          clear h1
          go_wp2
          obtain ⟨k0, k1, k2, kb⟩ := st3 T3.out 1 (w.heap.size + 1) rfl rfl (0) (0) false
          generalize ((w3.setCell ⟨w.heap.size + 1, 0, none⟩ (.int .i64 (0))).setCell ⟨w.heap.size + 1, 1, none⟩ (.int .i64 (0))).setCell ⟨w.heap.size + 1, 2, none⟩ (.bool false) = w9 at k0 k1 k2 kb ⊢
          clear s0 s1 s2 f0 f1 f2
          exact bodyPost_ret (v := .tuple #[.agg #[.int .i64 (0), .int .i64 (0), .bool false], .int .i64 (92)]) (by simp [results, Tryd.results17, go_sem, k0, k1, k2]) rfl ⟨by rw [← HR.out, HD.out]; rfl, kb⟩
      · have t1 : (mi != 1) = true := bne_iff_ne.2 m1
        have HD := hide m1
        clear m1
        go_wp2
        obtain ⟨k0, k1, k2, kb⟩ := st3 T3.out 1 (w.heap.size + 1) rfl rfl (0) (0) false
        generalize ((w3.setCell ⟨w.heap.size + 1, 0, none⟩ (.int .i64 (0))).setCell ⟨w.heap.size + 1, 1, none⟩ (.int .i64 (0))).setCell ⟨w.heap.size + 1, 2, none⟩ (.bool false) = w9 at k0 k1 k2 kb ⊢
        clear s0 s1 s2 f0 f1 f2
        exact bodyPost_ret (v := .tuple #[.agg #[.int .i64 (0), .int .i64 (0), .bool false], .int .i64 (92)]) (by simp [results, Tryd.results17, go_sem, k0, k1, k2]) rfl ⟨by rw [← HR.out, decide_eq_false HD.out]; rfl, kb⟩
    · obtain ⟨s0, s1, s2, f0, f1, f2⟩ := T2.out.st 1 (w.heap.size + 1) rfl rfl
      go_wp2
      obtain ⟨k0, k1, k2, kb⟩ := st3 T2.out 1 (w.heap.size + 1) rfl rfl (0) (0) false
      generalize ((w2.setCell ⟨w.heap.size + 1, 0, none⟩ (.int .i64 (0))).setCell ⟨w.heap.size + 1, 1, none⟩ (.int .i64 (0))).setCell ⟨w.heap.size + 1, 2, none⟩ (.bool false) = w9 at k0 k1 k2 kb ⊢
      clear s0 s1 s2 f0 f1 f2
      exact bodyPost_ret (v := .tuple #[.agg #[.int .i64 (0), .int .i64 (0), .bool false], .int .i64 (91)]) (by simp [results, Tryd.results17, go_sem, k0, k1, k2]) rfl ⟨by rw [← HR.out]; rfl, kb⟩
end Go.Proofs.YtalihfohdejalaaDoor
