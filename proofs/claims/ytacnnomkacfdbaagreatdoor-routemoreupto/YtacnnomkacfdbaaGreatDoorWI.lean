/- WI: RMoW. -/
import Derived.Test.YtacnnomkacfdbaaGreatDoorWG
/- RouteMore, walked. -/
namespace Go.Proofs.YtacnnomkacfdbaaGreatDoor
open Go.ChangeShapes Go.WideShapes Go.ChangeAt Go.RowKit
set_option linter.unusedVariables false

def moreN : ByteArray := ⟨#[88, 45, 77, 111, 114, 101]⟩
theorem row_setOld {W : World} {base : Nat} {v : Value} {A : List (ByteArray × ByteArray)} (h : FRow W base v A) {g : Nat} (hg : g < base) (i : Nat) (u : Value) : Flds (W.setCell ⟨g, i, none⟩ u) v A :=
  Flds.of_row (h.frame fun k hk => Below.heap_setCell W ⟨g, i, none⟩ u k (by have := (h.lt hk).1; simp; omega))
theorem nm_more {n v : ByteArray} (h : n.size ≠ 6) : nmB n (moreN, v) = false := by
  unfold nmB
  cases hb : sameB moreN.data.toList n.data.toList with
  | false => rfl
  | true =>
    have hl : moreN.data.toList.length = n.data.toList.length := by
      unfold sameB lowerB at hb
      have := congrArg List.length (of_decide_eq_true hb)
      simpa using this
    rw [size_len] at hl
    exact absurd hl.symm h
theorem allS_more (A : List (ByteArray × ByteArray)) {n v : ByteArray} (h : n.size ≠ 6) : allS (A ++ [(moreN, v)]) n = allS A n := by
  unfold allS
  rw [List.filter_append, List.filter_cons, nm_more h]
  simp
theorem fld_more (A : List (ByteArray × ByteArray)) {hd va v : ByteArray} (h : hd.size ≠ 6) : fldB (A ++ [(moreN, v)]) hd va = fldB A hd va := by
  unfold fldB
  rw [allS_more A h]
theorem fndI_more (R : List Rt) (me : ByteArray) (A : List (ByteArray × ByteArray)) (host path v : ByteArray) (h : ∀ r ∈ R, r.hd.size ≠ 6) : fndI R me (A ++ [(moreN, v)]) host path = fndI R me A host path := by
  unfold fndI
  refine List.filter_congr fun k hk => ?_
  have hk2 : k < R.length := List.mem_range.1 hk
  rw [List.getElem?_eq_getElem hk2]
  show takR R[k] me _ host path = takR R[k] me A host path
  unfold takR takB
  rw [fld_more A (h _ (List.getElem_mem hk2))]
set_option maxHeartbeats 8000000 in
set_option maxRecDepth 100000 in
theorem more_walk (w : World) (a1 a2 : Option Addr) (k1 k2 : Nat) (C : Cfg) (h : InC w a1 a2 k1 k2 C) (r : Bool) (me ta : ByteArray) (mi st : Int) (re : ByteArray) (l : Value) (A : List (ByteArray × ByteArray)) (hA : Flds w l A) (hs : Sm A) (hl : A.length + 1 ≤ 1048576) (va : ByteArray) (hva : va.size ≤ 1048576) (hRl : C.R.length ≤ 9223372036854775807) :
    Calls Tryz.prog 5 #[cfgV a1 a2 k1 k2 C, .agg (hdC r me ta mi st re l), .string va] w fun e w' => e = .returned (.bool true) ∧ Below w.heap.size w w' := by
  obtain ⟨host, path, e0, hho, hP⟩ := place_total r me ta mi (allS A hostN) (fun x hx => allS_mem hs hx)
  have hs2 : Sm (A ++ [(moreN, va)]) := ⟨by simp; omega, fun f hf => by
    rcases List.mem_append.1 hf with hf | hf
    · exact hs.2 f hf
    · rw [List.mem_singleton] at hf
      subst hf
      exact ⟨show moreN.size ≤ 1048576 by decide, hva⟩⟩
  have hP2 : Places r me ta mi (allS (A ++ [(moreN, va)]) hostN) host path e0 := by rw [allS_more A (by decide)]; exact hP
  have HF1 := hide (fun W (b : Below w.heap.size w W) => find_any W a1 a2 k1 k2 C (h.below (w' := W) b) r me ta mi st re l A (hA.below b) hs host path e0 hP hho)
  have HF2 := hide (fun W (b : Below w.heap.size w W) l2 (h2 : Flds W l2 (A ++ [(moreN, va)])) => find_any W a1 a2 k1 k2 C (h.below (w' := W) b) r me ta mi st re l2 (A ++ [(moreN, va)]) h2 hs2 host path e0 hP2 hho)
  have HSP := hide (fun W (b : Below w.heap.size w W) => speaks_any W (h.mx.below b))
  have HRR : Hid (∀ W, Below w.heap.size w W → RRow W (.slice a2 C.R.length k2) C.R) := hide (fun W b => (h.below (w' := W) b).r)
  have HFM := hide (fndI_more C.R me A host path va)
  have F0 := hide hA
  have HL := hide hl
  clear h hs hs2 hP hP2 hho hva
  obtain ⟨a0, c0, rfl, _, _⟩ := hA
  rw [cfg_same] at HF1 HF2 ⊢
  unfold hdC at HF1 HF2 ⊢
  have HC1 : Hid ((cfgCs (.slice a1 C.H.length k1) (.slice a2 C.R.length k2) C)[1]? = some (.slice a2 C.R.length k2)) := hide rfl
  have HC18 : (Tryz.prog.info? 25).map (·.size) = some (cfgCs (.slice a1 C.H.length k1) (.slice a2 C.R.length k2) C).length := by kernel_rfl
  generalize cfgCs (.slice a1 C.H.length k1) (.slice a2 C.R.length k2) C = CC at *
  generalize C.R = R at *
  generalize cfgE C = E at *
  clear C a1 k1
  obtain ⟨n, Hn⟩ : ∃ n, Hid (R.length = n) := ⟨_, hide rfl⟩
  rw [Hn.out] at HRR HC1 hRl
  go_enter Tryz.func5, Tryz.ntmps5
  go_upto_region 1 with fail
  have T0 := hide (Bl.two w CC.toArray 25 #[.bool r, .string me, .string ta, .int .i64 mi, .int .i64 st, .string re, .slice a0 A.length c0] 28)
  generalize ((w.alloc (.cells CC.toArray 25)).alloc (.cells #[.bool r, .string me, .string ta, .int .i64 mi, .int .i64 st, .string re, .slice a0 A.length c0] 28)) = x at T0 ⊢
  have c1 : x.cell? ⟨w.heap.size, 1, none⟩ = some (.slice a2 n k2) := (T0.out.cell 0 rfl 1).trans (by rw [List.getElem?_toArray]; exact HC1.out)
  go_wp2
  clear c1
  go_loopw [17] (fun i wr => ∃ k : Nat, k ≤ n ∧ i = .int .i64 k ∧ Hid (∀ y ∈ R.take k, y.hd.size ≠ 6) ∧ Hid (Below x.heap.size x wr)) (fun i _ => n - (intOf i).toNat)
  case atStart => exact ⟨0, Nat.zero_le _, rfl, hide (fun y hy => by simp at hy), hide (Below.refl _ _)⟩
  case round =>
    obtain ⟨k, hk, rfl, HN, HB⟩ := hrel
    by_cases hlt : k < n
    · have hkl : k < R.length := by rw [Hn.out]; exact hlt
      have HB0 := hide (T0.out.b.trans (HB.out.mono T0.out.b.size))
      obtain ⟨c8, g, o, b1, d1, b2, l2, d2, e9, HM1, rg⟩ := rt_at (HRR.out wr HB0.out) hkl
      rw [Hn.out] at e9
      simp only [Value.slice.injEq, true_and] at e9
      obtain ⟨rfl, rfl⟩ := e9
      have HRG := hide rg
      have HNX : Hid (R[k].hd.size ≠ 6 → ∀ y ∈ R.take (k + 1), y.hd.size ≠ 6) := hide (fun hq y hy => by
        rw [List.take_succ_eq_append_getElem hkl] at hy
        rcases List.mem_append.1 hy with hy | hy
        · exact HN.out y hy
        · rw [List.mem_singleton] at hy
          subst hy
          exact hq)
      have e3 : (rtC R[k] (.slice b1 R[k].M.length d1) (.slice b2 l2 d2))[3]? = some (.string R[k].hd) := rfl
      have E3 := hide e3
      have X1 := rtC_one R[k] b1 R[k].M.length d1 b2 l2 d2
      have X21 := rtC_len R[k] (.slice b1 R[k].M.length d1) (.slice b2 l2 d2)
      clear e3 HM1 rg
      generalize rtC R[k] (.slice b1 R[k].M.length d1) (.slice b2 l2 d2) = RC at *
      generalize R[k].hd = hd at *
      have RC21 : RC.toArray.size = 21 := by rw [List.size_toArray, X21]
      go_upto_region 3 with fail
      refine wp_region_lit ?_
      refine wpList_plain rfl fun K hK => ?_
      go_simp
      refine hK _ _ ?_
      clear hK K
      refine wpList_load_mid rfl 41 _ rfl g (o + k * 21) rfl RC _ HRG.out Tryz.underlying41 rfl (by rw [X21]; kernel_rfl) ?_
      simp only [Act.put, List.setIfInBounds_toArray, List.set_cons_zero, List.set_cons_succ]
      refine wpList_plain rfl fun K hK => ?_
      go_simp
      refine hK _ _ ?_
      clear hK K
      refine wpList_store_new rfl 41 _ _ rfl _ RC.toArray rfl rfl (by rw [RC21]; kernel_rfl) (by rw [RC21]; rfl) X1 ?_
      simp only [Act.put]
      refine wpList_nil ?_
      clear HRG
      go_upto_region 4 with fail
      have U1 := hide (Bl.one wr RC.toArray 41)
      have HB1 := hide (HB.out.trans (U1.out.b.mono HB.out.size))
      generalize (wr.alloc (.cells RC.toArray 41)) = x1 at U1 HB1 ⊢
      have d3 : x1.cell? ⟨wr.heap.size, 3, none⟩ = some (.string hd) := (U1.out.cell 0 rfl 3).trans (by rw [List.getElem?_toArray]; exact E3.out)
      have HB2 := hide (T0.out.b.trans (HB1.out.mono T0.out.b.size))
      have es := str_eq hd [88, 45, 77, 111, 114, 101]
      clear U1 HB0 X1 X21 RC21 E3
      by_cases h6 : hd.size = 6
      · have t6 : ((hd.size : Int) == 6) = true := beq_iff_eq.2 (by omega)
        by_cases hm : hd.data.toList = [88, 45, 77, 111, 114, 101]
        · rw [decide_eq_true hm] at es
          clear hm HNX
          go_wp2_with fail
          refine (HSP.out x1 HB2.out).mono ?_
          rintro e w9 ⟨rfl, bb⟩
          have HB3 := hide (HB2.out.trans (bb.mono HB2.out.size))
          clear bb
          go_wp2
          go_ret
          exact ⟨rfl, HB3.out⟩
        · rw [decide_eq_false hm] at es
          clear hm HNX
          go_wp2_with fail
          refine (HSP.out x1 HB2.out).mono ?_
          rintro e w9 ⟨rfl, bb⟩
          have HB3 := hide (HB2.out.trans (bb.mono HB2.out.size))
          clear bb
          go_wp2
          go_ret
          exact ⟨rfl, HB3.out⟩
      · have t6 : ((hd.size : Int) == 6) = false := beq_eq_false_iff_ne.2 (by omega)
        have hm : ¬ hd.data.toList = [88, 45, 77, 111, 114, 101] := fun e => h6 (by rw [← size_len, e]; rfl)
        rw [decide_eq_false hm] at es
        have HN2 := hide (HNX.out h6)
        clear hm HNX h6
        go_wp2
        exact ⟨⟨k + 1, by omega, by go_num, HN2, HB1⟩, by simp [intOf]; omega⟩
    · obtain rfl : k = n := by omega
      have hN : ∀ y ∈ R, y.hd.size ≠ 6 := by
        have := HN.out
        rw [← Hn.out, List.take_length] at this
        exact this
      rw [HFM.out hN] at HF2
      generalize fndR E e0 R host (fndI R me A host path) = res at *
      obtain ⟨o1, o2⟩ := res
      dsimp only at HF1 HF2
      have T1 := hide (T0.out.below HB.out)
      clear hN HFM HN
      go_upto_region 7 with fail
      refine wp_region_lit ?_
      refine wpList_load_mid rfl 25 _ rfl w.heap.size 0 rfl CC _ (range_of (T1.out.hp 0 _ _ rfl)) Tryz.underlying25 rfl HC18 ?_
      simp only [Act.put, List.setIfInBounds_toArray, List.set_cons_zero, List.set_cons_succ]
      have n0 : wr.cell? ⟨w.heap.size + 1, 0, none⟩ = some (.bool r) := T1.out.cell 1 rfl 0
      have n1 : wr.cell? ⟨w.heap.size + 1, 1, none⟩ = some (.string me) := T1.out.cell 1 rfl 1
      have n2 : wr.cell? ⟨w.heap.size + 1, 2, none⟩ = some (.string ta) := T1.out.cell 1 rfl 2
      have n3 : wr.cell? ⟨w.heap.size + 1, 3, none⟩ = some (.int .i64 mi) := T1.out.cell 1 rfl 3
      have n4 : wr.cell? ⟨w.heap.size + 1, 4, none⟩ = some (.int .i64 st) := T1.out.cell 1 rfl 4
      have n5 : wr.cell? ⟨w.heap.size + 1, 5, none⟩ = some (.string re) := T1.out.cell 1 rfl 5
      have n6 : wr.cell? ⟨w.heap.size + 1, 6, none⟩ = some (.slice a0 A.length c0) := T1.out.cell 1 rfl 6
      go_wp2_with fail
      refine (HF1.out wr T1.out.b).mono ?_
      rintro e w1 ⟨rfl, bb⟩
      have T2 := hide (T1.out.below bb)
      clear bb T1 T0 HB n0 n1 n2 n3 n4 n5 n6
      have r6 : w1.cell? ⟨w.heap.size + 1, 6, none⟩ = some (.slice a0 A.length c0) := T2.out.cell 1 rfl 6
      have HLT : Hid (w.heap.size + 1 < w1.heap.size) := hide (blk_lt (T2.out.hp 1 _ _ rfl))
      have hl := HL.out
      go_wp2_with (at_builtin; apply Hid.out)
      unfold Hid
      refine wpList_append_flds rfl _ _ rfl w1 w1.heap.size (.slice none 0 0) (.slice a0 A.length c0) [] A rfl rfl (FRow.nil _ _) (F0.out.below T2.out.b) (by simp; omega) (Nat.le_refl _) ?_
      intro v' w3 O' B'
      have R3 := hide O'
      have Y3 := hide B'
      clear O' B' r6
      obtain ⟨ra, rm, rc, rfl⟩ : ∃ a n c, v' = .slice a n c := by
        obtain ⟨a, c, h, _⟩ := R3.out.shape
        exact ⟨a, _, c, h⟩
      go_wp2_with (at_builtin; apply Hid.out)
      unfold Hid
      refine wpList_append_fld rfl _ _ rfl w3 w1.heap.size (.slice ra rm rc) ([] ++ A) moreN va rfl rfl R3.out (by simp; omega) Y3.out.size ?_
      intro v' w4 O' B'
      have RW : Hid (∀ g, g < w1.heap.size → ∀ i u, Flds (w4.setCell ⟨g, i, none⟩ u) v' (A ++ [(moreN, va)])) := hide (fun g hg i u => row_setOld O' hg i u)
      obtain ⟨rb, rl, rd, rfl⟩ : ∃ a n c, v' = .slice a n c := by
        obtain ⟨a, c, h, _⟩ := O'.shape
        exact ⟨a, _, c, h⟩
      have B5 := hide (Y3.out.trans B')
      have T5 := hide (T2.out.below B5.out)
      clear O' B' R3 T2 Y3
      have r6 : w4.cell? ⟨w.heap.size + 1, 6, none⟩ = some (.slice a0 A.length c0) := T5.out.cell 1 rfl 6
      have f6 : w4.frozen? ⟨w.heap.size + 1, 6, none⟩ = false := T5.out.fr 1 rfl 6
      go_upto_region 12 with fail
      have T6 : Hid (Bl w (w4.setCell ⟨w.heap.size + 1, 6, none⟩ (.slice rb rl rd)) [(CC.toArray, 25), (#[.bool r, .string me, .string ta, .int .i64 mi, .int .i64 st, .string re, .slice rb rl rd], 28)]) := hide (T5.out.set 1 rfl 6 (.slice rb rl rd))
      have F6 : Hid (Flds (w4.setCell ⟨w.heap.size + 1, 6, none⟩ (.slice rb rl rd)) (.slice rb rl rd) (A ++ [(moreN, va)])) := hide (RW.out (w.heap.size + 1) HLT.out 6 (.slice rb rl rd))
      generalize w4.setCell ⟨w.heap.size + 1, 6, none⟩ (.slice rb rl rd) = w5 at T6 F6 ⊢
      clear r6 f6 T5 RW B5
      refine wp_region_lit ?_
      refine wpList_load_mid rfl 25 _ rfl w.heap.size 0 rfl CC _ (range_of (T6.out.hp 0 _ _ rfl)) Tryz.underlying25 rfl HC18 ?_
      simp only [Act.put, List.setIfInBounds_toArray, List.set_cons_zero, List.set_cons_succ]
      have n0 : w5.cell? ⟨w.heap.size + 1, 0, none⟩ = some (.bool r) := T6.out.cell 1 rfl 0
      have n1 : w5.cell? ⟨w.heap.size + 1, 1, none⟩ = some (.string me) := T6.out.cell 1 rfl 1
      have n2 : w5.cell? ⟨w.heap.size + 1, 2, none⟩ = some (.string ta) := T6.out.cell 1 rfl 2
      have n3 : w5.cell? ⟨w.heap.size + 1, 3, none⟩ = some (.int .i64 mi) := T6.out.cell 1 rfl 3
      have n4 : w5.cell? ⟨w.heap.size + 1, 4, none⟩ = some (.int .i64 st) := T6.out.cell 1 rfl 4
      have n5 : w5.cell? ⟨w.heap.size + 1, 5, none⟩ = some (.string re) := T6.out.cell 1 rfl 5
      have n6 : w5.cell? ⟨w.heap.size + 1, 6, none⟩ = some (.slice rb rl rd) := T6.out.cell 1 rfl 6
      go_wp2_with fail
      refine (HF2.out w5 T6.out.b _ F6.out).mono ?_
      rintro e w6 ⟨rfl, bb⟩
      have T7 := hide (T6.out.below bb)
      clear bb T6 F6 HF2 HF1 n0 n1 n2 n3 n4 n5 n6
      have u1 : (o1 == o1) = true := beq_self_eq_true o1
      have u2 : (o2 == o2) = true := beq_self_eq_true o2
      go_wp2_with fail
      refine (HSP.out w6 T7.out.b).mono ?_
      rintro e w9 ⟨rfl, bb⟩
      have T8 := hide (T7.out.below bb)
      clear bb
      go_wp2
      go_ret
      exact ⟨rfl, T8.out.b⟩
end Go.Proofs.YtacnnomkacfdbaaGreatDoor
