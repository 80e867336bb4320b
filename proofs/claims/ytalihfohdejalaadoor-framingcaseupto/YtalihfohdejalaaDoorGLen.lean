/- A head's length; whether its coding is right. -/
import Derived.Test.YtalihfohdejalaaDoorGPure
namespace Go.Proofs.YtalihfohdejalaaDoor
open Go.ChangeShapes Go.WideShapes Go.ChangeAt Go.RowKit

set_option maxHeartbeats 1000000 in
theorem equal_any (w : World) (a b : Value) (A B : List ByteArray) (hA : Strs w a A) (hB : Strs w b B) (hl : A.length ≤ 1099511627776) (hl2 : B.length ≤ 1099511627776) :
    Calls Tryd.prog 34 #[a, b] w fun e w' => e = .returned (.bool (decide (A = B))) ∧ Below w.heap.size w w' := by
  obtain ⟨a0, c0, rfl, hca⟩ := hA
  obtain ⟨b0, d0, rfl, hcb⟩ := hB
  have HA := hide hca
  have HB := hide hcb
  clear hca hcb
  by_cases hn : A.length = B.length
  · have t : ((A.length : Int) != (B.length : Int)) = false := by rw [bne_eq_false_iff_eq]; omega
    have HL := hide hn
    have hl3 : B.length ≤ A.length := by omega
    have hl4 : A.length ≤ B.length := by omega
    clear hn
    go_enter Tryd.func34, Tryd.ntmps34
    go_wp2
    go_loopw [13] (fun i wr => ∃ k : Nat, k ≤ A.length ∧ i = .int .i64 k ∧ Hid (A.take k = B.take k) ∧ Hid (∃ n, wr = w.drewN n)) (fun i _ => A.length - (intOf i).toNat)
    case atStart => exact ⟨0, Nat.zero_le _, rfl, hide rfl, hide ⟨0, rfl⟩⟩
    case round =>
      obtain ⟨k, hk, rfl, H, HW⟩ := hrel
      by_cases hlt : k < A.length
      · have hlb : k < B.length := by omega
        obtain ⟨g, rfl, _, h1⟩ := HA.out k hlt
        obtain ⟨g2, rfl, _, h2⟩ := HB.out k hlb
        obtain ⟨n, hwn⟩ := HW.out
        subst hwn
        have hsa := hide (take_snocA A k hlt)
        have hsb := hide (take_snocA B k hlb)
        have hbe := bytes_eq A[k] B[k]
        obtain ⟨x, hx⟩ : ∃ x, A[k] = x := ⟨_, rfl⟩
        obtain ⟨y, hy⟩ : ∃ y, B[k] = y := ⟨_, rfl⟩
        rw [hx] at h1 hbe
        rw [hy] at h2 hbe
        have HX := hide hx
        have HY := hide hy
        clear hx hy
        by_cases he : x = y
        · have t2 : (x.toList == y.toList) = true := by rw [hbe, decide_eq_true he]
          have HE := hide he
          have HT : Hid (A.take (k + 1) = B.take (k + 1)) := hide (by rw [hsa.out, hsb.out, H.out, HX.out, HY.out, he])
          clear hbe he
          go_wp2
          go_quiet (fail)
          go_wp2
          exact ⟨⟨k + 1, by omega, by go_num, HT, hide ⟨n + nq, rfl⟩⟩, by simp [intOf]; omega⟩
        · have t2 : (x.toList == y.toList) = false := by rw [hbe, decide_eq_false he]
          have HE : Hid (A ≠ B) := hide (by rintro rfl; exact he (HX.out.symm.trans HY.out))
          clear hbe he
          go_wp2
          go_quiet (fail)
          go_wp2
          go_ret
          exact ⟨ret_bool (decide_eq_false HE.out).symm, by rw [World.drewN_drewN]; exact below_drewN w _⟩
      · have HE : Hid (A = B) := hide (by
          have := H.out
          rw [List.take_of_length_le (by omega), List.take_of_length_le (by omega)] at this
          exact this)
        obtain ⟨n, hwn⟩ := HW.out
        subst hwn
        go_wp2
        go_ret
        exact ⟨ret_bool (decide_eq_true HE.out).symm, below_drewN w _⟩
  · have t : ((A.length : Int) != (B.length : Int)) = true := by rw [bne_iff_ne]; omega
    have HE : Hid (A ≠ B) := hide (by rintro rfl; exact hn rfl)
    go_enter Tryd.func34, Tryd.ntmps34
    go_wp2
    go_ret
    exact ⟨ret_bool (decide_eq_false HE.out).symm, Below.refl _ _⟩
theorem strs_one (w : World) (s : ByteArray) : Strs (w.alloc (.cells #[.string s] 9)) (.slice (some ⟨w.heap.size, 0, none⟩) 1 1) [s] := by
  refine ⟨_, 1, rfl, fun j hj => ?_⟩
  have hj0 : j = 0 := by simp at hj; exact hj
  subst hj0
  exact ⟨_, rfl, by simp, by rw [cell_at (hp_new w _)]; rfl⟩
set_option maxHeartbeats 1000000 in
theorem only_any (w : World) (r : Bool) (me ta : ByteArray) (mi st : Int) (re : ByteArray) (l : Value) (A : List (ByteArray × ByteArray)) (hA : Flds w l A) (hs : Sm A) :
    Calls Tryd.prog 23 #[.agg (hdC r me ta mi st re l)] w fun e w' => e = .returned (.bool (codeOk A mi)) ∧ Below w.heap.size w w' := by
  have HI := hide (fun W h => items_any W l A teS h hs (by decide))
  have hL := itemsS_len hs teS
  have F0 := hide hA
  obtain ⟨a0, c0, rfl, _, _⟩ := hA
  unfold codeOk hdC
  generalize itemsS A teS = I at HI hL ⊢
  unfold teS at HI
  clear hs
  by_cases m1 : mi = 1
  · subst m1
    rw [decide_eq_true rfl, Bool.true_and]
    go_enter Tryd.func23, Tryd.ntmps23
    go_wp2_with fail
    have T0 := hide (Bl.one w #[.bool r, .string me, .string ta, .int .i64 1, .int .i64 st, .string re, .slice a0 A.length c0] 24)
    generalize (w.alloc (.cells #[.bool r, .string me, .string ta, .int .i64 1, .int .i64 st, .string re, .slice a0 A.length c0] 24)) = x at T0 ⊢
    refine (HI.out _ (F0.out.below T0.out.b)).mono ?_
    rintro e w1 ⟨v, rfl, hR, bb⟩
    have T1 := hide (T0.out.below bb)
    have S1 := hide (Strs.of_row hR)
    clear bb T0 HI hR
    obtain ⟨a1, c1, rfl, _⟩ := S1.out
    have HE : Hid (∀ W u, Below w1.heap.size w1 W → Strs W u [chS] → Calls Tryd.prog 34 #[.slice a1 I.length c1, u] W fun e w' => e = .returned (.bool (decide (I = [chS]))) ∧ Below W.heap.size W w') :=
      hide (fun W u hb hu => equal_any W _ u I [chS] (S1.out.below hb) hu hL (by simp))
    generalize hd : decide (I = [chS]) = d at HE
    have HD := hide hd
    clear hd
    go_wp2_with fail
    refine (HE.out _ _ ((Below.refl _ w1).alloc (Nat.le_refl _) _) (strs_one w1 chS)).mono ?_
    rintro e w2 ⟨rfl, bb⟩
    have B2 := hide (((Below.refl _ w1).alloc (Nat.le_refl _) (.cells #[.string chS] 9)).trans (bb.mono (by simp)))
    have T2 := hide (T1.out.below B2.out)
    clear bb T1 B2
    go_wp2
    go_ret
    exact ⟨ret_bool HD.out.symm, T2.out.b⟩
  · have t1 : (mi == 1) = false := beq_eq_false_iff_ne.2 m1
    rw [decide_eq_false m1, Bool.false_and]
    clear m1
    go_enter Tryd.func23, Tryd.ntmps23
    go_wp2
    go_ret
    exact ⟨rfl, (Bl.one w _ _).b⟩
set_option maxHeartbeats 1000000 in
theorem olen_any (w : World) (r : Bool) (me ta : ByteArray) (mi st : Int) (re : ByteArray) (l : Value) (A : List (ByteArray × ByteArray)) (hA : Flds w l A) (hs : Sm A) :
    Calls Tryd.prog 22 #[.agg (hdC r me ta mi st re l)] w fun e w' => e = .returned (.tuple #[.int .i64 (lenN (itemsS A clS) : Nat), .bool (lenOk (itemsS A clS))]) ∧ Below w.heap.size w w' := by
  have HI := hide (fun W h => items_any W l A clS h hs (by decide))
  have hL := itemsS_len hs clS
  have HM := hide (fun x (hx : x ∈ itemsS A clS) => itemsV_mem (allS A clS) (fun y hy => allS_mem hs hy) x hx)
  have F0 := hide hA
  obtain ⟨a0, c0, rfl, _, _⟩ := hA
  unfold hdC
  generalize itemsS A clS = I at HI hL HM ⊢
  unfold clS at HI
  clear hs
  have hR : ∃ (n : Nat) (b : Bool), lenN I = n ∧ lenOk I = b := ⟨_, _, rfl, rfl⟩
  obtain ⟨rn, rb, hn, hb⟩ := hR
  rw [hn, hb]
  have HN := hide hn
  have HBk := hide hb
  clear hn hb
  go_enter Tryd.func22, Tryd.ntmps22
  go_wp2_with fail
  have T0 := hide (Bl.one w #[.bool r, .string me, .string ta, .int .i64 mi, .int .i64 st, .string re, .slice a0 A.length c0] 24)
  generalize (w.alloc (.cells #[.bool r, .string me, .string ta, .int .i64 mi, .int .i64 st, .string re, .slice a0 A.length c0] 24)) = x at T0 ⊢
  refine (HI.out _ (F0.out.below T0.out.b)).mono ?_
  rintro e w1 ⟨v, rfl, hRw, bb⟩
  have T1 := hide (T0.out.below bb)
  obtain ⟨a1, c1, rfl, hcv⟩ := Strs.of_row hRw
  have HV := hide hcv
  clear bb T0 HI hRw hcv
  by_cases h0 : I.length = 0
  · have hI0 : I = [] := List.eq_nil_of_length_eq_zero h0
    subst hI0
    clear h0 hL
    go_wp2
    go_ret2
    exact ⟨by rw [← HN.out, ← HBk.out]; rfl, T1.out.b⟩
  · have hpos : 0 < I.length := by omega
    have t0 : ((I.length : Int) == 0) = false := beq_eq_false_iff_ne.2 (by omega)
    obtain ⟨g, rfl, hg, q0⟩ := HV.out 0 hpos
    have hz := HM.out I[0] (List.getElem_mem hpos)
    have HF := hide (firstN_at hpos rfl)
    have HO := hide (lenOk_cons hpos)
    obtain ⟨y, hy⟩ : ∃ y, I[0] = y := ⟨_, rfl⟩
    rw [hy] at q0 hz HF
    clear hy h0
    go_wp2_with fail
    refine (Number_any y w1 (by unfold maxLen; omega)).mono ?_
    rintro e w2 ⟨rfl, rfl⟩
    have hnl := num_topN y.data.toList
    rw [← HF.out] at hnl ⊢
    generalize hfn : firstN I = fn at HO hnl ⊢
    have HFN := hide hfn
    clear hfn HF q0 hz
    generalize numE 10 y.data.toList = ye
    go_wp2
    go_loop [26] (fun i => ∃ k : Nat, k ≤ I.length ∧ i = .int .i64 k ∧ Hid (oneIs (I.take k) fn = true)) (fun i => I.length - (intOf i).toNat)
    case atStart => exact ⟨0, Nat.zero_le _, rfl, hide rfl⟩
    case round =>
      obtain ⟨k, hk, rfl, HK⟩ := hrel
      by_cases hlt : k < I.length
      · obtain ⟨g1, hg1, hgl, r1⟩ := HV.out k hlt
        simp only [Option.some.injEq, Addr.mk.injEq, and_true] at hg1
        subst hg1
        have hz := HM.out I[k] (List.getElem_mem hlt)
        have HNO := hide (fun x hx h => oneIs_no (n := fn) hlt (x := x) hx h)
        have HYE := hide (fun x hx h2 => oneIs_snoc (n := fn) hlt (x := x) hx HK.out h2)
        obtain ⟨x, hx⟩ : ∃ x, I[k] = x := ⟨_, rfl⟩
        rw [hx] at r1 hz
        have HN1 := hide (HNO.out x hx)
        have HY1 := hide (HYE.out x hx)
        clear hx HNO HYE hgl
        go_wp2_with fail
        refine (Number_any x w1 (by unfold maxLen; omega)).mono ?_
        rintro e w2 ⟨rfl, rfl⟩
        have hxl := num_topN x.data.toList
        generalize numE 10 x.data.toList = xe at HN1 HY1 ⊢
        generalize numV 10 x.data.toList = xv at HN1 HY1 hxl ⊢
        clear r1 hz
        by_cases he : xe = 0
        · subst he
          by_cases hv : xv = fn
          · subst hv
            have HK2 := hide (HY1.out ⟨rfl, rfl⟩)
            go_wp2
            exact ⟨⟨k + 1, by omega, by go_num, HK2⟩, by simp [intOf]; omega⟩
          · have t1 : ((xv : Int) != (fn : Int)) = true := bne_iff_ne.2 (by omega)
            have HZ : Hid (oneIs I fn = false) := hide (HN1.out (fun h => hv h.2))
            clear hv
            go_wp2
            go_ret2
            exact ⟨by rw [← HN.out, ← HBk.out]; unfold lenN; rw [HO.out, HZ.out]; rfl, T1.out.b⟩
        · have t1 : ((xe : Int) != 0) = true := bne_iff_ne.2 (by omega)
          have HZ : Hid (oneIs I fn = false) := hide (HN1.out (fun h => he h.1))
          clear he
          go_wp2
          go_ret2
          exact ⟨by rw [← HN.out, ← HBk.out]; unfold lenN; rw [HO.out, HZ.out]; rfl, T1.out.b⟩
      · have HZ : Hid (oneIs I fn = true) := hide (by have := HK.out; rw [List.take_of_length_le (by omega)] at this; exact this)
        go_wp2
        go_ret2
        exact ⟨by rw [← HN.out, ← HBk.out]; unfold lenN; rw [HO.out, HZ.out, HFN.out]; rfl, T1.out.b⟩
end Go.Proofs.YtalihfohdejalaaDoor
