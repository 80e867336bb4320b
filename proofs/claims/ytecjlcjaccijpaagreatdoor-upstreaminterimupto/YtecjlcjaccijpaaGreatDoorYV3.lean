/- YV3. -/
import Derived.Test.YtecjlcjaccijpaaGreatDoorYV
import Derived.Deep.CutRange
namespace Go.Proofs.YtecjlcjaccijpaaGreatDoor
open Go.ChangeShapes Go.WideShapes Go.ChangeAt Go.RowKit
set_option linter.unusedVariables false
set_option maxHeartbeats 16000000
set_option maxRecDepth 100000
theorem inter_walk (w : World) (me : ByteArray) (mo : Int) (v : Value) (l : List UInt8) (many : Int) (hB : Bs w w.heap.size v l) (hS : Shp v) (hl : l.length <= 1048576) (hme : me.size <= 1048576) (hm : MX w) (he : ET w) :
  Calls Tryz.prog 6 #[.agg #[.string me, .int .i64 mo], v, .int .i64 many] w fun e w' => e = .returned (.bool true) /\ Below w.heap.size w w' := by
 have h3 : 3 <= w.heap.size := by have := hm.1; omega
 have HM := hide hm
 have HE := hide he
 have HV := hide hB
 have HP := hide (fun W (b : Below w.heap.size w W) => uspeaks_any W (hm.below b) (he.below b))
 have HAL := hide (fun W (M : Nat) (hM : M <= 65536) (b : Below w.heap.size w W) => us_any W me M hM v l (hB.below b.size b) hS (by omega))
 have HAK := hide (fun W => asked_any me mo W hme)
 obtain ⟨va, vc, rfl⟩ : ∃ a c, v = .slice a l.length c := by obtain ⟨a, c, e, -⟩ := hB; exact ⟨a, c, e⟩
 have B1 := hide ((Below.refl w.heap.size w).alloc (Nat.le_refl _) (.cells #[.string me, .int .i64 mo] 23))
 have F1 := hide (hp_new w (.cells #[.string me, .int .i64 mo] 23))
 clear hB hS hm he
 go_enter Tryz.func6, Tryz.ntmps6
 go_upto_region 1 with fail
 generalize w.alloc _ = w1 at *
 go_cut [2, 27] from 22 to 27 (fun v c wc => v = .int .i64 many /\ w1 = wc /\ c = .bool (decide (many < 0 ∨ 8 < many)))
 case first =>
  by_cases h1 : many < 0
  ·go_wp2_with fail
   go_meet
   exact ⟨rfl, rfl, congrArg Value.bool (by simp [h1])⟩
  ·by_cases h2 : 8 < many
   ·go_wp2_with fail
    go_meet
    exact ⟨rfl, rfl, congrArg Value.bool (by simp [h2])⟩
   ·go_wp2_with fail
    go_meet
    exact ⟨rfl, rfl, congrArg Value.bool (by simp [h1, h2])⟩
 case rest =>
 obtain ⟨rfl, rfl, rfl⟩ := hcut
 obtain ⟨cc, Hcc⟩ : ∃ cc, Hid (decide (many < 0 ∨ 8 < many) = cc) := ⟨_, hide rfl⟩
 rw [Hcc.out]
 go_upto_if 27 with fail
 go_cut [2] from 22 to 27 (fun v wc => (∃ k : Nat, k <= 8 /\ v = .int .i64 (k : Int)) /\ w1 = wc)
 case first =>
  cases cc with
  | true =>
   go_wp2_with fail
   go_meet
   exact ⟨⟨3, by omega, rfl⟩, rfl⟩
  | false =>
   have hmm := of_decide_eq_false Hcc.out
   rw [not_or] at hmm
   go_wp2_with fail
   go_meet
   exact ⟨⟨many.toNat, by omega, by rw [Int.toNat_of_nonneg (by omega)]⟩, rfl⟩
 case rest =>
 obtain ⟨⟨kk, hk8, rfl⟩, rfl⟩ := hcut
 clear Hcc
 have e0 : w1.cell? ⟨w.heap.size, 0, none⟩ = some (.string me) := cell_at F1.out 0
 have e1 : w1.cell? ⟨w.heap.size, 1, none⟩ = some (.int .i64 mo) := cell_at F1.out 1
 obtain ⟨ea, Hea⟩ : ∃ ea, Hid (askE me mo = ea) := ⟨_, hide rfl⟩
 rw [Hea.out] at HAK
 by_cases hea : ea = 0
 ·subst hea
  obtain ⟨htk, hmo1, hmo2⟩ := askE_zero Hea.out
  by_cases hmo : mo < 30
  ·go_wp2_with (first | (go_at_call 8; refine (HAK.out _).mono ?_; rintro e w2 ⟨rfl, y⟩; have B2 := hide (B1.out.trans (y.mono B1.out.size)); have F2 := hide ((y.block _ (lt_heap F1.out)).trans F1.out); have e20 : w2.cell? ⟨w.heap.size, 0, none⟩ = some (.string me) := cell_at F2.out 0; have e21 : w2.cell? ⟨w.heap.size, 1, none⟩ = some (.int .i64 mo) := cell_at F2.out 1; clear y) | (go_at_call 9; refine (HP.out _ B2.out).mono ?_; rintro e w9 ⟨rfl, b9⟩; have B9 := hide (B2.out.trans (b9.mono B2.out.size)); clear b9))
   go_ret
   exact ⟨rfl, B9.out⟩
  ·obtain ⟨M, rfl⟩ : ∃ M : Nat, mo = (M : Int) := ⟨mo.toNat, by omega⟩
   have HAL2 := hide (fun W b => HAL.out W M (by omega) b)
   have HNW := hide (fun W => unew_any W me M htk hme (by omega) (by omega))
   have hM2 : M <= 65536 := by omega
   clear HAL Hea htk
   go_upto_region 6 with (first | (go_at_call 8; refine (HAK.out _).mono ?_; rintro e w2 ⟨rfl, y⟩; have B2 := hide (B1.out.trans (y.mono B1.out.size)); have F2 := hide ((y.block _ (lt_heap F1.out)).trans F1.out); have e20 : w2.cell? ⟨w.heap.size, 0, none⟩ = some (.string me) := cell_at F2.out 0; have e21 : w2.cell? ⟨w.heap.size, 1, none⟩ = some (.int .i64 (M : Int)) := cell_at F2.out 1; clear y) | (go_at_call 7; refine (HAL2.out _ B2.out).mono ?_; rintro e w3 ⟨n, r, m2, ta, mi, st, re, ua, un, uc, th, fk, fl, fp, oa, on, oc, wh, er, rfl, y, hc⟩; have B3 := hide y; have HC := hide hc; clear y hc))
   have hs3 := B3.out.size
   have b4 := (Below.refl w3.heap.size w3).alloc (Nat.le_refl _) (.cells #[.int .i64 n, .bool r, .string m2, .string ta, .int .i64 mi, .int .i64 st, .string re, .slice ua un uc, .bool th, .int .i64 fk, .int .i64 fl, .bool fp, .slice oa on oc, .bool wh, .int .i64 er] 31)
   have S4 := hide (hp_new w3 (.cells #[.int .i64 n, .bool r, .string m2, .string ta, .int .i64 mi, .int .i64 st, .string re, .slice ua un uc, .bool th, .int .i64 fk, .int .i64 fl, .bool fp, .slice oa on oc, .bool wh, .int .i64 er] 31))
   have B34 := hide b4
   have B24 := hide (B3.out.trans (b4.mono hs3))
   have B4 := hide (B2.out.trans (B24.out.mono B2.out.size))
   have F4 := hide ((B24.out.block w.heap.size (lt_heap F2.out)).trans F2.out)
   clear b4 e0 e1 F1 HAL2 HAK F2
   generalize w3.alloc _ = w4 at *
   have e0 : w4.cell? ⟨w.heap.size, 0, none⟩ = some (.string me) := cell_at F4.out 0
   have e1 : w4.cell? ⟨w.heap.size, 1, none⟩ = some (.int .i64 (M : Int)) := cell_at F4.out 1
   rcases HC.out with ⟨hth, -⟩ | ⟨N, p, fo, hU, hth, hn, hw, her, -, hon, hrow, hr, hm2, hta, hmi, hst, hre, hun, hfr⟩
   ·subst hth
    have s8 : w4.cell? ⟨w3.heap.size, 8, none⟩ = some (.bool false) := cell_at S4.out 8
    clear HC
    go_wp2_with (go_at_call 9; refine (HP.out _ B4.out).mono ?_; rintro e w9 ⟨rfl, b9⟩; have B9 := hide (B4.out.trans (b9.mono B4.out.size)); clear b9)
    go_ret
    exact ⟨rfl, B9.out⟩
   ·subst hth hn hw her hon hr hm2 hta hmi hst hre hun
    have hg := uHd_le hU
    have hl0 : 0 < l.length := by omega
    obtain ⟨bk, o, hva⟩ : ∃ bk o, va = some ⟨bk, o, none⟩ /\ bk < w.heap.size := by
     obtain ⟨a, c, e, h1, h2⟩ := HV.out
     simp only [Value.slice.injEq, true_and] at e
     obtain ⟨rfl, rfl⟩ := e
     obtain ⟨g', o', p1, p2, -⟩ := h2 0 hl0
     exact ⟨g', o', p1, p2⟩
    obtain ⟨rfl, hbk⟩ := hva
    have hcp : l.length <= vc := by obtain ⟨a, c, e, h1, -⟩ := HV.out; simp only [Value.slice.injEq, true_and] at e; omega
    have HG := hide hg
    have HROW := hide hrow
    have HFR := hide hfr
    obtain ⟨k0, q0, hst0⟩ := stp_of (i := 0) (Ni := 0) (by omega) hU
    have hNl : N < l.length + 1 := by omega
    have HRR := hide (fun W (b : Below w.heap.size w W) Ni k q (hP : pBytes (pNew false M) (l.drop Ni) = (0, k, q)) (hw : q.whole = true) (hN : Ni <= l.length) => rr_got W M hM2 (.slice (some ⟨bk, o + Ni, none⟩) (l.length - Ni) (vc - Ni)) (l.drop Ni) ((HV.out.below b.size b).from Ni hN) (by rw [List.length_drop]; omega) hP hw)
    have HR0 := hide (HRR.out w4 B4.out 0 k0 q0 hst0.hP hst0.hw (Nat.zero_le _))
    simp only [Nat.add_zero, Nat.sub_zero] at HR0
    have HST := hide hst0
    have s8 : w4.cell? ⟨w3.heap.size, 8, none⟩ = some (.bool true) := cell_at S4.out 8
    clear HC hU hg hrow hfr hst0
    go_upto_region 10 with (go_at_call 17; refine HR0.out.mono ?_; rintro e w5 ⟨qa, qc, rfl, y⟩; have B45 := hide y; clear y)
    have hs5 := B45.out.size
    have b6 := (Below.refl w5.heap.size w5).alloc (Nat.le_refl _) (.cells #[.bool q0.req, .string q0.me, .string q0.ta, .int .i64 (q0.minor : Int), .int .i64 (q0.status : Int), .string q0.re, .slice qa q0.fs.length qc] 27)
    have H6 : Hid ((w5.alloc (.cells #[.bool q0.req, .string q0.me, .string q0.ta, .int .i64 (q0.minor : Int), .int .i64 (q0.status : Int), .string q0.re, .slice qa q0.fs.length qc] 27)).heap[w5.heap.size]? = some (.cells (hdA q0.req q0.me q0.ta (q0.minor : Int) (q0.status : Int) q0.re (.slice qa q0.fs.length qc)) 27 (0, 0))) := hide (hp_new w5 (.cells #[.bool q0.req, .string q0.me, .string q0.ta, .int .i64 (q0.minor : Int), .int .i64 (q0.status : Int), .string q0.re, .slice qa q0.fs.length qc] 27))
    have B46 := hide (B45.out.trans (b6.mono hs5))
    have hwb : w4.heap.size <= w5.heap.size := hs5
    clear b6 B45 HR0 e0 e1 s8
    generalize w5.alloc _ = w6 at *
    obtain ⟨hb, hhb⟩ : ∃ hb, w5.heap.size = hb := ⟨_, rfl⟩
    rw [hhb] at H6 hwb |-
    clear hhb hs5
    have B6 := hide (B4.out.trans (B46.out.mono B4.out.size))
    have hsb := lt_heap H6.out
    have h34 := lt_heap S4.out
    have h04 : w.heap.size <= w3.heap.size := Nat.le_trans B2.out.size hs3
    go_loopw [1, 8, 10, 11] (fun b pl nn wh wr => ∃ i Ni k q ua uc, Hid (Stp me M l N p fo i Ni k q) /\ b = .slice (some ⟨bk, o + Ni, none⟩) (l.length - Ni) (vc - Ni) /\ pl = .int .i64 (i : Int) /\ nn = .int .i64 (k : Int) /\ wh = .bool true /\ Hid (wr.heap[hb]? = some (.cells (hdA q.req q.me q.ta (q.minor : Int) (q.status : Int) q.re (.slice ua q.fs.length uc)) 27 (0, 0))) /\ Hid (CK w6 wr hb)) (fun b pl nn wh wr => 9 - (intOf pl).toNat)
    case atStart => exact ⟨0, 0, k0, q0, qa, qc, HST, by simp, rfl, rfl, rfl, H6, hide (CK.refl _ _)⟩
    case round =>
     clear H6 HST
     obtain ⟨i, Ni, k, q, ua9, uc9, HST, rfl, rfl, rfl, rfl, HH, HK⟩ := hrel
     have BR := hide (B6.out.trans (HK.out.low (by omega : w.heap.size <= hb) B6.out.size))
     have c4 : wr.cell? ⟨hb, 4, none⟩ = some (.int .i64 (q.status : Int)) := cell_at HH.out 4
     have hhl := lt_heap HH.out
     rcases HST.out.alt with halt | ⟨hst, hi8, hU2⟩
     ·obtain ⟨h200, hue, hNe, hpq, hfo⟩ := halt
      have hwp := HST.out.hw
      have hPq := HST.out.hP
      have hNil : Ni <= l.length := by omega
      subst hpq
      have HFO := hide hfo
      have HNE := hide hNe
      clear hfo hNe
      have t1 : ¬ (p.status : Int) < 200 := by omega
      have hft : Fit p := by have := fit_bytes (l.drop Ni) _ (fit_new false M hM2); rw [hPq] at this; exact this
      have hsz : Sz p := by have := sz_bytes (l.drop Ni) _ (fit_new false M hM2) (sz_new false M); rw [hPq] at this; exact this
      have e0 : wr.cell? ⟨w.heap.size, 0, none⟩ = some (.string me) := cell_at ((HK.out.block w.heap.size (by have := lt_heap F4.out; omega) (by omega)).trans ((B46.out.block w.heap.size (lt_heap F4.out)).trans F4.out)) 0
      have e1 : wr.cell? ⟨w.heap.size, 1, none⟩ = some (.int .i64 (M : Int)) := cell_at ((HK.out.block w.heap.size (by have := lt_heap F4.out; omega) (by omega)).trans ((B46.out.block w.heap.size (lt_heap F4.out)).trans F4.out)) 1
      have h4r : w4.heap.size <= wr.heap.size := by omega
      go_wp2_with fail
      go_loop [13, 14] (fun s i => ∃ j : Nat, j <= kk /\ i = .int .i64 (j : Int) /\ s = .string (sS (s103s j))) (fun s i => kk - (intOf i).toNat)
      case atStart => exact ⟨0, Nat.zero_le _, rfl, rfl⟩
      case round =>
       obtain ⟨j, hj, rfl, rfl⟩ := hrel
       by_cases hjk : j < kk
       ·have hs1 := hide (sS_103 j)
        have hz1 : (sS (s103s j)).size <= 144 := by rw [sS_size, s103s_len]; omega
        go_wp2_with fail
        exact ⟨⟨j + 1, by omega, by go_num, by rw [hs1.out]⟩, by simp [intOf]; omega⟩
       ·obtain rfl : j = kk := by omega
        clear hjk
        go_upto_region 22 with (go_at_call 10; refine (HNW.out _).mono ?_; rintro e w7 ⟨c, g, rfl, hg, hcB, hgc, yp, yc, yb⟩; have HPAR := hide yp; have HCL := hide yc; have B7 := hide (BR.out.trans (yb.mono BR.out.size)); have Y7 := hide yb; clear yp yc yb)
        have hcl := lt_heap HCL.out
        have hgl := HPAR.out.lt
        have hw7 := Y7.out.size
        have hx := ((HV.out.below B7.out.size B7.out).from Ni hNil).text
        obtain ⟨sa, hsa⟩ : ∃ sa, sS (s103s j) = sa := ⟨_, rfl⟩
        obtain ⟨sb, hsb⟩ : ∃ sb, (⟨(l.drop Ni).toArray⟩ : ByteArray) = sb := ⟨_, rfl⟩
        rw [hsa]
        rw [hsb] at hx
        have hza : sa.size <= 144 := by rw [<- hsa, sS_size, s103s_len]; omega
        have hzb : sb.size <= 1048576 := by rw [<- hsb]; show (l.drop Ni).toArray.size <= _; rw [List.size_toArray, List.length_drop]; omega
        obtain ⟨cap, w8, hcv, hbs8, hb8, hcap, hsz8⟩ := y_conv w7 (sa ++ sb)
        obtain ⟨m, hm⟩ : ∃ m, (sa ++ sb).size = m := ⟨_, rfl⟩
        have hL : (sa ++ sb).data.toList = s103s j ++ l.drop Ni := by rw [yapp_list, <- hsa, <- hsb, sS_list]
        have hLm : (s103s j ++ l.drop Ni).length = m := by rw [<- hL, <- hm]; simp
        rw [hm] at hcv hbs8 hcap
        rw [hL] at hbs8
        have hLl : (s103s j ++ l.drop Ni).length = 18 * j + (l.length - Ni) := by rw [List.length_append, s103s_len, List.length_drop]
        have hUL : uHd me M 9 0 (s103s j ++ l.drop Ni) = .got (18 * j + k) p fo := by
         rw [uHd_103s (by omega) j _ (by omega), show 9 - j = (8 - j) + 1 by omega, uHd_got hPq hwp h200 hue, HFO.out]
         congr 1
         omega
        have hdr : (s103s j ++ l.drop Ni).drop (18 * j + k) = l.drop N := by
         rw [<- List.drop_drop, <- s103s_len j, List.drop_left, List.drop_drop, HNE.out]
        rw [<- hLm] at hbs8 hcap
        have HRD := hide (read_got (me := me) (most := M) (B := wr.heap.size) (w := w8) (by omega) hM2 (by omega) (by omega) hcB hg hgc (by omega) (by omega) hsz8 hcap hUL (HPAR.out.below hb8) ((hb8.block c hcl).trans HCL.out) (HM.out.below (B7.out.trans (hb8.mono B7.out.size))) (HE.out.below (B7.out.trans (hb8.mono B7.out.size))) (by have := hb8.size; omega) hbs8.bf)
        rw [hdr, hLm] at HRD
        have B8 := hide (B7.out.trans (hb8.mono B7.out.size))
        have K8 := hide (fun j (hj : j < w4.heap.size) => (hb8.block j (by omega)).trans ((Y7.out.block j (by omega)).trans ((HK.out.block j (by omega) (by omega)).trans (B46.out.block j hj))))
        clear hbs8 hUL hdr hL hLl hsa hsb HPAR HCL Y7 HH c4 e0 e1 HRR HST hPq h200 hue
        go_upto_region 23 with (go_at_call 11; refine HRD.out.mono ?_; rintro e w9 ⟨ta, tc, tb, rfl, yr, yg, yb⟩; have B9 := hide (B8.out.trans (yb.mono BR.out.size)); have K9 := hide (fun j (hj : j < w4.heap.size) => (yb.block j (by omega)).trans (K8.out j hj)); have HRW := hide yr; have HGE := hide yg; clear yr yg yb)
        clear hx hcv K8 HRD
        have S9 := hide ((K9.out _ (lt_heap S4.out)).trans S4.out)
        have HOW9 := hide (HROW.out.frame fun j e => (K9.out j (Nat.lt_of_lt_of_le (HROW.out.lt e).2 B34.out.size)).trans (B34.out.block j (HROW.out.lt e).2))
        have HFR9 := hide (HFR.out.frame fun j e => (K9.out j (Nat.lt_of_lt_of_le (HFR.out.lt e).2 B34.out.size)).trans (B34.out.block j (HFR.out.lt e).2))
        have HHD := hide (HGE.out.head hwp hsz hft)
        unfold hdV at HHD
        clear S4 HROW HFR K9 F4
        go_wp2_with (go_at_call 15; refine HHD.out.mono ?_; rintro e w10 ⟨la, lc, rfl, yf, yb⟩; have B10 := hide (B9.out.trans (yb.mono B9.out.size)); have S10 := hide ((yb.block _ (lt_heap S9.out)).trans S9.out); have HOW10 := hide (HOW9.out.below yb); have HFR10 := hide (HFR9.out.below yb); have HRW10 := hide (HRW.out.below yb); have HGE10 := hide (HGE.out.below yb); have HFL := hide yf; clear yf yb)
        have b11 := (Below.refl w10.heap.size w10).alloc (Nat.le_refl _) (.cells #[.bool p.req, .string p.me, .string p.ta, .int .i64 (p.minor : Int), .int .i64 (p.status : Int), .string p.re, .slice la p.fs.length lc] 27)
        have G11 := hide (hp_new w10 (.cells #[.bool p.req, .string p.me, .string p.ta, .int .i64 (p.minor : Int), .int .i64 (p.status : Int), .string p.re, .slice la p.fs.length lc] 27))
        have S11 := hide ((b11.block _ (lt_heap S10.out)).trans S10.out)
        have HOW11 := hide (HOW10.out.below b11)
        have HFR11 := hide (HFR10.out.below b11)
        have HRW11 := hide (HRW10.out.below b11)
        have HGE11 := hide (HGE10.out.below b11)
        have HFL11 := hide (HFL.out.below b11)
        have B11 := hide (B10.out.trans (b11.mono B10.out.size))
        clear b11 S9 S10 HOW9 HOW10 HFR9 HFR10 HRW HRW10 HGE HGE10 HFL HHD
        go_upto_region 24 with fail
        generalize w10.alloc _ = w11 at *
        generalize bdY fo.k fo.n (l.drop N) = bd at *
        obtain ⟨nb, ob, eb, wb⟩ := bd
        dsimp only at *
        have HG := hide (fun u : Sw w11 => call_cw (u := u) (r := .bool true) ((plainH_any (cw u) ⟨p.req, p.me, p.ta, (p.minor : Int), (p.status : Int), p.re, p.fs⟩ ⟨p.req, p.me, p.ta, (p.minor : Int), (p.status : Int), p.re, p.fs⟩ (.slice la p.fs.length lc) (.slice ua p.fs.length uc) (HFL11.out.below (cw_b u)) (Flds.of_row (HFR11.out.below (cw_b u))) (by have := hft.fs; show p.fs.length <= _; omega) (by have := hft.fs; show p.fs.length <= _; omega)).mono (by rintro e w' ⟨rfl, h⟩; exact ⟨by rw [hiEq_iff.2 rfl], h⟩)))
        unfold hiV at HG
        dsimp only at HG
        have HW := hide (fun u : Sw w11 => call_cw (u := u) (r := .bool wb) ((HGE11.out.below (cw_b u)).whole.mono (by rintro e w' ⟨rfl, rfl⟩; exact ⟨rfl, Below.refl _ _⟩)))
        have HSP := hide (fun u : Sw w11 => call_cw (u := u) (r := .bool true) (HP.out (cw u) (B11.out.trans ((cw_b u).mono B11.out.size))))
        have HX1 : ∀ u : Sw w11, (convert 24 9 (.slice ta ob.length tc)).run Tryz.prog (cw u) = .ok (.string ⟨ob.toArray⟩) (cw u) := fun u => (HRW11.out.below (cw_b u)).text
        have HX2 : ∀ u : Sw w11, (convert 24 9 (.slice oa ob.length oc)).run Tryz.prog (cw u) = .ok (.string ⟨ob.toArray⟩) (cw u) := fun u => (HOW11.out.below (cw_b u)).text
        have g0 := cw_cell (show w11.cell? ⟨w10.heap.size, 0, none⟩ = some (.bool p.req) from cell_at G11.out 0)
        have g1 := cw_cell (show w11.cell? ⟨w10.heap.size, 1, none⟩ = some (.string p.me) from cell_at G11.out 1)
        have g2 := cw_cell (show w11.cell? ⟨w10.heap.size, 2, none⟩ = some (.string p.ta) from cell_at G11.out 2)
        have g3 := cw_cell (show w11.cell? ⟨w10.heap.size, 3, none⟩ = some (.int .i64 (p.minor : Int)) from cell_at G11.out 3)
        have g4 := cw_cell (show w11.cell? ⟨w10.heap.size, 4, none⟩ = some (.int .i64 (p.status : Int)) from cell_at G11.out 4)
        have g5 := cw_cell (show w11.cell? ⟨w10.heap.size, 5, none⟩ = some (.string p.re) from cell_at G11.out 5)
        have g6 := cw_cell (show w11.cell? ⟨w10.heap.size, 6, none⟩ = some (.slice la p.fs.length lc) from cell_at G11.out 6)
        have s1 := cw_cell (show w11.cell? ⟨w3.heap.size, 1, none⟩ = some (.bool p.req) from cell_at S11.out 1)
        have s2 := cw_cell (show w11.cell? ⟨w3.heap.size, 2, none⟩ = some (.string p.me) from cell_at S11.out 2)
        have s3 := cw_cell (show w11.cell? ⟨w3.heap.size, 3, none⟩ = some (.string p.ta) from cell_at S11.out 3)
        have s4 := cw_cell (show w11.cell? ⟨w3.heap.size, 4, none⟩ = some (.int .i64 (p.minor : Int)) from cell_at S11.out 4)
        have s5 := cw_cell (show w11.cell? ⟨w3.heap.size, 5, none⟩ = some (.int .i64 (p.status : Int)) from cell_at S11.out 5)
        have s6 := cw_cell (show w11.cell? ⟨w3.heap.size, 6, none⟩ = some (.string p.re) from cell_at S11.out 6)
        have s7 := cw_cell (show w11.cell? ⟨w3.heap.size, 7, none⟩ = some (.slice ua p.fs.length uc) from cell_at S11.out 7)
        have s12 := cw_cell (show w11.cell? ⟨w3.heap.size, 12, none⟩ = some (.slice oa ob.length oc) from cell_at S11.out 12)
        have s13 := cw_cell (show w11.cell? ⟨w3.heap.size, 13, none⟩ = some (.bool wb) from cell_at S11.out 13)
        have s14 := cw_cell (show w11.cell? ⟨w3.heap.size, 14, none⟩ = some (.int .i64 (eb : Int)) from cell_at S11.out 14)
        clear G11 S11 HOW11 HFR11 HRW11 HGE11 HFL11
        refine wp_region_cw (by kernel_rfl) (by kernel_rfl) ?_
        repeat (go_big_quiet_step ((first | (go_at_call 18; refine HG.out _) | (go_at_call 12; refine HW.out _) | (go_at_call 9; refine HSP.out _))))
        refine wpQuiet_nil ?_
        intro _ hw'
        obtain ⟨z, hw''⟩ := hw'
        subst hw''
        have BZ := hide (B11.out.trans ((cw_b z).mono B11.out.size))
        generalize cw z = wz at *
        go_wp2_with fail
        go_ret
        exact ⟨rfl, BZ.out⟩
     ·have t1 : (q.status : Int) < 200 := by omega
      have t2 : (i : Int) <= 8 := by omega
      have hlt := HST.out.lt
      have hg2 := uHd_le hU2
      rw [List.length_drop] at hg2
      have hkl : Ni + k < l.length := by omega
      obtain ⟨k2, q2, hst2⟩ := stp_of (by omega) hU2
      have HST2 := hide hst2
      have HR2 := hide (HRR.out wr BR.out (Ni + k) k2 q2 hst2.hP hst2.hw (by omega))
      have hkc : vc - Ni ≠ k := by omega
      have hk1 : k <= vc - Ni := by omega
      have hk2 : k <= l.length - Ni := by omega
      have e1 : wr.cell? ⟨w.heap.size, 1, none⟩ = some (.int .i64 (M : Int)) := cell_at ((HK.out.block w.heap.size (by have := lt_heap F4.out; omega) (by omega)).trans ((B46.out.block w.heap.size (lt_heap F4.out)).trans F4.out)) 1
      rw [<- Nat.add_assoc, <- Nat.sub_sub, <- Nat.sub_sub] at HR2
      clear hst2 hU2 hg2
      go_upto_region 13 with fail
      go_wp2_with (go_at_call 17; refine HR2.out.mono ?_; rintro e w7 ⟨qa2, qc2, rfl, y⟩; have B7 := hide y; have H7 := hide ((y.block hb hhl).trans HH.out); clear y; have h0 : w7.cell? ⟨hb, 0, none⟩ = some (.bool q.req) := cell_at H7.out 0; have z0 := hd_fz H7.out 0; have h1 : w7.cell? ⟨hb, 1, none⟩ = some (.string q.me) := cell_at H7.out 1; have z1 := hd_fz H7.out 1; have h2 : w7.cell? ⟨hb, 2, none⟩ = some (.string q.ta) := cell_at H7.out 2; have z2 := hd_fz H7.out 2; have h3 : w7.cell? ⟨hb, 3, none⟩ = some (.int .i64 (q.minor : Int)) := cell_at H7.out 3; have z3 := hd_fz H7.out 3; have h4 : w7.cell? ⟨hb, 4, none⟩ = some (.int .i64 (q.status : Int)) := cell_at H7.out 4; have z4 := hd_fz H7.out 4; have h5 : w7.cell? ⟨hb, 5, none⟩ = some (.string q.re) := cell_at H7.out 5; have z5 := hd_fz H7.out 5; have h6 : w7.cell? ⟨hb, 6, none⟩ = some (.slice ua9 q.fs.length uc9) := cell_at H7.out 6; have z6 := hd_fz H7.out 6)
      go_roundw
      case rel => exact ⟨i + 1, Ni + k, k2, q2, qa2, qc2, HST2, by rw [Nat.add_assoc, Nat.sub_sub, Nat.sub_sub], by simp, rfl, rfl, hide (put7_ok H7.out _ _ _ _ _ _ _).1, hide (HK.out.trans ((CK.of_below hb B7.out).trans (put7_ok H7.out _ _ _ _ _ _ _).2))⟩
      case measure => simp [intOf]; omega
 ·have hea2 : (ea == 0) = false := by simpa using hea
  go_wp2_with (first | (go_at_call 8; refine (HAK.out _).mono ?_; rintro e w2 ⟨rfl, y⟩; have B2 := hide (B1.out.trans (y.mono B1.out.size)); have F2 := hide ((y.block _ (lt_heap F1.out)).trans F1.out); have e20 : w2.cell? ⟨w.heap.size, 0, none⟩ = some (.string me) := cell_at F2.out 0; have e21 : w2.cell? ⟨w.heap.size, 1, none⟩ = some (.int .i64 mo) := cell_at F2.out 1; clear y) | (go_at_call 9; refine (HP.out _ B2.out).mono ?_; rintro e w9 ⟨rfl, b9⟩; have B9 := hide (B2.out.trans (b9.mono B2.out.size)); clear b9))
  go_ret
  exact ⟨rfl, B9.out⟩
end Go.Proofs.YtecjlcjaccijpaaGreatDoor
