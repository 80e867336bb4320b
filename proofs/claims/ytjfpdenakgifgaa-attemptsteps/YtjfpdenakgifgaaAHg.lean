/- A hedge is made; time goes by. -/
import Derived.Test.YtjfpdenakgifgaaAFl
namespace Go.Proofs.Ytjfpdenakgifgaa
open Go.ChangeShapes Go.WideShapes Go.ChangeAt Go.RowKit
set_option linter.unusedVariables false

set_option maxHeartbeats 4000000 in
set_option maxRecDepth 100000 in
theorem hedged_any (p : Rq) (b : Nat) (w : World) (P : Nat → Prop) (now : Int) (al : Bool) (h : QX p b w P) (k0 : QOk p) :
    Calls Try.prog 49 #[.pointer (some ⟨b, 0, none⟩), .int .i64 now, .bool al] w fun e w' => ∃ v, e = .returned v ∧ Does (Two (RA v (hgA p now al)) (QX (hgP p now al) b)) P w w' := by
  obtain ⟨vr, h⟩ := h
  have HN := hide (nextHedge_any p b vr w h.v k0)
  have T0 := hide (Does.refl h)
  have HK := hide k0
  clear h k0
  cases hb : nhB p with
  | false =>
    have e1 : hgB p now = false := by unfold hgB; rw [hb]; rfl
    have e2 : hgA p now al = [] := by unfold hgA; rw [e1, if_neg (fun x => by simp at x)]
    have e3 : hgP p now al = p := by unfold hgP; rw [e1, if_neg (by decide)]
    rw [e2, e3]
    rw [hb] at HN
    clear e1 e2 e3 hb
    generalize nhT p = t at *
    go_enter Try.func49, Try.ntmps49
    go_wp2_with fail
    refine HN.out.mono ?_
    rintro e w1 ⟨rfl, F⟩
    have T1 := hide (T0.out.e F).qx.nilRA
    clear F HN T0
    go_wp2_with fail
    go_ret
    exact ⟨_, rfl, T1.out⟩
  | true =>
    rw [hb] at HN
    by_cases hn : nhT p ≤ now
    · have e1 : hgB p now = true := by unfold hgB; rw [hb, decide_eq_true hn]; rfl
      have hd : decide (now < nhT p) = false := decide_eq_false (by omega)
      cases al with
      | true =>
        have e2 : hgA p now true = bgA p 2 := by unfold hgA; rw [e1, if_pos ⟨rfl, rfl⟩]
        have e3 : hgP p now true = bgP p now 2 := by unfold hgP; rw [e1, if_pos rfl, if_pos rfl]
        rw [e2, e3]
        clear e1 e2 e3 hb hn
        generalize nhT p = t at *
        go_enter Try.func49, Try.ntmps49
        go_wp2_with fail
        refine HN.out.mono ?_
        rintro e w1 ⟨rfl, F⟩
        have T1 := hide (T0.out.e F).qx
        clear F HN T0
        obtain ⟨P3, x, hx⟩ := T1.out.foc
        have HX := hide hx
        have HB := hide (begin_any p b w1 P3 now 2 x HK.out (.inr (.inr rfl)))
        clear x hx T1
        go_wp2_with fail
        refine HB.out.mono ?_
        rintro e w3 ⟨v, rfl, d⟩
        have T3 := hide (HX.out _ _ d)
        clear d HX HB
        go_wp2_with fail
        go_ret
        exact ⟨_, rfl, T3.out⟩
      | false =>
        have e2 : hgA p now false = [] := by unfold hgA; rw [if_neg (fun x => by simp at x)]
        have e3 : hgP p now false = { p with hg := 0 } := by unfold hgP; rw [e1, if_pos rfl, if_neg (by decide)]
        rw [e2, e3]
        clear e1 e2 e3 hb hn
        generalize nhT p = t at *
        go_enter Try.func49, Try.ntmps49
        go_wp2_with fail
        refine HN.out.mono ?_
        rintro e w1 ⟨rfl, F⟩
        have T1 := hide (T0.out.e F)
        clear F HN T0
        obtain ⟨_, x⟩ := T1.out.of
        obtain ⟨c0, c1, -, -, -, -, -, -, -, -, -, -⟩ := x.v.c
        have z := x.v.fz 1
        have T2 : Hid (Does (QX { p with hg := 0 } b) P w (w1.setCell ⟨b, 1, none⟩ (.int .i64 0))) := hide (T1.out.trans (fun _ y => (y.setC (q := { p with hg := 0 }) 1 (.int .i64 0) rfl rfl).qx))
        clear x T1 c0
        go_upto_region 6 with fail
        clear c1 z
        generalize w1.setCell _ _ = w2 at *
        have T3 := hide T2.out.nilRA
        clear T2
        go_wp2_with fail
        go_ret
        exact ⟨_, rfl, T3.out⟩
    · have e1 : hgB p now = false := by unfold hgB; rw [decide_eq_false hn]; simp
      have e2 : hgA p now al = [] := by unfold hgA; rw [e1, if_neg (fun x => by simp at x)]
      have e3 : hgP p now al = p := by unfold hgP; rw [e1, if_neg (by decide)]
      have hd : decide (now < nhT p) = true := decide_eq_true (by omega)
      rw [e2, e3]
      clear e1 e2 e3 hb hn
      generalize nhT p = t at *
      go_enter Try.func49, Try.ntmps49
      go_wp2_with fail
      refine HN.out.mono ?_
      rintro e w1 ⟨rfl, F⟩
      have T1 := hide (T0.out.e F).qx.nilRA
      clear F HN T0
      go_wp2_with fail
      go_ret
      exact ⟨_, rfl, T1.out⟩
theorem time_nil (w : World) (now : Int) (al : Bool) : Calls Try.prog 22 #[.pointer none, .int .i64 now, .bool al] w fun e w' => e = .returned (.tuple #[.slice none 0 0, .int .i64 (tmE now)]) ∧ w = w' := by
  have HM := hide (isMom_any now w)
  unfold tmE
  cases hm : mom now with
  | false =>
    rw [hm] at HM
    clear hm
    go_enter Try.func22, Try.ntmps22
    go_wp2_with (first | (go_at_call 27; refine HM.out.mono ?_; rintro e w' ⟨rfl, rfl⟩))
    go_ret2
    exact ⟨rfl, rfl⟩
  | true =>
    rw [hm] at HM
    clear hm
    go_enter Try.func22, Try.ntmps22
    go_wp2_with (first | (go_at_call 27; refine HM.out.mono ?_; rintro e w' ⟨rfl, rfl⟩) | (go_at_call 19; refine (over_nil _).mono ?_; rintro e w' ⟨rfl, rfl⟩))
    go_ret2
    exact ⟨rfl, rfl⟩
theorem llF_len (p : Rq) (now : Int) (al : Bool) (l : List Int) : (llF p now al l).2.length ≤ 2 * l.length := by
  have := ll_len now al l (p, [])
  simpa [llF] using this
set_option maxHeartbeats 8000000 in
set_option maxRecDepth 100000 in
theorem time_any (p : Rq) (b : Nat) (w : World) (P : Nat → Prop) (now : Int) (al : Bool) (h : QX p b w P) (k0 : QOk p) :
    Calls Try.prog 22 #[.pointer (some ⟨b, 0, none⟩), .int .i64 now, .bool al] w fun e w' => ∃ v, e = .returned (.tuple #[v, .int .i64 (tmE now)]) ∧ Does (Two (RA v (tmA p now al)) (QX (tmP p now al) b)) P w w' := by
  have HM := hide (isMom_any now w)
  unfold tmE
  cases hm : mom now with
  | false =>
    have e2 : tmA p now al = [] := by unfold tmA; rw [hm, if_neg (fun x => by simp at x)]
    have e3 : tmP p now al = p := by unfold tmP; rw [hm, if_neg (fun x => by simp at x)]
    rw [e2, e3]
    rw [hm] at HM
    have T := hide (Does.refl h).nilRA
    clear h e2 e3 hm k0
    go_enter Try.func22, Try.ntmps22
    go_wp2_with (first | (go_at_call 27; refine HM.out.mono ?_; rintro e w' ⟨rfl, rfl⟩))
    go_ret2
    exact ⟨_, rfl, T.out⟩
  | true =>
    rw [hm] at HM
    rw [if_pos rfl]
    obtain ⟨vr, h⟩ := h
    have HO := hide (over_any p b vr w h.v)
    by_cases hr : p.R = []
    · have e2 : tmA p now al = [] := by unfold tmA; rw [if_neg (fun x => x.2 hr)]
      have e3 : tmP p now al = p := by unfold tmP; rw [if_neg (fun x => x.2 hr)]
      rw [e2, e3]
      rw [show p.R.isEmpty = true by rw [hr]; rfl] at HO
      have T := hide (Does.refl h).qx.nilRA
      clear h e2 e3 hm hr k0
      go_enter Try.func22, Try.ntmps22
      go_wp2_with (first | (go_at_call 27; refine HM.out.mono ?_; rintro e w' ⟨rfl, rfl⟩) | (go_at_call 19; refine HO.out.mono ?_; rintro e w' ⟨rfl, rfl⟩))
      go_ret2
      exact ⟨_, rfl, T.out⟩
    · have hc : mom now = true ∧ p.R ≠ [] := ⟨hm, hr⟩
      rw [show p.R.isEmpty = false by rw [List.isEmpty_eq_false_iff]; exact hr] at HO
      obtain ⟨c0, c1, c2, c3, c4, c5, c6, c7, c8, c9, c10, c11⟩ := h.v.c
      have HV := hide h.v
      have T0 := hide (Does.refl h)
      have H9 := hide k0.r9
      have HK := hide k0
      obtain ⟨n0, n1⟩ := mom_iff.1 hm
      have HKL := hide (fun l => QOk.ll al n0 n1 l (s := (p, [])) k0)
      clear h k0 n0 n1
      by_cases he : p.en ≤ now
      · have e2 : tmA p now al = lgA (ids p.R) ++ anA (-1) 504 := by unfold tmA; rw [if_pos hc, if_pos he]
        have e3 : tmP p now al = lgP p (ids p.R) := by unfold tmP; rw [if_pos hc, if_pos he]
        rw [e2, e3]
        clear e2 e3 hm hr hc HKL
        have HR := hide (running_any p b vr w HV.out H9.out)
        clear HV
        go_enter Try.func22, Try.ntmps22
        go_wp2_with (first | (go_at_call 27; refine HM.out.mono ?_; rintro e w' ⟨rfl, rfl⟩) | (go_at_call 19; refine HO.out.mono ?_; rintro e w' ⟨rfl, rfl⟩))
        refine HR.out.mono ?_
        rintro e w2 ⟨v, rfl, d⟩
        have T2 := hide (T0.out.qx.put d)
        clear d HR T0 c0 c1 c2 c3 c4 c5 c6 c7 c8 c9 c10 c11 HM HO he
        obtain ⟨P1, P3, x1, x3, xd, hx⟩ := T2.out.focD
        have HX := hide hx
        have HL := hide (letGo_any p b w2 P3 v (ids p.R) x3 HK.out x1.1 (fun k hk => xd k ((x1.2 k).2 hk)) (by have := H9.out; rw [ids_len]; omega))
        clear x1 x3 xd hx T2
        go_wp2_with fail
        refine HL.out.mono ?_
        rintro e w3 ⟨u, rfl, d⟩
        have T3 := hide (HX.out _ _ d).snd
        clear d HX HL
        have HA := hide (answered_any w3 (-1) 504)
        go_wp2_with fail
        refine HA.out.mono ?_
        rintro e w4 ⟨u2, rfl, d⟩
        have T4 : Hid (Does (Two (RA u (lgA (ids p.R))) (Two (RA u2 (anA (-1) 504)) (QX (lgP p (ids p.R)) b))) P w w4) := hide (by
          have T' := T3.out
          obtain ⟨P', ⟨P1, P2, a, x, dd, ee⟩, h2, h3⟩ := T'
          have F : Fr none' w3 w4 := d.fr
          obtain ⟨Q, q1, q2, q3⟩ := d
          refine ⟨fun k => P1 k ∨ (Q k ∨ P2 k), ⟨P1, fun k => Q k ∨ P2 k, Ob.fr _ _ _ _ a F (fun _ _ y => y), ⟨Q, P2, q1, Ob.fr _ _ _ _ x F (fun _ _ y => y), fun k hk y => ?_, fun _ => Iff.rfl⟩, fun k hk y => ?_, fun _ => Iff.rfl⟩, h2.trans F (fun _ _ y => y.elim), fun k hk => ?_⟩
          · have := Ob.lt _ _ _ x y; have := (q3 k hk).resolve_left (fun y => y); omega
          · rcases y with y | y
            · have := Ob.lt _ _ _ a hk; have := (q3 k y).resolve_left (fun y => y); omega
            · exact dd k hk y
          · rcases hk with y | y | y
            · exact h3 k ((ee k).2 (.inl y))
            · have := (q3 k y).resolve_left (fun y => y); have := h2.size; exact .inr (by omega)
            · exact h3 k ((ee k).2 (.inr y)))
        clear d HA T3
        obtain ⟨_, z⟩ := T4.out.fst_of
        obtain ⟨ua, uc, rfl⟩ := RA.sh z
        obtain ⟨_, z2⟩ := T4.out.snd.fst_of
        obtain ⟨ua2, uc2, rfl⟩ := RA.sh z2
        have hln : Hid ((lgA (ids p.R)).length = p.R.length) := hide (by rw [lgA_len, ids_len])
        have hln2 : Hid ((anA (-1) 504).length = 1) := hide rfl
        clear z z2
        obtain ⟨HS, HG⟩ := gath2 T4.out
        have HS := hide HS
        have HG := hide HG
        have HC := hide (gathered_any _ 2 _ _ HS.out rfl (by omega) (by rw [sum2, hln.out]; have := H9.out; simp [anA]; omega))
        rw [hln.out, hln2.out] at HG HC T4 ⊢
        clear HS
        go_wp2_with fail
        refine HC.out.mono ?_
        rintro e w5 ⟨v5, rfl, d⟩
        have T5 := hide (HG.out _ _ d)
        clear d HG HC T4
        go_wp2_with fail
        go_ret2
        exact ⟨_, rfl, T5.out⟩
      · have e2 : tmA p now al = (llF p now al (ltL p now)).2 ++ hgA (llF p now al (ltL p now)).1 now al := by unfold tmA; rw [if_pos hc, if_neg he]
        have e3 : tmP p now al = hgP (llF p now al (ltL p now)).1 now al := by unfold tmP; rw [if_pos hc, if_neg he]
        rw [e2, e3]
        have hen : decide (p.en ≤ now) = false := decide_eq_false he
        clear e2 e3 hm hr hc
        have HR := hide (late_any p b vr w now HV.out HK.out)
        have HLL := hide (ltL_len p now)
        clear HV
        generalize ltL p now = l at *
        go_enter Try.func22, Try.ntmps22
        go_wp2_with (first | (go_at_call 27; refine HM.out.mono ?_; rintro e w' ⟨rfl, rfl⟩) | (go_at_call 19; refine HO.out.mono ?_; rintro e w' ⟨rfl, rfl⟩))
        refine HR.out.mono ?_
        rintro e w2 ⟨v, rfl, d⟩
        have T2 := hide ((T0.out.qx.nilRA).put d)
        clear d HR T0 c0 c1 c2 c3 c4 c5 c6 c7 c8 c9 c10 c11 HM HO he hen
        have HQ : Hid (Does (Two (RI v l) (Two (RA (.slice none 0 0) (llF p now al (l.take 0)).2) (QX (llF p now al (l.take 0)).1 b))) P w w2) := hide T2.out
        clear T2
        obtain ⟨la, lc, rfl, -, -⟩ : ∃ a cap, v = .slice a l.length cap ∧ l.length ≤ cap ∧ cap ≤ 9223372036854775807 := HQ.out.fst_of.elim (fun _ z => z.1.shape)
        obtain ⟨n, Hn⟩ : ∃ n, Hid (l.length = n) := ⟨_, hide rfl⟩
        rw [Hn.out] at HLL HQ ⊢
        have hn9 : n ≤ 9 := by have := HLL.out; have := H9.out; omega
        have HLA := hide (fun k => llF_len p now al (l.take k))
        have HLS := hide (fun (k : Nat) (x : Int) (hx : l[k]? = some x) => (show llF p now al (l.take (k + 1)) = llS now al (llF p now al (l.take k)) x by unfold llF; rw [take_next hx, List.foldl_append]; rfl))
        have HKL2 : Hid (∀ k, QOk (llF p now al (l.take k)).1) := hide (fun k => HKL.out _)
        clear HKL
        go_wp2_with fail
        go_loopw [8, 33] (fun s u wr => ∃ k : Nat, k ≤ n ∧ u = .int .i64 (k : Int) ∧ Hid (Does (Two (RI (.slice la n lc) l) (Two (RA s (llF p now al (l.take k)).2) (QX (llF p now al (l.take k)).1 b))) P w wr)) (fun _ u _ => n - (intOf u).toNat)
        case atStart => exact ⟨0, Nat.zero_le _, rfl, HQ⟩
        case round =>
          clear HQ
          obtain ⟨k, hk, rfl, HI⟩ := hrel
          have HA0 := HLA.out k
          rw [List.length_take, Hn.out] at HA0
          by_cases hlt : k < n
          · have hkl : k < l.length := by rw [Hn.out]; exact hlt
            have hr := get_ok hkl
            have HST := hide (HLS.out k _ hr)
            have hvr : Rw 3 1 wr (.slice la n lc) l.length l := HI.out.fst_of.elim (fun _ z => z.1)
            obtain ⟨g, off, cap1, e, -, -, r0⟩ := int_cell hvr hr
            simp only [Value.slice.injEq] at e
            obtain ⟨rfl, -, rfl⟩ := e
            generalize l[k] = x at *
            have HQ9 := HKL2.out k
            generalize llF p now al (l.take k) = st at *
            obtain ⟨q, A⟩ := st
            have HKQ := hide HQ9
            dsimp only at HI HA0 HKQ
            obtain ⟨sa, sc, rfl⟩ := HI.out.snd.fst_of.elim (fun _ z => RA.sh z)
            clear hr hkl hvr HQ9
            have T2 := hide (HI.out.newI x)
            obtain ⟨P1, P3, x1, x3, xd, hx⟩ := T2.out.focD3
            have HX := hide hx
            have HL := hide (letGo_any q b _ P3 _ [x] x3 HKQ.out x1.1 (fun j hj => xd j ((x1.2 j).2 hj)) (by simp))
            obtain ⟨an, Han⟩ : ∃ an, Hid (A.length = an) := ⟨_, hide rfl⟩
            rw [Han.out] at HA0 HX ⊢
            clear x1 x3 xd hx T2 HI
            go_wp2_with fail
            refine HL.out.mono ?_
            rintro e w3 ⟨u, rfl, d⟩
            have T3 := hide (HX.out _ _ d).snd
            clear d HX HL r0
            obtain ⟨P1, P3, x1, x3, xd, hx⟩ := T3.out.focD3
            have HX := hide hx
            have HFL := hide (fail_any (fgP q x) b w3 P3 now x 3 al x3 (HKQ.out.fg x))
            obtain ⟨ua, uc, rfl⟩ := T3.out.snd.snd.fst_of.elim (fun _ z => RA.sh z)
            clear x1 x3 xd hx T3
            go_wp2_with fail
            refine HFL.out.mono ?_
            rintro e w4 ⟨f, rfl, d⟩
            have T4 := hide (HX.out _ _ d)
            clear d HX HFL
            have hf1 := flA_len (fgP q x) x 3 al
            obtain ⟨F, HF⟩ : ∃ F, Hid (flA (fgP q x) x 3 al = F) := ⟨_, hide rfl⟩
            rw [HF.out] at T4 hf1
            obtain ⟨fa, fc, rfl⟩ := T4.out.snd.snd.snd.fst_of.elim (fun _ z => RA.sh z)
            obtain ⟨fn, Hfn⟩ : ∃ fn, Hid (F.length = fn) := ⟨_, hide rfl⟩
            obtain ⟨P5, y, hy⟩ := T4.out.focR
            obtain ⟨HS, HG⟩ := gath3 (Does.refl y)
            have HS := hide HS
            have HG := hide HG
            have HY := hide hy
            have hl1 : Hid ((lgA [x]).length = 1) := hide rfl
            have HC := hide (gathered_any _ 3 _ _ HS.out rfl (by omega) (by rw [sum3, hl1.out, Han.out]; omega))
            rw [hl1.out, Hfn.out] at HG HC ⊢
            rw [Hfn.out] at hf1
            clear HS y hy T4
            go_wp2_with fail
            refine HC.out.mono ?_
            rintro e w5 ⟨v5, rfl, d⟩
            have T5 : Hid (Does (Two (RI (.slice (some ⟨g, off, none⟩) n lc) l) (Two (RA v5 (llF p now al (l.take (k + 1))).2) (QX (llF p now al (l.take (k + 1))).1 b))) P w w5) := hide (by
              rw [HST.out]
              have := HY.out _ _ (HG.out _ _ d)
              rw [← HF.out] at this
              exact this)
            clear d HG HC HY
            go_wp2_with fail
            go_roundw
            case rel => exact ⟨k + 1, by omega, by go_num, T5⟩
            case measure => simp [intOf]; omega
          · obtain rfl : k = n := by omega
            have etk : l.take k = l := by rw [← Hn.out]; exact List.take_length
            rw [etk] at HI HA0
            have HQ9 := HKL2.out k
            rw [etk] at HQ9
            clear HLS HLA HKL2
            obtain ⟨⟨q, A⟩, Hst⟩ : ∃ st, Hid (llF p now al l = st) := ⟨_, hide rfl⟩
            rw [Hst.out] at HI HA0 HQ9
            have HKQ := hide HQ9
            dsimp only at HI HA0 HKQ
            obtain ⟨sa, sc, rfl⟩ := HI.out.snd.fst_of.elim (fun _ z => RA.sh z)
            obtain ⟨an, Han⟩ : ∃ an, Hid (A.length = an) := ⟨_, hide rfl⟩
            have T1 := hide HI.out.snd
            clear HI HQ9
            obtain ⟨P3, x, hx⟩ := T1.out.focR
            have HX := hide hx
            have HH := hide (hedged_any q b wr P3 now al x HKQ.out)
            have hh1 : (hgA q now al).length ≤ 1 := by unfold hgA; split <;> simp [bgA]
            obtain ⟨F, HFe⟩ : ∃ F, Hid (hgA q now al = F) := ⟨_, hide rfl⟩
            obtain ⟨q2, Hq2⟩ : ∃ q2, Hid (hgP q now al = q2) := ⟨_, hide rfl⟩
            rw [HFe.out] at HH hh1
            rw [Hq2.out] at HH
            rw [Han.out] at HX HA0 ⊢
            clear x hx T1
            go_wp2_with fail
            refine HH.out.mono ?_
            rintro e w3 ⟨f, rfl, d⟩
            have T3 := hide (HX.out _ _ d)
            clear d HX HH
            obtain ⟨fa, fc, rfl⟩ := T3.out.snd.fst_of.elim (fun _ z => RA.sh z)
            obtain ⟨fn, Hfn⟩ : ∃ fn, Hid (F.length = fn) := ⟨_, hide rfl⟩
            obtain ⟨HS, HG⟩ := gath2 T3.out
            have HS := hide HS
            have HG := hide HG
            have HC := hide (gathered_any _ 2 _ _ HS.out rfl (by omega) (by rw [sum2, Han.out]; omega))
            rw [Hfn.out] at HG HC ⊢
            clear HS T3
            go_wp2_with fail
            refine HC.out.mono ?_
            rintro e w5 ⟨v5, rfl, d⟩
            have T5 := hide (HG.out _ _ d)
            clear d HG HC
            go_wp2_with fail
            go_ret2
            refine ⟨_, rfl, ?_⟩
            rw [Hst.out]
            dsimp only
            rw [HFe.out, Hq2.out]
            exact T5.out
end Go.Proofs.Ytjfpdenakgifgaa
