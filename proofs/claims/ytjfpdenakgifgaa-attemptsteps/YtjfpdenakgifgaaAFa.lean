/- Fail and Head. -/
import Derived.Test.YtjfpdenakgifgaaAHg
namespace Go.Proofs.Ytjfpdenakgifgaa
open Go.ChangeShapes Go.WideShapes Go.ChangeAt Go.RowKit
set_option linter.unusedVariables false

set_option maxHeartbeats 4000000 in
set_option maxRecDepth 100000 in
theorem failed_any (p : Rq) (b : Nat) (w : World) (P : Nat → Prop) (now id why : Int) (al : Bool) (h : QX p b w P) (k0 : QOk p) :
    Calls Try.prog 23 #[.pointer (some ⟨b, 0, none⟩), .int .i64 now, .int .i64 id, .int .i64 why, .bool al] w fun e w' => ∃ v, e = .returned (.tuple #[v, .int .i64 (faE p now id why)]) ∧ Does (Two (RA v (faA p now id why al)) (QX (faP p now id why al) b)) P w w' := by
  have HM := hide (isMom_any now w)
  have T := hide (Does.refl h)
  have H9 := hide k0.r9
  have HK := hide k0
  have HH : Hid (Calls Try.prog 50 #[.pointer (some ⟨b, 0, none⟩), .int .i64 id] w fun e w' => e = .returned (.bool (hasB p id)) ∧ Fr none' w w') := by
    obtain ⟨vr, x⟩ := h
    exact hide (has_any p b vr w id x.v H9.out)
  clear h k0
  by_cases hall : mom now = true ∧ 1 ≤ why ∧ why ≤ 4
  · obtain ⟨hm, h1, h4⟩ := hall
    have hall : mom now = true ∧ 1 ≤ why ∧ why ≤ 4 := ⟨hm, h1, h4⟩
    rw [hm] at HM
    cases hh : hasB p id with
    | false =>
      have e0 : faE p now id why = 6 := by unfold faE; rw [if_pos hall, hh, if_neg (by decide)]
      have e2 : faA p now id why al = [] := by unfold faA; rw [e0, if_neg (by decide)]
      have e3 : faP p now id why al = p := by unfold faP; rw [e0, if_neg (by decide)]
      rw [e0, e2, e3]
      rw [hh] at HH
      clear hall e0 e2 e3 hm hh
      go_enter Try.func23, Try.ntmps23
      go_wp2_with (first | (go_at_call 27; refine HM.out.mono ?_; rintro e w' ⟨rfl, rfl⟩))
      refine HH.out.mono ?_
      rintro e w1 ⟨rfl, F⟩
      have T1 := hide (T.out.e F).nilRA
      clear F HH T HM
      go_wp2_with fail
      go_ret2
      exact ⟨_, rfl, T1.out⟩
    | true =>
      have e0 : faE p now id why = 0 := by unfold faE; rw [if_pos hall, hh, if_pos rfl]
      have e2 : faA p now id why al = flA p id why al := by unfold faA; rw [e0, if_pos rfl]
      have e3 : faP p now id why al = flP p now id why al := by unfold faP; rw [e0, if_pos rfl]
      rw [e0, e2, e3]
      rw [hh] at HH
      clear hall e0 e2 e3 hm hh
      go_enter Try.func23, Try.ntmps23
      go_wp2_with (first | (go_at_call 27; refine HM.out.mono ?_; rintro e w' ⟨rfl, rfl⟩))
      refine HH.out.mono ?_
      rintro e w1 ⟨rfl, F⟩
      have T1 := hide (T.out.e F)
      clear F HH T HM
      obtain ⟨P3, x, hx⟩ := T1.out.foc
      have HX := hide hx
      have HC := hide (fail_any p b w1 P3 now id why al x HK.out)
      clear x hx T1
      go_wp2_with fail
      refine HC.out.mono ?_
      rintro e w2 ⟨v, rfl, d⟩
      have T2 := hide (HX.out _ _ d)
      clear d HX HC
      go_wp2_with fail
      go_ret2
      exact ⟨_, rfl, T2.out⟩
  · have e0 : faE p now id why = 1 := by unfold faE; rw [if_neg hall]
    have e2 : faA p now id why al = [] := by unfold faA; rw [e0, if_neg (by decide)]
    have e3 : faP p now id why al = p := by unfold faP; rw [e0, if_neg (by decide)]
    rw [e0, e2, e3]
    have T1 := hide T.out.nilRA
    clear e0 e2 e3 HH T HK
    cases hm : mom now with
    | false =>
      rw [hm] at HM
      clear hall hm
      go_enter Try.func23, Try.ntmps23
      go_wp2_with (first | (go_at_call 27; refine HM.out.mono ?_; rintro e w' ⟨rfl, rfl⟩))
      go_ret2
      exact ⟨_, rfl, T1.out⟩
    | true =>
      rw [hm] at HM
      by_cases h1 : why < 1
      · have hd : decide (why < 1) = true := decide_eq_true h1
        clear hall hm
        go_enter Try.func23, Try.ntmps23
        go_wp2_with (first | (go_at_call 27; refine HM.out.mono ?_; rintro e w' ⟨rfl, rfl⟩))
        go_ret2
        exact ⟨_, rfl, T1.out⟩
      · have h4 : 4 < why := by
          have : ¬ why ≤ 4 := fun y => hall ⟨hm, by omega, y⟩
          omega
        have hd : decide (why < 1) = false := decide_eq_false h1
        have hd2 : decide (4 < why) = true := decide_eq_true h4
        clear hall hm
        go_enter Try.func23, Try.ntmps23
        go_wp2_with (first | (go_at_call 27; refine HM.out.mono ?_; rintro e w' ⟨rfl, rfl⟩))
        go_ret2
        exact ⟨_, rfl, T1.out⟩
set_option maxHeartbeats 4000000 in
set_option maxRecDepth 100000 in
theorem head_any (p : Rq) (b : Nat) (w : World) (P : Nat → Prop) (now id why : Int) (al : Bool) (h : QX p b w P) (k0 : QOk p) :
    Calls Try.prog 24 #[.pointer (some ⟨b, 0, none⟩), .int .i64 now, .int .i64 id, .int .i64 why, .bool al] w fun e w' => ∃ v, e = .returned (.tuple #[v, .int .i64 (heE p now id why)]) ∧ Does (Two (RA v (heA p now id why al)) (QX (heP p now id why al) b)) P w w' := by
  have HM := hide (isMom_any now w)
  have T := hide (Does.refl h)
  have H9 := hide k0.r9
  have HK := hide k0
  have HH : Hid (Calls Try.prog 50 #[.pointer (some ⟨b, 0, none⟩), .int .i64 id] w fun e w' => e = .returned (.bool (hasB p id)) ∧ Fr none' w w') := by
    obtain ⟨vr, x⟩ := h
    exact hide (has_any p b vr w id x.v H9.out)
  clear h k0
  cases hm : mom now with
  | false =>
    have e0 : heE p now id why = 1 := by unfold heE; rw [hm, if_neg (by decide)]
    have e2 : heA p now id why al = [] := by unfold heA; rw [e0, if_neg (by decide)]
    have e3 : heP p now id why al = p := by unfold heP; rw [e0, if_neg (by decide)]
    rw [e0, e2, e3]
    have T1 := hide T.out.nilRA
    rw [hm] at HM
    clear e0 e2 e3 HH T HK hm
    go_enter Try.func24, Try.ntmps24
    go_wp2_with (first | (go_at_call 27; refine HM.out.mono ?_; rintro e w' ⟨rfl, rfl⟩))
    go_ret2
    exact ⟨_, rfl, T1.out⟩
  | true =>
    rw [hm] at HM
    cases hh : hasB p id with
    | false =>
      have e0 : heE p now id why = 6 := by unfold heE; rw [hm, if_pos rfl, hh, if_neg (by decide)]
      have e2 : heA p now id why al = [] := by unfold heA; rw [e0, if_neg (by decide)]
      have e3 : heP p now id why al = p := by unfold heP; rw [e0, if_neg (by decide)]
      rw [e0, e2, e3]
      rw [hh] at HH
      clear e0 e2 e3 hm hh
      go_enter Try.func24, Try.ntmps24
      go_wp2_with (first | (go_at_call 27; refine HM.out.mono ?_; rintro e w' ⟨rfl, rfl⟩))
      refine HH.out.mono ?_
      rintro e w1 ⟨rfl, F⟩
      have T1 := hide (T.out.e F).nilRA
      clear F HH T HM
      go_wp2_with fail
      go_ret2
      exact ⟨_, rfl, T1.out⟩
    | true =>
      rw [hh] at HH
      by_cases hs : 200 ≤ why ∧ why ≤ 599
      · have e0 : heE p now id why = 0 := by unfold heE; rw [hm, if_pos rfl, hh, if_pos rfl, if_pos hs]
        have e2 : heA p now id why al = heA0 p id why al := by unfold heA; rw [e0, if_pos rfl]
        have e3 : heP p now id why al = heP0 p now id why al := by unfold heP; rw [e0, if_pos rfl]
        rw [e0, e2, e3]
        obtain ⟨s0, s1⟩ := hs
        have hd : decide (why < 200) = false := decide_eq_false (by omega)
        have hd2 : decide (599 < why) = false := decide_eq_false (by omega)
        clear e0 e2 e3 hm hh s0 s1
        have HB := hide (fun V => isBad_any why V)
        unfold heA0 heP0
        have HW : Hid (∀ (w1 : World) (P3 : Nat → Prop), QX p b w1 P3 → Calls Try.prog 52 #[.pointer (some ⟨b, 0, none⟩), .int .i64 id] w1 fun e w' => ∃ v, e = .returned v ∧ Does (Two (RA v (wnA p id)) (QX (wnP p id) b)) P3 w1 w') := hide (fun w1 P3 x => win_any p b w1 P3 id x HK.out)
        cases hb : badB why with
        | false =>
          rw [if_pos rfl, if_pos rfl]
          rw [hb] at HB
          clear hb
          go_enter Try.func24, Try.ntmps24
          go_wp2_with (first | (go_at_call 27; refine HM.out.mono ?_; rintro e w' ⟨rfl, rfl⟩))
          refine HH.out.mono ?_
          rintro e w1 ⟨rfl, F⟩
          have T1 := hide (T.out.e F)
          clear F HH T HM
          obtain ⟨P3, x, hx⟩ := T1.out.foc
          have HX := hide hx
          have HC := hide (HW.out w1 P3 x)
          clear x hx T1
          go_wp2_with (first | (go_at_call 51; refine (HB.out _).mono ?_; rintro e w' ⟨rfl, rfl⟩))
          refine HC.out.mono ?_
          rintro e w2 ⟨v, rfl, d⟩
          have T2 := hide (HX.out _ _ d)
          clear d HX HC
          go_wp2_with fail
          go_ret2
          exact ⟨_, rfl, T2.out⟩
        | true =>
          have ntf : ¬ (true = false) := by decide
          rw [if_neg ntf, if_neg ntf]
          rw [hb] at HB
          clear hb ntf
          by_cases hl : 1 < p.R.length
          · rw [if_pos hl, if_pos hl]
            go_enter Try.func24, Try.ntmps24
            go_wp2_with (first | (go_at_call 27; refine HM.out.mono ?_; rintro e w' ⟨rfl, rfl⟩))
            refine HH.out.mono ?_
            rintro e w1 ⟨rfl, F⟩
            have T1 := hide (T.out.e F)
            clear F HH T HM HW
            obtain ⟨_, vr, y⟩ := T1.out.of
            obtain ⟨c0, c1, c2, c3, c4, c5, c6, c7, c8, c9, c10, c11⟩ := y.v.c
            obtain ⟨a, cap, rfl, -, -⟩ := y.v.r
            clear y
            have T2 := hide (T1.out.newI id)
            obtain ⟨P1, P3, x1, x3, xd, hx⟩ := T2.out.focD
            have HX := hide hx
            have HL := hide (letGo_any p b _ P3 _ [id] x3 HK.out x1.1 (fun j hj => xd j ((x1.2 j).2 hj)) (by simp))
            clear x1 x3 xd hx T2 T1
            generalize p.R.length = n at *
            have hl2 : (1 : Int) < (n : Int) := by omega
            go_wp2_with (first | (go_at_call 51; refine (HB.out _).mono ?_; rintro e w' ⟨rfl, rfl⟩))
            refine HL.out.mono ?_
            rintro e w3 ⟨u, rfl, d⟩
            have T3 := hide (HX.out _ _ d).snd
            clear d HX HL c0 c1 c2 c3 c4 c5 c6 c7 c8 c9 c10 c11
            go_wp2_with fail
            go_ret2
            exact ⟨_, rfl, T3.out⟩
          · rw [if_neg hl, if_neg hl]
            cases hm : mayB p 5 al with
            | true =>
              rw [if_pos rfl, if_pos rfl]
              go_enter Try.func24, Try.ntmps24
              go_wp2_with (first | (go_at_call 27; refine HM.out.mono ?_; rintro e w' ⟨rfl, rfl⟩))
              refine HH.out.mono ?_
              rintro e w1 ⟨rfl, F⟩
              have T1 := hide (T.out.e F)
              clear F HH T HM HW
              obtain ⟨_, vr, y⟩ := T1.out.of
              obtain ⟨c0, c1, c2, c3, c4, c5, c6, c7, c8, c9, c10, c11⟩ := y.v.c
              obtain ⟨a, cap, rfl, -, -⟩ := y.v.r
              have HMY := hide (may_any p b _ w1 5 al y.v)
              rw [hm] at HMY
              clear y hm
              obtain ⟨n, Hn⟩ : ∃ n, Hid (p.R.length = n) := ⟨_, hide rfl⟩
              rw [Hn.out] at hl c11
              have hl2 : ¬ (1 : Int) < (n : Int) := by omega
              go_wp2_with (first | (go_at_call 51; refine (HB.out _).mono ?_; rintro e w' ⟨rfl, rfl⟩))
              refine HMY.out.mono ?_
              rintro e w2 ⟨rfl, F⟩
              have T2 := hide ((T1.out.e F).newI id)
              clear F HMY T1 c0 c1 c2 c3 c4 c5 c6 c7 c8 c9 c10 c11
              obtain ⟨P1, P3, x1, x3, xd, hx⟩ := T2.out.focD
              have HX := hide hx
              have HL := hide (letGo_any p b _ P3 _ [id] x3 HK.out x1.1 (fun j hj => xd j ((x1.2 j).2 hj)) (by simp))
              clear x1 x3 xd hx T2
              go_wp2_with fail
              refine HL.out.mono ?_
              rintro e w3 ⟨u, rfl, d⟩
              have T3 := hide (HX.out _ _ d).snd
              clear d HX HL
              obtain ⟨P3, x, hx⟩ := T3.out.focR
              have HX := hide hx
              have HBG := hide (begin_any (fgP p id) b w3 P3 now 1 x (HK.out.fg id) (.inr (.inl rfl)))
              obtain ⟨ua, uc, rfl⟩ := T3.out.fst_of.elim (fun _ z => RA.sh z)
              clear x hx T3
              go_wp2_with fail
              refine HBG.out.mono ?_
              rintro e w4 ⟨f, rfl, d⟩
              have T4 := hide (HX.out _ _ d)
              clear d HX HBG
              obtain ⟨fa, fc, rfl⟩ := T4.out.snd.fst_of.elim (fun _ z => RA.sh z)
              obtain ⟨HS, HG⟩ := gath2 T4.out
              have HS := hide HS
              have HG := hide HG
              have hl1 : Hid ((lgA [id]).length = 1) := hide rfl
              have hl2 : Hid ((bgA (fgP p id) 1).length = 1) := hide rfl
              have HC := hide (gathered_any _ 2 _ _ HS.out rfl (by omega) (by rw [sum2, hl1.out, hl2.out]; omega))
              rw [hl1.out, hl2.out] at HG HC
              rw [hl1.out, hl2.out]
              clear HS T4
              go_wp2_with fail
              refine HC.out.mono ?_
              rintro e w5 ⟨v5, rfl, d⟩
              have T5 := hide (HG.out _ _ d)
              clear d HG HC
              go_wp2_with fail
              go_ret2
              exact ⟨_, rfl, T5.out⟩
            | false =>
              rw [if_neg (by decide), if_neg (by decide)]
              go_enter Try.func24, Try.ntmps24
              go_wp2_with (first | (go_at_call 27; refine HM.out.mono ?_; rintro e w' ⟨rfl, rfl⟩))
              refine HH.out.mono ?_
              rintro e w1 ⟨rfl, F⟩
              have T1 := hide (T.out.e F)
              clear F HH T HM
              obtain ⟨_, vr, y⟩ := T1.out.of
              obtain ⟨c0, c1, c2, c3, c4, c5, c6, c7, c8, c9, c10, c11⟩ := y.v.c
              obtain ⟨a, cap, rfl, -, -⟩ := y.v.r
              have HMY := hide (may_any p b _ w1 5 al y.v)
              rw [hm] at HMY
              clear y hm
              obtain ⟨n, Hn⟩ : ∃ n, Hid (p.R.length = n) := ⟨_, hide rfl⟩
              rw [Hn.out] at hl c11
              have hl2 : ¬ (1 : Int) < (n : Int) := by omega
              go_wp2_with (first | (go_at_call 51; refine (HB.out _).mono ?_; rintro e w' ⟨rfl, rfl⟩))
              refine HMY.out.mono ?_
              rintro e w2 ⟨rfl, F⟩
              have T2 := hide (T1.out.e F)
              clear F HMY T1 c0 c1 c2 c3 c4 c5 c6 c7 c8 c9 c10 c11
              obtain ⟨P3, x, hx⟩ := T2.out.foc
              have HX := hide hx
              have HC := hide (HW.out w2 P3 x)
              clear x hx T2
              go_wp2_with fail
              refine HC.out.mono ?_
              rintro e w3 ⟨v, rfl, d⟩
              have T3 := hide (HX.out _ _ d)
              clear d HX HC
              go_wp2_with fail
              go_ret2
              exact ⟨_, rfl, T3.out⟩
      · have e0 : heE p now id why = 1 := by unfold heE; rw [hm, if_pos rfl, hh, if_pos rfl, if_neg hs]
        have e2 : heA p now id why al = [] := by unfold heA; rw [e0, if_neg (by decide)]
        have e3 : heP p now id why al = p := by unfold heP; rw [e0, if_neg (by decide)]
        rw [e0, e2, e3]
        clear e0 e2 e3 hm hh
        by_cases s0 : why < 200
        · have hd : decide (why < 200) = true := decide_eq_true s0
          clear hs
          go_enter Try.func24, Try.ntmps24
          go_wp2_with (first | (go_at_call 27; refine HM.out.mono ?_; rintro e w' ⟨rfl, rfl⟩))
          refine HH.out.mono ?_
          rintro e w1 ⟨rfl, F⟩
          have T1 := hide (T.out.e F).nilRA
          clear F HH T HM
          go_wp2_with fail
          go_ret2
          exact ⟨_, rfl, T1.out⟩
        · have hd : decide (why < 200) = false := decide_eq_false s0
          have hd2 : decide (599 < why) = true := decide_eq_true (by omega)
          clear hs
          go_enter Try.func24, Try.ntmps24
          go_wp2_with (first | (go_at_call 27; refine HM.out.mono ?_; rintro e w' ⟨rfl, rfl⟩))
          refine HH.out.mono ?_
          rintro e w1 ⟨rfl, F⟩
          have T1 := hide (T.out.e F).nilRA
          clear F HH T HM
          go_wp2_with fail
          go_ret2
          exact ⟨_, rfl, T1.out⟩
theorem fail_nil (w : World) (now id why : Int) (al : Bool) (h1 : 1 ≤ why) (h4 : why ≤ 4) : Calls Try.prog 23 #[.pointer none, .int .i64 now, .int .i64 id, .int .i64 why, .bool al] w fun e w' => e = .returned (.tuple #[.slice none 0 0, .int .i64 (if mom now = true then 6 else 1)]) ∧ w = w' := by
  have HM := hide (isMom_any now w)
  have HH := hide (has_nil w id)
  have hd : decide (why < 1) = false := decide_eq_false (by omega)
  have hd2 : decide (4 < why) = false := decide_eq_false (by omega)
  cases hm : mom now with
  | false =>
    rw [hm] at HM
    clear hm
    go_enter Try.func23, Try.ntmps23
    go_wp2_with (first | (go_at_call 27; refine HM.out.mono ?_; rintro e w' ⟨rfl, rfl⟩))
    go_ret2
    exact ⟨rfl, rfl⟩
  | true =>
    rw [hm] at HM
    clear hm
    go_enter Try.func23, Try.ntmps23
    go_wp2_with (first | (go_at_call 27; refine HM.out.mono ?_; rintro e w' ⟨rfl, rfl⟩) | (go_at_call 50; refine HH.out.mono ?_; rintro e w' ⟨rfl, rfl⟩))
    go_ret2
    exact ⟨rfl, rfl⟩
theorem head_nil (w : World) (now id why : Int) (al : Bool) : Calls Try.prog 24 #[.pointer none, .int .i64 now, .int .i64 id, .int .i64 why, .bool al] w fun e w' => e = .returned (.tuple #[.slice none 0 0, .int .i64 (if mom now = true then 6 else 1)]) ∧ w = w' := by
  have HM := hide (isMom_any now w)
  have HH := hide (has_nil w id)
  cases hm : mom now with
  | false =>
    rw [hm] at HM
    clear hm
    go_enter Try.func24, Try.ntmps24
    go_wp2_with (first | (go_at_call 27; refine HM.out.mono ?_; rintro e w' ⟨rfl, rfl⟩))
    go_ret2
    exact ⟨rfl, rfl⟩
  | true =>
    rw [hm] at HM
    clear hm
    go_enter Try.func24, Try.ntmps24
    go_wp2_with (first | (go_at_call 27; refine HM.out.mono ?_; rintro e w' ⟨rfl, rfl⟩) | (go_at_call 50; refine HH.out.mono ?_; rintro e w' ⟨rfl, rfl⟩))
    go_ret2
    exact ⟨rfl, rfl⟩
end Go.Proofs.Ytjfpdenakgifgaa
