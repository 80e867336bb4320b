/- Somebody needs none any more. -/
import Derived.Test.YtgeneknaekoinaaUAct2
namespace Go.Proofs.Ytgeneknaekoinaa
open Go.ChangeShapes Go.WideShapes Go.ChangeAt Go.RowKit
set_option linter.unusedVariables false

/-! ### Drop -/
def rowW (p : Pm) (who : Int) : Rk := p.R.getD (idx (isW who) p.R).toNat zR
theorem rowW_of {p : Pm} {c : Int} {i : Nat} {r : Rk} (h : idx (isW c) p.R = (i : Int)) (hr : p.R[i]? = some r) : rowW p c = r := by
  unfold rowW; rw [h, Int.toNat_natCast, List.getD_eq_getElem?_getD, hr]; rfl
def drE (p : Pm) (now who : Int) : Int := if mom now then (if 0 ≤ idx (isN who) p.Q ∨ idx (isW who) p.R ≠ -1 then 0 else 6) else 1
def qmP (p : Pm) (i : Nat) : Pm := { p with Q := p.Q.eraseIdx i }
def dr1 (p : Pm) (who : Int) : Pm := if 0 ≤ idx (isN who) p.Q then qmP p (idx (isN who) p.Q).toNat else rmP p (idx (isW who) p.R).toNat
def dr0 (p : Pm) (who : Int) : List Ac := if 0 ≤ idx (isN who) p.Q then [] else [⟨5, (rowW p who).c, who⟩]
def drA (p : Pm) (now who : Int) : List Ac := if drE p now who = 0 then dr0 p who ++ svA (dr1 p who) now else []
def drP (p : Pm) (now who : Int) : Pm := if drE p now who = 0 then svP (dr1 p who) now else p
theorem POk.qm {p : Pm} {K : Int} (h : POk p K) {i : Nat} (hi : i < p.Q.length) : POk (qmP p i) K := by
  have hl : (p.Q.eraseIdx i).length = p.Q.length - 1 := List.length_eraseIdx_of_lt hi
  have := h.ask1
  have := h.wait
  exact { h with ask1 := by unfold qmP; dsimp only; omega, wait := by unfold qmP; dsimp only; omega }
set_option maxHeartbeats 4000000 in
set_option maxRecDepth 100000 in
theorem drop_any (p : Pm) (b : Nat) (w : World) (P : Nat → Prop) (now who K : Int) (h : PX p b w P) (k0 : POk p K) (hK : K < 9223372036854775806) :
    Calls Try.prog 18 #[.pointer (some ⟨b, 0, none⟩), .int .i64 now, .int .i64 who] w fun e w' => ∃ v, e = .returned (.tuple #[v, .int .i64 (drE p now who)]) ∧ Does (Two (RA v (drA p now who)) (PX (drP p now who) b)) P w w' := by
  have h64 := k0.r64
  have q64 := k0.q64
  have HM := hide (isMom_any now w)
  cases hm : mom now with
  | false =>
    have e0 : drE p now who = 1 := by unfold drE; rw [hm]; rfl
    have e2 : drA p now who = [] := by unfold drA; rw [e0]; rfl
    have e3 : drP p now who = p := by unfold drP; rw [e0]; rfl
    rw [e0, e2, e3]
    rw [hm] at HM
    have T := hide (Does.refl h).nilRA
    clear h e0 e2 e3 k0 hm
    go_enter Try.func18, Try.ntmps18
    go_wp2_with (first | (go_at_call 34; refine HM.out.mono ?_; rintro e w' ⟨rfl, rfl⟩))
    go_ret2
    exact ⟨_, rfl, T.out⟩
  | true =>
    rw [hm] at HM
    obtain ⟨vr, vw, h⟩ := h
    have HI := hide (index_any w vw p.Q who h.v.Q q64)
    have HOF := hide (of_any p b vr vw w who h.v h64)
    have HT := hide h
    have HMM := hide hm
    obtain ⟨c0, c1, c2, c3, c4, c5, c6, c7⟩ := h.v.c
    obtain ⟨qa, qc, rfl, hq0, hq1⟩ := h.v.q
    rcases idx_neg (isN who) p.Q with hn | ⟨i, hn, hil⟩
    · have hn0 : ¬ 0 ≤ idx (isN who) p.Q := by omega
      have HD0 : Hid (dr0 p who = [⟨5, (rowW p who).c, who⟩]) := hide (by unfold dr0; rw [if_neg hn0])
      have HD1 : Hid (dr1 p who = rmP p (idx (isW who) p.R).toNat) := hide (by unfold dr1; rw [if_neg hn0])
      rw [hn] at HI
      rcases idx_cases (isW who) p.R with ⟨hi, -⟩ | ⟨i, r, hi, hr, -⟩
      · have e0 : drE p now who = 6 := by unfold drE; rw [hm, if_pos rfl, if_neg (by rw [hi]; simp; omega)]
        have e2 : drA p now who = [] := by unfold drA; rw [e0]; rfl
        have e3 : drP p now who = p := by unfold drP; rw [e0]; rfl
        rw [e0, e2, e3]
        rw [hi] at HOF
        clear h e0 e2 e3 k0 hm hn hn0 hi
        obtain ⟨m, Hm⟩ : ∃ m, Hid (p.Q.length = m) := ⟨_, hide rfl⟩
        rw [Hm.out] at HI c7 hq0 q64 HT
        go_enter Try.func18, Try.ntmps18
        go_wp2_with (first | (go_at_call 34; refine HM.out.mono ?_; rintro e w' ⟨rfl, rfl⟩) | (go_at_call 39; refine HI.out.mono ?_; rintro e w' ⟨rfl, rfl⟩))
        refine HOF.out.mono ?_
        rintro e w1 ⟨rfl, F1⟩
        have T1 := hide ((Does.refl HT.out).e F1).px.nilRA
        clear F1 HOF
        go_wp2_with fail
        go_ret2
        exact ⟨_, rfl, T1.out⟩
      · have hi1 : ¬ (i : Int) = -1 := by omega
        have hi2 : ((i : Int) == -1) = false := by simp
        have hl : i < p.R.length := (List.getElem?_eq_some_iff.1 hr).1
        have e0 : drE p now who = 0 := by unfold drE; rw [hm, if_pos rfl, if_pos (.inr (by rw [hi]; exact hi1))]
        have e2 : drA p now who = dr0 p who ++ svA (dr1 p who) now := by unfold drA; rw [e0]; rfl
        have e3 : drP p now who = svP (dr1 p who) now := by unfold drP; rw [e0]; rfl
        rw [e0, e2, e3]
        rw [hi] at HOF
        rw [hi, Int.toNat_natCast] at HD1
        rw [rowW_of hi hr] at HD0
        have HR := hide hr
        have HKM := hide (k0.rm hl)
        have Hl := hide hl
        have H64 := hide h64
        clear h e0 e2 e3 k0 hm hn hn0 hi hr
        obtain ⟨n, Hn⟩ : ∃ n, Hid (p.R.length = n) := ⟨_, hide rfl⟩
        obtain ⟨m, Hm⟩ : ∃ m, Hid (p.Q.length = m) := ⟨_, hide rfl⟩
        rw [Hn.out] at hl h64
        rw [Hm.out] at HI c7 hq0 q64 HT
        have hli : (i : Int) < (n : Int) := by omega
        go_enter Try.func18, Try.ntmps18
        go_wp2_with (first | (go_at_call 34; refine HM.out.mono ?_; rintro e w' ⟨rfl, rfl⟩) | (go_at_call 39; refine HI.out.mono ?_; rintro e w' ⟨rfl, rfl⟩))
        refine HOF.out.mono ?_
        rintro e w1 ⟨rfl, F1⟩
        have T1 := hide ((Does.refl HT.out).e F1)
        clear F1 HOF c0 c1 c2 c3 c4 c5 c6 c7 HT
        obtain ⟨_, x⟩ := T1.out.of
        obtain ⟨c0, c1, c2, c3, c4, c5, c6, c7⟩ := x.v.c
        obtain ⟨g, off, cap, e, hc0, hc1, r0, r1, r2, r3, r4, r5, -, -⟩ := row_cells x.v.R HR.out
        subst e
        rw [Hn.out] at c6 hc0 T1
        clear x
        obtain ⟨P2, x, hx⟩ := T1.out.px.foc
        have HFG := hide (forget_any p b w1 P2 i x Hl.out H64.out)
        have HX := hide hx
        clear x hx T1
        go_wp2_with fail
        refine HFG.out.mono ?_
        rintro e w2 ⟨rfl, d⟩
        have T2 := hide ((HX.out _ _ d).newRA ⟨5, r.c, who⟩)
        clear d HX HFG c0 c1 c2 c3 c4 c5 c6 c7 r0 r1 r2 r3 r4 r5
        dsimp only at T2
        go_wp2_with fail
        generalize w2.alloc _ = w3 at *
        generalize w2.heap.size = g3 at *
        obtain ⟨P3, x, hx⟩ := T2.out.foc
        have HSV := hide (serve_any (rmP p i) b w3 P3 now K _ _ x HKM.out (by omega) HMM.out (by simp))
        have HX := hide hx
        rw [← HD1.out, ← HD0.out] at HSV
        clear x hx T2 HD0 HD1
        refine HSV.out.mono ?_
        rintro e w4 ⟨v, rfl, d⟩
        have T3 := hide (HX.out _ _ d)
        obtain ⟨sa, sl, sc, rfl⟩ : ∃ a n cap, v = .slice a n cap := by obtain ⟨_, y⟩ := T3.out.fst_of; obtain ⟨a, c, e, _⟩ := y.1.shape; exact ⟨a, _, c, e⟩
        clear d HX HSV
        go_wp2_with fail
        go_ret2
        exact ⟨_, rfl, T3.out⟩
    · have hn0 : 0 ≤ idx (isN who) p.Q := by omega
      have hi1 : ¬ (i : Int) = -1 := by omega
      have hi2 : ((i : Int) == -1) = false := by simp
      have HD0 : Hid (dr0 p who = []) := hide (by unfold dr0; rw [if_pos hn0])
      have HD1 : Hid (dr1 p who = qmP p i) := hide (by unfold dr1; rw [if_pos hn0, hn]; rfl)
      have e0 : drE p now who = 0 := by unfold drE; rw [hm, if_pos rfl, if_pos (.inl hn0)]
      have e2 : drA p now who = dr0 p who ++ svA (dr1 p who) now := by unfold drA; rw [e0]; rfl
      have e3 : drP p now who = svP (dr1 p who) now := by unfold drP; rw [e0]; rfl
      rw [e0, e2, e3]
      rw [hn] at HI
      have HKM := hide (k0.qm hil)
      have HDL := hide (delI_any w _ p.Q.length i (i + 1) _ h.v.Q hil rfl q64)
      rw [Int.natCast_add, Int.natCast_one] at HDL
      have HLQ : Hid ((p.Q.eraseIdx i).length = p.Q.length - 1) := hide (List.length_eraseIdx_of_lt hil)
      have HER : Hid (p.Q.take (i * 1) ++ p.Q.drop ((i + 1) * 1) = p.Q.eraseIdx i) := hide (by rw [Nat.mul_one, Nat.mul_one, List.eraseIdx_eq_take_drop_succ])
      rw [HER.out] at HDL
      clear h e0 e2 e3 k0 hm hn hn0 HOF HER
      obtain ⟨m, Hm⟩ : ∃ m, Hid (p.Q.length = m) := ⟨_, hide rfl⟩
      rw [Hm.out] at HI c7 hq0 q64 HT hil HDL HLQ
      have hli : (i : Int) < (m : Int) := by omega
      go_enter Try.func18, Try.ntmps18
      go_wp2_with (first | (go_at_call 34; refine HM.out.mono ?_; rintro e w' ⟨rfl, rfl⟩) | (go_at_call 39; refine HI.out.mono ?_; rintro e w' ⟨rfl, rfl⟩))
      refine HDL.out.mono ?_
      rintro e w1 ⟨v', rfl, s, F, o⟩
      obtain ⟨a2, cap2, rfl, hd0, hd1⟩ := s.shape
      have T1 : Hid (Does (PX (qmP p i) b) P w (w1.setCell ⟨b, 7, none⟩ (.slice a2 (m - 1) cap2))) := hide (HT.out.setQ (Q' := p.Q.eraseIdx i) (by rw [HLQ.out]; exact s) F (fun k hk => .inl (by rw [← o]; exact hk))).px
      obtain ⟨h1, h2, h3, h4, h5, h6, h7⟩ := HT.out.parts
      have k7 : w1.cell? ⟨b, 7, none⟩ = some (.slice qa m qc) := cell_of (F.hd h5 h1) 7
      have z7 : w1.frozen? ⟨b, 7, none⟩ = false := frozen_of (F.hd h5 h1) 7
      clear s F o h1 h2 h3 h4 h5 h6 h7 HT HDL c0 c1 c2 c3 c4 c5 c6 c7 HLQ
      go_upto_region 8 with fail
      have T2 := hide T1.out.nilRA
      clear T1 k7 z7
      generalize w1.setCell _ _ = w2 at *
      obtain ⟨P3, x, hx⟩ := T2.out.foc
      have HSV := hide (serve_any (qmP p i) b w2 P3 now K _ _ x HKM.out (by omega) HMM.out (by simp))
      have HX := hide hx
      rw [← HD1.out, ← HD0.out] at HSV
      clear x hx T2 HD0 HD1
      go_wp2_with fail
      refine HSV.out.mono ?_
      rintro e w4 ⟨v, rfl, d⟩
      have T3 := hide (HX.out _ _ d)
      obtain ⟨sa, sl, sc, rfl⟩ : ∃ a n cap, v = .slice a n cap := by obtain ⟨_, y⟩ := T3.out.fst_of; obtain ⟨a, c, e, _⟩ := y.1.shape; exact ⟨a, _, c, e⟩
      clear d HX HSV
      go_wp2_with fail
      go_ret2
      exact ⟨_, rfl, T3.out⟩
end Go.Proofs.Ytgeneknaekoinaa
