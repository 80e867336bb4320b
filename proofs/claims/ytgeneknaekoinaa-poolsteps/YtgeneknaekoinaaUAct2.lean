/- A connection's work is done; somebody needs none any more; what rests too long is let go. -/
import Derived.Test.YtgeneknaekoinaaUAct
namespace Go.Proofs.Ytgeneknaekoinaa
open Go.ChangeShapes Go.WideShapes Go.ChangeAt Go.RowKit
set_option linter.unusedVariables false

/-! ### Done -/
def dnE (p : Pm) (now c : Int) : Int := if mom now then (if idx (isC c) p.R ≠ -1 ∧ (rowC p c).st = 1 then 0 else 6) else 1
/-- Does it rest? -/
def dnK (p : Pm) (now c : Int) (keep : Bool) : Bool := keep && decide (now < diesI p (rowC p c))
def dn1 (p : Pm) (now c : Int) (keep : Bool) : Pm := if dnK p now c keep then rsP p (idx (isC c) p.R).toNat (rowC p c) now else rmP p (idx (isC c) p.R).toNat
def dn0 (p : Pm) (now c : Int) (keep : Bool) : List Ac := if dnK p now c keep then [] else [⟨5, c, -1⟩]
def dnA (p : Pm) (now c : Int) (keep : Bool) : List Ac := if dnE p now c = 0 then dn0 p now c keep ++ svA (dn1 p now c keep) now else []
def dnP (p : Pm) (now c : Int) (keep : Bool) : Pm := if dnE p now c = 0 then svP (dn1 p now c keep) now else p
theorem POk.rs {p : Pm} {K now : Int} (h : POk p K) {i : Nat} {r : Rk} (hr : p.R[i]? = some r) (hm : mom now = true) : POk (rsP p i r now) (K + 1) := by
  rw [mom_iff] at hm
  have hb := (h.rows r (List.mem_of_getElem? hr)).1
  have := h.ask1
  have := h.res1
  have := h.res0
  exact { h with ask1 := by unfold rsP; dsimp only; omega, res0 := by unfold rsP; dsimp only; omega, res1 := by unfold rsP; dsimp only; omega, len := by unfold rsP; dsimp only; rw [List.length_set]; exact h.len, rows := rok_set h.rows ⟨hb, hm, by unfold rsR; dsimp only; omega⟩ }
theorem ret2v {a b : Int} {v u : Value} (h : v = u) (k : a = b) : Ending.returned (.tuple #[v, .int .i64 a]) = .returned (.tuple #[u, .int .i64 b]) := by rw [h, k]
set_option maxHeartbeats 4000000 in
set_option maxRecDepth 100000 in
theorem done_any (p : Pm) (b : Nat) (w : World) (P : Nat → Prop) (now c K : Int) (keep : Bool) (h : PX p b w P) (k0 : POk p K) (hK : K < 9223372036854775805) :
    Calls Try.prog 21 #[.pointer (some ⟨b, 0, none⟩), .int .i64 now, .int .i64 c, .bool keep] w fun e w' => ∃ v, e = .returned (.tuple #[v, .int .i64 (dnE p now c)]) ∧ Does (Two (RA v (dnA p now c keep)) (PX (dnP p now c keep) b)) P w w' := by
  have h64 := k0.r64
  have HM := hide (isMom_any now w)
  cases hm : mom now with
  | false =>
    have e0 : dnE p now c = 1 := by unfold dnE; rw [hm]; rfl
    have e2 : dnA p now c keep = [] := by unfold dnA; rw [e0]; rfl
    have e3 : dnP p now c keep = p := by unfold dnP; rw [e0]; rfl
    rw [e0, e2, e3]
    rw [hm] at HM
    have T := hide (Does.refl h).nilRA
    clear h e0 e2 e3 k0 hm
    go_enter Try.func21, Try.ntmps21
    go_wp2_with (first | (go_at_call 34; refine HM.out.mono ?_; rintro e w' ⟨rfl, rfl⟩))
    go_ret2
    exact ⟨_, rfl, T.out⟩
  | true =>
    rw [hm] at HM
    obtain ⟨vr, vw, h⟩ := h
    have HP := hide (place_any p b vr vw w c h.v h64)
    have T0 := hide (Does.refl h)
    rcases idx_cases (isC c) p.R with ⟨hi, -⟩ | ⟨i, r, hi, hr, -⟩
    · have e0 : dnE p now c = 6 := by unfold dnE; rw [hm, hi]; rfl
      have e2 : dnA p now c keep = [] := by unfold dnA; rw [e0]; rfl
      have e3 : dnP p now c keep = p := by unfold dnP; rw [e0]; rfl
      rw [e0, e2, e3]
      rw [hi] at HP
      clear h e0 e2 e3 k0 hm
      go_enter Try.func21, Try.ntmps21
      go_wp2_with (first | (go_at_call 34; refine HM.out.mono ?_; rintro e w' ⟨rfl, rfl⟩))
      refine HP.out.mono ?_
      rintro e w1 ⟨rfl, F1⟩
      have T1 := hide (T0.out.e F1).px.nilRA
      clear F1 HP T0
      go_wp2_with fail
      go_ret2
      exact ⟨_, rfl, T1.out⟩
    · have hrc := rowC_of hi hr
      have hl : i < p.R.length := (List.getElem?_eq_some_iff.1 hr).1
      have hi1 : ¬ (i : Int) = -1 := by omega
      have hi2 : ((i : Int) == -1) = false := by simp
      rw [hi] at HP
      have HR := hide hr
      have HMM := hide hm
      have Hl := hide hl
      have H64 := hide h64
      obtain ⟨n, Hn⟩ : ∃ n, Hid (p.R.length = n) := ⟨_, hide rfl⟩
      by_cases hs : r.st = 1
      · have e0 : dnE p now c = 0 := by unfold dnE; rw [hm, hi, hrc, if_pos rfl, if_pos ⟨hi1, hs⟩]
        obtain ⟨⟨b0, b1⟩, -, -⟩ := k0.rows r (List.mem_of_getElem? hr)
        have HDI := hide (fun V y => dies_any p b (vr := y) (vw := vw) (w := V) (r := r) (l0 := k0.life0) (l1 := k0.life1) (b0 := b0) (b1 := b1))
        have HDK : Hid (dnK p now c keep = (keep && decide (now < diesI p r))) := hide (by unfold dnK; rw [hrc])
        have HA : Hid (dnA p now c keep = dn0 p now c keep ++ svA (dn1 p now c keep) now) := hide (by unfold dnA; rw [e0]; rfl)
        have HPP : Hid (dnP p now c keep = svP (dn1 p now c keep) now) := hide (by unfold dnP; rw [e0]; rfl)
        have HD1 : Hid (dn1 p now c keep = if dnK p now c keep then rsP p i r now else rmP p i) := hide (by unfold dn1; rw [hi, hrc]; rfl)
        have HD0 : Hid (dn0 p now c keep = if dnK p now c keep then [] else [⟨5, c, -1⟩]) := hide rfl
        rw [e0, HA.out, HPP.out]
        have HKS := hide (k0.rs hr hm)
        have HKM := hide ((k0.rm hl).more (show K ≤ K + 1 by omega))
        have t0 := k0.res0
        have t1 := k0.res1
        clear h e0 k0 hm hrc hi hr HA HPP
        rw [Hn.out] at hl h64
        have hli : (i : Int) < (n : Int) := by omega
        go_enter Try.func21, Try.ntmps21
        go_wp2_with (first | (go_at_call 34; refine HM.out.mono ?_; rintro e w' ⟨rfl, rfl⟩))
        refine HP.out.mono ?_
        rintro e w1 ⟨rfl, F1⟩
        have T1 := hide (T0.out.e F1)
        clear F1 HP T0
        obtain ⟨_, x⟩ := T1.out.of
        obtain ⟨c0, c1, c2, c3, c4, c5, c6, c7⟩ := x.v.c
        obtain ⟨g, off, cap, e, hc0, hc1, r0, r1, r2, r3, r4, r5, -, -⟩ := row_cells x.v.R HR.out
        subst e
        have HDI := hide (HDI.out w1 _ x.v)
        unfold rkV at HDI
        rw [Hn.out] at c6 hc0 T1
        rw [hs] at r1 HDI
        clear x hs
        cases keep with
        | false =>
          rw [show dnK p now c false = false by rw [HDK.out]; rfl] at HD1 HD0
          rw [if_neg (by simp)] at HD1 HD0
          have T4 := hide T1.out.px
          clear HDI T1
          obtain ⟨P2, x, hx⟩ := T4.out.foc
          have HFG := hide (forget_any p b w1 P2 i x Hl.out H64.out)
          have HX := hide hx
          clear x hx T4
          go_wp2_with fail
          refine HFG.out.mono ?_
          rintro e w2 ⟨rfl, d⟩
          have T2 := hide ((HX.out _ _ d).newRA ⟨5, c, -1⟩)
          clear d HX HFG c0 c1 c2 c3 c4 c5 c6 c7 r0 r1 r2 r3 r4 r5
          dsimp only at T2
          go_wp2_with fail
          generalize w2.alloc _ = w3 at *
          generalize w2.heap.size = g3 at *
          obtain ⟨P3, x, hx⟩ := T2.out.foc
          have HSV := hide (serve_any (rmP p i) b w3 P3 now (K + 1) _ _ x HKM.out (by omega) HMM.out (by simp))
          have HX := hide hx
          rw [← HD1.out, ← HD0.out] at HSV
          clear x hx T2 HD0 HD1
          refine HSV.out.mono ?_
          rintro e w4 ⟨v, rfl, d⟩
          have T3 := hide (HX.out _ _ d)
          obtain ⟨sa, sl, sc, rfl⟩ : ∃ a n cap, v = .slice a n cap := by obtain ⟨_, y⟩ := T3.out.fst_of; obtain ⟨a, c, e, _⟩ := y.1.shape; exact ⟨a, _, c, e⟩
          clear d HX HSV
          go_wp2_with fail
          go_ret2
          exact ⟨_, rfl, T3.out⟩
        | true =>
          go_wp2_with fail
          refine HDI.out.mono ?_
          rintro e w1' ⟨rfl, F1⟩
          have T4 := hide (T1.out.e F1).px
          clear F1 HDI T1 c0 c1 c2 c3 c4 c5 c6 c7 r0 r1 r2 r3 r4 r5
          obtain ⟨P2, x, hx⟩ := T4.out.foc
          have HX := hide hx
          have HFG := hide (forget_any p b w1' P2 i x Hl.out H64.out)
          have HRS := hide (rest_any p b w1' P2 now K i r x HR.out H64.out t0 (by omega))
          clear x hx T4
          rw [Bool.true_and] at HDK
          generalize hdi : diesI p r = di at *
          clear hdi
          by_cases hk : now < di
          · rw [decide_eq_true hk] at HDK
            rw [HDK.out, if_pos rfl] at HD1 HD0
            clear HFG
            go_wp2_with fail
            refine HRS.out.mono ?_
            rintro e w2 ⟨rfl, d⟩
            have T2 := hide (HX.out _ _ d).nilRA
            clear d HX HRS
            obtain ⟨P3, x, hx⟩ := T2.out.foc
            have HSV := hide (serve_any (rsP p i r now) b w2 P3 now (K + 1) _ _ x HKS.out (by omega) HMM.out (by simp))
            have HX := hide hx
            rw [← HD1.out, ← HD0.out] at HSV
            clear x hx T2 HD0 HD1
            go_wp2_with fail
            refine HSV.out.mono ?_
            rintro e w4 ⟨v, rfl, d⟩
            have T3 := hide (HX.out _ _ d)
            obtain ⟨sa, sl, sc, rfl⟩ : ∃ a n cap, v = .slice a n cap := by obtain ⟨_, y⟩ := T3.out.fst_of; obtain ⟨a, c, e, _⟩ := y.1.shape; exact ⟨a, _, c, e⟩
            clear d HX HSV
            go_wp2_with fail
            go_ret2
            exact ⟨_, rfl, T3.out⟩
          · rw [decide_eq_false hk] at HDK
            rw [HDK.out, if_neg (by simp)] at HD1 HD0
            clear HRS
            go_wp2_with fail
            refine HFG.out.mono ?_
            rintro e w2 ⟨rfl, d⟩
            have T2 := hide ((HX.out _ _ d).newRA ⟨5, c, -1⟩)
            clear d HX HFG
            dsimp only at T2
            go_wp2_with fail
            generalize w2.alloc _ = w3 at *
            generalize w2.heap.size = g3 at *
            obtain ⟨P3, x, hx⟩ := T2.out.foc
            have HSV := hide (serve_any (rmP p i) b w3 P3 now (K + 1) _ _ x HKM.out (by omega) HMM.out (by simp))
            have HX := hide hx
            rw [← HD1.out, ← HD0.out] at HSV
            clear x hx T2 HD0 HD1
            refine HSV.out.mono ?_
            rintro e w4 ⟨v, rfl, d⟩
            have T3 := hide (HX.out _ _ d)
            obtain ⟨sa, sl, sc, rfl⟩ : ∃ a n cap, v = .slice a n cap := by obtain ⟨_, y⟩ := T3.out.fst_of; obtain ⟨a, c, e, _⟩ := y.1.shape; exact ⟨a, _, c, e⟩
            clear d HX HSV
            go_wp2_with fail
            go_ret2
            exact ⟨_, rfl, T3.out⟩
      · have e0 : dnE p now c = 6 := by unfold dnE; rw [hm, hi, hrc, if_pos rfl, if_neg (fun x => hs x.2)]
        have e2 : dnA p now c keep = [] := by unfold dnA; rw [e0]; rfl
        have e3 : dnP p now c keep = p := by unfold dnP; rw [e0]; rfl
        rw [e0, e2, e3]
        have hs2 : (r.st == 1) = false := by simpa using hs
        clear h e0 e2 e3 k0 hm hrc hi hr
        rw [Hn.out] at hl h64
        have hli : (i : Int) < (n : Int) := by omega
        go_enter Try.func21, Try.ntmps21
        go_wp2_with (first | (go_at_call 34; refine HM.out.mono ?_; rintro e w' ⟨rfl, rfl⟩))
        refine HP.out.mono ?_
        rintro e w1 ⟨rfl, F1⟩
        have T1 := hide (T0.out.e F1)
        clear F1 HP T0
        obtain ⟨_, x⟩ := T1.out.of
        obtain ⟨c0, c1, c2, c3, c4, c5, c6, c7⟩ := x.v.c
        obtain ⟨g, off, cap, e, hc0, hc1, r0, r1, r2, r3, r4, r5, -, -⟩ := row_cells x.v.R HR.out
        subst e
        rw [Hn.out] at c6 hc0 T1
        have T3 := hide T1.out.px.nilRA
        clear x T1
        go_wp2_with fail
        go_ret2
        exact ⟨_, rfl, T3.out⟩
end Go.Proofs.Ytgeneknaekoinaa
