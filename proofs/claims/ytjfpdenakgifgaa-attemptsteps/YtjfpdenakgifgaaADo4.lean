/- The document's request: an attempt fails; Fail. -/
import Derived.Test.YtjfpdenakgifgaaADo3
namespace Go.Proofs.Ytjfpdenakgifgaa
open Go.ChangeShapes Go.WideShapes Go.ChangeAt Go.RowKit
set_option linter.unusedVariables false

theorem num_bg1 (q : Rq) (now : Int) : numP (bgP q now 1) = numP q + 1 := by simp [numP, bgP]; omega
theorem num_bg2 (q : Rq) (now : Int) : numP (bgP q now 2) = numP q + 1 := by simp [numP, bgP]; omega
theorem DY.bg1 {x : Ex} {q : Rq} {ov : Bool} {A : List Ac} {b : Nat} {w : World} {P : Nat → Prop} {now : Int} (h : DY x { q with m1 := q.m1 + 1, la := now } (numP q + 1) ov (ids q.R ++ [numP q]) (sis q.R ++ [now]) A b w P) : DX x (bgP q now 1) (numP (bgP q now 1)) A ov b w P := by
  obtain ⟨vi, vb, vo, h⟩ := h
  refine ⟨vi, vb, vo, ?_⟩
  rw [num_bg1, bg_1]
  rw [show ids ({ q with m1 := q.m1 + 1, la := now, R := q.R ++ [⟨q.m0 + q.m1 + q.m2, now⟩] } : Rq).R = ids q.R ++ [numP q] by show ids (q.R ++ _) = _; rw [ids_app]; rfl, show sis ({ q with m1 := q.m1 + 1, la := now, R := q.R ++ [⟨q.m0 + q.m1 + q.m2, now⟩] } : Rq).R = sis q.R ++ [now] by show sis (q.R ++ _) = _; rw [sis_app]; rfl]
  exact h
theorem DY.bg2 {x : Ex} {q : Rq} {ov : Bool} {A : List Ac} {b : Nat} {w : World} {P : Nat → Prop} {now : Int} (h : DY x { q with m2 := q.m2 + 1, la := now } (numP q + 1) ov (ids q.R ++ [numP q]) (sis q.R ++ [now]) A b w P) : DX x (bgP q now 2) (numP (bgP q now 2)) A ov b w P := by
  obtain ⟨vi, vb, vo, h⟩ := h
  refine ⟨vi, vb, vo, ?_⟩
  rw [num_bg2, bg_2]
  rw [show ids ({ q with m2 := q.m2 + 1, la := now, R := q.R ++ [⟨q.m0 + q.m1 + q.m2, now⟩] } : Rq).R = ids q.R ++ [numP q] by show ids (q.R ++ _) = _; rw [ids_app]; rfl, show sis ({ q with m2 := q.m2 + 1, la := now, R := q.R ++ [⟨q.m0 + q.m1 + q.m2, now⟩] } : Rq).R = sis q.R ++ [now] by show sis (q.R ++ _) = _; rw [sis_app]; rfl]
  exact h
/-- What is done with the last of three. -/
theorem Does.in3 {A B C C' : Thing} [Ob A] [Ob B] {P : Nat → Prop} {w w1 w2 : World} (h : Does (Two A (Two B C)) P w w1) (d : ∀ P2, C w1 P2 → Does C' P2 w1 w2) : Does (Two A (Two B C')) P w w2 :=
  h.right (fun _ y => (Does.refl y).right (fun P2 z => d P2 z))
theorem Does.foc3 {A B C : Thing} [Ob A] [Ob B] {P : Nat → Prop} {w w1 : World} (h : Does (Two A (Two B C)) P w w1) : ∃ P2, C w1 P2 ∧ ∀ (C' : Thing) (w2 : World), Does C' P2 w1 w2 → Does (Two A (Two B C')) P w w2 := by
  obtain ⟨P1, y, hy⟩ := h.focR
  obtain ⟨P2, z, hz⟩ := (Does.refl y).focR
  exact ⟨P2, z, fun C' w2 d => hy _ _ (hz _ _ d)⟩
section
variable {x : Ex} {p : Rq} {A : List Ac} {b : Nat} {vi vb vo : Value} {w : World} {P : Nat → Prop}
set_option maxHeartbeats 8000000 in
set_option maxRecDepth 100000 in
theorem rfails_any (now id why : Int) (al : Bool) (h : DT x p (numP p) false (ids p.R) (sis p.R) A b vi vb vo w P) (k0 : QOk p) (hA : A.length ≤ 60) :
    Calls Try.prog 34 #[.pointer (some ⟨b, 0, none⟩), .int .i64 now, .int .i64 id, .int .i64 why, .bool al] w fun e w' => e = .returned (.tuple #[]) ∧ Does (Two (RI vi (ids p.R)) (Two (RI vb (sis p.R)) (DX x (flP p now id why al) (numP (flP p now id why al)) (A ++ flA p id why al) (flP p now id why al).R.isEmpty b))) P w w' := by
  have HE := hide (rend_any id h k0.r9)
  have HK := hide (k0.fg id)
  have hnum : numP p = numP (fgP p id) := rfl
  rw [hnum] at HE
  clear h k0 hnum
  unfold flA flP
  generalize fgP p id = q at *
  generalize ids p.R = I0 at *
  generalize sis p.R = B0 at *
  by_cases hr : q.R = []
  · have hl : (ids q.R).length = 0 := by rw [hr]; rfl
    rw [if_pos hr]
    cases hm : mayB q why al with
    | true =>
      rw [if_pos rfl, if_pos ⟨hr, rfl⟩]
      have hemp : (bgP q now 1).R.isEmpty = false := by unfold bgP; simp
      rw [hemp]
      have hq9 := HK.out.num
      have hr9 := HK.out.r9
      have hm1 := HK.out.m11
      have hm0 := HK.out.m10
      clear hr hemp
      go_enter Try.func34, Try.ntmps34
      go_wp2_with fail
      refine HE.out.mono ?_
      rintro e w1 ⟨rfl, d⟩
      have T1 := hide d
      clear d HE
      obtain ⟨P2, ⟨wi, wb, wo, y⟩, hy⟩ := T1.out.foc3
      have HY := hide hy
      have HD := hide y
      obtain ⟨c0, c1, c2, c3, c4, c5, c6, c7, c8, c9, c10, c11, c12, c13, c14, c15⟩ := y.pt.c
      obtain ⟨ai, ci, rfl, -, -⟩ := y.pt.I.shape
      have HM := hide (rmay_any why al y.pt)
      rw [hl] at c11 HD
      rw [hm] at HM
      clear y hy hl hm T1
      go_wp2_with fail
      refine HM.out.mono ?_
      rintro e w2 ⟨rfl, F⟩
      have T2 := hide (Does.still HD.out F)
      clear F HM HD c0 c1 c2 c3 c4 c5 c6 c7 c8 c9 c10 c11 c12 c13 c14 c15
      obtain ⟨_, y⟩ := T2.out.of
      obtain ⟨c0, c1, c2, c3, c4, c5, c6, c7, c8, c9, c10, c11, c12, c13, c14, c15⟩ := y.pt.c
      have z9 := y.pt.fz 9
      have T3 := hide (T2.out.trans (fun _ z => z.setN (x' := x) (p' := { q with m1 := q.m1 + 1 }) (mk' := numP q) (ov' := false) 9 (.int .i64 (q.m1 + 1)) rfl))
      clear y T2 c0 c1 c2 c3 c4 c5 c6 c7 c8 c10 c11 c12 c13 c14 c15
      go_upto_region 4 with fail
      clear c9 z9
      generalize w2.setCell _ _ = w3 at *
      obtain ⟨P3, y, hy2⟩ := T3.out.foc
      have HY2 := hide hy2
      have HMK := hide (rmake_any now 1 y (by rw [ids_len]; omega) (by rw [sis_len]; omega) (by omega) (by omega) (by omega))
      clear y hy2 T3
      go_wp2_with fail
      refine HMK.out.mono ?_
      rintro e w4 ⟨rfl, d⟩
      have T4 := hide (HY.out _ _ ((HY2.out _ _ d).trans (fun _ z => Does.refl z.bg1)))
      clear d HMK HY2 HY
      go_wp2_with fail
      exact bodyPost_ret (v := .tuple #[]) (by simp [results, Try.results34, go_sem]) rfl ⟨rfl, T4.out⟩
    | false =>
      rw [if_neg (show ¬ (false = true) by decide), if_neg (show ¬ (q.R = [] ∧ false = true) from fun y => by simp at y)]
      have hemp : q.R.isEmpty = true := by rw [hr]; rfl
      rw [hemp]
      have hidn : ids q.R = [] := by rw [hr]; rfl
      have hsn : sis q.R = [] := by rw [hr]; rfl
      have HQ : Hid (∀ (w' : World) (P' : Nat → Prop), DY x q (numP q) true [] [] (A ++ anA id (failC why)) b w' P' → DX x q (numP q) (A ++ anA id (failC why)) true b w' P') := hide (fun w' P' ⟨vi, vb, vo, y⟩ => ⟨vi, vb, vo, by rw [hidn, hsn]; exact y⟩)
      clear hr hemp hidn hsn
      have fin : ∀ (st : Int), failC why = st → Hid (anA id (failC why) = [⟨4, id, st⟩]) := fun st hst => hide (by rw [hst]; rfl)
      have hcase : (why = 2 ∧ failC why = 502) ∨ (¬ why = 2 ∧ why = 3 ∧ failC why = 504) ∨ (¬ why = 2 ∧ ¬ why = 3 ∧ failC why = 503) := by
        unfold failC
        by_cases h2 : why = 2
        · exact .inl ⟨h2, by rw [if_pos h2]⟩
        · by_cases h3 : why = 3
          · exact .inr (.inl ⟨h2, h3, by rw [if_neg h2, if_pos h3]⟩)
          · exact .inr (.inr ⟨h2, h3, by rw [if_neg h2, if_neg h3]⟩)
      obtain ⟨st, Hst⟩ : ∃ st, Hid (failC why = st) := ⟨_, hide rfl⟩
      rw [Hst.out] at hcase
      have HF := fin st Hst.out
      rw [HF.out] at HQ ⊢
      clear fin
      go_enter Try.func34, Try.ntmps34
      go_wp2_with fail
      refine HE.out.mono ?_
      rintro e w1 ⟨rfl, d⟩
      have T1 := hide d
      clear d HE
      obtain ⟨P2, ⟨wi, wb, wo, y⟩, hy⟩ := T1.out.foc3
      have HY := hide hy
      have HD := hide y
      obtain ⟨c0, c1, c2, c3, c4, c5, c6, c7, c8, c9, c10, c11, c12, c13, c14, c15⟩ := y.pt.c
      obtain ⟨ai, ci, rfl, -, -⟩ := y.pt.I.shape
      have HM := hide (rmay_any why al y.pt)
      rw [hl] at c11 HD
      rw [hm] at HM
      clear y hy hl hm T1
      go_wp2_with fail
      refine HM.out.mono ?_
      rintro e w2 ⟨rfl, F⟩
      have T2 := hide (Does.still HD.out F)
      clear F HM HD c0 c1 c2 c3 c4 c5 c6 c7 c8 c9 c10 c11 c12 c13 c14 c15
      obtain ⟨P3, y, hy2⟩ := T2.out.foc
      have HY2 := hide hy2
      have HDN := hide (rdone_any ⟨4, id, st⟩ y (by omega))
      unfold acV at HDN
      dsimp only at HDN
      clear y hy2 T2
      rcases hcase with ⟨h2, h5⟩ | ⟨h2, h3, h5⟩ | ⟨h2, h3, h5⟩
      · subst h5
        subst h2
        go_wp2_with fail
        refine HDN.out.mono ?_
        rintro e w4 ⟨rfl, d⟩
        have T4 := hide (HY.out _ _ ((HY2.out _ _ d).trans (fun _ z => Does.refl (HQ.out _ _ z))))
        clear d HDN HY2 HY
        go_wp2_with fail
        go_end0
        exact ⟨rfl, T4.out⟩
      · subst h5
        subst h3
        go_wp2_with fail
        refine HDN.out.mono ?_
        rintro e w4 ⟨rfl, d⟩
        have T4 := hide (HY.out _ _ ((HY2.out _ _ d).trans (fun _ z => Does.refl (HQ.out _ _ z))))
        clear d HDN HY2 HY
        go_wp2_with fail
        go_end0
        exact ⟨rfl, T4.out⟩
      · subst h5
        have g2 : (why == 2) = false := by simpa using h2
        have g3 : (why == 3) = false := by simpa using h3
        go_wp2_with fail
        refine HDN.out.mono ?_
        rintro e w4 ⟨rfl, d⟩
        have T4 := hide (HY.out _ _ ((HY2.out _ _ d).trans (fun _ z => Does.refl (HQ.out _ _ z))))
        clear d HDN HY2 HY
        go_wp2_with fail
        go_end0
        exact ⟨rfl, T4.out⟩
  · have hl : 0 < q.R.length := List.length_pos_iff.2 hr
    have hl3 : (ids q.R).length = q.R.length := ids_len _
    rw [if_neg hr, if_neg (fun x => hr x.1), List.append_nil, show q.R.isEmpty = false by rw [List.isEmpty_eq_false_iff]; exact hr]
    clear hr
    go_enter Try.func34, Try.ntmps34
    go_wp2_with fail
    refine HE.out.mono ?_
    rintro e w1 ⟨rfl, d⟩
    have T1 := hide d
    clear d HE
    obtain ⟨P2, ⟨wi, wb, wo, y⟩, hy⟩ := T1.out.foc3
    obtain ⟨c0, c1, c2, c3, c4, c5, c6, c7, c8, c9, c10, c11, c12, c13, c14, c15⟩ := y.pt.c
    obtain ⟨ai, ci, rfl, -, -⟩ := y.pt.I.shape
    rw [hl3] at c11
    clear y hy hl3 HK
    generalize hqn : q.R.length = n at *
    have hl2 : (0 : Int) < (n : Int) := by omega
    go_wp2_with fail
    exact bodyPost_ret (v := .tuple #[]) (by simp [results, Try.results34, go_sem]) rfl ⟨rfl, T1.out⟩
end
end Go.Proofs.Ytjfpdenakgifgaa
