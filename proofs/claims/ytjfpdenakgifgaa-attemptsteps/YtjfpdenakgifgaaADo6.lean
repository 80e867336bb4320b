/- The document's request: Head. -/
import Derived.Test.YtjfpdenakgifgaaADo5
namespace Go.Proofs.Ytjfpdenakgifgaa
open Go.ChangeShapes Go.WideShapes Go.ChangeAt Go.RowKit
set_option linter.unusedVariables false

/-! No two attempts have the same number. -/
def Nd (p : Rq) : Prop := (ids p.R).Nodup
theorem Nd.fg {p : Rq} (h : Nd p) (id : Int) : Nd (fgP p id) := nd_filter _ h
theorem Nd.lg : ∀ (l : List Int) {p : Rq}, Nd p → Nd (lgP p l)
  | [], _, h => h
  | i :: l, p, h => Nd.lg l (h.fg i)
theorem Nd.bg {p : Rq} (h : Nd p) (k : QOk p) (now kd : Int) : Nd (bgP p now kd) := by
  show (ids (p.R ++ [_])).Nodup
  unfold ids
  rw [List.map_append, List.nodup_append]
  refine ⟨h, by simp, fun a ha b hb e => ?_⟩
  subst e
  obtain ⟨r, hr, rfl⟩ := List.mem_map.1 ha
  simp at hb
  have := k.ri r hr
  omega
theorem Nd.fl {p : Rq} (h : Nd p) (k : QOk p) (now id why : Int) (al : Bool) : Nd (flP p now id why al) := by
  unfold flP
  split
  · exact (h.fg id).bg (k.fg id) now 1
  · exact h.fg id
theorem Nd.ll {now : Int} (al : Bool) (n0 : 0 ≤ now) (n1 : now ≤ 4611686018427387904) : ∀ (l : List Int) {s : Rq × List Ac}, Nd s.1 → QOk s.1 → Nd (l.foldl (llS now al) s).1
  | [], _, h, _ => h
  | i :: l, s, h, k => Nd.ll al n0 n1 l (s := llS now al s i) ((h.fg i).fl (k.fg i) now i 3 al) ((k.fg i).fl i 3 al n0 n1)
theorem Nd.hg {p : Rq} (h : Nd p) (k : QOk p) (now : Int) (al : Bool) : Nd (hgP p now al) := by
  unfold hgP
  split
  · split
    · exact h.bg k now 2
    · exact h
  · exact h
theorem Nd.ds {p : Rq} (h : Nd p) (k : QOk p) (kd now id why : Int) (al : Bool) : Nd (dsP p kd now id why al) := by
  unfold dsP
  split
  · unfold faP; split
    · exact h.fl k now id why al
    · exact h
  split
  · unfold heP; split
    · unfold heP0
      split
      · exact (h.fg id).lg _
      split
      · exact h.fg id
      split
      · exact (h.fg id).bg (k.fg id) now 1
      · exact (h.fg id).lg _
    · exact h
  · unfold tmP; split
    · rename_i x
      obtain ⟨n0, n1⟩ := mom_iff.1 x.1
      split
      · exact h.lg _
      · exact (Nd.ll al n0 n1 _ (s := (p, [])) h k).hg (QOk.ll al n0 n1 _ (s := (p, [])) k) now al
    · exact h
theorem Nd.left {p : Rq} (h : Nd p) (id : Int) (hl : 1 < p.R.length) : (fgP p id).R ≠ [] := fun e => by
  have hall : ∀ y ∈ p.R, y.id = id := fun y hy => by
    by_cases e2 : y.id = id
    · exact e2
    · have : y ∈ (fgP p id).R := fg_mem.2 ⟨hy, e2⟩
      rw [e] at this; simp at this
  unfold Nd at h
  match hR : p.R, hl, h, hall with
  | a :: b :: l, _, hnd, hall =>
    have e1 := hall a (by simp)
    have e3 := hall b (by simp)
    simp [ids] at hnd
    exact hnd.1.1 (e1.trans e3.symm)
theorem lg_eq : ∀ (l : List Int) (p : Rq), lgP p l = { p with R := (lgP p l).R }
  | [], p => rfl
  | i :: l, p => by
    show lgP (fgP p i) l = _
    rw [lg_eq l (fgP p i)]; rfl
theorem wn_eq (p : Rq) (id : Int) : wnP p id = { p with R := [] } := by
  have := lg_eq (ids (fgP p id).R) (fgP p id)
  unfold wnP
  rw [this, lg_all]; rfl
theorem lga_eq (p : Rq) : lgP p (ids p.R) = { p with R := [] } := by rw [lg_eq, lg_all]
/-- Whatever row of acts it has just now. -/
def DW (x : Ex) (p : Rq) (mk : Int) (ov : Bool) (I B : List Int) (A : List Ac) (b : Nat) (vi vb : Value) : Thing := fun w P => ∃ vo, DT x p mk ov I B A b vi vb vo w P
instance DW.ob (x : Ex) (p : Rq) (mk : Int) (ov : Bool) (I B : List Int) (A : List Ac) (b : Nat) (vi vb : Value) : Ob (DW x p mk ov I B A b vi vb) := ⟨fun w w' P Q ⟨vo, h⟩ F d => ⟨vo, Ob.fr w w' P Q h F d⟩, fun w P k ⟨vo, h⟩ hk => Ob.lt w P k h hk⟩
theorem Does.dw {x : Ex} {p : Rq} {mk : Int} {ov : Bool} {I B : List Int} {A : List Ac} {b : Nat} {vi vb vo : Value} {P : Nat → Prop} {w w' : World} (h : Does (DT x p mk ov I B A b vi vb vo) P w w') : Does (DW x p mk ov I B A b vi vb) P w w' := by
  obtain ⟨P', h1, h2, h3⟩ := h
  exact ⟨P', ⟨vo, h1⟩, h2, h3⟩
set_option maxHeartbeats 8000000 in
set_option maxRecDepth 100000 in
theorem rhead_any (x : Ex) (p : Rq) (b : Nat) (w : World) (P : Nat → Prop) (now id why : Int) (al : Bool) (h : RX x p b w P) (k0 : QOk p) (hnd : Nd p) :
    Calls Try.prog 15 #[.pointer (some ⟨b, 0, none⟩), .int .i64 now, .int .i64 id, .int .i64 why, .bool al] w fun e w' => ∃ v, e = .returned (.tuple #[v, .int .i64 (heE p now id why)]) ∧ Does (Two (RB v (heA p now id why al)) (RX x (heP p now id why al) b)) P w w' := by
  have HM := hide (moment_any now w)
  have T := hide (Does.refl h)
  have H9 := hide k0.r9
  have HK := hide k0
  have HH := hide (rruns_x id h H9.out)
  clear h k0
  cases hm : mom now with
  | false =>
    have e0 : heE p now id why = 1 := by unfold heE; rw [hm, if_neg (by decide)]
    have e2 : heA p now id why al = [] := by unfold heA; rw [e0, if_neg (by decide)]
    have e3 : heP p now id why al = p := by unfold heP; rw [e0, if_neg (by decide)]
    rw [e0, e2, e3]
    have T1 := hide T.out.nilRB
    rw [hm] at HM
    clear e0 e2 e3 HH T HK hm
    go_enter Try.func15, Try.ntmps15
    go_wp2_with (first | (go_at_call 25; refine HM.out.mono ?_; rintro e w' ⟨rfl, rfl⟩))
    go_ret2
    exact ⟨_, rfl, T1.out⟩
  | true =>
    rw [hm] at HM
    cases hh : hasB p id with
    | false =>
      have e0 : heE p now id why = 6 := by unfold heE; rw [hm, if_pos rfl, hh, if_neg (by decide)]
      have e2 : heA p now id why al = [] := by unfold heA; rw [e0, if_neg (by decide)]
      have e3 : heP p now id why al = p := by unfold heP; rw [e0, if_neg (by decide)]
      rw [e0, e2, e3]
      rw [hh] at HH
      have T1 := hide T.out.nilRB
      clear e0 e2 e3 hm hh T
      go_enter Try.func15, Try.ntmps15
      go_wp2_with (first | (go_at_call 25; refine HM.out.mono ?_; rintro e w' ⟨rfl, rfl⟩) | (go_at_call 33; refine HH.out.mono ?_; rintro e w' ⟨rfl, rfl⟩))
      go_ret2
      exact ⟨_, rfl, T1.out⟩
    | true =>
      rw [hh] at HH
      have hne := has_ne hh
      by_cases hs : 200 ≤ why ∧ why ≤ 599
      · have e0 : heE p now id why = 0 := by unfold heE; rw [hm, if_pos rfl, hh, if_pos rfl, if_pos hs]
        have e2 : heA p now id why al = heA0 p id why al := by unfold heA; rw [e0, if_pos rfl]
        have e3 : heP p now id why al = heP0 p now id why al := by unfold heP; rw [e0, if_pos rfl]
        rw [e0, e2, e3]
        obtain ⟨s0, s1⟩ := hs
        have hd : decide (why < 200) = false := decide_eq_false (by omega)
        have hd2 : decide (599 < why) = false := decide_eq_false (by omega)
        have hie : p.R.isEmpty = false := by rw [List.isEmpty_eq_false_iff]; exact hne
        have hlp : 0 < p.R.length := List.length_pos_iff.2 hne
        clear e0 e2 e3 hm hh
        obtain ⟨P2, y, hy⟩ := T.out.foc
        have HY := hide hy
        unfold RX at y
        rw [hie] at y
        obtain ⟨vi, vb, vo, y⟩ := y
        have HD := hide y
        clear y hy T
        -- whether it is bad
        have HBAD : Hid ((badB why = true ∧ ((why == 502) = true ∨ ((why == 502) = false ∧ (why == 503) = true) ∨ ((why == 502) = false ∧ (why == 503) = false ∧ (why == 504) = true))) ∨ (badB why = false ∧ (why == 502) = false ∧ (why == 503) = false ∧ (why == 504) = false)) := hide (by
          unfold badB
          cases (why == 502) <;> cases (why == 503) <;> cases (why == 504) <;> simp)
        have WIN : Hid (∀ (P0 : Nat → Prop) (w0 : World) (v : Value) (w' : World), Does (Two (RB v (lgA (ids (fgP p id).R) ++ [⟨3, id, 0⟩])) (DX x (wnP p id) (numP p) [] true b)) P0 w0 w' → Does (Two (RB v (wnA p id)) (RX x (wnP p id) b)) P0 w0 w') := hide (fun P0 w0 v w' d => by
          have e1 : numP (wnP p id) = numP p := by rw [wn_eq]; rfl
          have e2 : (wnP p id).R.isEmpty = true := by rw [wn_R]; rfl
          unfold RX
          rw [e1, e2]
          exact d)
        have BAD2 : Hid (badB why = true → 1 < p.R.length → heA0 p id why al = lgA [id] ∧ heP0 p now id why al = fgP p id) := hide (fun hb hl => by unfold heA0 heP0; simp [hb, hl])
        have BAD1 : Hid (badB why = true → ¬ 1 < p.R.length → mayB p 5 al = true → heA0 p id why al = lgA [id] ++ bgA (fgP p id) 1 ∧ heP0 p now id why al = bgP (fgP p id) now 1) := hide (fun hb hl hm => by unfold heA0 heP0; simp only [hb, hm]; rw [if_neg hl, if_neg hl]; simp)
        have GOOD : Hid ((badB why = false ∨ (¬ 1 < p.R.length ∧ mayB p 5 al = false)) → heA0 p id why al = wnA p id ∧ heP0 p now id why al = wnP p id) := hide (fun hg => by
          unfold heA0 heP0
          rcases hg with hb | ⟨hl, hm⟩
          · simp [hb]
          · cases hb : badB why with
            | false => simp
            | true => rw [if_neg hl, if_neg hl]; simp [hm])
        obtain ⟨bb, Hbb⟩ : ∃ bb, Hid (badB why = bb) := ⟨_, hide rfl⟩
        rw [Hbb.out] at HBAD BAD2 BAD1 GOOD
        obtain ⟨hA2, hA2e⟩ : ∃ A0, Hid (heA0 p id why al = A0) := ⟨_, hide rfl⟩
        obtain ⟨hP2, hP2e⟩ : ∃ P0, Hid (heP0 p now id why al = P0) := ⟨_, hide rfl⟩
        rw [hA2e.out, hP2e.out]
        rw [hA2e.out, hP2e.out] at BAD2 BAD1 GOOD
        go_enter Try.func15, Try.ntmps15
        go_upto_region 7 with (first | (go_at_call 25; refine HM.out.mono ?_; rintro e w' ⟨rfl, rfl⟩) | (go_at_call 33; refine HH.out.mono ?_; rintro e w' ⟨rfl, rfl⟩))
        go_cut [12] from 28 to 37 (fun v wc => v = .bool bb ∧ w = wc)
        case first =>
          rcases HBAD.out with ⟨hb, h1 | ⟨h1, h2⟩ | ⟨h1, h2, h3⟩⟩ | ⟨hb, h1, h2, h3⟩
          all_goals
            subst hb
            go_wp2_with fail
            go_meet
            exact ⟨rfl, rfl⟩
        case rest =>
        obtain ⟨rfl, rfl⟩ := hcut
        clear HBAD hd hd2 HM HH
        have q := HD.out.pt
        obtain ⟨c0, c1, c2, c3, c4, c5, c6, c7, c8, c9, c10, c11, c12, c13, c14, c15⟩ := q.c
        obtain ⟨ai, ci, rfl, hi0, hi1⟩ := q.I.shape
        obtain ⟨ao, co, rfl, ho0, ho1⟩ := q.A.shape
        have HQ := hide q
        clear q
        obtain ⟨n, Hn⟩ : ∃ n, Hid (p.R.length = n) := ⟨_, hide rfl⟩
        have Hi : Hid ((ids p.R).length = n) := hide (by rw [ids_len, Hn.out])
        rw [Hi.out] at c11 HQ HD hi0
        rw [Hn.out] at BAD2 BAD1 GOOD hlp
        rw [List.length_nil] at c15
        by_cases hc1 : bb = true ∧ 1 < n
        · obtain ⟨rfl, hl⟩ := hc1
          obtain ⟨rfl, rfl⟩ := BAD2.out rfl hl
          have hl2 : (1 : Int) < (n : Int) := by omega
          have hleft := hnd.left id (by rw [Hn.out]; exact hl)
          go_wp2_with (at_builtin; apply Hid.out)
          unfold Hid
          refine wpList_append_rw infRac rfl _ _ rfl w (.slice ao 0 co) 0 _ (encA ⟨2, id, 0⟩) rfl (by simp [Act.eval, go_sem]) HQ.out.A rfl (by omega) (by omega) ?_
          intro v' w4 q1 F o
          obtain ⟨a4, cap4, rfl, -, -⟩ := q1.shape
          have k15 : w4.cell? ⟨b, 15, none⟩ = some (.slice ao 0 co) := cell_of (F.hd HQ.out.nA HQ.out.B0) 15
          have z15 : w4.frozen? ⟨b, 15, none⟩ = false := frozen_of (F.hd HQ.out.nA HQ.out.B0) 15
          have T2 : Hid (Does (DT x p (numP p) false (ids p.R) (sis p.R) [⟨2, id, 0⟩] b (.slice ai n ci) vb (.slice a4 (0 + 1) cap4)) P2 w (w4.setCell ⟨b, 15, none⟩ (.slice a4 (0 + 1) cap4))) := hide (HD.out.setA (A' := [⟨2, id, 0⟩]) (by exact q1) F o)
          clear q1 F o HD HQ c0 c1 c2 c3 c4 c5 c6 c7 c8 c9 c10 c11 c12 c13 c14 c15
          go_upto_region 10 with fail
          clear k15 z15
          generalize w4.setCell _ _ = w5 at *
          clear BAD2 BAD1 GOOD WIN
          have T2' := T2.out
          obtain ⟨P4, y, hy⟩ := T2'.foc
          have HY4 := hide hy
          have HE := hide (rend_any id y H9.out)
          clear y hy T2 T2'
          go_wp2_with fail
          refine HE.out.mono ?_
          rintro e w6 ⟨rfl, d⟩
          have T3 := hide (HY4.out _ _ d).snd.snd
          clear d HE HY4
          obtain ⟨P5, y, hy⟩ := T3.out.foc
          have HY5 := hide hy
          have HTD := hide (rtold_x y)
          clear y hy T3
          go_wp2_with fail
          refine HTD.out.mono ?_
          rintro e w7 ⟨v, rfl, d⟩
          have T4 : Hid (Does (Two (RB v (lgA [id])) (RX x (fgP p id) b)) P2 w w7) := hide (by
            have := HY5.out _ _ d
            unfold RX
            rw [show (fgP p id).R.isEmpty = false by rw [List.isEmpty_eq_false_iff]; exact hleft]
            exact this)
          clear d HTD HY5
          go_wp2_with fail
          go_ret2
          exact ⟨_, rfl, HY.out _ _ T4.out⟩
        · cases bb with
          | true =>
            have hl : ¬ 1 < n := fun y => hc1 ⟨rfl, y⟩
            have hl2 : ¬ (1 : Int) < (n : Int) := by omega
            have HMY := hide (rmay_any 5 al HQ.out)
            cases hm : mayB p 5 al with
            | true =>
              obtain ⟨rfl, rfl⟩ := BAD1.out rfl hl hm
              rw [hm] at HMY
              clear BAD2 BAD1 GOOD WIN hm
              go_wp2_with fail
              refine HMY.out.mono ?_
              rintro e w2 ⟨rfl, F2⟩
              have TA := hide (Does.still HD.out F2)
              have HQ2 := hide (HQ.out.fr F2)
              clear F2 HMY HD HQ c0 c1 c2 c3 c4 c5 c6 c7 c8 c9 c10 c11 c12 c13 c14 c15
              have k15 : w2.cell? ⟨b, 15, none⟩ = some (.slice ao 0 co) := HQ2.out.c.2.2.2.2.2.2.2.2.2.2.2.2.2.2.2
              go_wp2_with (at_builtin; apply Hid.out)
              unfold Hid
              refine wpList_append_rw infRac rfl _ _ rfl w2 (.slice ao 0 co) 0 _ (encA ⟨2, id, 0⟩) rfl (by simp [Act.eval, go_sem]) HQ2.out.A rfl (by omega) (by omega) ?_
              intro v' w4 q1 F o
              obtain ⟨a4, cap4, rfl, -, -⟩ := q1.shape
              have k15' : w4.cell? ⟨b, 15, none⟩ = some (.slice ao 0 co) := cell_of (F.hd HQ2.out.nA HQ2.out.B0) 15
              have z15' : w4.frozen? ⟨b, 15, none⟩ = false := frozen_of (F.hd HQ2.out.nA HQ2.out.B0) 15
              have T2 : Hid (Does (DT x p (numP p) false (ids p.R) (sis p.R) [⟨2, id, 0⟩] b (.slice ai n ci) vb (.slice a4 (0 + 1) cap4)) P2 w (w4.setCell ⟨b, 15, none⟩ (.slice a4 (0 + 1) cap4))) := hide (TA.out.trans (fun _ z => z.setA (A' := [⟨2, id, 0⟩]) (by exact q1) F o))
              clear q1 F o TA HQ2 k15
              go_upto_region 14 with fail
              clear k15' z15'
              generalize w4.setCell _ _ = w5 at *
              obtain ⟨P4, y, hy⟩ := T2.out.foc
              have HY4 := hide hy
              have HE := hide (rend_any id y H9.out)
              clear y hy T2
              go_wp2_with fail
              refine HE.out.mono ?_
              rintro e w6 ⟨rfl, d⟩
              have T3 := hide (HY4.out _ _ d).snd.snd
              clear d HE HY4
              obtain ⟨P5, ⟨wi, wb, wo, y⟩, hy⟩ := T3.out.foc
              have HY5 := hide hy
              obtain ⟨c0, c1, c2, c3, c4, c5, c6, c7, c8, c9, c10, c11, c12, c13, c14, c15⟩ := y.pt.c
              have z9 := y.pt.fz 9
              have hm1 : (fgP p id).m1 ≤ 5 := HK.out.m11
              have hm10 : 0 ≤ (fgP p id).m1 := HK.out.m10
              have hq9 := HK.out.num
              have hr9 := (HK.out.fg id).r9
              have T4 := hide (Does.trans (Does.refl y) (fun _ z => z.setN (x' := x) (p' := { fgP p id with m1 := (fgP p id).m1 + 1 }) (mk' := numP p) (ov' := false) 9 (.int .i64 ((fgP p id).m1 + 1)) rfl))
              clear y hy T3 c0 c1 c2 c3 c4 c5 c6 c7 c8 c10 c11 c12 c13 c14 c15
              go_upto_region 16 with fail
              clear c9 z9
              generalize w6.setCell _ _ = w7 at *
              obtain ⟨P6, y, hy⟩ := T4.out.foc
              have HY6 := hide hy
              have HMK := hide (rmake_any now 1 y (by rw [ids_len]; omega) (by rw [sis_len]; omega) (by simp) (by omega) (by omega))
              clear y hy T4
              go_wp2_with fail
              refine HMK.out.mono ?_
              rintro e w8 ⟨rfl, d⟩
              have T5 := hide (HY5.out _ _ ((HY6.out _ _ d).trans (fun Pz (z : DY x { fgP p id with m1 := (fgP p id).m1 + 1, la := now } (numP (fgP p id) + 1) false (ids (fgP p id).R ++ [numP (fgP p id)]) (sis (fgP p id).R ++ [now]) _ b _ Pz) => Does.refl (DY.bg1 z))))
              clear d HMK HY6 HY5
              obtain ⟨P5, y, hy⟩ := T5.out.foc
              have HY5 := hide hy
              have HTD := hide (rtold_x y)
              clear y hy T5
              go_wp2_with fail
              refine HTD.out.mono ?_
              rintro e w9 ⟨v, rfl, d⟩
              have T6 : Hid (Does (Two (RB v (lgA [id] ++ bgA (fgP p id) 1)) (RX x (bgP (fgP p id) now 1) b)) P2 w w9) := hide (by
                have := HY5.out _ _ d
                unfold RX
                rw [show (bgP (fgP p id) now 1).R.isEmpty = false by unfold bgP; simp]
                exact this)
              clear d HTD HY5
              go_wp2_with fail
              go_ret2
              exact ⟨_, rfl, HY.out _ _ T6.out⟩
            | false =>
              obtain ⟨rfl, rfl⟩ := GOOD.out (.inr ⟨hl, hm⟩)
              rw [hm] at HMY
              clear BAD2 BAD1 GOOD hm
              go_wp2_with fail
              refine HMY.out.mono ?_
              rintro e w2 ⟨rfl, F2⟩
              have TT := hide (Does.still HD.out F2)
              have k11 : w2.cell? ⟨b, 11, none⟩ = some (.slice ai n ci) := (HQ.out.fr F2).c.2.2.2.2.2.2.2.2.2.2.2.1
              clear F2 HMY HD HQ c0 c1 c2 c3 c4 c5 c6 c7 c8 c9 c10 c11 c12 c13 c14 c15
              have HL0 : Hid (Does (DW x p (numP p) false (ids p.R) (sis p.R) (lgA (ids (noId id (p.R.take 0)))) b (.slice ai n ci) vb) P2 w w2) := hide TT.out.dw
              clear TT
              go_wp2_with fail
              go_loopw [101] (fun v wr => ∃ k : Nat, k ≤ n ∧ v = .int .i64 (k : Int) ∧ Hid (Does (DW x p (numP p) false (ids p.R) (sis p.R) (lgA (ids (noId id (p.R.take k)))) b (.slice ai n ci) vb) P2 w wr)) (fun v _ => n - (intOf v).toNat)
              case atStart => exact ⟨0, Nat.zero_le _, rfl, HL0⟩
              case round =>
                clear HL0
                obtain ⟨k, hk, rfl, HI⟩ := hrel
                obtain ⟨Px, ⟨vo2, y⟩, hy⟩ := HI.out.foc
                have HY3 := hide hy
                have HD3 := hide y
                have HQ3 := hide y.pt
                obtain ⟨ao3, co3, rfl, -, -⟩ := y.pt.A.shape
                have hml := noId_tl id p.R k
                obtain ⟨m, Hm⟩ : ∃ m, Hid ((lgA (ids (noId id (p.R.take k)))).length = m) := ⟨_, hide rfl⟩
                have hm9 : m ≤ 9 := by rw [← Hm.out, lgA_len, ids_len]; have := H9.out; rw [Hn.out] at this; omega
                rw [Hm.out] at HD3 HQ3
                clear y hy HI hml
                by_cases hlt : k < n
                · have hkl : k < p.R.length := by rw [Hn.out]; exact hlt
                  have hr := get_ok hkl
                  have hri : (ids p.R)[k]? = some p.R[k].id := by unfold ids; rw [List.getElem?_map, hr]; rfl
                  have HNT := hide (noId_take id hr)
                  obtain ⟨g1, off, cap1, e, -, -, r0⟩ := int_cell HQ3.out.I hri
                  rw [Hi.out] at e
                  simp only [Value.slice.injEq] at e
                  obtain ⟨rfl, -, rfl⟩ := e
                  have k15 : wr.cell? ⟨b, 15, none⟩ = some (.slice ao3 m co3) := HQ3.out.c.2.2.2.2.2.2.2.2.2.2.2.2.2.2.2
                  generalize p.R[k] = r at *
                  clear hr hkl hri
                  by_cases hid : r.id = id
                  · have hN : isN id r = true := by unfold isN; simpa using hid
                    have hne2 : (r.id != id) = false := by rw [hid]; simp
                    have T6 : Hid (Does (DW x p (numP p) false (ids p.R) (sis p.R) (lgA (ids (noId id (p.R.take (k + 1))))) b (.slice (some ⟨g1, off, none⟩) n ci) vb) P2 w wr) := hide (by rw [HNT.out, hN, if_pos rfl, List.append_nil]; exact HY3.out _ _ (Does.refl HD3.out).dw)
                    clear hN HNT HY3 HD3 HQ3 hid
                    go_wp2_with fail
                    go_roundw
                    case rel => exact ⟨k + 1, by omega, by go_num, T6⟩
                    case measure => simp [intOf]; omega
                  · have hN : isN id r = false := by unfold isN; simpa using hid
                    have hne2 : (r.id != id) = true := by simpa using hid
                    have HT : Hid (lgA (ids (noId id (p.R.take (k + 1)))) = lgA (ids (noId id (p.R.take k))) ++ [⟨2, r.id, 0⟩]) := hide (by rw [HNT.out, hN, if_neg (by decide), ids_app]; unfold lgA; rw [List.map_append]; rfl)
                    have HSA : Hid (Rw 66 3 wr (.slice ao3 m co3) m (fl encA (lgA (ids (noId id (p.R.take k)))))) := hide (by have := HQ3.out.A; rw [Hm.out] at this; exact this)
                    clear hN HNT
                    go_wp2_with (at_builtin; apply Hid.out)
                    unfold Hid
                    refine wpList_append_rw infRac rfl _ _ rfl wr (.slice ao3 m co3) m _ (encA ⟨2, r.id, 0⟩) rfl (by simp [Act.eval, go_sem]) HSA.out rfl (by omega) (by omega) ?_
                    intro v' w4 q1 F o
                    obtain ⟨a4, cap4, rfl, -, -⟩ := q1.shape
                    have k15' : w4.cell? ⟨b, 15, none⟩ = some (.slice ao3 m co3) := cell_of (F.hd HQ3.out.nA HQ3.out.B0) 15
                    have z15' : w4.frozen? ⟨b, 15, none⟩ = false := frozen_of (F.hd HQ3.out.nA HQ3.out.B0) 15
                    have T6 : Hid (Does (DW x p (numP p) false (ids p.R) (sis p.R) (lgA (ids (noId id (p.R.take (k + 1))))) b (.slice (some ⟨g1, off, none⟩) n ci) vb) P2 w (w4.setCell ⟨b, 15, none⟩ (.slice a4 (m + 1) cap4))) := hide (by
                      rw [HT.out]
                      exact HY3.out _ _ (HD3.out.setA (A' := lgA (ids (noId id (p.R.take k))) ++ [⟨2, r.id, 0⟩]) (by rw [fl_app, List.length_append, Hm.out]; exact q1) F o).dw)
                    clear q1 F o HSA HY3 HD3 HQ3 r0 k15
                    go_upto_region 23 with fail
                    clear k15' z15'
                    generalize w4.setCell _ _ = w5 at *
                    go_wp2_with fail
                    go_roundw
                    case rel => exact ⟨k + 1, by omega, by go_num, T6⟩
                    case measure => simp [intOf]; omega
                · obtain rfl : k = n := by omega
                  have etk : p.R.take k = p.R := by rw [← Hn.out]; exact List.take_length
                  rw [etk] at HD3 Hm
                  have HDN := hide (rdone_any ⟨3, id, 0⟩ HD3.out (by rw [Hm.out]; omega))
                  unfold acV at HDN
                  dsimp only at HDN
                  clear HD3 HQ3
                  go_wp2_with fail
                  refine HDN.out.mono ?_
                  rintro e w6 ⟨rfl, d⟩
                  have T3 : Hid (Does (DX x (wnP p id) (numP p) (lgA (ids (fgP p id).R) ++ [⟨3, id, 0⟩]) true b) P2 w w6) := hide ((HY3.out _ _ d).trans (fun Pz z => Does.refl (by
                    obtain ⟨vi, vb, vo, z⟩ := z
                    exact ⟨vi, vb, vo, by rw [wn_eq]; exact z⟩)))
                  clear d HDN HY3
                  obtain ⟨P5, y, hy⟩ := T3.out.foc
                  have HY5 := hide hy
                  have HTD := hide (rtold_x y)
                  clear y hy T3
                  go_wp2_with fail
                  refine HTD.out.mono ?_
                  rintro e w7 ⟨v, rfl, d⟩
                  have T4 := hide (WIN.out _ _ _ _ (HY5.out _ _ d))
                  clear d HTD HY5
                  go_wp2_with fail
                  go_ret2
                  exact ⟨_, rfl, HY.out _ _ T4.out⟩
          | false =>
            obtain ⟨rfl, rfl⟩ := GOOD.out (.inl rfl)
            have TT := hide (Does.refl HD.out)
            clear BAD2 BAD1 GOOD HD HQ c0 c1 c2 c3 c4 c5 c6 c7 c8 c9 c10 c12 c13 c14 c15
            have HL0 : Hid (Does (DW x p (numP p) false (ids p.R) (sis p.R) (lgA (ids (noId id (p.R.take 0)))) b (.slice ai n ci) vb) P2 w w) := hide TT.out.dw
            clear TT
            go_wp2_with fail
            go_loopw [101] (fun v wr => ∃ k : Nat, k ≤ n ∧ v = .int .i64 (k : Int) ∧ Hid (Does (DW x p (numP p) false (ids p.R) (sis p.R) (lgA (ids (noId id (p.R.take k)))) b (.slice ai n ci) vb) P2 w wr)) (fun v _ => n - (intOf v).toNat)
            case atStart => exact ⟨0, Nat.zero_le _, rfl, HL0⟩
            case round =>
              clear HL0
              obtain ⟨k, hk, rfl, HI⟩ := hrel
              obtain ⟨Px, ⟨vo2, y⟩, hy⟩ := HI.out.foc
              have HY3 := hide hy
              have HD3 := hide y
              have HQ3 := hide y.pt
              obtain ⟨ao3, co3, rfl, -, -⟩ := y.pt.A.shape
              have hml := noId_tl id p.R k
              obtain ⟨m, Hm⟩ : ∃ m, Hid ((lgA (ids (noId id (p.R.take k)))).length = m) := ⟨_, hide rfl⟩
              have hm9 : m ≤ 9 := by rw [← Hm.out, lgA_len, ids_len]; have := H9.out; rw [Hn.out] at this; omega
              rw [Hm.out] at HD3 HQ3
              clear y hy HI hml
              by_cases hlt : k < n
              · have hkl : k < p.R.length := by rw [Hn.out]; exact hlt
                have hr := get_ok hkl
                have hri : (ids p.R)[k]? = some p.R[k].id := by unfold ids; rw [List.getElem?_map, hr]; rfl
                have HNT := hide (noId_take id hr)
                obtain ⟨g1, off, cap1, e, -, -, r0⟩ := int_cell HQ3.out.I hri
                rw [Hi.out] at e
                simp only [Value.slice.injEq] at e
                obtain ⟨rfl, -, rfl⟩ := e
                have k15 : wr.cell? ⟨b, 15, none⟩ = some (.slice ao3 m co3) := HQ3.out.c.2.2.2.2.2.2.2.2.2.2.2.2.2.2.2
                generalize p.R[k] = r at *
                clear hr hkl hri
                by_cases hid : r.id = id
                · have hN : isN id r = true := by unfold isN; simpa using hid
                  have hne2 : (r.id != id) = false := by rw [hid]; simp
                  have T6 : Hid (Does (DW x p (numP p) false (ids p.R) (sis p.R) (lgA (ids (noId id (p.R.take (k + 1))))) b (.slice (some ⟨g1, off, none⟩) n ci) vb) P2 w wr) := hide (by rw [HNT.out, hN, if_pos rfl, List.append_nil]; exact HY3.out _ _ (Does.refl HD3.out).dw)
                  clear hN HNT HY3 HD3 HQ3 hid
                  go_wp2_with fail
                  go_roundw
                  case rel => exact ⟨k + 1, by omega, by go_num, T6⟩
                  case measure => simp [intOf]; omega
                · have hN : isN id r = false := by unfold isN; simpa using hid
                  have hne2 : (r.id != id) = true := by simpa using hid
                  have HT : Hid (lgA (ids (noId id (p.R.take (k + 1)))) = lgA (ids (noId id (p.R.take k))) ++ [⟨2, r.id, 0⟩]) := hide (by rw [HNT.out, hN, if_neg (by decide), ids_app]; unfold lgA; rw [List.map_append]; rfl)
                  have HSA : Hid (Rw 66 3 wr (.slice ao3 m co3) m (fl encA (lgA (ids (noId id (p.R.take k)))))) := hide (by have := HQ3.out.A; rw [Hm.out] at this; exact this)
                  clear hN HNT
                  go_wp2_with (at_builtin; apply Hid.out)
                  unfold Hid
                  refine wpList_append_rw infRac rfl _ _ rfl wr (.slice ao3 m co3) m _ (encA ⟨2, r.id, 0⟩) rfl (by simp [Act.eval, go_sem]) HSA.out rfl (by omega) (by omega) ?_
                  intro v' w4 q1 F o
                  obtain ⟨a4, cap4, rfl, -, -⟩ := q1.shape
                  have k15' : w4.cell? ⟨b, 15, none⟩ = some (.slice ao3 m co3) := cell_of (F.hd HQ3.out.nA HQ3.out.B0) 15
                  have z15' : w4.frozen? ⟨b, 15, none⟩ = false := frozen_of (F.hd HQ3.out.nA HQ3.out.B0) 15
                  have T6 : Hid (Does (DW x p (numP p) false (ids p.R) (sis p.R) (lgA (ids (noId id (p.R.take (k + 1))))) b (.slice (some ⟨g1, off, none⟩) n ci) vb) P2 w (w4.setCell ⟨b, 15, none⟩ (.slice a4 (m + 1) cap4))) := hide (by
                    rw [HT.out]
                    exact HY3.out _ _ (HD3.out.setA (A' := lgA (ids (noId id (p.R.take k))) ++ [⟨2, r.id, 0⟩]) (by rw [fl_app, List.length_append, Hm.out]; exact q1) F o).dw)
                  clear q1 F o HSA HY3 HD3 HQ3 r0 k15
                  go_upto_region 23 with fail
                  clear k15' z15'
                  generalize w4.setCell _ _ = w5 at *
                  go_wp2_with fail
                  go_roundw
                  case rel => exact ⟨k + 1, by omega, by go_num, T6⟩
                  case measure => simp [intOf]; omega
              · obtain rfl : k = n := by omega
                have etk : p.R.take k = p.R := by rw [← Hn.out]; exact List.take_length
                rw [etk] at HD3 Hm
                have HDN := hide (rdone_any ⟨3, id, 0⟩ HD3.out (by rw [Hm.out]; omega))
                unfold acV at HDN
                dsimp only at HDN
                clear HD3 HQ3
                go_wp2_with fail
                refine HDN.out.mono ?_
                rintro e w6 ⟨rfl, d⟩
                have T3 : Hid (Does (DX x (wnP p id) (numP p) (lgA (ids (fgP p id).R) ++ [⟨3, id, 0⟩]) true b) P2 w w6) := hide ((HY3.out _ _ d).trans (fun Pz z => Does.refl (by
                  obtain ⟨vi, vb, vo, z⟩ := z
                  exact ⟨vi, vb, vo, by rw [wn_eq]; exact z⟩)))
                clear d HDN HY3
                obtain ⟨P5, y, hy⟩ := T3.out.foc
                have HY5 := hide hy
                have HTD := hide (rtold_x y)
                clear y hy T3
                go_wp2_with fail
                refine HTD.out.mono ?_
                rintro e w7 ⟨v, rfl, d⟩
                have T4 := hide (WIN.out _ _ _ _ (HY5.out _ _ d))
                clear d HTD HY5
                go_wp2_with fail
                go_ret2
                exact ⟨_, rfl, HY.out _ _ T4.out⟩
      · have e0 : heE p now id why = 1 := by unfold heE; rw [hm, if_pos rfl, hh, if_pos rfl, if_neg hs]
        have e2 : heA p now id why al = [] := by unfold heA; rw [e0, if_neg (by decide)]
        have e3 : heP p now id why al = p := by unfold heP; rw [e0, if_neg (by decide)]
        rw [e0, e2, e3]
        have T1 := hide T.out.nilRB
        clear e0 e2 e3 hm hh T
        by_cases s0 : why < 200
        · have hd : decide (why < 200) = true := decide_eq_true s0
          clear hs
          go_enter Try.func15, Try.ntmps15
          go_wp2_with (first | (go_at_call 25; refine HM.out.mono ?_; rintro e w' ⟨rfl, rfl⟩) | (go_at_call 33; refine HH.out.mono ?_; rintro e w' ⟨rfl, rfl⟩))
          go_ret2
          exact ⟨_, rfl, T1.out⟩
        · have hd : decide (why < 200) = false := decide_eq_false s0
          have hd2 : decide (599 < why) = true := decide_eq_true (by omega)
          clear hs
          go_enter Try.func15, Try.ntmps15
          go_wp2_with (first | (go_at_call 25; refine HM.out.mono ?_; rintro e w' ⟨rfl, rfl⟩) | (go_at_call 33; refine HH.out.mono ?_; rintro e w' ⟨rfl, rfl⟩))
          go_ret2
          exact ⟨_, rfl, T1.out⟩
end Go.Proofs.Ytjfpdenakgifgaa
