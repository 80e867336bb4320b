/- Who waits is served. -/
import Derived.Test.YtgeneknaekoinaaUGv2
namespace Go.Proofs.Ytgeneknaekoinaa
open Go.ChangeShapes Go.WideShapes Go.ChangeAt Go.RowKit
set_option linter.unusedVariables false

theorem Does.focR {A B : Thing} [Ob A] {P : Nat → Prop} {w w1 : World} (h : Does (Two A B) P w w1) : ∃ P2, B w1 P2 ∧ ∀ (B' : Thing) (w2 : World), Does B' P2 w1 w2 → Does (Two A B') P w w2 := by
  obtain ⟨P', hT, h2, h3⟩ := h
  obtain ⟨P2, hb, hk⟩ := Two.right hT
  exact ⟨P2, hb, fun B' w2 d => Does.more h2 h3 (hk _ _ d)⟩
theorem Does.focL {A B : Thing} [Ob B] {P : Nat → Prop} {w w1 : World} (h : Does (Two A B) P w w1) : ∃ P2, A w1 P2 ∧ ∀ (A' : Thing) (w2 : World), Does A' P2 w1 w2 → Does (Two A' B) P w w2 := by
  obtain ⟨P', hT, h2, h3⟩ := h
  obtain ⟨P2, hb, hk⟩ := Two.left hT
  exact ⟨P2, hb, fun B' w2 d => Does.more h2 h3 (hk _ _ d)⟩
theorem Does.foc {A : Thing} {P : Nat → Prop} {w w1 : World} (h : Does A P w w1) : ∃ P2, A w1 P2 ∧ ∀ (A' : Thing) (w2 : World), Does A' P2 w1 w2 → Does A' P w w2 := by
  obtain ⟨P', hT, h2, h3⟩ := h
  exact ⟨P', hT, fun B' w2 d => Does.more h2 h3 d⟩
/-- An act's row. -/
abbrev RA (v : Value) (A : List Ac) : Thing := RT 49 3 v A.length (fl encA A)
theorem gv_Q (p : Pm) (now who : Int) : (gvP p now who).Q = p.Q := by unfold gvP; split; split <;> rfl; rfl
theorem gv_no {p : Pm} {now who : Int} (h : gvB p now = false) : gvP p now who = p := by
  unfold gvB at h
  rw [decide_eq_false_iff_not] at h
  unfold gvP
  rw [if_pos (Classical.byContradiction fun x => h (.inl x)), if_pos (by omega)]
section
variable {p : Pm} {K : Int}
theorem POk.more (h : POk p K) {K' : Int} (hk : K ≤ K') : POk p K' := { h with ask1 := by have := h.ask1; omega, res1 := by have := h.res1; omega }
theorem POk.q (h : POk p K) (Q : List Int) (hq : Q.length ≤ p.Q.length) : POk { p with Q := Q } K := { h with ask1 := by have := h.ask1; dsimp only; omega, wait := by have := h.wait; dsimp only; omega }
theorem rok_set {R : List Rk} {i : Nat} {s : Rk} {X : Rk → Prop} (h : ∀ r ∈ R, X r) (hs : X s) : ∀ r ∈ R.set i s, X r := fun r hr => by
  rcases List.mem_or_eq_of_mem_set hr with x | x
  · exact h r x
  · rw [x]; exact hs
theorem POk.give (h : POk p K) {now who : Int} (hm : mom now = true) : POk (gvP p now who) (K + 1) := by
  rw [mom_iff] at hm
  have := h.ask1
  have := h.ask0
  have := h.res1
  rcases lat_cases p now with hi | ⟨i, r, hi, hr⟩
  · by_cases hf : p.cap ≤ (p.R.length : Int)
    · have e3 : gvP p now who = p := by unfold gvP; rw [if_pos hi, if_pos hf]
      rw [e3]
      exact h.more (by omega)
    · have e3 : gvP p now who = { p with asked := p.asked + 1, R := p.R ++ [⟨p.asked, 0, who, now, 0, 0⟩] } := by unfold gvP; rw [if_pos hi, if_neg hf]
      rw [e3]
      refine { h with ask0 := by dsimp only; omega, ask1 := by dsimp only; omega, res1 := by dsimp only; omega, len := by dsimp only; rw [List.length_append]; simp; omega, rows := fun r hr => ?_ }
      rcases List.mem_append.1 hr with x | x
      · exact h.rows r x
      · simp at x
        subst x
        exact ⟨hm, by dsimp only; omega, by dsimp only; omega⟩
  · have hn : ¬ lat p now = -1 := by rw [hi]; omega
    have hg : p.R.getD (lat p now).toNat ⟨0, 0, 0, 0, 0, 0⟩ = r := by rw [hi, Int.toNat_natCast, List.getD_eq_getElem?_getD, hr]; rfl
    have e3 : gvP p now who = { p with R := p.R.set i (reR r who) } := by unfold gvP; rw [if_neg hn, hg, hi, Int.toNat_natCast]
    rw [e3]
    have hb := (h.rows r (List.mem_of_getElem? hr)).1
    refine { h with ask1 := by dsimp only; omega, res1 := by dsimp only; omega, len := by dsimp only; rw [List.length_set]; exact h.len, rows := rok_set h.rows ⟨hb, by unfold reR; dsimp only; omega, by unfold reR; dsimp only; omega⟩ }
end
/-- Who waits is served: the acts, and what the pool is then. -/
def sv (now : Int) : List Int → Pm → List Ac × Pm
  | [], p => ([], { p with Q := [] })
  | q :: Q, p => if gvB p now then (gvA p now q :: (sv now Q { gvP p now q with Q := Q }).1, (sv now Q { gvP p now q with Q := Q }).2) else ([], { p with Q := q :: Q })
def svA (p : Pm) (now : Int) : List Ac := (sv now p.Q p).1
def svP (p : Pm) (now : Int) : Pm := (sv now p.Q p).2
theorem pm_q (p : Pm) : { p with Q := p.Q } = p := rfl
theorem sv_nil {p : Pm} {now : Int} (h : p.Q = []) : svA p now = [] ∧ svP p now = p := by
  unfold svA svP; rw [h]; refine ⟨rfl, ?_⟩
  show { p with Q := [] } = p
  rw [← h]
theorem sv_stop {p : Pm} {now : Int} (h : gvB p now = false) : svA p now = [] ∧ svP p now = p := by
  unfold svA svP
  cases hq : p.Q with
  | nil => refine ⟨rfl, ?_⟩; show { p with Q := [] } = p; rw [← hq]
  | cons q Q =>
    unfold sv
    rw [h]
    refine ⟨rfl, ?_⟩
    show { p with Q := q :: Q } = p
    rw [← hq]
theorem sv_go {p : Pm} {now q : Int} {Q : List Int} (h : gvB p now = true) (hq : p.Q = q :: Q) : svA p now = gvA p now q :: svA { gvP p now q with Q := Q } now ∧ svP p now = svP { gvP p now q with Q := Q } now := by
  unfold svA svP
  rw [hq]
  conv => lhs; lhs; unfold sv
  conv => rhs; lhs; unfold sv
  rw [h]
  exact ⟨rfl, rfl⟩
theorem POk.serve : ∀ (n : Nat) {p : Pm} {K : Int} {now : Int}, p.Q.length = n → POk p K → mom now = true → POk (svP p now) K
  | 0, p, K, now, hn, h, hm => by rw [(sv_nil (List.eq_nil_of_length_eq_zero hn)).2]; exact h
  | n + 1, p, K, now, hn, h, hm => by
    cases hg : gvB p now with
    | false => rw [(sv_stop hg).2]; exact h
    | true =>
      obtain ⟨q, Q, hq⟩ := List.exists_cons_of_length_eq_add_one hn
      rw [(sv_go hg hq).2]
      have g := h.give (who := q) hm
      have e : (gvP p now q).Q = q :: Q := by rw [gv_Q, hq]
      refine POk.serve n (by rw [hq] at hn; simpa using hn) ?_ hm
      have a := g.ask1
      have r := g.res1
      have w := g.wait
      rw [e] at a w
      simp only [List.length_cons] at a w
      have rr : (gvP p now q).rested = p.rested := by unfold gvP; split; split <;> rfl; rfl
      exact { g with ask1 := by dsimp only; omega, res1 := by dsimp only; rw [rr]; exact h.res1, wait := by dsimp only; omega }
/-- How many wait, as a world has it. -/
def qlen (b : Nat) (w : World) : Nat := match w.cell? ⟨b, 7, none⟩ with | some (.slice _ n _) => n | _ => 0
theorem qlen_of {p : Pm} {b : Nat} {w : World} {P : Nat → Prop} (h : PX p b w P) : qlen b w = p.Q.length := by
  obtain ⟨vr, vw, h⟩ := h
  obtain ⟨c0, c1, c2, c3, c4, c5, c6, c7⟩ := h.v.c
  obtain ⟨a, cap, rfl, _⟩ := h.v.q
  unfold qlen
  rw [c7]
/-- The front cut off. -/
theorem Rw.cut {w : World} {g off n cap : Nat} {q : Int} {Q : List Int} (h : Rw 3 1 w (.slice (some ⟨g, off, none⟩) (n + 1) cap) (n + 1) (q :: Q)) : Rw 3 1 w (.slice (some (if n = 0 then ⟨g, off, none⟩ else ⟨g, off + 1, none⟩)) n n) n Q := by
  have hl := h.1
  simp only [List.length_cons, Nat.mul_one, Nat.add_right_cancel_iff] at hl
  refine ⟨by omega, .inr ?_⟩
  rcases h.2 with ⟨e, _⟩ | ⟨g', off', cap', cur, e, hg, h1, h2, h3, h4⟩
  · simp at e
  · simp only [Value.slice.injEq, Option.some.injEq, Addr.mk.injEq, and_true, true_and] at e
    obtain ⟨⟨rfl, rfl⟩, rfl⟩ := e
    by_cases hn : n = 0
    · subst hn
      exact ⟨g, off, 0, cur, rfl, hg, Nat.le_refl _, by omega, by omega, fun i hi => by omega⟩
    · rw [if_neg hn]
      refine ⟨g, off + 1, n, cur, rfl, hg, Nat.le_refl _, by omega, by omega, fun i hi => ?_⟩
      rw [show off + 1 + i = off + (i + 1) by omega, h4 (i + 1) (by omega)]
      rfl
set_option maxHeartbeats 4000000 in
set_option maxRecDepth 100000 in
theorem serve_any (p : Pm) (b : Nat) (w : World) (P : Nat → Prop) (now K : Int) (v : Value) (A : List Ac) (h : Two (RA v A) (PX p b) w P) (k0 : POk p K) (hK : K < 9223372036854775806) (hm : mom now = true) (hA : A.length ≤ 64) :
    Calls Try.prog 41 #[.pointer (some ⟨b, 0, none⟩), .int .i64 now, v] w fun e w' => ∃ v', e = .returned v' ∧ Does (Two (RA v' (A ++ svA p now)) (PX (svP p now) b)) P w w' := by
  have T0 := hide (Does.refl h)
  have HK := hide k0
  have HA : Hid (A.length + p.Q.length ≤ 128) := hide (by have := k0.wait; have := k0.pend1; omega)
  have HM := hide hm
  clear h k0 hA hm
  go_enter Try.func41, Try.ntmps41
  go_wp2_with fail
  go_loopw [2] (fun s wr => ∃ (p' : Pm) (A' : List Ac), Hid (A' ++ svA p' now = A ++ svA p now ∧ svP p' now = svP p now) ∧ Hid (POk p' K) ∧ Hid (A'.length + p'.Q.length ≤ 128) ∧ Hid (Does (Two (RA s A') (PX p' b)) P w wr)) (fun _ wr => qlen b wr)
  case atStart => exact ⟨p, A, hide ⟨rfl, rfl⟩, HK, HA, T0⟩
  case round =>
    clear T0 HK HA
    obtain ⟨p', A', HE, HK, HA, HI⟩ := hrel
    obtain ⟨sa, sc, rfl, sh0, sh1⟩ : ∃ a cap, u2 = .slice a A'.length cap ∧ A'.length ≤ cap ∧ cap ≤ 9223372036854775807 := by obtain ⟨_, x⟩ := HI.out.fst_of; exact x.1.shape
    obtain ⟨P2, x, hx⟩ := HI.out.focR
    have HQL := hide (qlen_of x)
    obtain ⟨c7v, c7, aw, cw', e7, hq0, hq1⟩ : ∃ vw, wr.cell? ⟨b, 7, none⟩ = some vw ∧ ∃ a cap, vw = .slice a p'.Q.length cap ∧ p'.Q.length ≤ cap ∧ cap ≤ 9223372036854775807 := by
      obtain ⟨vr, vw, y⟩ := x
      obtain ⟨c0, c1, c2, c3, c4, c5, c6, c7⟩ := y.v.c
      exact ⟨vw, c7, y.v.q⟩
    subst e7
    cases hq : p'.Q with
    | nil =>
      rw [hq] at c7 hq0
      have HE2 := HE.out
      rw [(sv_nil hq).1, (sv_nil hq).2, List.append_nil] at HE2
      simp only [List.length_nil] at c7
      have HE3 := hide HE2
      clear HE HE2 hx x HQL
      go_wp2_with fail
      go_ret
      refine ⟨_, rfl, ?_⟩
      rw [← HE3.out.1, ← HE3.out.2]
      exact HI.out
    | cons q Q =>
      have HQE := hide hq
      rw [hq, List.length_cons] at c7 hq0 HQL
      obtain ⟨m, Hm⟩ : ∃ m, Hid (Q.length = m) := ⟨_, hide rfl⟩
      rw [Hm.out] at c7 hq0 HQL
      have m64 : m < 64 := by
        have := HK.out.wait; have := HK.out.pend1
        rw [hq, List.length_cons, Hm.out] at *
        omega
      obtain ⟨g, off, c1c, e7, r0⟩ : ∃ g off c1, aw = some ⟨g, off, none⟩ ∧ wr.cell? ⟨g, off, none⟩ = some (.int .i64 q) := by
        obtain ⟨vr, vw, y⟩ := x
        obtain ⟨d0, d1, d2, d3, d4, d5, d6, d7⟩ := y.v.c
        rw [c7] at d7
        cases d7
        obtain ⟨g, off, c1, e, _, _, r⟩ := int_cell (i := 0) (x := q) y.v.Q (by rw [hq]; rfl)
        simp only [Value.slice.injEq] at e
        exact ⟨g, off, c1, e.1, r⟩
      subst e7
      have HG := hide (give_any p' b wr P2 now q K x HK.out (by omega))
      have HX := hide hx
      have HGK := hide (HK.out.give (who := q) HM.out)
      have HGQ : Hid ((gvP p' now q).Q = q :: Q) := hide (by rw [gv_Q, hq])
      have HSG := hide (fun hg => sv_go (now := now) hg hq)
      have HSS := hide (fun hg => sv_stop (p := p') (now := now) hg)
      have HRS : Hid ((gvP p' now q).rested = p'.rested) := hide (by unfold gvP; split; split <;> rfl; rfl)
      have HGN := hide (fun hg => gv_no (p := p') (now := now) (who := q) hg)
      clear x hx hq
      generalize gvP p' now q = p1 at *
      obtain ⟨⟨ak, ac, aw'⟩, Hac⟩ : ∃ a, Hid (gvA p' now q = a) := ⟨_, hide rfl⟩
      rw [Hac.out] at HG HSG
      unfold acV at HG
      go_wp2_with fail
      refine HG.out.mono ?_
      rintro e w1 ⟨rfl, d⟩
      have T1 := hide (HX.out _ _ d)
      clear d HX HG HI c7 r0
      have T2 := hide (T1.out.new (acO ⟨ak, ac, aw'⟩))
      unfold acO at T2
      dsimp only at T2
      go_upto_region 3 with fail
      clear T1
      generalize w1.alloc _ = w2 at *
      generalize w1.heap.size = ab at *
      cases hg : gvB p' now with
      | false =>
        have HE2 := HE.out
        rw [(HSS.out hg).1, (HSS.out hg).2, List.append_nil] at HE2
        have T3 := hide T2.out.snd
        rw [HGN.out hg] at T3
        have HE3 := hide HE2
        clear HE HE2 HSS HSG HGN T2 hg
        go_wp2_with fail
        go_ret
        refine ⟨_, rfl, ?_⟩
        rw [← HE3.out.1, ← HE3.out.2]
        exact T3.out
      | true =>
        obtain ⟨eA, eP⟩ := HSG.out hg
        have HE4 : Hid ((A' ++ [⟨ak, ac, aw'⟩]) ++ svA { p1 with Q := Q } now = A ++ svA p now ∧ svP { p1 with Q := Q } now = svP p now) := hide ⟨by rw [← HE.out.1, eA]; simp, by rw [← HE.out.2, eP]⟩
        have HK4 : Hid (POk { p1 with Q := Q } K) := hide (by
          have g := HGK.out
          have a := g.ask1
          have wt := g.wait
          rw [HGQ.out] at a wt
          simp only [List.length_cons] at a wt
          exact { g with ask1 := by dsimp only; omega, res1 := by dsimp only; rw [HRS.out]; exact HK.out.res1, wait := by dsimp only; omega })
        have HAL : Hid (A'.length ≤ 127) := hide (by have := HA.out; rw [HQE.out, List.length_cons] at this; omega)
        have HA4 : Hid ((A' ++ [(⟨ak, ac, aw'⟩ : Ac)]).length + ({ p1 with Q := Q } : Pm).Q.length ≤ 128) := hide (by have := HA.out; rw [HQE.out] at this; simp only [List.length_append, List.length_cons, List.length_nil] at this ⊢; omega)
        clear eA eP HE HSS HSG HGN hg HA
        obtain ⟨P', ⟨P1, P23, hb, ⟨P2', P3, ha, ⟨vr, vw, hp⟩, d1, d2⟩, d3, d4⟩, tF, tO⟩ := T2.out
        have T2' : Hid (Does (Two (Blk ab (.cells #[.int .i64 ak, .int .i64 ac, .int .i64 aw'] 49 (0, 0))) (Two (RA (.slice sa A'.length sc) A') (PT p1 b vr vw))) P w w2) := hide ⟨P', ⟨P1, P23, hb, ⟨P2', P3, ha, hp, d1, d2⟩, d3, d4⟩, tF, tO⟩
        obtain ⟨c0, c1, c2, c3, c4, c5, c6, c7⟩ := hp.v.c
        have z7 := hp.v.fz 7
        have hQ := hp.v.Q
        rw [HGQ.out, List.length_cons, Hm.out] at hQ
        obtain ⟨g2, off2, cap2, e, hd0, hd1⟩ : ∃ g off cap, vw = .slice (some ⟨g, off, none⟩) (m + 1) cap ∧ m + 1 ≤ cap ∧ cap ≤ 9223372036854775807 := by
          obtain ⟨g, off, cap, e, h1, h2, _⟩ := hQ.at (i := 0) (by omega)
          exact ⟨g, off, cap, e, h1, h2⟩
        subst e
        have HCUT := hide hQ.cut
        clear hp hQ hb ha d1 d2 d3 d4 tF tO T2 c0 c1 c2 c3 c4 c5 c6
        have T3 : Hid (Does (Two (Blk ab (.cells #[.int .i64 ak, .int .i64 ac, .int .i64 aw'] 49 (0, 0))) (Two (RA (.slice sa A'.length sc) A') (PX { p1 with Q := Q } b))) P w (w2.setCell ⟨b, 7, none⟩ (.slice (some (if m = 0 then ⟨g2, off2, none⟩ else ⟨g2, off2 + 1, none⟩)) m m)).drew) := hide ((T2'.out.right (fun _ y => (Does.refl y).right (fun _ z => (z.setQ (w' := w2) (Q' := Q) (by rw [Hm.out]; exact HCUT.out) (Fr.refl _ _) (fun k hk => .inl (by by_cases h0 : m = 0 <;> simpa [h0, Value.ownBlock] using hk))).px))).e (Fr.drew none' _))
        clear T2' HCUT
        cases m with
        | zero =>
          rw [if_pos rfl] at T3
          go_wp2_with fail
          go_region
          clear c7 z7
          generalize (w2.setCell ⟨b, 7, none⟩ (.slice (some ⟨g2, off2, none⟩) 0 0)).drew = w3 at *
          obtain ⟨_, y⟩ := T3.out.fst_of
          obtain ⟨a0, a1, a2, -⟩ := ac_cells (a := ⟨ak, ac, aw'⟩) y.1
          dsimp only at a0 a1 a2
          clear y
          have T4 := hide T3.out.snd
          clear T3
          have HS : Hid (Rw 49 3 w3 (.slice sa A'.length sc) A'.length (fl encA A')) := by obtain ⟨_, x⟩ := T4.out.fst_of; exact hide x.1
          obtain ⟨al, Hal⟩ : ∃ al, Hid (A'.length = al) := ⟨_, hide rfl⟩
          rw [Hal.out] at sh0 HS HAL ⊢
          go_wp2_with (at_builtin; apply Hid.out)
          unfold Hid
          refine wpList_append_rw infAct rfl _ _ rfl w3 (.slice sa al sc) al (fl encA A') (encA ⟨ak, ac, aw'⟩) rfl (by simp [Act.eval, go_sem]) HS.out rfl (by have := HAL.out; omega) (by have := HAL.out; omega) ?_
          intro v' W6 r1 F o
          have T6 : Hid (Does (Two (RA v' (A' ++ [⟨ak, ac, aw'⟩])) (PX { p1 with Q := Q } b)) P w W6) := hide (T4.out.left (fun _ y => by
            refine y.app (by rw [fl_app, List.length_append, Hal.out]; exact r1) (by rw [Hal.out]; exact F) (by rw [Hal.out]; exact o)))
          have HQ6 : Hid (qlen b W6 = 0) := by obtain ⟨_, x⟩ := T6.out.snd_of; exact hide (by rw [qlen_of x]; exact Hm.out)
          obtain ⟨sa2, sc2, rfl, -, -⟩ := r1.shape
          clear r1 F o HS T4 a0 a1 a2
          go_wp2_with fail
          go_roundw
          case rel => exact ⟨_, _, HE4, HK4, HA4, T6⟩
          case measure => rw [HQ6.out, HQL.out]; omega
        | succ k =>
          rw [if_neg (by omega)] at T3
          go_wp2_with fail
          go_region
          clear c7 z7
          generalize (w2.setCell ⟨b, 7, none⟩ (.slice (some ⟨g2, off2 + 1, none⟩) (k + 1) (k + 1))).drew = w3 at *
          obtain ⟨_, y⟩ := T3.out.fst_of
          obtain ⟨a0, a1, a2, -⟩ := ac_cells (a := ⟨ak, ac, aw'⟩) y.1
          dsimp only at a0 a1 a2
          clear y
          have T4 := hide T3.out.snd
          clear T3
          have HS : Hid (Rw 49 3 w3 (.slice sa A'.length sc) A'.length (fl encA A')) := by obtain ⟨_, x⟩ := T4.out.fst_of; exact hide x.1
          obtain ⟨al, Hal⟩ : ∃ al, Hid (A'.length = al) := ⟨_, hide rfl⟩
          rw [Hal.out] at sh0 HS HAL ⊢
          go_wp2_with (at_builtin; apply Hid.out)
          unfold Hid
          refine wpList_append_rw infAct rfl _ _ rfl w3 (.slice sa al sc) al (fl encA A') (encA ⟨ak, ac, aw'⟩) rfl (by simp [Act.eval, go_sem]) HS.out rfl (by have := HAL.out; omega) (by have := HAL.out; omega) ?_
          intro v' W6 r1 F o
          have T6 : Hid (Does (Two (RA v' (A' ++ [⟨ak, ac, aw'⟩])) (PX { p1 with Q := Q } b)) P w W6) := hide (T4.out.left (fun _ y => by
            refine y.app (by rw [fl_app, List.length_append, Hal.out]; exact r1) (by rw [Hal.out]; exact F) (by rw [Hal.out]; exact o)))
          have HQ6 : Hid (qlen b W6 = k + 1) := by obtain ⟨_, x⟩ := T6.out.snd_of; exact hide (by rw [qlen_of x]; exact Hm.out)
          obtain ⟨sa2, sc2, rfl, -, -⟩ := r1.shape
          clear r1 F o HS T4 a0 a1 a2
          go_wp2_with fail
          go_roundw
          case rel => exact ⟨_, _, HE4, HK4, HA4, T6⟩
          case measure => rw [HQ6.out, HQL.out]; omega
end Go.Proofs.Ytgeneknaekoinaa
