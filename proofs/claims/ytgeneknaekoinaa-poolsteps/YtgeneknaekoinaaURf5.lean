/- The document's pool: who waits is served. -/
import Derived.Test.YtgeneknaekoinaaURf4
namespace Go.Proofs.Ytgeneknaekoinaa
open Go.ChangeShapes Go.WideShapes Go.ChangeAt Go.RowKit
set_option linter.unusedVariables false

/-- The document's acts' row. -/
abbrev RB (v : Value) (A : List Ac) : Thing := RT 64 3 v A.length (fl encA A)
theorem isD_in {L : List Cn} {y : Int} : idx (isD y) L ≠ -1 ↔ y ∈ L.map (·.n) := by
  rw [List.mem_map]
  rcases idx_cases (isD y) L with ⟨e, h⟩ | ⟨i, r, e, hr, hq, -⟩
  · constructor
    · exact fun x => absurd e x
    · rintro ⟨r, hr, rfl⟩
      have := h r hr
      unfold isD at this
      simp at this
  · constructor
    · intro _
      unfold isD at hq
      exact ⟨r, List.mem_of_getElem? hr, by simpa using hq⟩
    · intro _; omega
theorem map_set_n {L : List Cn} {i : Nat} {r s : Cn} (hr : L[i]? = some r) (hs : s.n = r.n) : (L.set i s).map (·.n) = L.map (·.n) := by
  rw [List.map_set, hs]
  apply List.ext_getElem?
  intro j
  rw [List.getElem?_set]
  split
  · rename_i e
    subst e
    rw [List.getElem?_map, hr]
    have := (List.getElem?_eq_some_iff.1 hr).1
    simp [this]
  · rfl
theorem erI_sub {c x : Int} {S : List Int} (h : x ∈ erI c S) : x ∈ S := by
  unfold erI at h
  split at h
  · exact List.mem_of_mem_eraseIdx h
  · exact h
theorem erI_len (c : Int) (S : List Int) : (erI c S).length ≤ S.length := by
  unfold erI
  split
  · exact List.length_eraseIdx_le _ _
  · exact Nat.le_refl _
theorem rl_cases {p : Rm} {K : Int} (h : QOk p K) (now : Int) : rl p now = -1 ∨ ∃ (i : Nat) (x : Int) (j : Nat) (r : Cn), rl p now = (i : Int) ∧ i < p.S.length ∧ p.S.getD i 0 = x ∧ x ∈ p.S ∧ idx (isD x) p.L = (j : Int) ∧ p.L[j]? = some r ∧ r.n = x := by
  rcases rgS_bd p now p.S.length with e | ⟨i, e, hi⟩
  · exact .inl e
  · refine .inr ?_
    have hx : p.S.getD i 0 = p.S[i] := by rw [List.getD_eq_getElem?_getD, List.getElem?_eq_getElem hi]; rfl
    have hm : p.S[i] ∈ p.S := List.getElem_mem hi
    have hn := h.ins _ hm
    rcases idx_cases (isD p.S[i]) p.L with ⟨q, -⟩ | ⟨j, r, q, hr, -, -⟩
    · exact absurd q hn
    · exact ⟨i, p.S[i], j, r, e, hi, hx, hm, q, hr, isD_of q hr⟩
theorem rg_rest {p : Rm} {now who : Int} {i j : Nat} {x : Int} {r : Cn} (e : rl p now = (i : Int)) (hx : p.S.getD i 0 = x) (hj : idx (isD x) p.L = (j : Int)) (hr : p.L[j]? = some r) : rgP p now who = { p with L := p.L.set j (glR r who), S := erI x p.S } ∧ rgA p now who = ⟨2, x, who⟩ := by
  unfold rgP rgA
  rw [e, Int.toNat_natCast, hx, conC_of hj hr, hj, Int.toNat_natCast, if_neg (by omega), if_neg (by omega)]
  exact ⟨rfl, rfl⟩
theorem rg_Q (p : Rm) (now who : Int) : (rgP p now who).Q = p.Q := by unfold rgP; split; split <;> rfl; rfl
theorem rg_cap (p : Rm) (now who : Int) : (rgP p now who).cap = p.cap := by unfold rgP; split; split <;> rfl; rfl
theorem rg_no {p : Rm} {now who : Int} (h : rgB p now = false) : rgP p now who = p := by
  unfold rgB at h
  rw [decide_eq_false_iff_not] at h
  unfold rgP
  rw [if_pos (Classical.byContradiction fun x => h (.inl x)), if_pos (by omega)]
section
variable {p : Rm} {K : Int}
theorem QOk.more (h : QOk p K) {K' : Int} (hk : K ≤ K') : QOk p K' := { h with nx1 := by have := h.nx1; omega }
theorem QOk.q (h : QOk p K) (Q : List Int) (hq : Q.length ≤ 64) : QOk { p with Q := Q } K := { h with wait := hq }
theorem QOk.give (h : QOk p K) {now who : Int} (hm : mom now = true) (hc : p.cap ≤ 64) : QOk (rgP p now who) (K + 1) := by
  rw [mom_iff] at hm
  have := h.nx0
  have := h.nx1
  rcases rl_cases h now with hi | ⟨i, x, j, r, hi, hil, hx, hxm, hj, hr, hn⟩
  · by_cases hf : p.cap ≤ (p.L.length : Int)
    · have e3 : rgP p now who = p := by unfold rgP; rw [if_pos hi, if_pos hf]
      rw [e3]
      exact h.more (by omega)
    · have e3 : rgP p now who = { p with nx := p.nx + 1, L := p.L ++ [⟨p.nx, 1, who, 0, now⟩] } := by unfold rgP; rw [if_pos hi, if_neg hf]
      rw [e3]
      refine { h with nx0 := by dsimp only; omega, nx1 := by dsimp only; omega, len := by dsimp only; rw [List.length_append]; simp; omega, rows := fun r hr => ?_, ins := fun x hx => ?_ }
      · rcases List.mem_append.1 hr with x | x
        · exact h.rows r x
        · simp at x
          subst x
          exact ⟨hm, by dsimp only; omega⟩
      · have := isD_in.1 (h.ins x hx)
        refine isD_in.2 ?_
        rw [List.map_append]
        exact List.mem_append_left _ this
  · rw [(rg_rest hi hx hj hr).1]
    have hb := h.rows r (List.mem_of_getElem? hr)
    refine { h with nx1 := by dsimp only; omega, len := by dsimp only; rw [List.length_set]; exact h.len, sen := by have := h.sen; have := erI_len x p.S; dsimp only; omega, rows := fun s hs => ?_, ins := fun y hy => ?_ }
    · rcases List.mem_or_eq_of_mem_set hs with q | q
      · exact h.rows s q
      · rw [q]; exact hb
    · have := isD_in.1 (h.ins y (erI_sub hy))
      refine isD_in.2 ?_
      rw [show (p.L.set j (glR r who)).map (·.n) = p.L.map (·.n) from map_set_n hr rfl]
      exact this
end
/-- Who waits is served: the acts, and what the pool is then. -/
def rsv (now : Int) : List Int → Rm → List Ac × Rm
  | [], p => ([], { p with Q := [] })
  | q :: Q, p => if rgB p now then (rgA p now q :: (rsv now Q { rgP p now q with Q := Q }).1, (rsv now Q { rgP p now q with Q := Q }).2) else ([], { p with Q := q :: Q })
def rvA (p : Rm) (now : Int) : List Ac := (rsv now p.Q p).1
def rvP (p : Rm) (now : Int) : Rm := (rsv now p.Q p).2
theorem rv_nil {p : Rm} {now : Int} (h : p.Q = []) : rvA p now = [] ∧ rvP p now = p := by
  unfold rvA rvP; rw [h]; refine ⟨rfl, ?_⟩
  show { p with Q := [] } = p
  rw [← h]
theorem rv_stop {p : Rm} {now : Int} (h : rgB p now = false) : rvA p now = [] ∧ rvP p now = p := by
  unfold rvA rvP
  cases hq : p.Q with
  | nil => refine ⟨rfl, ?_⟩; show { p with Q := [] } = p; rw [← hq]
  | cons q Q =>
    unfold rsv
    rw [h]
    refine ⟨rfl, ?_⟩
    show { p with Q := q :: Q } = p
    rw [← hq]
theorem rv_go {p : Rm} {now q : Int} {Q : List Int} (h : rgB p now = true) (hq : p.Q = q :: Q) : rvA p now = rgA p now q :: rvA { rgP p now q with Q := Q } now ∧ rvP p now = rvP { rgP p now q with Q := Q } now := by
  unfold rvA rvP
  rw [hq]
  conv => lhs; lhs; unfold rsv
  conv => rhs; lhs; unfold rsv
  rw [h]
  exact ⟨rfl, rfl⟩
theorem QOk.serve : ∀ (n : Nat) {p : Rm} {K : Int} {now : Int}, p.Q.length = n → QOk p K → mom now = true → p.cap ≤ 64 → QOk (rvP p now) (K + n) ∧ (rvP p now).cap = p.cap
  | 0, p, K, now, hn, h, hm, hc => by rw [(rv_nil (List.eq_nil_of_length_eq_zero hn)).2]; exact ⟨h.more (by omega), rfl⟩
  | n + 1, p, K, now, hn, h, hm, hc => by
    cases hg : rgB p now with
    | false => rw [(rv_stop hg).2]; exact ⟨h.more (by omega), rfl⟩
    | true =>
      obtain ⟨q, Q, hq⟩ := List.exists_cons_of_length_eq_add_one hn
      rw [(rv_go hg hq).2]
      have g := h.give (who := q) hm hc
      have hl : Q.length = n := by rw [hq] at hn; simpa using hn
      have wt := h.wait
      rw [hq, List.length_cons] at wt
      obtain ⟨a, b⟩ := QOk.serve n (p := { rgP p now q with Q := Q }) hl (g.q Q (by omega)) hm (by dsimp only; rw [rg_cap]; exact hc)
      refine ⟨?_, ?_⟩
      · have e : K + 1 + (n : Int) = K + ((n + 1 : Nat) : Int) := by omega
        rw [← e]; exact a
      · rw [b]; exact rg_cap _ _ _
/-- How many wait, as a world has it. -/
def rqlen (b : Nat) (w : World) : Nat := match w.cell? ⟨b, 7, none⟩ with | some (.slice _ n _) => n | _ => 0
theorem rqlen_of {p : Rm} {b : Nat} {w : World} {P : Nat → Prop} (h : QX p b w P) : rqlen b w = p.Q.length := by
  obtain ⟨vl, vs, vw, h⟩ := h
  obtain ⟨c0, c1, c2, c3, c4, c5, c6, c7⟩ := h.v.c
  obtain ⟨a, cap, rfl, _⟩ := h.v.Q.shape
  unfold rqlen
  rw [c7]
theorem Does.nilRB {B : Thing} {P : Nat → Prop} {w w1 : World} (h : Does B P w w1) : Does (Two (RB (.slice none 0 0) []) B) P w w1 := by
  obtain ⟨P', h1, h2, h3⟩ := h
  exact ⟨P', ⟨fun _ => False, P', ⟨Rw.nil _ _ _, fun _ => by simp [Value.ownBlock]⟩, h1, fun _ x => x.elim, fun _ => by simp⟩, h2, h3⟩
set_option maxHeartbeats 2000000 in
set_option maxRecDepth 100000 in
theorem rserve_any (p : Rm) (b : Nat) (w : World) (P : Nat → Prop) (now M : Int) (h : QX p b w P) (k0 : QOk p (M - p.Q.length)) (hM : M < 9223372036854775806) (hm : mom now = true) (hc : p.cap ≤ 64) :
    Calls Try.prog 51 #[.pointer (some ⟨b, 0, none⟩), .int .i64 now] w fun e w' => ∃ v', e = .returned v' ∧ Does (Two (RB v' (rvA p now)) (QX (rvP p now) b)) P w w' := by
  have T0 := hide (Does.refl h).nilRB
  have HK := hide k0
  have HA : Hid (([] : List Ac).length + p.Q.length ≤ 64) := hide (by have := k0.wait; simp; omega)
  have HM := hide hm
  have HC := hide hc
  clear h k0 hm hc
  go_enter Try.func51, Try.ntmps51
  go_wp2_with fail
  go_loopw [5] (fun s wr => ∃ (p' : Rm) (A' : List Ac), Hid (A' ++ rvA p' now = rvA p now ∧ rvP p' now = rvP p now) ∧ Hid (QOk p' (M - p'.Q.length)) ∧ Hid (p'.cap ≤ 64) ∧ Hid (A'.length + p'.Q.length ≤ 64) ∧ Hid (Does (Two (RB s A') (QX p' b)) P w wr)) (fun _ wr => rqlen b wr)
  case atStart => exact ⟨p, [], hide ⟨by simp, rfl⟩, HK, HC, HA, T0⟩
  case round =>
    clear T0 HK HA HC
    obtain ⟨p', A', HE, HK, HC, HA, HI⟩ := hrel
    obtain ⟨sa, sc, rfl, sh0, sh1⟩ : ∃ a cap, u5 = .slice a A'.length cap ∧ A'.length ≤ cap ∧ cap ≤ 9223372036854775807 := by obtain ⟨_, x⟩ := HI.out.fst_of; exact x.1.shape
    obtain ⟨P2, x, hx⟩ := HI.out.focR
    have HQL := hide (rqlen_of x)
    obtain ⟨c7v, c7, aw, cw', e7, hq0, hq1⟩ : ∃ vw, wr.cell? ⟨b, 7, none⟩ = some vw ∧ ∃ a cap, vw = .slice a p'.Q.length cap ∧ p'.Q.length ≤ cap ∧ cap ≤ 9223372036854775807 := by
      obtain ⟨vl, vs, vw, y⟩ := x
      obtain ⟨c0, c1, c2, c3, c4, c5, c6, c7⟩ := y.v.c
      exact ⟨vw, c7, y.v.Q.shape⟩
    subst e7
    cases hq : p'.Q with
    | nil =>
      rw [hq] at c7 hq0
      have HE2 := HE.out
      rw [(rv_nil hq).1, (rv_nil hq).2, List.append_nil] at HE2
      simp only [List.length_nil] at c7
      have HE3 := hide HE2
      clear HE HE2 hx x HQL
      go_wp2_with fail
      go_ret
      refine ⟨_, rfl, ?_⟩
      rw [← HE3.out.1, ← HE3.out.2]
      exact HI.out
    | cons q Q =>
      have HQE := hide hq
      rw [hq, List.length_cons] at c7 hq0 HQL
      obtain ⟨m, Hm⟩ : ∃ m, Hid (Q.length = m) := ⟨_, hide rfl⟩
      rw [Hm.out] at c7 hq0 HQL
      have m64 : m < 64 := by
        have := HK.out.wait
        rw [hq, List.length_cons, Hm.out] at this
        omega
      obtain ⟨g, off, c1c, e7, r0⟩ : ∃ g off c1, aw = some ⟨g, off, none⟩ ∧ wr.cell? ⟨g, off, none⟩ = some (.int .i64 q) := by
        obtain ⟨vl, vs, vw, y⟩ := x
        obtain ⟨d0, d1, d2, d3, d4, d5, d6, d7⟩ := y.v.c
        rw [c7] at d7
        cases d7
        obtain ⟨g, off, c1, e, _, _, r⟩ := int_cell (i := 0) (x := q) y.v.Q (by rw [hq]; rfl)
        simp only [Value.slice.injEq] at e
        exact ⟨g, off, c1, e.1, r⟩
      subst e7
      have HK1 : Hid (QOk p' (M - (m + 1 : Nat))) := hide (by have := HK.out; rw [hq, List.length_cons, Hm.out] at this; exact this)
      have HG := hide (rgive_any p' b wr P2 now q (M - (m + 1 : Nat)) x HK1.out (by omega))
      have HX := hide hx
      have HGK := hide (HK1.out.give (who := q) HM.out HC.out)
      have HGQ : Hid ((rgP p' now q).Q = q :: Q) := hide (by rw [rg_Q, hq])
      have HGC : Hid ((rgP p' now q).cap ≤ 64) := hide (by rw [rg_cap]; exact HC.out)
      have HSG := hide (fun hg => rv_go (now := now) hg hq)
      have HSS := hide (fun hg => rv_stop (p := p') (now := now) hg)
      have HGN := hide (fun hg => rg_no (p := p') (now := now) (who := q) hg)
      clear x hx hq HK HC
      generalize rgP p' now q = p1 at *
      obtain ⟨⟨ak, ac, aw'⟩, Hac⟩ : ∃ a, Hid (rgA p' now q = a) := ⟨_, hide rfl⟩
      rw [Hac.out] at HG HSG
      unfold acV at HG
      go_wp2_with fail
      refine HG.out.mono ?_
      rintro e w1 ⟨rfl, d⟩
      have T1 := hide (HX.out _ _ d)
      clear d HX HG HI c7 r0
      have T2 := hide (T1.out.new (raO ⟨ak, ac, aw'⟩))
      unfold raO at T2
      dsimp only at T2
      go_upto_region 4 with fail
      clear T1
      generalize w1.alloc _ = w2 at *
      generalize w1.heap.size = ab at *
      cases hg : rgB p' now with
      | false =>
        have HE2 := HE.out
        rw [(HSS.out hg).1, (HSS.out hg).2, List.append_nil] at HE2
        have T3 := hide T2.out.snd
        rw [HGN.out hg] at T3
        have HE3 := hide HE2
        clear HE HE2 HSS HSG HGN T2 hg
        go_wp2_with fail
        refine bodyPost_ret (v := .slice sa A'.length sc) (by simp [results, Try.results51, go_sem]) rfl ⟨_, rfl, ?_⟩
        rw [← HE3.out.1, ← HE3.out.2]
        exact T3.out
      | true =>
        obtain ⟨eA, eP⟩ := HSG.out hg
        have HE4 : Hid ((A' ++ [⟨ak, ac, aw'⟩]) ++ rvA { p1 with Q := Q } now = rvA p now ∧ rvP { p1 with Q := Q } now = rvP p now) := hide ⟨by rw [← HE.out.1, eA]; simp, by rw [← HE.out.2, eP]⟩
        have HK4 : Hid (QOk { p1 with Q := Q } (M - ({ p1 with Q := Q } : Rm).Q.length)) := hide (by
          dsimp only
          rw [Hm.out]
          have e : M - ((m + 1 : Nat) : Int) + 1 = M - (m : Int) := by omega
          have g := HGK.out
          rw [e] at g
          exact g.q Q (by rw [Hm.out]; omega))
        have HAL : Hid (A'.length ≤ 63) := hide (by have := HA.out; rw [HQE.out, List.length_cons] at this; omega)
        have HA4 : Hid ((A' ++ [(⟨ak, ac, aw'⟩ : Ac)]).length + ({ p1 with Q := Q } : Rm).Q.length ≤ 64) := hide (by have := HA.out; rw [HQE.out] at this; simp only [List.length_append, List.length_cons, List.length_nil] at this ⊢; omega)
        have HC4 : Hid (({ p1 with Q := Q } : Rm).cap ≤ 64) := hide HGC.out
        have HL1 : Hid (p1.Q.length ≤ 64) := hide (by rw [HGQ.out, List.length_cons, Hm.out]; omega)
        have HER : Hid (p1.Q.eraseIdx 0 = Q) := hide (by rw [HGQ.out]; rfl)
        clear eA eP HE HSS HSG HGN hg HA
        obtain ⟨_, y⟩ := T2.out.fst_of
        obtain ⟨a0, a1, a2, -⟩ := ra_cells (a := ⟨ak, ac, aw'⟩) y.1
        dsimp only at a0 a1 a2
        clear y
        have T4 := hide T2.out.snd
        clear T2
        have HS : Hid (Rw 64 3 w2 (.slice sa A'.length sc) A'.length (fl encA A')) := by obtain ⟨_, x⟩ := T4.out.fst_of; exact hide x.1
        obtain ⟨al, Hal⟩ : ∃ al, Hid (A'.length = al) := ⟨_, hide rfl⟩
        rw [Hal.out] at sh0 HS HAL ⊢
        go_wp2_with (at_builtin; apply Hid.out)
        unfold Hid
        refine wpList_append_rw infRac rfl _ _ rfl w2 (.slice sa al sc) al (fl encA A') (encA ⟨ak, ac, aw'⟩) rfl (by simp [Act.eval, go_sem]) HS.out rfl (by have := HAL.out; omega) (by have := HAL.out; omega) ?_
        intro v' W6 r1 F o
        have T6 : Hid (Does (Two (RB v' (A' ++ [⟨ak, ac, aw'⟩])) (QX p1 b)) P w W6) := hide (T4.out.left (fun _ y => by
          refine y.app (by rw [fl_app, List.length_append, Hal.out]; exact r1) (by rw [Hal.out]; exact F) (by rw [Hal.out]; exact o)))
        obtain ⟨sa2, sc2, rfl, -, -⟩ := r1.shape
        clear r1 F o HS T4 a0 a1 a2
        obtain ⟨P4, ⟨vl, vs, vw, y⟩, hx⟩ := T6.out.focR
        have HX := hide hx
        have HY := hide y
        obtain ⟨c0, c1, c2, c3, c4, c5, c6, c7⟩ := y.v.c
        have HW := hide (without_any W6 vw p1.Q 0 y.v.Q HL1.out)
        obtain ⟨wa, wc, rfl, -, -⟩ := y.v.Q.shape
        clear y hx c0 c1 c2 c3 c4 c5 c6 T6
        go_wp2_with fail
        refine HW.out.mono ?_
        rintro e w7 ⟨v7, rfl, d⟩
        have T7 := hide ((Does.refl HY.out).put d)
        obtain ⟨ta, tl, tc, rfl⟩ : ∃ a n cap, v7 = .slice a n cap := by obtain ⟨_, y⟩ := d.of; obtain ⟨a, c, e, _⟩ := y.1.shape; exact ⟨a, _, c, e⟩
        have F := d.choose_spec.2.1
        have k7 := F.cl.cell c7
        have y7 : w7.frozen? ⟨b, 7, none⟩ = false := by obtain ⟨_, x⟩ := T7.out.snd_of; exact x.v.fz 7
        have T8 : Hid (Does (Two (RB (.slice sa2 (al + 1) sc2) (A' ++ [⟨ak, ac, aw'⟩])) (QX { p1 with Q := Q } b)) P w (w7.setCell ⟨b, 7, none⟩ (.slice ta tl tc))) := hide (HX.out _ _ (by
          have t := (T7.out.trans (fun _ y => QT.takeQ y)).qx
          rw [HER.out] at t
          exact t))
        clear d F T7 HW HX HY c7
        go_wp2_with fail
        generalize w7.setCell ⟨b, 7, none⟩ _ = w8 at *
        have HQ6 : Hid (rqlen b w8 = m) := by obtain ⟨_, x⟩ := T8.out.snd_of; exact hide (by rw [rqlen_of x]; exact Hm.out)
        go_roundw
        case rel => exact ⟨_, _, HE4, HK4, HC4, HA4, T8⟩
        case measure => rw [HQ6.out, HQL.out]; omega
end Go.Proofs.Ytgeneknaekoinaa
