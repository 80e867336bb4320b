/- PoolCaps, walked. -/
import Derived.Test.YtgeneknaekoinaaUDo
namespace Go.Proofs.Ytgeneknaekoinaa
open Go.ChangeShapes Go.WideShapes Go.ChangeAt Go.RowKit
set_option linter.unusedVariables false

theorem Two.assoc {A B C : Thing} {w : World} {P : Nat → Prop} (h : Two (Two A B) C w P) : Two A (Two B C) w P := by
  obtain ⟨P1, P3, ⟨Pa, Pb, h1, h2, h3, h4⟩, h5, h6, h7⟩ := h
  refine ⟨Pa, fun k => Pb k ∨ P3 k, h1, ⟨Pb, P3, h2, h5, fun k hk => h6 k ((h4 k).2 (.inr hk)), fun k => Iff.rfl⟩, fun k hk x => ?_, fun k => ?_⟩
  · rcases x with x | x
    · exact h3 k hk x
    · exact h6 k ((h4 k).2 (.inl hk)) x
  · rw [h7 k, h4 k, or_assoc]
theorem Top.assoc {A B C : Thing} {W w : World} (h : Top (Two (Two A B) C) W w) : Top (Two A (Two B C)) W w := by
  obtain ⟨P, h1, h2, h3⟩ := h
  exact ⟨P, h1.assoc, h2, h3⟩
/-- Its numbers are the same. -/
def Same (p q : Pm) : Prop := q.cap = p.cap ∧ q.pend = p.pend ∧ q.idle = p.idle ∧ q.life = p.life
theorem Same.refl (p : Pm) : Same p p := ⟨rfl, rfl, rfl, rfl⟩
theorem Same.trans {p q r : Pm} (h : Same p q) (k : Same q r) : Same p r := ⟨k.1.trans h.1, k.2.1.trans h.2.1, k.2.2.1.trans h.2.2.1, k.2.2.2.trans h.2.2.2⟩
theorem gv_same (p : Pm) (now who : Int) : Same p (gvP p now who) := by unfold gvP; split; split <;> exact ⟨rfl, rfl, rfl, rfl⟩; exact ⟨rfl, rfl, rfl, rfl⟩
/-- Who waits does so because there are as many connections as may be. -/
def Full (p : Pm) : Prop := p.Q ≠ [] → p.cap ≤ (p.R.length : Int)
theorem gv_full {p : Pm} {now who : Int} (h : Full p) : Full (gvP p now who) := by
  intro hq
  rw [gv_Q] at hq
  have := h hq
  rcases lat_cases p now with hi | ⟨i, r, hi, hr⟩
  · have e3 : gvP p now who = p := by unfold gvP; rw [if_pos hi, if_pos this]
    rw [e3]; exact this
  · have hn : ¬ lat p now = -1 := by rw [hi]; omega
    unfold gvP
    rw [if_neg hn]
    dsimp only
    rw [List.length_set]
    exact this
theorem serve_full : ∀ (n : Nat) {p : Pm} {now : Int}, p.Q.length = n → Same p (svP p now) ∧ Full (svP p now)
  | 0, p, now, hn => by
    have hq := List.eq_nil_of_length_eq_zero hn
    rw [(sv_nil hq).2]
    exact ⟨Same.refl p, fun x => absurd hq x⟩
  | n + 1, p, now, hn => by
    cases hg : gvB p now with
    | false =>
      rw [(sv_stop hg).2]
      refine ⟨Same.refl p, fun _ => ?_⟩
      unfold gvB at hg
      rw [decide_eq_false_iff_not] at hg
      omega
    | true =>
      obtain ⟨q, Q, hq⟩ := List.exists_cons_of_length_eq_add_one hn
      rw [(sv_go hg hq).2]
      obtain ⟨x, y⟩ := serve_full n (p := { gvP p now q with Q := Q }) (now := now) (by rw [hq] at hn; simpa using hn)
      exact ⟨Same.trans (show Same p { gvP p now q with Q := Q } from gv_same p now q) x, y⟩
theorem does_full {p : Pm} (h : Full p) (kd now who : Int) : Same p (dsP p kd now who) ∧ Full (dsP p kd now who) := by
  have k0 : Same p p ∧ Full p := ⟨Same.refl p, h⟩
  have srv : ∀ q : Pm, Same p q → Same p (svP q now) ∧ Full (svP q now) := fun q hq => by
    obtain ⟨x, y⟩ := serve_full _ (p := q) (now := now) rfl
    exact ⟨hq.trans x, y⟩
  have S : ∀ q : Pm, q.cap = p.cap → q.pend = p.pend → q.idle = p.idle → q.life = p.life → Same p q := fun q a b c d => ⟨a, b, c, d⟩
  have dn : ∀ keep, Same p (dnP p now who keep) ∧ Full (dnP p now who keep) := fun keep => by
    unfold dnP
    split
    · refine srv _ ?_
      unfold dn1; split <;> exact ⟨rfl, rfl, rfl, rfl⟩
    · exact k0
  unfold dsP
  split
  · unfold askP
    split
    · exact k0
    split
    · exact ⟨gv_same p now who, gv_full h⟩
    · rename_i hg
      split
      · refine ⟨⟨rfl, rfl, rfl, rfl⟩, fun _ => ?_⟩
        have hg2 : gvB p now = false := by simpa using hg
        unfold gvB at hg2
        rw [decide_eq_false_iff_not] at hg2
        dsimp only
        omega
      · exact k0
  split
  · unfold upP
    split
    · exact ⟨⟨rfl, rfl, rfl, rfl⟩, fun hq => by dsimp only; rw [List.length_set]; exact h hq⟩
    · exact k0
  split
  · unfold gnP
    split
    · exact srv _ ⟨rfl, rfl, rfl, rfl⟩
    · exact k0
  split
  · exact dn true
  split
  · exact dn false
  split
  · unfold drP
    split
    · refine srv _ ?_
      unfold dr1; split <;> exact ⟨rfl, rfl, rfl, rfl⟩
    · exact k0
  · unfold exP
    split
    · exact srv _ ⟨rfl, rfl, rfl, rfl⟩
    · exact k0
def aqO (c pe id li : Int) : Obj := .cells #[.int .i64 c, .int .i64 pe, .int .i64 id, .int .i64 li] 23 (0, 0)
abbrev InS (W : World) (ad : Option Addr) (len : Nat) : Prop := ∀ i, i < len → ∃ b off, ∃ (x0 : Int) (x1 : Int) (x2 : Int), ad = some ⟨b, off, none⟩ ∧ (W.cell? ⟨b, off + i * 3, none⟩ = some (.int .i64 x0) ∧ W.cell? ⟨b, off + i * 3 + 1, none⟩ = some (.int .i64 x1) ∧ W.cell? ⟨b, off + i * 3 + 2, none⟩ = some (.int .i64 x2)) ∧ b < W.heap.size ∧ (-9223372036854775808 ≤ x0 ∧ x0 ≤ 9223372036854775807) ∧ (-9223372036854775808 ≤ x1 ∧ x1 ≤ 9223372036854775807) ∧ (-9223372036854775808 ≤ x2 ∧ x2 ≤ 9223372036854775807)
set_option maxHeartbeats 4000000 in
set_option maxRecDepth 100000 in
theorem caps_walk (c pe il li : Int) (ad : Option Addr) (len cap : Nat) (W : World) (hlen : len ≤ 6000000000000) (hst : Hid (InS W ad len)) :
    Calls Try.prog 4 #[.agg #[.int .i64 c, .int .i64 pe, .int .i64 il, .int .i64 li], .slice ad len cap] W fun e w' => e = .returned (.bool true) ∧ Below W.heap.size W w' := by
  by_cases hA : okN c pe il li
  · have HN := hide (fun V => new_any V c pe il li hA)
    have K0 : Hid (POk (p0 c pe il li) ((0 : Nat) : Int)) := hide (POk.new hA)
    have J0 : Hid (Same (p0 c pe il li) (p0 c pe il li) ∧ Full (p0 c pe il li)) := hide ⟨Same.refl _, fun x => absurd rfl x⟩
    clear hA
    have T0 : Hid (Top (Two (Blk W.heap.size (aqO c pe il li)) Nil) W (W.alloc (aqO c pe il li))) := hide ((Top.nil W).put (Blk.new W _))
    rw [show aqO c pe il li = .cells #[.int .i64 c, .int .i64 pe, .int .i64 il, .int .i64 li] 23 (0, 0) from rfl] at T0
    go_enter Try.func4, Try.ntmps4
    go_upto_region 1 with fail
    have HN := hide (HN.out (W.alloc (.cells #[.int .i64 c, .int .i64 pe, .int .i64 il, .int .i64 li] 23 (0, 0))))
    generalize W.alloc _ = w0 at *
    generalize hgA : W.heap.size = a at *
    obtain ⟨_, x, -⟩ := T0.out.at0
    have k0 : w0.cell? ⟨a, 0, none⟩ = some (.int .i64 c) := cell_of x.1 0
    have k1 : w0.cell? ⟨a, 1, none⟩ = some (.int .i64 pe) := cell_of x.1 1
    have k2 : w0.cell? ⟨a, 2, none⟩ = some (.int .i64 il) := cell_of x.1 2
    have k3 : w0.cell? ⟨a, 3, none⟩ = some (.int .i64 li) := cell_of x.1 3
    clear x
    go_wp2_with fail
    refine HN.out.mono ?_
    rintro e w1 ⟨rfl, d⟩
    have T1 := hide (T0.out.put d)
    clear d HN T0 k0 k1 k2 k3
    generalize w0.heap.size = b at *
    go_wp2_with fail
    go_loopw [7, 38] (fun s7 v wr => ∃ (k : Nat) (now : Int) (p : Pm), k ≤ len ∧ v = .int .i64 (k : Int) ∧ s7 = .int .i64 now ∧ Hid (POk p (k : Int)) ∧ Hid (Same (p0 c pe il li) p ∧ Full p) ∧ Hid (Top (Two (PX p b) (Two (Blk a (.cells #[.int .i64 c, .int .i64 pe, .int .i64 il, .int .i64 li] 23 (0, 0))) Nil)) W wr)) (fun _ v _ => len - (intOf v).toNat)
    case atStart => exact ⟨0, 0, _, Nat.zero_le _, rfl, rfl, K0, J0, T1⟩
    case round =>
      clear T1 K0 J0
      obtain ⟨k, now, p, hk, rfl, rfl, HK, HJ, HI⟩ := hrel
      by_cases hlt : k < len
      · obtain ⟨pb, off, kd, nw, ho, rfl, ⟨hc0, hc1, hc2⟩, hb, -, -, -⟩ := hst.out k hlt
        have e0 : wr.cell? ⟨pb, off + k * 3, none⟩ = some (.int .i64 kd) := (World.cell?_of_block (HI.out.fr.block pb hb (fun x => x))).trans hc0
        have e1 : wr.cell? ⟨pb, off + k * 3 + 1, none⟩ = some (.int .i64 nw) := (World.cell?_of_block (HI.out.fr.block pb hb (fun x => x))).trans hc1
        have e2 : wr.cell? ⟨pb, off + k * 3 + 2, none⟩ = some (.int .i64 ho) := (World.cell?_of_block (HI.out.fr.block pb hb (fun x => x))).trans hc2
        clear hc0 hc1 hc2 hst hb
        have T3 := hide (HI.out.put (Blk.new wr (stO kd nw ho)))
        rw [show stO kd nw ho = .cells #[.int .i64 kd, .int .i64 nw, .int .i64 ho] 34 (0, 0) from rfl] at T3
        go_upto_region 8 with fail
        generalize wr.alloc _ = w3 at *
        generalize wr.heap.size = ew at *
        clear e0 e1 e2 HI
        obtain ⟨_, x, -⟩ := T3.out.at0
        obtain ⟨e0, e1, e2⟩ := st_cells (kd := kd) (nw := nw) (who := ho) x.1
        clear x
        go_cut [38, 50] from 38 to 100 (fun v c wc => v = .int .i64 (k : Int) ∧ w3 = wc ∧ c = .bool (decide (now < nw ∧ nw ≤ 2305843009213693952)))
        case first =>
          go_wp2_with fail
          all_goals go_meet
          all_goals exact ⟨rfl, rfl, congrArg Value.bool (by first | rfl | (apply decide_eq_decide.2; omega) | (simp; omega))⟩
        case rest =>
        obtain ⟨rfl, rfl, rfl⟩ := hcut
        obtain ⟨cc, Hcc⟩ : ∃ cc, Hid (decide (now < nw ∧ nw ≤ 2305843009213693952) = cc) := ⟨_, hide rfl⟩
        rw [Hcc.out]
        go_upto_if 50 with fail
        go_cut [7, 38] from 38 to 100 (fun u v wc => v = .int .i64 (k : Int) ∧ w3 = wc ∧ ∃ t : Int, u = .int .i64 t)
        case first =>
          cases cc with
          | true =>
            go_wp2_with fail
            go_meet
            exact ⟨rfl, rfl, _, rfl⟩
          | false =>
            go_wp2_with fail
            go_meet
            exact ⟨rfl, rfl, _, rfl⟩
        case rest =>
        obtain ⟨rfl, rfl, t, rfl⟩ := hcut
        clear Hcc
        obtain ⟨P, h1, h2⟩ := T3.out.at1
        have HX := hide h2
        have HC := hide (does_any p b w3 P kd nw ho t (k : Int) h1 HK.out (by omega))
        have HK2 := hide (HK.out.does kd t ho)
        have HJ2 : Hid (Same (p0 c pe il li) (dsP p kd t ho) ∧ Full (dsP p kd t ho)) := hide ⟨HJ.out.1.trans (does_full HJ.out.2 kd t ho).1, (does_full HJ.out.2 kd t ho).2⟩
        unfold stV at HC
        clear h1 h2 T3 HK HJ
        generalize dsP p kd t ho = p' at *
        go_wp2_with fail
        refine HC.out.mono ?_
        rintro e w4 ⟨v, rfl, d⟩
        have T4 := hide (HX.out _ _ d)
        obtain ⟨sa, sl, sc, rfl⟩ : ∃ a n cap, v = .slice a n cap := by obtain ⟨_, y⟩ := d.fst_of; obtain ⟨a, c, e, _⟩ := y.1.shape; exact ⟨a, _, c, e⟩
        clear d HX HC e0 e1 e2
        have T5 := hide (Top.assoc T4.out.drop).drop
        clear T4
        obtain ⟨_, ⟨vr, vw, hp⟩, -⟩ := T5.out.at0
        have HZ := hide (size_any p' b vr vw w4 hp.v HK2.out.r64)
        have n1 := HK2.out.len
        have n2 := HK2.out.wait
        have n3 := nR_le p'.R
        have n4 : p'.Q.length = 0 ∨ c ≤ (p'.R.length : Int) := by
          by_cases hq : p'.Q = []
          · left; rw [hq]; rfl
          · right
            have := HJ2.out.2 hq
            rw [HJ2.out.1.1] at this
            exact this
        rw [HJ2.out.1.1] at n1
        rw [HJ2.out.1.2.1] at n2
        have n1' : (p'.R.length : Int) ≤ c := n1
        have n2' : (p'.Q.length : Int) ≤ pe := n2
        clear hp n1 n2
        go_wp2_with fail
        refine HZ.out.mono ?_
        rintro e w5 ⟨rfl, F⟩
        have T6 := hide (T5.out.same F)
        clear F HZ T5
        obtain ⟨_, x, -⟩ := T6.out.at1
        have k0 : w5.cell? ⟨a, 0, none⟩ = some (.int .i64 c) := cell_of x.1 0
        have k1 : w5.cell? ⟨a, 1, none⟩ = some (.int .i64 pe) := cell_of x.1 1
        clear x
        generalize p'.R.length = rn at *
        generalize p'.Q.length = qn at *
        generalize nR p'.R = xn at *
        have d1 : decide (c < (rn : Int)) = false := decide_eq_false (by omega)
        have d2 : decide ((rn : Int) < (xn : Int)) = false := decide_eq_false (by omega)
        have d3 : decide (pe < (qn : Int)) = false := decide_eq_false (by omega)
        have d2' : ¬ rn < xn := by omega
        have n5 : qn = 0 ∨ (0 < qn ∧ c ≤ (rn : Int)) := by omega
        clear n4
        rcases n5 with n4 | ⟨q0, n4⟩
        · subst n4
          go_wp2_with fail
          go_roundw
          case rel => exact ⟨k + 1, t, p', by omega, by go_num, rfl, hide (by have := HK2.out; rw [Int.natCast_add]; exact this), HJ2, T6⟩
          case measure => simp [intOf]; omega
        · have d5 : decide ((rn : Int) < c) = false := decide_eq_false (by omega)
          have q0i : (0 : Int) < (qn : Int) := by omega
          go_wp2_with fail
          go_roundw
          case rel => exact ⟨k + 1, t, p', by omega, by go_num, rfl, hide (by have := HK2.out; rw [Int.natCast_add]; exact this), HJ2, T6⟩
          case measure => simp [intOf]; omega
      · have ek : k = len := by omega
        subst ek
        go_wp2_with (go_at_call 10; refine (speaks_any _).mono ?_; rintro e w9 ⟨rfl, HG⟩)
        go_ret
        exact ⟨rfl, (HI.out.fr.trans HG (fun _ _ x => x)).below (by omega) (fun _ _ x => x)⟩
  · have HN := hide (fun V => new_bad V c pe il li hA)
    clear hA
    go_enter Try.func4, Try.ntmps4
    go_wp2_with (first | (go_at_call 8; refine (HN.out _).mono ?_; rintro e w' ⟨rfl, rfl⟩) | (go_at_call 10; refine (speaks_any _).mono ?_; rintro e w9 ⟨rfl, HG⟩))
    go_ret
    exact ⟨rfl, ((Fr.alloc none' W _).trans HG (fun _ _ x => x)).below (Nat.le_refl _) (fun _ _ x => x)⟩
end Go.Proofs.Ytgeneknaekoinaa
