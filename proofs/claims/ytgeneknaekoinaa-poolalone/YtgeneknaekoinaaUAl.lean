/- PoolAlone, walked. -/
import Derived.Test.YtgeneknaekoinaaUAl0
namespace Go.Proofs.Ytgeneknaekoinaa
open Go.ChangeShapes Go.WideShapes Go.ChangeAt Go.RowKit
set_option linter.unusedVariables false

theorem Two.mono {A B B' : Thing} (f : ∀ w P, B w P → ∃ P', B' w P' ∧ ∀ k, P' k → P k) {w : World} {P : Nat → Prop} (h : Two A B w P) : ∃ P', Two A B' w P' ∧ ∀ k, P' k → P k := by
  obtain ⟨P1, P2, h1, h2, h3, h4⟩ := h
  obtain ⟨P', q1, q2⟩ := f w P2 h2
  exact ⟨fun k => P1 k ∨ P' k, ⟨P1, P', h1, q1, fun k hk x => h3 k hk (q2 k x), fun k => Iff.rfl⟩, fun k hk => (h4 k).2 (hk.imp id (q2 k))⟩
theorem Top.mono {B B' : Thing} (f : ∀ w P, B w P → ∃ P', B' w P' ∧ ∀ k, P' k → P k) {W w : World} (h : Top B W w) : Top B' W w := by
  obtain ⟨P, h1, h2, h3⟩ := h
  obtain ⟨P', q1, q2⟩ := f w P h1
  exact ⟨P', q1, fun k hk => h2 k (q2 k hk), h3⟩
theorem Two.snd {A B : Thing} (w : World) (P : Nat → Prop) (h : Two A B w P) : ∃ P', B w P' ∧ ∀ k, P' k → P k := by
  obtain ⟨P1, P2, h1, h2, h3, h4⟩ := h
  exact ⟨P2, h2, fun k hk => (h4 k).2 (.inr hk)⟩
theorem Top.drop1 {A B C : Thing} {W w : World} (h : Top (Two A (Two B C)) W w) : Top (Two A C) W w := h.mono (fun _ _ x => Two.mono Two.snd x)
theorem Top.assoc1 {A B C D : Thing} {W w : World} (h : Top (Two A (Two (Two B C) D)) W w) : Top (Two A (Two B (Two C D))) W w := h.mono (fun _ _ x => Two.mono (fun _ P y => ⟨P, y.assoc, fun _ hk => hk⟩) x)
/-- One number of a row of numbers. -/
theorem RT.set1 {g off n cap : Nat} {O : List Int} {w : World} {P : Nat → Prop} (h : RT 3 1 (.slice (some ⟨g, off, none⟩) n cap) O.length O w P) (hn : O.length = n) {i : Nat} (hi : i < n) (x : Int) : Does (RT 3 1 (.slice (some ⟨g, off, none⟩) n cap) (O.set i x).length (O.set i x)) P w (w.setCell ⟨g, off + i, none⟩ (.int .i64 x)) := by
  have h1 := h.1
  rw [hn] at h1
  refine ⟨P, ⟨?_, h.2⟩, (Fr.set _ _ _ _).mono (fun k _ e => (h.2 k).2 (by rw [e]; rfl)), fun _ hk => .inl hk⟩
  rw [List.length_set, hn]
  exact h1.set i (by omega) x
theorem ownS_len {O O' : List Int} {a : Ac} (h : ownS O a = some O') : O.length ≤ O'.length := by
  unfold ownS at h
  split at h
  · split at h
    · cases h; simp
    · simp at h
  split at h
  · split at h
    · cases h; simp
    · simp at h
  split at h
  · split at h
    · cases h; simp
    · simp at h
  · cases h; exact Nat.le_refl _
theorem ownL_len {O O' : List Int} {A : List Ac} (h : ownL O A = some O') : O.length ≤ O'.length := by
  induction A generalizing O with
  | nil => simp [ownL] at h; subst h; exact Nat.le_refl _
  | cons a A ih =>
    unfold ownL at h
    split at h
    · rename_i O1 h1
      exact Nat.le_trans (ownS_len h1) (ih h)
    · simp at h
theorem ownL_mid {O O' O1 : List Int} {A : List Ac} {k : Nat} (h : ownL O A = some O') (h1 : ownL O (A.take k) = some O1) : O1.length ≤ O'.length := by
  have : ownL O (A.take k ++ A.drop k) = some O' := by rw [List.take_append_drop]; exact h
  rw [ownL_app h1] at this
  exact ownL_len this
/-- The four kinds of acts, told apart. -/
theorem own_kinds {O O2 : List Int} {a : Ac} (h : ownS O a = some O2) : (a.k = 1 ∧ a.c = (O.length : Int) ∧ O2 = O ++ [a.w]) ∨ (a.k = 2 ∧ ∃ i : Nat, a.c = (i : Int) ∧ i < O.length ∧ O.getD i 0 = -1 ∧ O2 = O.set i a.w) ∨ (a.k = 5 ∧ ∃ i : Nat, a.c = (i : Int) ∧ i < O.length ∧ O2 = O.set i (-1)) ∨ (¬ a.k = 1 ∧ ¬ a.k = 2 ∧ ¬ a.k = 5 ∧ O2 = O) := by
  unfold ownS at h
  split at h
  · rename_i k1
    split at h
    · rename_i hc
      cases h
      exact .inl ⟨k1, hc, rfl⟩
    · simp at h
  split at h
  · rename_i k1 k2
    split at h
    · rename_i hc
      cases h
      exact .inr (.inl ⟨k2, a.c.toNat, by omega, by omega, hc.2.2, rfl⟩)
    · simp at h
  split at h
  · rename_i k1 k2 k5
    split at h
    · rename_i hc
      cases h
      exact .inr (.inr (.inl ⟨k5, a.c.toNat, by omega, by omega, rfl⟩))
    · simp at h
  · rename_i k1 k2 k5
    cases h
    exact .inr (.inr (.inr ⟨k1, k2, k5, rfl⟩))
set_option maxHeartbeats 8000000 in
set_option maxRecDepth 100000 in
theorem alone_walk (c pe il li : Int) (ad : Option Addr) (len cap : Nat) (W : World) (hlen : len ≤ 6000000000000) (hst : Hid (InS W ad len)) :
    Calls Try.prog 5 #[.agg #[.int .i64 c, .int .i64 pe, .int .i64 il, .int .i64 li], .slice ad len cap] W fun e w' => e = .returned (.bool true) ∧ Below W.heap.size W w' := by
  by_cases hA : okN c pe il li
  · have HN := hide (fun V => new_any V c pe il li hA)
    have K0 : Hid (POk (p0 c pe il li) ((0 : Nat) : Int)) := hide (POk.new hA)
    have J0 : Hid (Al (p0 c pe il li) []) := hide ⟨rfl, by unfold p0; simp, fun r hr => by unfold p0 at hr; simp at hr, fun r hr => by unfold p0 at hr; simp at hr⟩
    clear hA
    have T0 : Hid (Top (Two (Blk W.heap.size (aqO c pe il li)) Nil) W (W.alloc (aqO c pe il li))) := hide ((Top.nil W).put (Blk.new W _))
    rw [show aqO c pe il li = .cells #[.int .i64 c, .int .i64 pe, .int .i64 il, .int .i64 li] 23 (0, 0) from rfl] at T0
    go_enter Try.func5, Try.ntmps5
    go_upto_region 1 with fail
    have HN := hide (HN.out (W.alloc (.cells #[.int .i64 c, .int .i64 pe, .int .i64 il, .int .i64 li] 23 (0, 0))))
    generalize W.alloc _ = w0 at *
    generalize hgA : W.heap.size = a at *
    obtain ⟨_, x, -⟩ := T0.out.at0
    have k0 : w0.cell? ⟨a, 0, none⟩ = some (.int .i64 c) := cell_of x.1 0
    have k1 : w0.cell? ⟨a, 1, none⟩ = some (.int .i64 pe) := cell_of x.1 1
    have k2 : w0.cell? ⟨a, 2, none⟩ = some (.int .i64 il) := cell_of x.1 2
    have k3 : w0.cell? ⟨a, 3, none⟩ = some (.int .i64 li) := cell_of x.1 3
    clear x
    go_wp2_with fail
    refine HN.out.mono ?_
    rintro e w1 ⟨rfl, d⟩
    have T1 : Hid (Top (Two (RQ (.slice none 0 0) []) (Two (PX (p0 c pe il li) w0.heap.size) Nil)) W w1) := hide ((T0.out.put d).drop1.put (RT.new 3 1 w1))
    clear d HN T0 k0 k1 k2 k3
    generalize w0.heap.size = b at *
    go_wp2_with fail
    go_loopw [7, 8, 40] (fun s7 s8 v wr => ∃ (k : Nat) (now : Int) (p : Pm) (O : List Int), k ≤ len ∧ v = .int .i64 (k : Int) ∧ s7 = .int .i64 now ∧ Hid (POk p (k : Int)) ∧ Hid (Al p O) ∧ Hid (Top (Two (RQ s8 O) (Two (PX p b) Nil)) W wr)) (fun _ _ v _ => len - (intOf v).toNat)
    case atStart => exact ⟨0, 0, _, _, Nat.zero_le _, rfl, rfl, K0, J0, T1⟩
    case round =>
      clear T1 K0 J0
      obtain ⟨k, now, p, O, hk, rfl, rfl, HK, HJ, HI⟩ := hrel
      obtain ⟨oa, on, oc, rfl, Hon⟩ : ∃ a n cap, u8 = .slice a n cap ∧ Hid (O.length = n) := by obtain ⟨_, y, -⟩ := HI.out.at0; obtain ⟨a, c, e, _⟩ := y.1.shape; exact ⟨a, _, c, e, hide rfl⟩
      by_cases hlt : k < len
      · obtain ⟨pb, off, kd, nw, ho, rfl, ⟨hc0, hc1, hc2⟩, hb, -, -, -⟩ := hst.out k hlt
        have e0 : wr.cell? ⟨pb, off + k * 3, none⟩ = some (.int .i64 kd) := (World.cell?_of_block (HI.out.fr.block pb hb (fun x => x))).trans hc0
        have e1 : wr.cell? ⟨pb, off + k * 3 + 1, none⟩ = some (.int .i64 nw) := (World.cell?_of_block (HI.out.fr.block pb hb (fun x => x))).trans hc1
        have e2 : wr.cell? ⟨pb, off + k * 3 + 2, none⟩ = some (.int .i64 ho) := (World.cell?_of_block (HI.out.fr.block pb hb (fun x => x))).trans hc2
        clear hc0 hc1 hc2 hst hb
        have T3 := hide (HI.out.put (Blk.new wr (stO kd nw ho)))
        rw [show stO kd nw ho = .cells #[.int .i64 kd, .int .i64 nw, .int .i64 ho] 34 (0, 0) from rfl] at T3
        go_upto_region 9 with fail
        generalize wr.alloc _ = w3 at *
        generalize wr.heap.size = ew at *
        clear e0 e1 e2 HI
        obtain ⟨_, x, -⟩ := T3.out.at0
        obtain ⟨e0, e1, e2⟩ := st_cells (kd := kd) (nw := nw) (who := ho) x.1
        clear x
        go_cut [40, 52] from 40 to 140 (fun v c wc => v = .int .i64 (k : Int) ∧ w3 = wc ∧ c = .bool (decide (now < nw ∧ nw ≤ 2305843009213693952)))
        case first =>
          go_wp2_with fail
          all_goals go_meet
          all_goals exact ⟨rfl, rfl, congrArg Value.bool (by first | rfl | (apply decide_eq_decide.2; omega) | (simp; omega))⟩
        case rest =>
        obtain ⟨rfl, rfl, rfl⟩ := hcut
        obtain ⟨cc, Hcc⟩ : ∃ cc, Hid (decide (now < nw ∧ nw ≤ 2305843009213693952) = cc) := ⟨_, hide rfl⟩
        rw [Hcc.out]
        go_upto_if 52 with fail
        go_cut [7, 40] from 40 to 140 (fun u v wc => v = .int .i64 (k : Int) ∧ w3 = wc ∧ ∃ t : Int, u = .int .i64 t)
        case first =>
          cases cc with
          | true =>
            go_wp2_with fail
            go_meet
            exact ⟨rfl, rfl, _, rfl⟩
          | false =>
            go_wp2_with fail
            go_meet
            exact ⟨rfl, rfl, _, rfl⟩
        case rest =>
        obtain ⟨rfl, rfl, t, rfl⟩ := hcut
        clear Hcc
        obtain ⟨P, h1, h2⟩ := T3.out.at2
        have HX := hide h2
        have HC := hide (does_any p b w3 P kd nw ho t (k : Int) h1 HK.out (by omega))
        have HK2 := hide (HK.out.does kd t ho)
        obtain ⟨HB, O', HO, HJ2⟩ : Hid (dsB p kd t ho = true → 0 ≤ ho ∧ ho < (O.length : Int)) ∧ ∃ O', Hid (ownL (own0 p O kd t ho) (dsA p kd t ho) = some O') ∧ Hid (Al (dsP p kd t ho) O') := by
          obtain ⟨x, O', y, z⟩ := HJ.out.does kd t ho
          exact ⟨hide x, O', hide y, hide z⟩
        unfold stV at HC
        clear h1 h2 T3 HK HJ
        generalize dsP p kd t ho = p' at *
        generalize dsA p kd t ho = A at *
        obtain ⟨gn, Hgn⟩ : ∃ gn, Hid (dsB p kd t ho = gn) := ⟨_, hide rfl⟩
        have HOE : Hid (own0 p O kd t ho = if gn then O.set ho.toNat (-1) else O) := hide (by unfold own0; rw [Hgn.out])
        rw [Hgn.out] at HC HB
        have HLO : Hid ((O'.length : Int) ≤ (k : Int) + 1) := hide (by have := HJ2.out.len; have := HK2.out.ask1; omega)
        go_wp2_with fail
        refine HC.out.mono ?_
        rintro e w4 ⟨v, rfl, d⟩
        have T4 := hide (HX.out _ _ d)
        obtain ⟨sa, sl, sc, rfl, Hsl⟩ : ∃ a n cap, v = .slice a n cap ∧ Hid (A.length = n) := by obtain ⟨_, y⟩ := d.fst_of; obtain ⟨a, c, e, _⟩ := y.1.shape; exact ⟨a, _, c, e, hide rfl⟩
        obtain ⟨sh0, sh1⟩ : sl ≤ sc ∧ sc ≤ 9223372036854775807 := by obtain ⟨_, y⟩ := d.fst_of; obtain ⟨a, c, e, h1, h2⟩ := y.1.shape; simp only [Value.slice.injEq] at e; obtain ⟨rfl, rfl, rfl⟩ := e; exact ⟨h1, h2⟩
        clear d HX HC e0 e1 e2
        obtain ⟨_, x, -⟩ := T4.out.at0
        obtain ⟨e0, e1, e2⟩ := st_cells (kd := kd) (nw := nw) (who := ho) x.1
        clear x
        go_upto_if 62 with fail
        go_cut [40] from 40 to 140 (fun v wc => v = .int .i64 (k : Int) ∧ Hid (Top (Two (RQ (.slice oa on oc) (own0 p O kd t ho)) (Two (Two (RA (.slice sa sl sc) A) (PX p' b)) Nil)) W wc))
        case first =>
          cases gn with
          | false =>
            rw [if_neg (by simp)] at HOE
            have T5 : Hid (Top (Two (RQ (.slice oa on oc) (own0 p O kd t ho)) (Two (Two (RA (.slice sa sl sc) A) (PX p' b)) Nil)) W w4) := hide (by rw [HOE.out]; exact T4.out.drop)
            go_wp2_with fail
            go_meet
            exact ⟨rfl, T5⟩
          | true =>
            rw [if_pos rfl] at HOE
            obtain ⟨hb0, hb1⟩ := HB.out rfl
            rw [Hon.out] at hb1
            obtain ⟨i, rfl⟩ := Int.eq_ofNat_of_zero_le hb0
            have hin : i < on := by omega
            obtain ⟨_, x, hx⟩ := T4.out.drop.at0
            obtain ⟨g, off2, cap2, e, c0⟩ : ∃ g off cap, (Value.slice oa on oc) = .slice (some ⟨g, off, none⟩) on cap ∧ w4.cell? ⟨g, off + i, none⟩ = some (.int .i64 (O.getD i 0)) := by
              obtain ⟨g, off, cap, e, _, _, r, _⟩ := x.1.at (i := i) (by rw [Hon.out]; exact hin)
              have := r 0 (by omega)
              rw [Nat.mul_one, Nat.add_zero, Nat.add_zero] at this
              exact ⟨g, off, cap, by rw [e, Hon.out], this⟩
            simp only [Value.slice.injEq] at e
            obtain ⟨rfl, -, rfl⟩ := e
            have z0 : w4.frozen? ⟨g, off2 + i, none⟩ = false := by
              obtain ⟨g', off', cap', e, _, _, _, f, _⟩ := x.1.at (i := i) (by rw [Hon.out]; exact hin)
              simp only [Value.slice.injEq, Option.some.injEq, Addr.mk.injEq, and_true] at e
              obtain ⟨⟨rfl, rfl⟩, -, -⟩ := e
              exact f _
            have T5 : Hid (Top (Two (RQ (.slice (some ⟨g, off2, none⟩) on oc) (own0 p O kd t (i : Int))) (Two (Two (RA (.slice sa sl sc) A) (PX p' b)) Nil)) W (w4.setCell ⟨g, off2 + i, none⟩ (.int .i64 (-1)))) := hide (by
              rw [HOE.out, Int.toNat_natCast]
              exact hx _ _ (RT.set1 x Hon.out hin (-1)))
            generalize O.getD i 0 = ov at *
            clear x hx T4
            have hii : (i : Int) < (on : Int) := by omega
            go_wp2_with fail
            go_meet
            exact ⟨rfl, T5⟩
        case rest =>
        obtain ⟨rfl, T5⟩ := hcut
        clear T4 HB HOE Hgn e0 e1 e2
        have HOL : Hid ((own0 p O kd t ho).length = on) := hide (by unfold own0; split; rw [List.length_set]; exact Hon.out; exact Hon.out)
        generalize own0 p O kd t ho = O0 at *
        have T6 := hide T5.out.assoc1
        clear T5 Hon
        go_wp2_with fail
        go_loopw [8, 79] (fun s8 v wx => ∃ (j : Nat) (O1 : List Int), j ≤ sl ∧ v = .int .i64 (j : Int) ∧ Hid (ownL O0 (A.take j) = some O1) ∧ Hid (Top (Two (RQ s8 O1) (Two (RA (.slice sa sl sc) A) (Two (PX p' b) Nil))) W wx)) (fun _ v _ => sl - (intOf v).toNat)
        case atStart => exact ⟨0, O0, Nat.zero_le _, rfl, hide rfl, T6⟩
        case round =>
          clear T6 HOL
          obtain ⟨j, O1, hj, rfl, HO1, HI⟩ := hrel
          obtain ⟨oa1, on1, oc1, rfl, Hon, oh0, oh1⟩ : ∃ a n cap, u8 = .slice a n cap ∧ Hid (O1.length = n) ∧ n ≤ cap ∧ cap ≤ 9223372036854775807 := by obtain ⟨_, y, -⟩ := HI.out.at0; obtain ⟨a, c, e, h1, h2⟩ := y.1.shape; exact ⟨a, _, c, e, hide rfl, h1, h2⟩
          have hon1 : on1 ≤ 6000000000001 := by
            have := ownL_mid HO.out HO1.out
            have := HLO.out
            rw [Hon.out] at *
            omega
          by_cases hju : j < sl
          · have hjl : j < A.length := by rw [Hsl.out]; exact hju
            have hr := get_ok hjl
            obtain ⟨O2, HS, HO2⟩ : ∃ O2, Hid (ownS O1 A[j] = some O2) ∧ Hid (ownL O0 (A.take (j + 1)) = some O2) := by
              obtain ⟨O2, x, y⟩ := ownL_step HO.out HO1.out hr
              exact ⟨O2, hide x, hide y⟩
            obtain ⟨_, x, -⟩ := HI.out.at1
            obtain ⟨g1, off1, cap1, e, -, -, l0, l1, l2⟩ := act_cells x.1 hr
            simp only [Value.slice.injEq] at e
            obtain ⟨rfl, -, rfl⟩ := e
            generalize A[j] = ac at *
            obtain ⟨ak, av, aw⟩ := ac
            dsimp only at l0 l1 l2
            clear x hr hjl
            have T7 := hide (HI.out.put (Blk.new wr (acO ⟨ak, av, aw⟩)))
            rw [show acO ⟨ak, av, aw⟩ = .cells #[.int .i64 ak, .int .i64 av, .int .i64 aw] 49 (0, 0) from rfl] at T7
            go_upto_region 19 with fail
            clear l0 l1 l2 HI
            generalize wr.alloc _ = w6 at *
            generalize wr.heap.size = ab at *
            obtain ⟨_, x, -⟩ := T7.out.at0
            obtain ⟨a0, a1, a2, -⟩ := ac_cells (a := ⟨ak, av, aw⟩) x.1
            dsimp only at a0 a1 a2
            have T8 := hide T7.out.drop
            clear x T7
            rcases own_kinds HS.out with ⟨k1, kc, rfl⟩ | ⟨k2, i, kc, hi, ho2, rfl⟩ | ⟨k5, i, kc, hi, rfl⟩ | ⟨k1, k2, k5, rfl⟩
            · dsimp only at k1 kc
              rw [Hon.out] at kc
              subst k1
              subst kc
              have HQ : Hid (Rw 3 1 w6 (.slice oa1 on1 oc1) on1 O1) := by obtain ⟨_, x, -⟩ := T8.out.at0; exact hide (by have := x.1; rw [Hon.out] at this; exact this)
              dsimp only at HO2
              go_wp2_with (at_builtin; apply Hid.out)
              unfold Hid
              refine wpList_append_rw infInt rfl _ _ rfl w6 (.slice oa1 on1 oc1) on1 O1 [aw] rfl (by simp [Act.eval, go_sem]) HQ.out rfl (by omega) (by omega) ?_
              intro v' W6 r1 F o
              have T9 : Hid (Top (Two (RQ v' (O1 ++ [aw])) (Two (RA (.slice (some ⟨g1, off1, none⟩) sl sc) A) (Two (PX p' b) Nil))) W W6) := by
                obtain ⟨_, x, hx⟩ := T8.out.at0
                exact hide (hx _ _ (x.app (by rw [List.length_append, Hon.out]; exact r1) F o))
              obtain ⟨sa2, sc2, rfl, -, -⟩ := r1.shape
              clear r1 F o HQ T8 a0 a1 a2
              go_wp2_with fail
              go_roundw
              case rel => exact ⟨j + 1, _, by omega, by go_num, HO2, T9⟩
              case measure => simp [intOf]; omega
            · dsimp only at k2 kc
              subst k2
              subst kc
              rw [Hon.out] at hi
              obtain ⟨_, x, hx⟩ := T8.out.at0
              obtain ⟨g, off2, cap2, e, c0⟩ : ∃ g off cap, (Value.slice oa1 on1 oc1) = .slice (some ⟨g, off, none⟩) on1 cap ∧ w6.cell? ⟨g, off + i, none⟩ = some (.int .i64 (O1.getD i 0)) := by
                obtain ⟨g, off, cap, e, _, _, r, _⟩ := x.1.at (i := i) (by rw [Hon.out]; exact hi)
                have := r 0 (by omega)
                rw [Nat.mul_one, Nat.add_zero, Nat.add_zero] at this
                exact ⟨g, off, cap, by rw [e, Hon.out], this⟩
              simp only [Value.slice.injEq] at e
              obtain ⟨rfl, -, rfl⟩ := e
              have z0 : w6.frozen? ⟨g, off2 + i, none⟩ = false := by
                obtain ⟨g', off', cap', e, _, _, _, f, _⟩ := x.1.at (i := i) (by rw [Hon.out]; exact hi)
                simp only [Value.slice.injEq, Option.some.injEq, Addr.mk.injEq, and_true] at e
                obtain ⟨⟨rfl, rfl⟩, -, -⟩ := e
                exact f _
              rw [ho2] at c0
              dsimp only at HO2
              have T9 : Hid (Top (Two (RQ (.slice (some ⟨g, off2, none⟩) on1 oc1) (O1.set i aw)) (Two (RA (.slice (some ⟨g1, off1, none⟩) sl sc) A) (Two (PX p' b) Nil))) W (w6.setCell ⟨g, off2 + i, none⟩ (.int .i64 aw))) := hide (hx _ _ (RT.set1 x Hon.out hi aw))
              clear x hx T8 ho2
              have hii : (i : Int) < (on1 : Int) := by omega
              go_wp2_with fail
              go_roundw
              case rel => exact ⟨j + 1, _, by omega, by go_num, HO2, T9⟩
              case measure => simp [intOf]; omega
            · dsimp only at k5 kc
              subst k5
              subst kc
              rw [Hon.out] at hi
              obtain ⟨_, x, hx⟩ := T8.out.at0
              obtain ⟨g, off2, cap2, e, c0⟩ : ∃ g off cap, (Value.slice oa1 on1 oc1) = .slice (some ⟨g, off, none⟩) on1 cap ∧ w6.cell? ⟨g, off + i, none⟩ = some (.int .i64 (O1.getD i 0)) := by
                obtain ⟨g, off, cap, e, _, _, r, _⟩ := x.1.at (i := i) (by rw [Hon.out]; exact hi)
                have := r 0 (by omega)
                rw [Nat.mul_one, Nat.add_zero, Nat.add_zero] at this
                exact ⟨g, off, cap, by rw [e, Hon.out], this⟩
              simp only [Value.slice.injEq] at e
              obtain ⟨rfl, -, rfl⟩ := e
              have z0 : w6.frozen? ⟨g, off2 + i, none⟩ = false := by
                obtain ⟨g', off', cap', e, _, _, _, f, _⟩ := x.1.at (i := i) (by rw [Hon.out]; exact hi)
                simp only [Value.slice.injEq, Option.some.injEq, Addr.mk.injEq, and_true] at e
                obtain ⟨⟨rfl, rfl⟩, -, -⟩ := e
                exact f _
              generalize O1.getD i 0 = ov at *
              have T9 : Hid (Top (Two (RQ (.slice (some ⟨g, off2, none⟩) on1 oc1) (O1.set i (-1))) (Two (RA (.slice (some ⟨g1, off1, none⟩) sl sc) A) (Two (PX p' b) Nil))) W (w6.setCell ⟨g, off2 + i, none⟩ (.int .i64 (-1)))) := hide (hx _ _ (RT.set1 x Hon.out hi (-1)))
              clear x hx T8
              have hii : (i : Int) < (on1 : Int) := by omega
              go_wp2_with fail
              go_roundw
              case rel => exact ⟨j + 1, _, by omega, by go_num, HO2, T9⟩
              case measure => simp [intOf]; omega
            · dsimp only at k1 k2 k5
              have m1 : (ak == 1) = false := by simpa using k1
              have m2 : (ak == 2) = false := by simpa using k2
              have m5 : (ak == 5) = false := by simpa using k5
              go_wp2_with fail
              go_roundw
              case rel => exact ⟨j + 1, _, by omega, by go_num, HO2, T8⟩
              case measure => simp [intOf]; omega
          · obtain rfl : j = sl := by omega
            have eO : O1 = O' := by
              have h1 := HO1.out
              rw [← Hsl.out, List.take_length, HO.out] at h1
              exact (Option.some.inj h1).symm
            subst eO
            have T9 := hide HI.out.drop1
            clear HI
            go_wp2_with fail
            go_roundw
            case rel => exact ⟨k + 1, t, p', O1, by omega, by go_num, rfl, hide (by have := HK2.out; rw [Int.natCast_add]; exact this), HJ2, T9⟩
            case measure => simp [intOf]; omega
      · have ek : k = len := by omega
        subst ek
        go_wp2_with (go_at_call 10; refine (speaks_any _).mono ?_; rintro e w9 ⟨rfl, HG⟩)
        go_ret
        exact ⟨rfl, (HI.out.fr.trans HG (fun _ _ x => x)).below (by omega) (fun _ _ x => x)⟩
  · have HN := hide (fun V => new_bad V c pe il li hA)
    clear hA
    go_enter Try.func5, Try.ntmps5
    go_wp2_with (first | (go_at_call 8; refine (HN.out _).mono ?_; rintro e w' ⟨rfl, rfl⟩) | (go_at_call 10; refine (speaks_any _).mono ?_; rintro e w9 ⟨rfl, HG⟩))
    go_ret
    exact ⟨rfl, ((Fr.alloc none' W _).trans HG (fun _ _ x => x)).below (Nat.le_refl _) (fun _ _ x => x)⟩
end Go.Proofs.Ytgeneknaekoinaa
