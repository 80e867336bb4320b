/- The document's pool: a row onto another; somebody needs none any more. -/
import Derived.Test.YtgeneknaekoinaaURf6
import Derived.Deep.Upon
namespace Go.Proofs.Ytgeneknaekoinaa
open Go.ChangeShapes Go.WideShapes Go.ChangeAt Go.RowKit
set_option linter.unusedVariables false

/-- Some structs more, or none. -/
theorem append_rwv {t T : TypeId} {m bts : Nat} (I : Inf t T m bts) (W : World) (ty : TypeId) (v x : Value) (n k : Nat) (xs ys : List Int) (h : Rw T m W v n xs) (hy : Rw T m W x k ys) (hn : (n + k) * bts ≤ 140737488355328) (hn2 : n + k ≤ 140737488355328) :
    ∃ v' W', (Builtin.append_ #[t, t] ty #[v, x]).run Try.prog W = .ok v' W' ∧ Rw T m W' v' (n + k) (xs ++ ys) ∧ Fr (fun k => v.ownBlock = some k) W W' ∧ ∀ k, v'.ownBlock = some k → v.ownBlock = some k ∨ W.heap.size ≤ k := by
  by_cases hk : 0 < k
  · exact append_rws I W ty v x n k xs ys h (Sc.ofRw I hy) hk hn hn2
  · have k0 : k = 0 := by omega
    subst k0
    have hs := (Sc.ofRw I hy).src
    have hyl := hy.1
    rw [Nat.zero_mul] at hyl
    have e := List.eq_nil_of_length_eq_zero hyl
    subst e
    obtain ⟨i, z, hi, hz, hzs, hs1, hb1⟩ := I.i
    obtain ⟨a, cap, rfl, h0, -⟩ := h.shape
    refine ⟨_, _, run_append_nothing W t t ty T i I.u hi a n cap h0 x (by rw [hs1]; exact hs), ?_, Fr.refl _ _, fun _ hj => .inl hj⟩
    rw [List.append_nil]
    exact h
theorem wpList_append_rwv {t T : TypeId} {m bts : Nat} (I : Inf t T m bts) {ops : Array Oper} {rest : List Oper} {o : Oper} {a : Act} {Q : Exit → Act → World → Prop} (hgd : o.guard = none) (s x : Operand)
    (ho : o.op = .call { callee := .builtin .append, args := #[s, x], argTypes := #[t, t] }) (W : World) (v v2 : Value) (n k : Nat) (xs ys : List Int) (hs : a.eval s = v) (hx : a.eval x = v2)
    (hv : Rw T m W v n xs) (hy : Rw T m W v2 k ys) (hn : (n + k) * bts ≤ 140737488355328) (hn2 : n + k ≤ 140737488355328)
    (h : ∀ v' W', Rw T m W' v' (n + k) (xs ++ ys) → Fr (fun k => v.ownBlock = some k) W W' → (∀ k, v'.ownBlock = some k → v.ownBlock = some k ∨ W.heap.size ≤ k) → wpList Try.prog ops Q rest (a.put o.dst v') W') : wpList Try.prog ops Q (o :: rest) a W := by
  refine wpList_plain hgd fun K hK => ?_
  obtain ⟨v', W', hr, h2, h3, h4⟩ := append_rwv I W o.type v v2 n k xs ys hv hy hn hn2
  unfold Oper.wp execOp
  simp only [ho, resolve, invoke, builtin, Sem.run_bind, Sem.run_pure, Result.andThen_ok, List.map_toArray, List.map_cons, List.map_nil, hs, hx, hr]
  exact hK _ _ (h v' W' h2 h3 h4)
/-- A row onto another: what it leaves. -/
theorem Does.onto {B : Thing} [Ob B] {P : Nat → Prop} {w w1 w2 : World} {v v2 v' : Value} {A C : List Ac} (h : Does (Two (RB v A) (Two (RB v2 C) B)) P w w1) (s : Rw 64 3 w2 v' (A.length + C.length) (fl encA A ++ fl encA C)) (F : Fr (fun k => v.ownBlock = some k) w1 w2) (o : ∀ k, v'.ownBlock = some k → v.ownBlock = some k ∨ w1.heap.size ≤ k) : Does (Two (RB v' (A ++ C)) B) P w w2 :=
  (h.left (fun _ y => y.app (by rw [fl_app2, List.length_append]; exact s) F o)).right (fun _ z => (Does.refl z).snd)
theorem newRB {B : Thing} [o : Ob B] {P : Nat → Prop} {w w1 : World} (h : Does B P w w1) (a : Ac) : Does (Two (RB (.slice (some ⟨w1.heap.size, 0, none⟩) 1 1) [a]) B) P w (w1.alloc (.cells #[.int .i64 a.k, .int .i64 a.c, .int .i64 a.w] 64)) := by
  obtain ⟨P', h1, h2, h3⟩ := h
  have hr := rw_new infRac w1 (encA a) rfl
  refine ⟨fun k => k = w1.heap.size ∨ P' k, ⟨fun k => k = w1.heap.size, P', ⟨by show Rw _ _ _ _ 1 (fl encA [a]); rw [show fl encA [a] = encA a by simp [fl]]; exact hr, fun k => by simp [Value.ownBlock, eq_comm]⟩, o.fr _ _ _ _ h1 (Fr.alloc none' w1 _) (fun _ _ x => x), fun k hk x => ?_, fun _ => Iff.rfl⟩, h2.trans (Fr.alloc none' w1 _) (fun _ _ x => x.elim), fun k hk => ?_⟩
  · have := o.lt _ _ _ h1 x; omega
  · rcases hk with rfl | hk
    · exact .inr h2.size
    · exact h3 k hk
theorem rv_len : ∀ (n : Nat) {p : Rm} {now : Int}, p.Q.length = n → (rvA p now).length ≤ n
  | 0, p, now, hn => by rw [(rv_nil (List.eq_nil_of_length_eq_zero hn)).1]; simp
  | n + 1, p, now, hn => by
    cases hg : rgB p now with
    | false => rw [(rv_stop hg).1]; simp
    | true =>
      obtain ⟨q, Q, hq⟩ := List.exists_cons_of_length_eq_add_one hn
      rw [(rv_go hg hq).1, List.length_cons]
      have := rv_len n (p := { rgP p now q with Q := Q }) (now := now) (by rw [hq] at hn; simpa using hn)
      omega
/-! ### Drop -/
def conO (p : Rm) (x : Int) : Cn := p.L.getD (idx (isO x) p.L).toNat zC
theorem conO_of {p : Rm} {x : Int} {i : Nat} {r : Cn} (h : idx (isO x) p.L = (i : Int)) (hr : p.L[i]? = some r) : conO p x = r := by
  unfold conO; rw [h, Int.toNat_natCast, List.getD_eq_getElem?_getD, hr]; rfl
def rdE (p : Rm) (now who : Int) : Int := if mom now then (if idx (isN who) p.Q = -1 ∧ idx (isO who) p.L = -1 then 6 else 0) else 1
def rd1 (p : Rm) (who : Int) : Rm := if idx (isN who) p.Q = -1 then cutP p (conO p who).n else { p with Q := p.Q.eraseIdx (idx (isN who) p.Q).toNat }
def rd0 (p : Rm) (who : Int) : List Ac := if idx (isN who) p.Q = -1 then [⟨5, (conO p who).n, who⟩] else []
def rdA (p : Rm) (now who : Int) : List Ac := if rdE p now who = 0 then rd0 p who ++ rvA (rd1 p who) now else []
def rdP (p : Rm) (now who : Int) : Rm := if rdE p now who = 0 then rvP (rd1 p who) now else p
set_option maxHeartbeats 1000000 in
set_option maxRecDepth 100000 in
theorem rdrop_any (p : Rm) (b : Nat) (w : World) (P : Nat → Prop) (now who M : Int) (h : QX p b w P) (k0 : QOk p (M - p.Q.length)) (hd : p.S.Nodup) (hM : M < 9223372036854775806) (hc : p.cap ≤ 64) :
    Calls Try.prog 28 #[.pointer (some ⟨b, 0, none⟩), .int .i64 now, .int .i64 who] w fun e w' => ∃ v, e = .returned (.tuple #[v, .int .i64 (rdE p now who)]) ∧ Does (Two (RB v (rdA p now who)) (QX (rdP p now who) b)) P w w' := by
  have h64 := k0.len
  have hq64 := k0.wait
  have HM := hide (rmom_any now w)
  cases hm : mom now with
  | false =>
    have e0 : rdE p now who = 1 := by unfold rdE; rw [hm]; rfl
    have e2 : rdA p now who = [] := by unfold rdA; rw [e0]; rfl
    have e3 : rdP p now who = p := by unfold rdP; rw [e0]; rfl
    rw [e0, e2, e3]
    rw [hm] at HM
    have T := hide (Does.refl h).nilRB
    clear h e0 e2 e3 k0 hm hd hc
    go_enter Try.func28, Try.ntmps28
    go_wp2_with (first | (go_at_call 20; refine HM.out.mono ?_; rintro e w' ⟨rfl, rfl⟩))
    go_ret2
    exact ⟨_, rfl, T.out⟩
  | true =>
    rw [hm] at HM
    obtain ⟨vl, vs, vw, h⟩ := h
    have HW := hide (rwaits_any p b vl vs vw w who h.v hq64)
    have HO := hide (rof_any p b vl vs vw w who h.v h64)
    have T0 := hide (Does.refl h)
    rcases idx_cases (isN who) p.Q with ⟨hw, -⟩ | ⟨i, x, hw, hr, -⟩
    · rw [hw] at HW
      rcases idx_cases (isO who) p.L with ⟨hi, -⟩ | ⟨i, r, hi, hr, -⟩
      · have e0 : rdE p now who = 6 := by unfold rdE; rw [hm, hi, hw]; rfl
        have e2 : rdA p now who = [] := by unfold rdA; rw [e0]; rfl
        have e3 : rdP p now who = p := by unfold rdP; rw [e0]; rfl
        rw [e0, e2, e3]
        rw [hi] at HO
        clear h e0 e2 e3 k0 hm hd hc hw hi
        go_enter Try.func28, Try.ntmps28
        go_wp2_with (first | (go_at_call 20; refine HM.out.mono ?_; rintro e w' ⟨rfl, rfl⟩))
        refine HW.out.mono ?_
        rintro e w1 ⟨rfl, rfl⟩
        clear HW
        go_wp2_with fail
        refine HO.out.mono ?_
        rintro e w2 ⟨rfl, F1⟩
        have T2 := hide (T0.out.e F1).qx.nilRB
        clear F1 HO T0
        go_wp2_with fail
        go_ret2
        exact ⟨_, rfl, T2.out⟩
      · have hrc := conO_of hi hr
        have e0 : rdE p now who = 0 := by unfold rdE; rw [hm, hi, hw, if_pos rfl, if_neg (fun x => by omega)]
        have e2 : rdA p now who = [⟨5, r.n, who⟩] ++ rvA (cutP p r.n) now := by unfold rdA rd0 rd1; rw [e0, hw, hrc]; rfl
        have e3 : rdP p now who = rvP (cutP p r.n) now := by unfold rdP rd1; rw [e0, hw, hrc]; rfl
        rw [e0, e2, e3]
        rw [hi] at HO
        have hl : i < p.L.length := (List.getElem?_eq_some_iff.1 hr).1
        have hi1 : ¬ (i : Int) < 0 := by omega
        have hi2 : decide ((i : Int) < 0) = false := decide_eq_false hi1
        have HS64 := hide k0.sen
        have HK2 : Hid (QOk (cutP p r.n) (M - (cutP p r.n).Q.length)) := hide (k0.cut hd r.n)
        have HC2 : Hid ((cutP p r.n).cap ≤ 64) := hide hc
        have HLE : Hid ((rvA (cutP p r.n) now).length ≤ 64) := hide (Nat.le_trans (rv_len _ rfl) hq64)
        have HR := hide hr
        have HMM := hide hm
        clear h e0 e2 e3 k0 hm hrc hi hr hd hc hw
        obtain ⟨n, Hn⟩ : ∃ n, Hid (p.L.length = n) := ⟨_, hide rfl⟩
        have H64 := hide h64
        rw [Hn.out] at hl h64
        have hli : (i : Int) < (n : Int) := by omega
        go_enter Try.func28, Try.ntmps28
        go_wp2_with (first | (go_at_call 20; refine HM.out.mono ?_; rintro e w' ⟨rfl, rfl⟩))
        refine HW.out.mono ?_
        rintro e w1 ⟨rfl, rfl⟩
        clear HW
        go_wp2_with fail
        refine HO.out.mono ?_
        rintro e w2 ⟨rfl, F1⟩
        have T2 := hide (T0.out.e F1)
        clear F1 HO T0
        obtain ⟨_, x⟩ := T2.out.of
        obtain ⟨c0, c1, c2, c3, c4, c5, c6, c7⟩ := x.v.c
        obtain ⟨g, off, cap, e, hc0, hc1, r0, r1, r2, r3, r4, -⟩ := con_cells x.v.L HR.out
        subst e
        rw [Hn.out] at c5 hc0 T2
        clear x
        have T3 := hide (newRB T2.out ⟨5, r.n, who⟩)
        dsimp only at T3
        go_upto_region 11 with fail
        clear c0 c1 c2 c3 c4 c5 c6 c7 r0 r1 r2 r3 r4 T2
        generalize w2.alloc _ = w3 at *
        generalize w2.heap.size = g3 at *
        obtain ⟨_, x⟩ := T3.out.snd_of
        obtain ⟨c0, c1, c2, c3, c4, c5, c6, c7⟩ := x.v.c
        obtain ⟨g', off', cap', e, -, -, r0, r1, r2, r3, r4, -⟩ := con_cells x.v.L HR.out
        simp only [Value.slice.injEq, Option.some.injEq, Addr.mk.injEq, and_true] at e
        obtain ⟨⟨rfl, rfl⟩, -, -⟩ := e
        clear x
        have T4 := hide (T3.out.right (fun _ z => (Does.refl z).qx))
        obtain ⟨P2, x, hx⟩ := T4.out.focR
        have HFG := hide (cut_any p b w3 P2 r.n x H64.out HS64.out)
        have HX := hide hx
        clear x hx T3 T4
        go_wp2_with fail
        refine HFG.out.mono ?_
        rintro e w5 ⟨rfl, d⟩
        have T5 := hide (HX.out _ _ d)
        clear d HX HFG c0 c1 c2 c3 c4 c5 c6 c7 r0 r1 r2 r3 r4
        obtain ⟨P3, x, hx⟩ := T5.out.focR
        have HSV := hide (rserve_any (cutP p r.n) b w5 P3 now M x HK2.out hM HMM.out HC2.out)
        have HX := hide hx
        clear x hx T5
        go_wp2_with fail
        refine HSV.out.mono ?_
        rintro e w6 ⟨v6, rfl, d⟩
        have T6 := hide (HX.out _ _ d)
        clear d HX HSV
        obtain ⟨al, Hal⟩ : ∃ al, Hid ((rvA (cutP p r.n) now).length = al) := ⟨_, hide rfl⟩
        have HLE2 := HLE.out
        rw [Hal.out] at HLE2
        have HV : Hid (Rw 64 3 w6 (.slice (some ⟨g3, 0, none⟩) 1 1) 1 (fl encA [⟨5, r.n, who⟩])) := by obtain ⟨_, y⟩ := T6.out.fst_of; exact hide y.1
        have HY : Hid (Rw 64 3 w6 v6 al (fl encA (rvA (cutP p r.n) now))) := by obtain ⟨_, y⟩ := T6.out.snd_of; obtain ⟨_, _, y1, -⟩ := y; exact hide (by have := y1.1; rw [Hal.out] at this; exact this)
        obtain ⟨sa6, sc6, rfl, s60, s61⟩ := HY.out.shape
        go_wp2_with (at_builtin; apply Hid.out)
        unfold Hid
        refine wpList_append_rwv infRac rfl _ _ rfl w6 (.slice (some ⟨g3, 0, none⟩) 1 1) (.slice sa6 al sc6) 1 al _ _ rfl (by simp [Act.eval, go_sem]) HV.out HY.out (by omega) (by omega) ?_
        intro v' W6 q1 F o
        have T7 := hide (T6.out.onto (A := [⟨5, r.n, who⟩]) (by rw [Hal.out]; exact q1) F o)
        obtain ⟨sa7, sc7, rfl, -, -⟩ := q1.shape
        clear q1 F o HV HY T6
        go_wp2_with fail
        go_ret2
        exact ⟨_, rfl, T7.out⟩
    · have e0 : rdE p now who = 0 := by unfold rdE; rw [hm, hw, if_pos rfl, if_neg (fun x => by omega)]
      have e2 : rdA p now who = rvA { p with Q := p.Q.eraseIdx i } now := by unfold rdA rd0 rd1; rw [e0, hw, if_pos rfl, if_neg (by omega), if_neg (by omega), Int.toNat_natCast, List.nil_append]
      have e3 : rdP p now who = rvP { p with Q := p.Q.eraseIdx i } now := by unfold rdP rd1; rw [e0, hw, if_pos rfl, if_neg (by omega), Int.toNat_natCast]
      rw [e0, e2, e3]
      rw [hw] at HW
      have hl : i < p.Q.length := (List.getElem?_eq_some_iff.1 hr).1
      have hel := List.length_eraseIdx_of_lt hl
      have hi2 : decide (0 ≤ (i : Int)) = true := decide_eq_true (by omega)
      have HK2 : Hid (QOk { p with Q := p.Q.eraseIdx i } (M - ({ p with Q := p.Q.eraseIdx i } : Rm).Q.length)) := hide ((k0.q _ (by omega)).more (by dsimp only; omega))
      have HC2 : Hid (({ p with Q := p.Q.eraseIdx i } : Rm).cap ≤ 64) := hide hc
      have HWO := hide (without_any w vw p.Q i h.v.Q hq64)
      have HMM := hide hm
      obtain ⟨c0, c1, c2, c3, c4, c5, c6, c7⟩ := h.v.c
      obtain ⟨wa, wc, rfl, -, -⟩ := h.v.Q.shape
      clear h e0 e2 e3 k0 hm hr hd hc hw HO c0 c1 c2 c3 c4 c5 c6
      obtain ⟨n, Hn⟩ : ∃ n, Hid (p.Q.length = n) := ⟨_, hide rfl⟩
      rw [Hn.out] at hl hq64 c7 hel HWO T0
      go_enter Try.func28, Try.ntmps28
      go_wp2_with (first | (go_at_call 20; refine HM.out.mono ?_; rintro e w' ⟨rfl, rfl⟩))
      refine HW.out.mono ?_
      rintro e w1 ⟨rfl, rfl⟩
      clear HW
      go_wp2_with fail
      refine HWO.out.mono ?_
      rintro e w2 ⟨v7, rfl, d⟩
      have T7 := hide (T0.out.put d)
      obtain ⟨ta, tl, tc, rfl⟩ : ∃ a n cap, v7 = .slice a n cap := by obtain ⟨_, y⟩ := d.of; obtain ⟨a, c, e, _⟩ := y.1.shape; exact ⟨a, _, c, e⟩
      have F := d.choose_spec.2.1
      have k7 := F.cl.cell c7
      have y7 : w2.frozen? ⟨b, 7, none⟩ = false := by obtain ⟨_, x⟩ := T7.out.snd_of; exact x.v.fz 7
      have T8 := hide (T7.out.trans (fun _ y => QT.takeQ y)).qx
      clear d F T7 HWO c7 T0
      go_upto_region 6 with fail
      generalize w2.setCell ⟨b, 7, none⟩ _ = w5 at *
      clear k7 y7
      obtain ⟨P3, x, hx⟩ := T8.out.foc
      have HSV := hide (rserve_any { p with Q := p.Q.eraseIdx i } b w5 P3 now M x HK2.out hM HMM.out HC2.out)
      have HX := hide hx
      clear x hx T8
      go_wp2_with fail
      refine HSV.out.mono ?_
      rintro e w6 ⟨v, rfl, d⟩
      have T9 := hide (HX.out _ _ d)
      obtain ⟨sa, sl, sc, rfl⟩ : ∃ a n cap, v = .slice a n cap := by obtain ⟨_, y⟩ := T9.out.fst_of; obtain ⟨a, c, e, _⟩ := y.1.shape; exact ⟨a, _, c, e⟩
      clear d HX HSV
      go_wp2_with fail
      go_ret2
      exact ⟨_, rfl, T9.out⟩
end Go.Proofs.Ytgeneknaekoinaa
