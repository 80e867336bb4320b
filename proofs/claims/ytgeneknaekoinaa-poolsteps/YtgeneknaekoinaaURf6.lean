/- The document's pool: a connection is there, or gone. -/
import Derived.Test.YtgeneknaekoinaaURf5
namespace Go.Proofs.Ytgeneknaekoinaa
open Go.ChangeShapes Go.WideShapes Go.ChangeAt Go.RowKit
set_option linter.unusedVariables false

theorem rmom_any (t : Int) (w : World) : Calls Try.prog 20 #[.int .i64 t] w fun e w' => e = .returned (.bool (mom t)) ∧ w = w' := by
  by_cases h0 : 0 ≤ t
  · have d0 : decide (0 ≤ t) = true := decide_eq_true h0
    by_cases h1 : t ≤ 4611686018427387904
    · have d1 : decide (t ≤ 4611686018427387904) = true := decide_eq_true h1
      have hm : mom t = true := mom_iff.2 ⟨h0, h1⟩
      rw [hm]
      clear hm
      go_enter Try.func20, Try.ntmps20
      go_wp2
      go_ret
      exact ⟨rfl, rfl⟩
    · have d1 : decide (t ≤ 4611686018427387904) = false := decide_eq_false h1
      have hm : mom t = false := by
        cases e : mom t with
        | false => rfl
        | true => exact absurd (mom_iff.1 e).2 h1
      rw [hm]
      clear hm
      go_enter Try.func20, Try.ntmps20
      go_wp2
      go_ret
      exact ⟨rfl, rfl⟩
  · have d0 : decide (0 ≤ t) = false := decide_eq_false h0
    have hm : mom t = false := by
      cases e : mom t with
      | false => rfl
      | true => exact absurd (mom_iff.1 e).1 h0
    rw [hm]
    clear hm
    go_enter Try.func20, Try.ntmps20
    go_wp2
    go_ret
    exact ⟨rfl, rfl⟩
theorem set_atC {L : List Cn} {i : Nat} {r s : Cn} (h : L[i]? = some r) : (L.set i s)[i]? = some s := List.getElem?_set_self (List.getElem?_eq_some_iff.1 h).1
/-! ### Up -/
def ruB (p : Rm) (c : Int) : Bool := (idx (isD c) p.L != -1) && ((conC p c).st == 1)
def ruR (r : Cn) : Cn := ⟨r.n, 2, r.wh, r.si, r.bo⟩
def ruE (p : Rm) (c : Int) : Int := if ruB p c then 0 else 6
def ruW (p : Rm) (c : Int) : Int := if ruB p c then (conC p c).wh else 0
def ruP (p : Rm) (c : Int) : Rm := if ruB p c then { p with L := p.L.set (idx (isD c) p.L).toNat (ruR (conC p c)) } else p
set_option maxHeartbeats 1000000 in
set_option maxRecDepth 100000 in
theorem rup_any (p : Rm) (b : Nat) (w : World) (P : Nat → Prop) (c K : Int) (h : QX p b w P) (k0 : QOk p K) :
    Calls Try.prog 24 #[.pointer (some ⟨b, 0, none⟩), .int .i64 c] w fun e w' => e = .returned (.tuple #[.int .i64 (ruW p c), .int .i64 (ruE p c)]) ∧ Does (QX (ruP p c) b) P w w' := by
  have h64 := k0.len
  clear k0
  obtain ⟨vl, vs, vw, h⟩ := h
  have HP := hide (find_any p b vl vs vw w c h.v h64)
  have T0 := hide (Does.refl h)
  rcases idx_cases (isD c) p.L with ⟨hi, -⟩ | ⟨i, r, hi, hr, -⟩
  · have hb : ruB p c = false := by unfold ruB; rw [hi]; rfl
    have e1 : ruE p c = 6 := by unfold ruE; rw [hb]; rfl
    have e2 : ruW p c = 0 := by unfold ruW; rw [hb]; rfl
    have e3 : ruP p c = p := by unfold ruP; rw [hb]; rfl
    rw [e1, e2, e3]
    rw [hi] at HP
    clear h hb e1 e2 e3
    go_enter Try.func24, Try.ntmps24
    go_wp2_with fail
    refine HP.out.mono ?_
    rintro e w1 ⟨rfl, F1⟩
    have T1 := hide (T0.out.e F1).qx
    clear F1 HP T0
    go_wp2_with fail
    go_ret2
    exact ⟨rfl, T1.out⟩
  · have hrc := conC_of hi hr
    rw [hi] at HP
    have hl : i < p.L.length := (List.getElem?_eq_some_iff.1 hr).1
    have hi1 : ¬ (i : Int) < 0 := by omega
    have hi2 : decide ((i : Int) < 0) = false := decide_eq_false hi1
    have HR := hide hr
    obtain ⟨n, Hn⟩ : ∃ n, Hid (p.L.length = n) := ⟨_, hide rfl⟩
    by_cases hs : r.st = 1
    · have hb : ruB p c = true := by unfold ruB; rw [hi, hrc, hs]; simp
      have e1 : ruE p c = 0 := by unfold ruE; rw [hb]; rfl
      have e2 : ruW p c = r.wh := by unfold ruW; rw [hb, hrc]; rfl
      have e3 : ruP p c = { p with L := p.L.set i (ruR r) } := by unfold ruP; rw [hb, hrc, hi]; rfl
      rw [e1, e2, e3]
      clear h hb e1 e2 e3 hi hrc hr
      go_enter Try.func24, Try.ntmps24
      go_wp2_with fail
      refine HP.out.mono ?_
      rintro e w1 ⟨rfl, F1⟩
      have T1 := hide (T0.out.e F1)
      clear F1 HP T0
      obtain ⟨_, x⟩ := T1.out.of
      obtain ⟨c0, c1, c2, c3, c4, c5, c6, c7⟩ := x.v.c
      obtain ⟨g, off, cap, e, hc0, hc1, r0, r1, r2, r3, r4, rz⟩ := con_cells x.v.L HR.out
      subst e
      have z1 := rz (off + i * 5 + 1)
      rw [hs] at r1
      rw [Hn.out] at h64 hl c5 hc0 T1
      have hli : (i : Int) < (n : Int) := by omega
      clear x rz
      have T2 := hide (T1.out.trans (fun _ z => z.setC (j := 1) (r' := ruR r) (x := 2) Hn.out HR.out (by omega) rfl))
      clear hs
      go_upto_region 5 with fail
      clear c0 c1 c2 c3 c4 c5 c6 c7 r0 r1 r2 r3 r4 z1 T1
      generalize w1.setCell _ _ = w2 at *
      obtain ⟨_, x⟩ := T2.out.of
      obtain ⟨c0, c1, c2, c3, c4, c5, c6, c7⟩ := x.v.c
      obtain ⟨g', off', cap', e, -, -, r0, r1, r2, r3, r4, -⟩ := con_cells x.v.L (set_atC HR.out)
      simp only [Value.slice.injEq, Option.some.injEq, Addr.mk.injEq, and_true] at e
      obtain ⟨⟨rfl, rfl⟩, -, -⟩ := e
      unfold ruR at r2
      dsimp only at r2
      have T3 := hide T2.out.qx
      clear x T2
      go_wp2_with fail
      go_ret2
      exact ⟨rfl, T3.out⟩
    · have hb : ruB p c = false := by unfold ruB; rw [hi, hrc]; simp [hs]
      have e1 : ruE p c = 6 := by unfold ruE; rw [hb]; rfl
      have e2 : ruW p c = 0 := by unfold ruW; rw [hb]; rfl
      have e3 : ruP p c = p := by unfold ruP; rw [hb]; rfl
      rw [e1, e2, e3]
      clear h hb e1 e2 e3 hi hrc hr
      have hs2 : (r.st == 1) = false := by simpa using hs
      go_enter Try.func24, Try.ntmps24
      go_wp2_with fail
      refine HP.out.mono ?_
      rintro e w1 ⟨rfl, F1⟩
      have T1 := hide (T0.out.e F1)
      clear F1 HP T0
      obtain ⟨_, x⟩ := T1.out.of
      obtain ⟨c0, c1, c2, c3, c4, c5, c6, c7⟩ := x.v.c
      obtain ⟨g, off, cap, e, hc0, hc1, r0, r1, r2, r3, r4, -⟩ := con_cells x.v.L HR.out
      subst e
      rw [Hn.out] at h64 hl c5 hc0 T1
      have hli : (i : Int) < (n : Int) := by omega
      have T3 := hide T1.out.qx
      clear x T1
      go_wp2_with fail
      go_ret2
      exact ⟨rfl, T3.out⟩
/-! ### Gone -/
theorem filt_in {L : List Cn} {c x : Int} (h : x ∈ L.map (·.n)) (hn : x ≠ c) : x ∈ (L.filter (fun r => r.n != c)).map (·.n) := by
  rw [List.mem_map] at h ⊢
  obtain ⟨r, hr, rfl⟩ := h
  exact ⟨r, List.mem_filter.2 ⟨hr, by simpa using hn⟩, rfl⟩
theorem erI_ne {c x : Int} {S : List Int} (hd : S.Nodup) (h : x ∈ erI c S) : x ≠ c := by
  rintro rfl
  unfold erI at h
  rcases idx_cases (isN x) S with ⟨e, hq⟩ | ⟨i, r, e, hr, hq, -⟩
  · rw [e, if_neg (by omega)] at h
    have := hq x h
    unfold isN at this
    simp at this
  · have hx : x = r := by unfold isN at hq; simpa using hq
    subst hx
    rw [e, if_pos (by omega), Int.toNat_natCast, List.mem_eraseIdx_iff_getElem] at h
    obtain ⟨j, hj, hne, hv⟩ := h
    have hi := List.getElem?_eq_some_iff.1 hr
    exact hne ((List.getElem_inj hd).1 (by rw [hv, hi.2]))
theorem QOk.cut {p : Rm} {K : Int} (h : QOk p K) (hd : p.S.Nodup) (c : Int) : QOk (cutP p c) K := by
  refine { h with len := ?_, sen := ?_, rows := fun r hr => ?_, ins := fun x hx => ?_ }
  · have := h.len; have := List.length_filter_le (fun r : Cn => r.n != c) p.L; unfold cutP; dsimp only; omega
  · have := h.sen; have := erI_len c p.S; unfold cutP; dsimp only; omega
  · unfold cutP at hr
    exact h.rows r (List.mem_filter.1 hr).1
  · unfold cutP at hx ⊢
    dsimp only at hx ⊢
    exact isD_in.2 (filt_in (isD_in.1 (h.ins x (erI_sub hx))) (erI_ne hd hx))
def rnE (p : Rm) (now c : Int) : Int := if mom now then (if idx (isD c) p.L = -1 then 6 else 0) else 1
def rnW (p : Rm) (now c : Int) : Int := if rnE p now c = 0 then (if (conC p c).st = 3 then -1 else (conC p c).wh) else 0
def rnA (p : Rm) (now c : Int) : List Ac := if rnE p now c = 0 then rvA (cutP p c) now else []
def rnP (p : Rm) (now c : Int) : Rm := if rnE p now c = 0 then rvP (cutP p c) now else p
set_option maxHeartbeats 1000000 in
set_option maxRecDepth 100000 in
theorem rgone_any (p : Rm) (b : Nat) (w : World) (P : Nat → Prop) (now c M : Int) (h : QX p b w P) (k0 : QOk p (M - p.Q.length)) (hd : p.S.Nodup) (hM : M < 9223372036854775806) (hc : p.cap ≤ 64) :
    Calls Try.prog 26 #[.pointer (some ⟨b, 0, none⟩), .int .i64 now, .int .i64 c] w fun e w' => ∃ v, e = .returned (.tuple #[.int .i64 (rnW p now c), v, .int .i64 (rnE p now c)]) ∧ Does (Two (RB v (rnA p now c)) (QX (rnP p now c) b)) P w w' := by
  have h64 := k0.len
  have HM := hide (rmom_any now w)
  cases hm : mom now with
  | false =>
    have e0 : rnE p now c = 1 := by unfold rnE; rw [hm]; rfl
    have e1 : rnW p now c = 0 := by unfold rnW; rw [e0]; rfl
    have e2 : rnA p now c = [] := by unfold rnA; rw [e0]; rfl
    have e3 : rnP p now c = p := by unfold rnP; rw [e0]; rfl
    rw [e0, e1, e2, e3]
    rw [hm] at HM
    have T := hide (Does.refl h).nilRB
    clear h e0 e1 e2 e3 k0 hm hd hc
    go_enter Try.func26, Try.ntmps26
    go_wp2_with (first | (go_at_call 20; refine HM.out.mono ?_; rintro e w' ⟨rfl, rfl⟩))
    go_ret3
    exact ⟨_, rfl, T.out⟩
  | true =>
    rw [hm] at HM
    obtain ⟨vl, vs, vw, h⟩ := h
    have HP := hide (find_any p b vl vs vw w c h.v h64)
    have T0 := hide (Does.refl h)
    rcases idx_cases (isD c) p.L with ⟨hi, -⟩ | ⟨i, r, hi, hr, -⟩
    · have e0 : rnE p now c = 6 := by unfold rnE; rw [hm, hi]; rfl
      have e1 : rnW p now c = 0 := by unfold rnW; rw [e0]; rfl
      have e2 : rnA p now c = [] := by unfold rnA; rw [e0]; rfl
      have e3 : rnP p now c = p := by unfold rnP; rw [e0]; rfl
      rw [e0, e1, e2, e3]
      rw [hi] at HP
      clear h e0 e1 e2 e3 k0 hm hd hc
      go_enter Try.func26, Try.ntmps26
      go_wp2_with (first | (go_at_call 20; refine HM.out.mono ?_; rintro e w' ⟨rfl, rfl⟩))
      refine HP.out.mono ?_
      rintro e w1 ⟨rfl, F1⟩
      have T1 := hide (T0.out.e F1).qx.nilRB
      clear F1 HP T0
      go_wp2_with fail
      go_ret3
      exact ⟨_, rfl, T1.out⟩
    · have hrc := conC_of hi hr
      have hl : i < p.L.length := (List.getElem?_eq_some_iff.1 hr).1
      have hi1 : ¬ (i : Int) < 0 := by omega
      have hi2 : decide ((i : Int) < 0) = false := decide_eq_false hi1
      have e0 : rnE p now c = 0 := by unfold rnE; rw [hm, hi, if_pos rfl, if_neg (by omega)]
      have e1 : rnW p now c = if r.st = 3 then -1 else r.wh := by unfold rnW; rw [e0, hrc]; rfl
      have e2 : rnA p now c = rvA (cutP p c) now := by unfold rnA; rw [e0]; rfl
      have e3 : rnP p now c = rvP (cutP p c) now := by unfold rnP; rw [e0]; rfl
      rw [e0, e1, e2, e3]
      rw [hi] at HP
      have HS64 := hide k0.sen
      have HK2 : Hid (QOk (cutP p c) (M - (cutP p c).Q.length)) := hide (k0.cut hd c)
      have HC2 : Hid ((cutP p c).cap ≤ 64) := hide hc
      have HR := hide hr
      have HMM := hide hm
      clear h e0 e1 e2 e3 k0 hm hrc hi hr hd hc
      obtain ⟨n, Hn⟩ : ∃ n, Hid (p.L.length = n) := ⟨_, hide rfl⟩
      have Hl := hide hl
      have H64 := hide h64
      rw [Hn.out] at hl h64
      have hli : (i : Int) < (n : Int) := by omega
      by_cases hs : r.st = 3
      · rw [if_pos hs]
        go_enter Try.func26, Try.ntmps26
        go_wp2_with (first | (go_at_call 20; refine HM.out.mono ?_; rintro e w' ⟨rfl, rfl⟩))
        refine HP.out.mono ?_
        rintro e w1 ⟨rfl, F1⟩
        have T1 := hide (T0.out.e F1)
        clear F1 HP T0
        obtain ⟨_, x⟩ := T1.out.of
        obtain ⟨c0, c1, c2, c3, c4, c5, c6, c7⟩ := x.v.c
        obtain ⟨g, off, cap, e, hc0, hc1, r0, r1, r2, r3, r4, -⟩ := con_cells x.v.L HR.out
        subst e
        rw [Hn.out] at c5 hc0 T1
        rw [hs] at r1
        clear hs
        clear x
        obtain ⟨P2, x, hx⟩ := T1.out.qx.foc
        have HFG := hide (cut_any p b w1 P2 c x H64.out HS64.out)
        have HX := hide hx
        clear x hx T1
        go_wp2_with fail
        refine HFG.out.mono ?_
        rintro e w2 ⟨rfl, d⟩
        have T2 := hide (HX.out _ _ d)
        clear d HX HFG c0 c1 c2 c3 c4 c5 c6 c7 r0 r1 r2 r3 r4
        obtain ⟨P3, x, hx⟩ := T2.out.foc
        have HSV := hide (rserve_any (cutP p c) b w2 P3 now M x HK2.out hM HMM.out HC2.out)
        have HX := hide hx
        clear x hx T2
        go_wp2_with fail
        refine HSV.out.mono ?_
        rintro e w3 ⟨v, rfl, d⟩
        have T3 := hide (HX.out _ _ d)
        obtain ⟨sa, sc, rfl, -, -⟩ : ∃ a cap, v = .slice a (rvA (cutP p c) now).length cap ∧ _ := by obtain ⟨_, y⟩ := T3.out.fst_of; exact y.1.shape
        clear d HX HSV
        go_wp2_with fail
        go_ret3
        exact ⟨_, rfl, T3.out⟩
      · rw [if_neg hs]
        have hs2 : (r.st == 3) = false := by simpa using hs
        go_enter Try.func26, Try.ntmps26
        go_wp2_with (first | (go_at_call 20; refine HM.out.mono ?_; rintro e w' ⟨rfl, rfl⟩))
        refine HP.out.mono ?_
        rintro e w1 ⟨rfl, F1⟩
        have T1 := hide (T0.out.e F1)
        clear F1 HP T0
        obtain ⟨_, x⟩ := T1.out.of
        obtain ⟨c0, c1, c2, c3, c4, c5, c6, c7⟩ := x.v.c
        obtain ⟨g, off, cap, e, hc0, hc1, r0, r1, r2, r3, r4, -⟩ := con_cells x.v.L HR.out
        subst e
        rw [Hn.out] at c5 hc0 T1
        clear x
        obtain ⟨P2, x, hx⟩ := T1.out.qx.foc
        have HFG := hide (cut_any p b w1 P2 c x H64.out HS64.out)
        have HX := hide hx
        clear x hx T1
        go_wp2_with fail
        refine HFG.out.mono ?_
        rintro e w2 ⟨rfl, d⟩
        have T2 := hide (HX.out _ _ d)
        clear d HX HFG c0 c1 c2 c3 c4 c5 c6 c7 r0 r1 r2 r3 r4
        obtain ⟨P3, x, hx⟩ := T2.out.foc
        have HSV := hide (rserve_any (cutP p c) b w2 P3 now M x HK2.out hM HMM.out HC2.out)
        have HX := hide hx
        clear x hx T2
        go_wp2_with fail
        refine HSV.out.mono ?_
        rintro e w3 ⟨v, rfl, d⟩
        have T3 := hide (HX.out _ _ d)
        obtain ⟨sa, sc, rfl, -, -⟩ : ∃ a cap, v = .slice a (rvA (cutP p c) now).length cap ∧ _ := by obtain ⟨_, y⟩ := T3.out.fst_of; exact y.1.shape
        clear d HX HSV
        go_wp2_with fail
        go_ret3
        exact ⟨_, rfl, T3.out⟩
end Go.Proofs.Ytgeneknaekoinaa
