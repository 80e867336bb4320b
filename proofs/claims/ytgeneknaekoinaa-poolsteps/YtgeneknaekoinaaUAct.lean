/- A pool is told that a connection is there, gone, done; that somebody needs none. -/
import Derived.Test.YtgeneknaekoinaaUAsk
namespace Go.Proofs.Ytgeneknaekoinaa
open Go.ChangeShapes Go.WideShapes Go.ChangeAt Go.RowKit
set_option linter.unusedVariables false

theorem Does.nilRA {B : Thing} {P : Nat → Prop} {w w1 : World} (h : Does B P w w1) : Does (Two (RA (.slice none 0 0) []) B) P w w1 := by
  obtain ⟨P', h1, h2, h3⟩ := h
  exact ⟨P', ⟨fun _ => False, P', ⟨Rw.nil _ _ _, fun _ => by simp [Value.ownBlock]⟩, h1, fun _ x => x.elim, fun _ => by simp⟩, h2, h3⟩
theorem Does.newRA {B : Thing} [o : Ob B] {P : Nat → Prop} {w w1 : World} (h : Does B P w w1) (a : Ac) : Does (Two (RA (.slice (some ⟨w1.heap.size, 0, none⟩) 1 1) [a]) B) P w (w1.alloc (.cells #[.int .i64 a.k, .int .i64 a.c, .int .i64 a.w] 49)) := by
  obtain ⟨P', h1, h2, h3⟩ := h
  have hr := rw_new infAct w1 (encA a) rfl
  refine ⟨fun k => k = w1.heap.size ∨ P' k, ⟨fun k => k = w1.heap.size, P', ⟨by show Rw _ _ _ _ 1 (fl encA [a]); rw [show fl encA [a] = encA a by simp [fl]]; exact hr, fun k => by simp [Value.ownBlock, eq_comm]⟩, o.fr _ _ _ _ h1 (Fr.alloc none' w1 _) (fun _ _ x => x), fun k hk x => ?_, fun _ => Iff.rfl⟩, h2.trans (Fr.alloc none' w1 _) (fun _ _ x => x.elim), fun k hk => ?_⟩
  · have := o.lt _ _ _ h1 x; omega
  · rcases hk with rfl | hk
    · exact .inr h2.size
    · exact h3 k hk
abbrev zR : Rk := ⟨0, 0, 0, 0, 0, 0⟩
def rowC (p : Pm) (c : Int) : Rk := p.R.getD (idx (isC c) p.R).toNat zR
theorem rowC_of {p : Pm} {c : Int} {i : Nat} {r : Rk} (h : idx (isC c) p.R = (i : Int)) (hr : p.R[i]? = some r) : rowC p c = r := by
  unfold rowC; rw [h, Int.toNat_natCast, List.getD_eq_getElem?_getD, hr]; rfl
theorem POk.r64 {p : Pm} {K : Int} (h : POk p K) : p.R.length ≤ 64 := by have := h.len; have := h.cap1; omega
theorem POk.q64 {p : Pm} {K : Int} (h : POk p K) : p.Q.length ≤ 64 := by have := h.wait; have := h.pend1; omega
/-! ### Up -/
def upB (p : Pm) (c : Int) : Bool := (idx (isC c) p.R != -1) && ((rowC p c).st == 0)
def upR (r : Rk) : Rk := ⟨r.c, 1, r.wh, r.bo, r.si, r.tu⟩
def upE (p : Pm) (c : Int) : Int := if upB p c then 0 else 6
def upW (p : Pm) (c : Int) : Int := if upB p c then (rowC p c).wh else 0
def upP (p : Pm) (c : Int) : Pm := if upB p c then { p with R := p.R.set (idx (isC c) p.R).toNat (upR (rowC p c)) } else p
set_option maxHeartbeats 4000000 in
set_option maxRecDepth 100000 in
theorem up_any (p : Pm) (b : Nat) (w : World) (P : Nat → Prop) (c K : Int) (h : PX p b w P) (k0 : POk p K) :
    Calls Try.prog 17 #[.pointer (some ⟨b, 0, none⟩), .int .i64 c] w fun e w' => e = .returned (.tuple #[.int .i64 (upW p c), .int .i64 (upE p c)]) ∧ Does (PX (upP p c) b) P w w' := by
  have h64 := k0.r64
  clear k0
  obtain ⟨vr, vw, h⟩ := h
  have HP := hide (place_any p b vr vw w c h.v h64)
  have T0 := hide (Does.refl h)
  rcases idx_cases (isC c) p.R with ⟨hi, -⟩ | ⟨i, r, hi, hr, -⟩
  · have hb : upB p c = false := by unfold upB; rw [hi]; rfl
    have e1 : upE p c = 6 := by unfold upE; rw [hb]; rfl
    have e2 : upW p c = 0 := by unfold upW; rw [hb]; rfl
    have e3 : upP p c = p := by unfold upP; rw [hb]; rfl
    rw [e1, e2, e3]
    rw [hi] at HP
    clear h hb e1 e2 e3
    go_enter Try.func17, Try.ntmps17
    go_wp2_with fail
    refine HP.out.mono ?_
    rintro e w1 ⟨rfl, F1⟩
    have T1 := hide (T0.out.e F1).px
    clear F1 HP T0
    go_wp2_with fail
    go_ret2
    exact ⟨rfl, T1.out⟩
  · have hrc := rowC_of hi hr
    rw [hi] at HP
    have hl : i < p.R.length := (List.getElem?_eq_some_iff.1 hr).1
    have hi1 : ¬ (i : Int) = -1 := by omega
    have hi2 : ((i : Int) == -1) = false := by simp
    have HR := hide hr
    obtain ⟨n, Hn⟩ : ∃ n, Hid (p.R.length = n) := ⟨_, hide rfl⟩
    by_cases hs : r.st = 0
    · have hb : upB p c = true := by unfold upB; rw [hi, hrc, hs]; simp
      have e1 : upE p c = 0 := by unfold upE; rw [hb]; rfl
      have e2 : upW p c = r.wh := by unfold upW; rw [hb, hrc]; rfl
      have e3 : upP p c = { p with R := p.R.set i (upR r) } := by unfold upP; rw [hb, hrc, hi]; rfl
      rw [e1, e2, e3]
      clear h hb e1 e2 e3 hi hrc hr
      go_enter Try.func17, Try.ntmps17
      go_wp2_with fail
      refine HP.out.mono ?_
      rintro e w1 ⟨rfl, F1⟩
      have T1 := hide (T0.out.e F1)
      clear F1 HP T0
      obtain ⟨_, x⟩ := T1.out.of
      obtain ⟨c0, c1, c2, c3, c4, c5, c6, c7⟩ := x.v.c
      obtain ⟨g, off, cap, e, hc0, hc1, r0, r1, r2, r3, r4, r5, rz, -⟩ := row_cells x.v.R HR.out
      subst e
      have z1 := rz (off + i * 6 + 1)
      rw [hs] at r1
      rw [Hn.out] at h64 hl c6 hc0 T1
      have hli : (i : Int) < (n : Int) := by omega
      clear x rz
      have T2 := hide (T1.out.trans (fun _ z => z.setC (j := 1) (r' := upR r) (x := 1) Hn.out HR.out (by omega) rfl))
      clear hs
      go_upto_region 5 with fail
      clear c0 c1 c2 c3 c4 c5 c6 c7 r0 r1 r2 r3 r4 r5 z1 T1
      generalize w1.setCell _ _ = w2 at *
      obtain ⟨_, x⟩ := T2.out.of
      obtain ⟨c0, c1, c2, c3, c4, c5, c6, c7⟩ := x.v.c
      obtain ⟨g', off', cap', e, -, -, r0, r1, r2, r3, r4, r5, -, -⟩ := row_cells x.v.R (set_at HR.out)
      simp only [Value.slice.injEq, Option.some.injEq, Addr.mk.injEq, and_true] at e
      obtain ⟨⟨rfl, rfl⟩, -, -⟩ := e
      unfold upR at r2
      dsimp only at r2
      have T3 := hide T2.out.px
      clear x T2
      go_wp2_with fail
      go_ret2
      exact ⟨rfl, T3.out⟩
    · have hb : upB p c = false := by unfold upB; rw [hi, hrc]; simp [hs]
      have e1 : upE p c = 6 := by unfold upE; rw [hb]; rfl
      have e2 : upW p c = 0 := by unfold upW; rw [hb]; rfl
      have e3 : upP p c = p := by unfold upP; rw [hb]; rfl
      rw [e1, e2, e3]
      clear h hb e1 e2 e3 hi hrc hr
      have hs2 : (r.st == 0) = false := by simpa using hs
      go_enter Try.func17, Try.ntmps17
      go_wp2_with fail
      refine HP.out.mono ?_
      rintro e w1 ⟨rfl, F1⟩
      have T1 := hide (T0.out.e F1)
      clear F1 HP T0
      obtain ⟨_, x⟩ := T1.out.of
      obtain ⟨c0, c1, c2, c3, c4, c5, c6, c7⟩ := x.v.c
      obtain ⟨g, off, cap, e, hc0, hc1, r0, r1, r2, r3, r4, r5, -, -⟩ := row_cells x.v.R HR.out
      subst e
      rw [Hn.out] at h64 hl c6 hc0 T1
      have hli : (i : Int) < (n : Int) := by omega
      have T3 := hide T1.out.px
      clear x T1
      go_wp2_with fail
      go_ret2
      exact ⟨rfl, T3.out⟩
/-! ### Gone -/
def gnE (p : Pm) (now c : Int) : Int := if mom now then (if idx (isC c) p.R = -1 then 6 else 0) else 1
def gnW (p : Pm) (now c : Int) : Int := if gnE p now c = 0 then (rowC p c).wh else 0
def gnA (p : Pm) (now c : Int) : List Ac := if gnE p now c = 0 then svA (rmP p (idx (isC c) p.R).toNat) now else []
def gnP (p : Pm) (now c : Int) : Pm := if gnE p now c = 0 then svP (rmP p (idx (isC c) p.R).toNat) now else p
theorem POk.rm {p : Pm} {K : Int} (h : POk p K) {i : Nat} (hi : i < p.R.length) : POk (rmP p i) K := by
  have hl : (p.R.eraseIdx i).length = p.R.length - 1 := List.length_eraseIdx_of_lt hi
  have := h.len
  exact { h with len := by unfold rmP; dsimp only; omega, rows := fun r hr => h.rows r (List.mem_of_mem_eraseIdx hr) }
theorem ret3v {a b c d : Int} {v u : Value} (h : a = b) (k : v = u) (l : c = d) : Ending.returned (.tuple #[.int .i64 a, v, .int .i64 c]) = .returned (.tuple #[.int .i64 b, u, .int .i64 d]) := by rw [h, k, l]
set_option maxHeartbeats 4000000 in
set_option maxRecDepth 100000 in
theorem gone_any (p : Pm) (b : Nat) (w : World) (P : Nat → Prop) (now c K : Int) (h : PX p b w P) (k0 : POk p K) (hK : K < 9223372036854775806) :
    Calls Try.prog 25 #[.pointer (some ⟨b, 0, none⟩), .int .i64 now, .int .i64 c] w fun e w' => ∃ v, e = .returned (.tuple #[.int .i64 (gnW p now c), v, .int .i64 (gnE p now c)]) ∧ Does (Two (RA v (gnA p now c)) (PX (gnP p now c) b)) P w w' := by
  have h64 := k0.r64
  have HM := hide (isMom_any now w)
  cases hm : mom now with
  | false =>
    have e0 : gnE p now c = 1 := by unfold gnE; rw [hm]; rfl
    have e1 : gnW p now c = 0 := by unfold gnW; rw [e0]; rfl
    have e2 : gnA p now c = [] := by unfold gnA; rw [e0]; rfl
    have e3 : gnP p now c = p := by unfold gnP; rw [e0]; rfl
    rw [e0, e1, e2, e3]
    rw [hm] at HM
    have T := hide (Does.refl h).nilRA
    clear h e0 e1 e2 e3 k0 hm
    go_enter Try.func25, Try.ntmps25
    go_wp2_with (first | (go_at_call 34; refine HM.out.mono ?_; rintro e w' ⟨rfl, rfl⟩))
    go_ret3
    exact ⟨_, rfl, T.out⟩
  | true =>
    rw [hm] at HM
    obtain ⟨vr, vw, h⟩ := h
    have HP := hide (place_any p b vr vw w c h.v h64)
    have T0 := hide (Does.refl h)
    rcases idx_cases (isC c) p.R with ⟨hi, -⟩ | ⟨i, r, hi, hr, -⟩
    · have e0 : gnE p now c = 6 := by unfold gnE; rw [hm, hi]; rfl
      have e1 : gnW p now c = 0 := by unfold gnW; rw [e0]; rfl
      have e2 : gnA p now c = [] := by unfold gnA; rw [e0]; rfl
      have e3 : gnP p now c = p := by unfold gnP; rw [e0]; rfl
      rw [e0, e1, e2, e3]
      rw [hi] at HP
      clear h e0 e1 e2 e3 k0 hm
      go_enter Try.func25, Try.ntmps25
      go_wp2_with (first | (go_at_call 34; refine HM.out.mono ?_; rintro e w' ⟨rfl, rfl⟩))
      refine HP.out.mono ?_
      rintro e w1 ⟨rfl, F1⟩
      have T1 := hide (T0.out.e F1).px.nilRA
      clear F1 HP T0
      go_wp2_with fail
      go_ret3
      exact ⟨_, rfl, T1.out⟩
    · have hrc := rowC_of hi hr
      have hl : i < p.R.length := (List.getElem?_eq_some_iff.1 hr).1
      have hi1 : ¬ (i : Int) = -1 := by omega
      have hi2 : ((i : Int) == -1) = false := by simp
      have e0 : gnE p now c = 0 := by unfold gnE; rw [hm, hi, if_pos rfl, if_neg hi1]
      have e1 : gnW p now c = r.wh := by unfold gnW; rw [e0, hrc]; rfl
      have e2 : gnA p now c = svA (rmP p i) now := by unfold gnA; rw [e0, hi]; rfl
      have e3 : gnP p now c = svP (rmP p i) now := by unfold gnP; rw [e0, hi]; rfl
      rw [e0, e1, e2, e3]
      rw [hi] at HP
      have HK2 := hide (k0.rm hl)
      have HR := hide hr
      have HMM := hide hm
      clear h e0 e1 e2 e3 k0 hm hrc hi hr
      obtain ⟨n, Hn⟩ : ∃ n, Hid (p.R.length = n) := ⟨_, hide rfl⟩
      have Hl := hide hl
      have H64 := hide h64
      rw [Hn.out] at hl h64
      have hli : (i : Int) < (n : Int) := by omega
      go_enter Try.func25, Try.ntmps25
      go_wp2_with (first | (go_at_call 34; refine HM.out.mono ?_; rintro e w' ⟨rfl, rfl⟩))
      refine HP.out.mono ?_
      rintro e w1 ⟨rfl, F1⟩
      have T1 := hide (T0.out.e F1)
      clear F1 HP T0
      obtain ⟨_, x⟩ := T1.out.of
      obtain ⟨c0, c1, c2, c3, c4, c5, c6, c7⟩ := x.v.c
      obtain ⟨g, off, cap, e, hc0, hc1, r0, r1, r2, r3, r4, r5, -, -⟩ := row_cells x.v.R HR.out
      subst e
      rw [Hn.out] at c6 hc0 T1
      clear x
      obtain ⟨P2, x, hx⟩ := T1.out.px.foc
      have HFG := hide (forget_any p b w1 P2 i x Hl.out H64.out)
      have HX := hide hx
      clear x hx T1
      go_wp2_with fail
      refine HFG.out.mono ?_
      rintro e w2 ⟨rfl, d⟩
      have T2 := hide (HX.out _ _ d).nilRA
      clear d HX HFG c0 c1 c2 c3 c4 c5 c6 c7 r0 r1 r2 r3 r4 r5
      obtain ⟨P3, x, hx⟩ := T2.out.foc
      have HSV := hide (serve_any (rmP p i) b w2 P3 now K _ [] x HK2.out hK HMM.out (by simp))
      have HX := hide hx
      clear x hx T2
      rw [List.nil_append] at HSV
      go_wp2_with fail
      refine HSV.out.mono ?_
      rintro e w3 ⟨v, rfl, d⟩
      have T3 := hide (HX.out _ _ d)
      obtain ⟨sa, sc, rfl, -, -⟩ : ∃ a cap, v = .slice a (svA (rmP p i) now).length cap ∧ _ := by obtain ⟨_, y⟩ := T3.out.fst_of; exact y.1.shape
      clear d HX HSV
      go_wp2_with fail
      go_ret3
      exact ⟨_, rfl, T3.out⟩
end Go.Proofs.Ytgeneknaekoinaa
