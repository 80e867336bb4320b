/- The document's Done; both breakers side by side; and that the small case which each statement asks first comes out true. -/
import Derived.Test.YtfloifghpjiojaaBr4
namespace Go.Proofs.Ytfloifghpjiojaa
open Go.ChangeShapes Go.WideShapes Go.ChangeAt Go.RowKit

def rprS (co pr : Int) (ok : Bool) (s : Bs) : Bs := if ok then (if s.gd + 1 < pr then ⟨s.st, s.la, s.en, s.fl, s.sr, s.gd + 1⟩ else ⟨1, s.la, s.en, 0, s.sr, s.gd + 1⟩) else opR co s
def rctS (fa co : Int) (ok : Bool) (s : Bs) : Bs := if ok then ⟨s.st, s.la, s.en, 0, s.sr, s.gd⟩ else if 0 < fa ∧ fa ≤ s.fl + 1 then opR co s else ⟨s.st, s.la, s.en, s.fl + 1, s.sr, s.gd⟩
def rctN (fa : Int) (ok : Bool) (s : Bs) : Int := if ok then 0 else if 0 < fa ∧ fa ≤ s.fl + 1 then 2 else 0
def rdnS (fa co pr : Int) (s : Bs) (now : Int) (ok : Bool) : Bs := if mom now then (if (atS s now).st = 2 then atS s now else if (atS s now).st = 3 then rprS co pr ok (atS s now) else rctS fa co ok (atS s now)) else s
def rdnN (fa pr : Int) (s : Bs) (now : Int) (ok : Bool) : Int := if mom now then (if (atS s now).st = 2 then 0 else if (atS s now).st = 3 then prN pr ok (atS s now) else rctN fa ok (atS s now)) else 0

set_option maxHeartbeats 4000000 in
set_option maxRecDepth 100000 in
theorem rdone_any (w : World) (b : Nat) (fa co pr : Int) (s : Bs) (n now : Int) (ok : Bool) (hn : n ≤ 1152921504606846976) (h : Rb w b fa co pr s) (N : Num fa co pr) (O : Ok fa pr n s) :
    Calls Try.prog 16 #[.pointer (some ⟨b, 0, none⟩), .int .i64 now, .bool ok] w fun e w' => e = .returned (.tuple #[.int .i64 (rdnN fa pr s now ok), .int .i64 (bE now)]) ∧ Rb w' b fa co pr (rdnS fa co pr s now ok) ∧ Fr (fun k => k = b) w w' := by
  have HS := hide (rstate_any w b fa co pr s n now h O)
  have A := O.at N now
  clear h
  by_cases hm : mom now = true
  · rw [stN_mom hm, bE_mom hm] at HS
    have e0 : Hid (rdnN fa pr s now ok = (if (atS s now).st = 2 then 0 else if (atS s now).st = 3 then prN pr ok (atS s now) else rctN fa ok (atS s now))) := hide (by unfold rdnN; rw [if_pos hm])
    have e9 : Hid (rdnS fa co pr s now ok = (if (atS s now).st = 2 then atS s now else if (atS s now).st = 3 then rprS co pr ok (atS s now) else rctS fa co ok (atS s now))) := hide (by unfold rdnS; rw [if_pos hm])
    rw [bE_mom hm, e0.out, e9.out]
    clear e0 e9 hm O
    generalize atS s now = t at *
    obtain ⟨st, la, en, fl, sr, gd⟩ := t
    obtain ⟨h1, l0, l1, -, -, f0, f1, -, -, g0, g1, -, -⟩ := A
    have c0 := N.c0
    have c1 := N.c1
    have p1 := N.p1
    have n1 := N.f1
    simp only at h1 l0 l1 f0 f1 g0 g1 HS ⊢
    clear N
    rcases h1 with rfl | rfl | rfl
    · have z1 : Hid (¬ (1 : Int) = 2) := hide (by omega)
      have z2 : Hid (¬ (1 : Int) = 3) := hide (by omega)
      rw [if_neg z1.out, if_neg z2.out, if_neg z1.out, if_neg z2.out]
      cases ok with
      | true =>
        have e1 : Hid (rctN fa true ⟨1, la, en, fl, sr, gd⟩ = 0) := hide rfl
        have e2 : Hid (rctS fa co true ⟨1, la, en, fl, sr, gd⟩ = ⟨1, la, en, 0, sr, gd⟩) := hide rfl
        rw [e1.out, e2.out]
        clear e1 e2 z1 z2
        go_enter Try.func16, Try.ntmps16
        go_wp2_with fail
        refine HS.out.mono ?_
        rintro e w1 ⟨rfl, K1, F1⟩
        obtain ⟨k0, k1, k2, k3, k4, k5, k6, k7, k8⟩ := K1.cs
        obtain ⟨z3, z4, z5, z6, z7, z8⟩ := K1.zs
        have HK := hide K1
        have HF := hide F1
        simp only at k0 k1 k2 k3 k4 k5 k6 k7 k8
        clear K1 F1 HS
        go_wp2_with fail
        go_ret2
        exact ⟨rfl, HK.out.s4 _, HF.out.s⟩
      | false =>
        by_cases hq : 0 < fa ∧ fa ≤ fl + 1
        · have e1 : Hid (rctN fa false ⟨1, la, en, fl, sr, gd⟩ = 2) := hide (by unfold rctN; simp [hq])
          have e2 : Hid (rctS fa co false ⟨1, la, en, fl, sr, gd⟩ = opR co ⟨1, la, en, fl + 1, sr, gd⟩) := hide (by unfold rctS opR; simp [hq])
          rw [e1.out, e2.out]
          obtain ⟨q0, q1⟩ := hq
          have hd0 : decide (0 < fa) = true := decide_eq_true q0
          have hd1 : decide (fa ≤ fl + 1) = true := decide_eq_true q1
          clear e1 e2 z1 z2
          go_enter Try.func16, Try.ntmps16
          go_wp2_with fail
          refine HS.out.mono ?_
          rintro e w1 ⟨rfl, K1, F1⟩
          obtain ⟨k0, k1, k2, k3, k4, k5, k6, k7, k8⟩ := K1.cs
          obtain ⟨z3, z4, z5, z6, z7, z8⟩ := K1.zs
          have HK := hide K1
          have HF := hide F1
          simp only at k0 k1 k2 k3 k4 k5 k6 k7 k8
          clear K1 F1 HS
          go_wp2_with fail
          have K2 := hide (HK.out.s4 (fl + 1))
          have F2 := hide (HF.out.s (i := 4) (v := .int .i64 (fl + 1)))
          generalize w1.setCell ⟨b, 4, none⟩ (.int .i64 (fl + 1)) = w2 at K2 F2 ⊢
          clear k0 k1 k2 k3 k4 k5 k6 k7 k8 z3 z4 z5 z6 z7 z8
          obtain ⟨k0, k1, k2, k3, k4, k5, k6, k7, k8⟩ := K2.out.cs
          obtain ⟨z3, z4, z5, z6, z7, z8⟩ := K2.out.zs
          simp only at k0 k1 k2 k3 k4 k5 k6 k7 k8
          go_quiet (fail)
          go_wp2_with fail
          refine (ropened_any _ b fa co pr _ (show Rb (w2.drewN nq) b fa co pr _ from K2.out) l0 l1 c0 c1).mono ?_
          rintro e w3 ⟨rfl, K3, F3⟩
          have HK3 := hide K3
          have HF3 := hide ((F2.out.d nq).trans F3 (fun _ _ x => x))
          clear K3 F3
          go_wp2_with fail
          go_ret2
          exact ⟨rfl, HK3.out, HF3.out⟩
        · have e1 : Hid (rctN fa false ⟨1, la, en, fl, sr, gd⟩ = 0) := hide (by unfold rctN; rw [if_neg (by simp), if_neg hq])
          have e2 : Hid (rctS fa co false ⟨1, la, en, fl, sr, gd⟩ = ⟨1, la, en, fl + 1, sr, gd⟩) := hide (by unfold rctS; rw [if_neg (by simp), if_neg hq])
          rw [e1.out, e2.out]
          have hq2 : ¬ 0 < fa ∨ (0 < fa ∧ ¬ fa ≤ fl + 1) := by omega
          clear e1 e2 z1 z2 hq
          rcases hq2 with q0 | ⟨q0, q1⟩
          · have hd0 : decide (0 < fa) = false := decide_eq_false q0
            go_enter Try.func16, Try.ntmps16
            go_wp2_with fail
            refine HS.out.mono ?_
            rintro e w1 ⟨rfl, K1, F1⟩
            obtain ⟨k0, k1, k2, k3, k4, k5, k6, k7, k8⟩ := K1.cs
            obtain ⟨z3, z4, z5, z6, z7, z8⟩ := K1.zs
            have HK := hide K1
            have HF := hide F1
            simp only at k0 k1 k2 k3 k4 k5 k6 k7 k8
            clear K1 F1 HS
            go_wp2_with fail
            have K2 := hide (HK.out.s4 (fl + 1))
            have F2 := hide (HF.out.s (i := 4) (v := .int .i64 (fl + 1)))
            generalize w1.setCell ⟨b, 4, none⟩ (.int .i64 (fl + 1)) = w2 at K2 F2 ⊢
            clear k0 k1 k2 k3 k4 k5 k6 k7 k8 z3 z4 z5 z6 z7 z8
            obtain ⟨k0, k1, k2, k3, k4, k5, k6, k7, k8⟩ := K2.out.cs
            obtain ⟨z3, z4, z5, z6, z7, z8⟩ := K2.out.zs
            simp only at k0 k1 k2 k3 k4 k5 k6 k7 k8
            go_quiet (fail)
            go_wp2_with fail
            go_ret2
            exact ⟨rfl, K2.out, F2.out.d _⟩
          · have hd0 : decide (0 < fa) = true := decide_eq_true q0
            have hd1 : decide (fa ≤ fl + 1) = false := decide_eq_false q1
            go_enter Try.func16, Try.ntmps16
            go_wp2_with fail
            refine HS.out.mono ?_
            rintro e w1 ⟨rfl, K1, F1⟩
            obtain ⟨k0, k1, k2, k3, k4, k5, k6, k7, k8⟩ := K1.cs
            obtain ⟨z3, z4, z5, z6, z7, z8⟩ := K1.zs
            have HK := hide K1
            have HF := hide F1
            simp only at k0 k1 k2 k3 k4 k5 k6 k7 k8
            clear K1 F1 HS
            go_wp2_with fail
            have K2 := hide (HK.out.s4 (fl + 1))
            have F2 := hide (HF.out.s (i := 4) (v := .int .i64 (fl + 1)))
            generalize w1.setCell ⟨b, 4, none⟩ (.int .i64 (fl + 1)) = w2 at K2 F2 ⊢
            clear k0 k1 k2 k3 k4 k5 k6 k7 k8 z3 z4 z5 z6 z7 z8
            obtain ⟨k0, k1, k2, k3, k4, k5, k6, k7, k8⟩ := K2.out.cs
            obtain ⟨z3, z4, z5, z6, z7, z8⟩ := K2.out.zs
            simp only at k0 k1 k2 k3 k4 k5 k6 k7 k8
            go_quiet (fail)
            go_wp2_with fail
            go_ret2
            exact ⟨rfl, K2.out, F2.out.d _⟩
    · have z1 : Hid ((2 : Int) = 2) := hide rfl
      rw [if_pos z1.out, if_pos z1.out]
      clear z1
      go_enter Try.func16, Try.ntmps16
      go_wp2_with fail
      refine HS.out.mono ?_
      rintro e w1 ⟨rfl, K1, F1⟩
      obtain ⟨k0, k1, k2, k3, k4, k5, k6, k7, k8⟩ := K1.cs
      obtain ⟨z3, z4, z5, z6, z7, z8⟩ := K1.zs
      have HK := hide K1
      have HF := hide F1
      simp only at k0 k1 k2 k3 k4 k5 k6 k7 k8
      clear K1 F1 HS
      go_wp2_with fail
      go_ret2
      exact ⟨rfl, HK.out, HF.out⟩
    · have z1 : Hid (¬ (3 : Int) = 2) := hide (by omega)
      have z2 : Hid ((3 : Int) = 3) := hide rfl
      rw [if_neg z1.out, if_pos z2.out, if_neg z1.out, if_pos z2.out]
      clear z1 z2
      cases ok with
      | false =>
        have e1 : Hid (prN pr false ⟨3, la, en, fl, sr, gd⟩ = 2) := hide rfl
        have e2 : Hid (rprS co pr false ⟨3, la, en, fl, sr, gd⟩ = opR co ⟨3, la, en, fl, sr, gd⟩) := hide rfl
        rw [e1.out, e2.out]
        clear e1 e2
        go_enter Try.func16, Try.ntmps16
        go_wp2_with fail
        refine HS.out.mono ?_
        rintro e w1 ⟨rfl, K1, F1⟩
        obtain ⟨k0, k1, k2, k3, k4, k5, k6, k7, k8⟩ := K1.cs
        obtain ⟨z3, z4, z5, z6, z7, z8⟩ := K1.zs
        have HK := hide K1
        have HF := hide F1
        simp only at k0 k1 k2 k3 k4 k5 k6 k7 k8
        clear K1 F1 HS
        go_wp2_with fail
        refine (ropened_any _ b fa co pr _ HK.out l0 l1 c0 c1).mono ?_
        rintro e w3 ⟨rfl, K3, F3⟩
        have HK3 := hide K3
        have HF3 := hide (HF.out.trans F3 (fun _ _ x => x))
        clear K3 F3
        go_wp2_with fail
        go_ret2
        exact ⟨rfl, HK3.out, HF3.out⟩
      | true =>
        by_cases hq : gd + 1 < pr
        · have e1 : Hid (prN pr true ⟨3, la, en, fl, sr, gd⟩ = 0) := hide (by unfold prN; simp [hq])
          have e2 : Hid (rprS co pr true ⟨3, la, en, fl, sr, gd⟩ = ⟨3, la, en, fl, sr, gd + 1⟩) := hide (by unfold rprS; simp [hq])
          rw [e1.out, e2.out]
          have hd : decide (gd + 1 < pr) = true := decide_eq_true hq
          clear e1 e2
          go_enter Try.func16, Try.ntmps16
          go_wp2_with fail
          refine HS.out.mono ?_
          rintro e w1 ⟨rfl, K1, F1⟩
          obtain ⟨k0, k1, k2, k3, k4, k5, k6, k7, k8⟩ := K1.cs
          obtain ⟨z3, z4, z5, z6, z7, z8⟩ := K1.zs
          have HK := hide K1
          have HF := hide F1
          simp only at k0 k1 k2 k3 k4 k5 k6 k7 k8
          clear K1 F1 HS
          go_wp2_with fail
          have K2 := hide (HK.out.s8 (gd + 1))
          have F2 := hide (HF.out.s (i := 8) (v := .int .i64 (gd + 1)))
          generalize w1.setCell ⟨b, 8, none⟩ (.int .i64 (gd + 1)) = w2 at K2 F2 ⊢
          clear k0 k1 k2 k3 k4 k5 k6 k7 k8 z3 z4 z5 z6 z7 z8
          obtain ⟨k0, k1, k2, k3, k4, k5, k6, k7, k8⟩ := K2.out.cs
          obtain ⟨z3, z4, z5, z6, z7, z8⟩ := K2.out.zs
          simp only at k0 k1 k2 k3 k4 k5 k6 k7 k8
          go_quiet (fail)
          go_wp2_with fail
          go_ret2
          exact ⟨rfl, K2.out, F2.out.d _⟩
        · have e1 : Hid (prN pr true ⟨3, la, en, fl, sr, gd⟩ = 1) := hide (by unfold prN; simp [hq])
          have e2 : Hid (rprS co pr true ⟨3, la, en, fl, sr, gd⟩ = ⟨1, la, en, 0, sr, gd + 1⟩) := hide (by unfold rprS; simp [hq])
          rw [e1.out, e2.out]
          have hd : decide (gd + 1 < pr) = false := decide_eq_false hq
          clear e1 e2
          go_enter Try.func16, Try.ntmps16
          go_wp2_with fail
          refine HS.out.mono ?_
          rintro e w1 ⟨rfl, K1, F1⟩
          obtain ⟨k0, k1, k2, k3, k4, k5, k6, k7, k8⟩ := K1.cs
          obtain ⟨z3, z4, z5, z6, z7, z8⟩ := K1.zs
          have HK := hide K1
          have HF := hide F1
          simp only at k0 k1 k2 k3 k4 k5 k6 k7 k8
          clear K1 F1 HS
          go_wp2_with fail
          have K2 := hide (HK.out.s8 (gd + 1))
          have F2 := hide (HF.out.s (i := 8) (v := .int .i64 (gd + 1)))
          generalize w1.setCell ⟨b, 8, none⟩ (.int .i64 (gd + 1)) = w2 at K2 F2 ⊢
          clear k0 k1 k2 k3 k4 k5 k6 k7 k8 z3 z4 z5 z6 z7 z8
          obtain ⟨k0, k1, k2, k3, k4, k5, k6, k7, k8⟩ := K2.out.cs
          obtain ⟨z3, z4, z5, z6, z7, z8⟩ := K2.out.zs
          simp only at k0 k1 k2 k3 k4 k5 k6 k7 k8
          go_quiet (fail)
          go_wp2_with fail
          go_ret2
          exact ⟨rfl, (Rb.s3 (w := w2.drewN _) K2.out _).s4 _, (F2.out.d _).s.s⟩
  · rw [stN_no hm, bE_no hm, atS_no hm] at HS
    have e0 : Hid (rdnN fa pr s now ok = 0) := hide (by unfold rdnN; rw [if_neg hm])
    have e9 : Hid (rdnS fa co pr s now ok = s) := hide (by unfold rdnS; rw [if_neg hm])
    rw [bE_no hm, e0.out, e9.out]
    clear e0 e9 hm A O N
    go_enter Try.func16, Try.ntmps16
    go_wp2_with fail
    refine HS.out.mono ?_
    rintro e w1 ⟨rfl, K1, F1⟩
    obtain ⟨k0, k1, k2, k3, k4, k5, k6, k7, k8⟩ := K1.cs
    obtain ⟨z3, z4, z5, z6, z7, z8⟩ := K1.zs
    have HK := hide K1
    have HF := hide F1
    clear K1 F1 HS
    go_wp2_with fail
    go_ret2
    exact ⟨rfl, HK.out, HF.out⟩

/-- Both breakers' states: they part in the count alone, and there only while it is not closed. -/
structure Du (fa pr n : Int) (s r : Bs) : Prop where
  st : r.st = s.st
  la : r.la = s.la
  en : r.en = s.en
  sr : r.sr = s.sr
  gd : r.gd = s.gd
  fl : s.st = 1 → r.fl = s.fl
  O : Ok fa pr n s
  R : Ok fa pr n r
theorem Du.more {fa pr n m : Int} {s r : Bs} (h : Du fa pr n s r) (hm : n ≤ m) : Du fa pr m s r := ⟨h.st, h.la, h.en, h.sr, h.gd, h.fl, h.O.more hm, h.R.more hm⟩
theorem Du.at {fa co pr n : Int} {s r : Bs} (h : Du fa pr n s r) (N : Num fa co pr) (now : Int) : Du fa pr n (atS s now) (atS r now) := by
  have A := h.O.at N now
  have B := h.R.at N now
  by_cases hm : mom now = true
  · obtain ⟨st, la, en, fl, sr, gd⟩ := s
    obtain ⟨st', la', en', fl', sr', gd'⟩ := r
    obtain ⟨e1, e2, e3, e4, e5, e6, -, -⟩ := h
    simp only at e1 e2 e3 e4 e5 e6
    subst e1 e2 e3 e4 e5
    by_cases h2 : st' = 2
    · subst h2
      by_cases hq : en' ≤ max la' now
      · rw [atS_y hm hq] at A B ⊢; rw [atS_y hm hq]; exact ⟨rfl, rfl, rfl, rfl, rfl, fun x => by simp at x, A, B⟩
      · rw [atS_n hm hq] at A B ⊢; rw [atS_n hm hq]; exact ⟨rfl, rfl, rfl, rfl, rfl, fun x => by simp at x, A, B⟩
    · rw [atS_x hm h2] at A B ⊢; rw [atS_x hm h2]; exact ⟨rfl, rfl, rfl, rfl, rfl, e6, A, B⟩
  · rw [atS_no hm, atS_no hm]; exact h
theorem Du.stN {fa co pr n : Int} {s r : Bs} (h : Du fa pr n s r) (N : Num fa co pr) (now : Int) : stN r now = stN s now := by
  have A := (h.at N now).st
  unfold Go.Proofs.Ytfloifghpjiojaa.stN
  rw [A]
theorem Du.can {fa co pr n : Int} {s r : Bs} (h : Du fa pr n s r) (N : Num fa co pr) (now : Int) : canB pr r now = canB pr s now := by
  have A := h.at N now
  unfold canB
  rw [A.st, A.sr]
theorem Du.alw {fa co pr n : Int} {s r : Bs} (h : Du fa pr n s r) (N : Num fa co pr) (now : Int) : Du fa pr n (alwS pr s now) (alwS pr r now) := by
  have A := h.at N now
  have B := h.O.alw N now
  have C := h.R.alw N now
  have e := h.can N now
  unfold alwS at B C ⊢
  rw [e, A.st] at C ⊢
  split
  · rename_i x
    rw [if_pos x] at B C
    exact ⟨rfl, A.la, A.en, by simp only; rw [A.sr], A.gd, fun y => by rw [x.2] at y; simp at y, B, C⟩
  · exact A
theorem Du.done {fa co pr n : Int} {s r : Bs} (h : Du fa pr n s r) (N : Num fa co pr) (now : Int) (ok : Bool) : Du fa pr (n + 1) (dnS fa co pr s now ok) (rdnS fa co pr r now ok) ∧ rdnN fa pr r now ok = dnN fa pr s now ok := by
  have n0 : 0 ≤ n := by have := h.O.f0; have := h.O.f1; omega
  by_cases hm : mom now = true
  · have D := h.O.done N now ok
    have A := h.at N now
    have p0 := N.p0
    have q0 := N.f0
    have c0 := N.c0
    unfold dnS at D ⊢
    unfold rdnS rdnN dnN
    rw [if_pos hm] at D
    rw [if_pos hm, if_pos hm, if_pos hm, if_pos hm]
    generalize atS s now = t at *
    generalize atS r now = u at *
    clear h hm
    have hst := A.O.st
    obtain ⟨st, la, en, fl, sr, gd⟩ := t
    obtain ⟨st', la', en', fl', sr', gd'⟩ := u
    obtain ⟨e1, e2, e3, e4, e5, e6, O, R⟩ := A
    simp only at e1 e2 e3 e4 e5 e6 hst D ⊢
    subst e1 e2 e3 e4 e5
    rcases hst with rfl | rfl | rfl
    · have e7 := e6 rfl
      subst e7
      have hs := O.shut rfl
      have f0 := O.f0
      have f1 := O.f1
      simp only at hs f0 f1
      have z1 : ¬ (1 : Int) = 2 := by omega
      have z2 : ¬ (1 : Int) = 3 := by omega
      rw [if_neg z1, if_neg z2] at D
      simp only [if_neg z1, if_neg z2]
      unfold ctS at D ⊢
      unfold rctS rctN ctN
      cases ok with
      | true =>
        rw [if_pos rfl] at D
        exact ⟨⟨rfl, rfl, rfl, rfl, rfl, fun _ => rfl, D, D⟩, rfl⟩
      | false =>
        simp only [Bool.false_eq_true, if_false] at D ⊢
        by_cases hq : fl' + 1 = fa
        · have hq2 : 0 < fa ∧ fa ≤ fl' + 1 := by omega
          rw [if_pos hq] at D
          simp only [if_pos hq, if_pos hq2]
          exact ⟨⟨rfl, rfl, rfl, rfl, rfl, fun x => by simp at x, D, ⟨D.st, D.l0, D.l1, D.e0, D.e1, by simp [opR], by simp only [opR]; omega, D.s0, D.s1, D.g0, D.g1, fun x => by simp [opR] at x, fun x => by simp [opR] at x⟩⟩, trivial⟩
        · have hq2 : ¬ (0 < fa ∧ fa ≤ fl' + 1) := fun x => by have := hs x.1; omega
          rw [if_neg hq] at D
          simp only [if_neg hq, if_neg hq2]
          exact ⟨⟨rfl, rfl, rfl, rfl, rfl, fun _ => rfl, D, D⟩, trivial⟩
    · simp only [if_true]
      exact ⟨⟨rfl, rfl, rfl, rfl, rfl, e6, O.more (by omega), R.more (by omega)⟩, trivial⟩
    · have z1 : ¬ (3 : Int) = 2 := by omega
      have z2 : (3 : Int) = 3 := rfl
      rw [if_neg z1, if_pos z2] at D
      simp only [if_neg z1, if_true]
      have rf0 := R.f0
      have rf1 := R.f1
      simp only at rf0 rf1
      unfold prS at D ⊢
      unfold rprS prN
      cases ok with
      | true =>
        simp only [if_true] at D ⊢
        by_cases hq : gd' + 1 < pr
        · rw [if_pos hq] at D
          simp only [if_pos hq]
          exact ⟨⟨rfl, rfl, rfl, rfl, rfl, fun x => by simp at x, D, ⟨D.st, D.l0, D.l1, D.e0, D.e1, rf0, by simp only; omega, D.s0, D.s1, D.g0, D.g1, D.half, fun x => by simp at x⟩⟩, trivial⟩
        · rw [if_neg hq] at D
          simp only [if_neg hq]
          exact ⟨⟨rfl, rfl, rfl, rfl, rfl, fun _ => rfl, D, D⟩, trivial⟩
      | false =>
        simp only [Bool.false_eq_true, if_false] at D ⊢
        exact ⟨⟨rfl, rfl, rfl, rfl, rfl, fun x => by simp [opS] at x, D, ⟨D.st, D.l0, D.l1, D.e0, D.e1, by simp [opR], by simp only [opR]; omega, D.s0, D.s1, D.g0, D.g1, fun x => by simp [opR] at x, fun x => by simp [opR] at x⟩⟩, trivial⟩
  · have e1 : dnS fa co pr s now ok = s := by unfold dnS; rw [if_neg hm]
    have e2 : rdnS fa co pr r now ok = r := by unfold rdnS; rw [if_neg hm]
    have e3 : dnN fa pr s now ok = 0 := by unfold dnN; rw [if_neg hm]
    have e4 : rdnN fa pr r now ok = 0 := by unfold rdnN; rw [if_neg hm]
    rw [e1, e2, e3, e4]
    exact ⟨h.more (by omega), rfl⟩

set_option maxHeartbeats 2000000 in
set_option maxRecDepth 100000 in
theorem speaks_any (w : World) : Calls Try.prog 10 #[] w fun e w' => e = .returned (.bool true) ∧ Fr none' w w' := by
  have A : okN 2 10 1 := ⟨⟨by omega, by omega⟩, ⟨by omega, by omega⟩, by omega, by omega⟩
  have HN := hide (new_any w 2 10 1 A)
  have N := hide A.num
  have O0 := hide A.ok
  clear A
  obtain ⟨b, Hb⟩ : ∃ b, Hid (w.heap.size = b) := ⟨_, hide rfl⟩
  rw [Hb.out] at HN
  go_enter Try.func10, Try.ntmps10
  go_wp2_with fail
  refine HN.out.mono ?_
  rintro e w1 ⟨rfl, K1, F1, z1⟩
  have HF1 := hide F1
  have O1 : Hid (Ok 2 1 1 ⟨1, 0, 0, 1, 0, 0⟩) := hide (O0.out.done N.out 0 false)
  have H1 := hide (done_any w1 b 2 10 1 s0 0 0 false (by omega) K1 N.out O0.out)
  rw [show dnN 2 1 s0 0 false = 0 by decide, show bE 0 = 0 by decide, show dnS 2 10 1 s0 0 false = ⟨1, 0, 0, 1, 0, 0⟩ by rfl] at H1
  clear K1 F1 z1 HN O0
  go_wp2_with fail
  refine H1.out.mono ?_
  rintro e w2 ⟨rfl, K2, F2⟩
  have HF2 := hide F2
  have O2 : Hid (Ok 2 1 2 ⟨2, 1, 11, 2, 0, 0⟩) := hide (O1.out.done N.out 1 false)
  have H2 := hide (done_any w2 b 2 10 1 _ 1 1 false (by omega) K2 N.out O1.out)
  rw [show dnN 2 1 ⟨1, 0, 0, 1, 0, 0⟩ 1 false = 2 by decide, show bE 1 = 0 by decide, show dnS 2 10 1 ⟨1, 0, 0, 1, 0, 0⟩ 1 false = ⟨2, 1, 11, 2, 0, 0⟩ by rfl] at H2
  clear K2 F2 H1 O1
  go_wp2_with fail
  refine H2.out.mono ?_
  rintro e w3 ⟨rfl, K3, F3⟩
  have HF3 := hide F3
  have O3 : Hid (Ok 2 1 2 ⟨2, 10, 11, 2, 0, 0⟩) := hide (O2.out.alw N.out 10)
  have H3 := hide (allow_any w3 b 2 10 1 _ 2 10 K3 N.out O2.out)
  rw [show canB 1 ⟨2, 1, 11, 2, 0, 0⟩ 10 = false by decide, show bE 10 = 0 by decide, show alwS 1 ⟨2, 1, 11, 2, 0, 0⟩ 10 = ⟨2, 10, 11, 2, 0, 0⟩ by rfl] at H3
  clear K3 F3 H2 O2
  go_wp2_with fail
  refine H3.out.mono ?_
  rintro e w4 ⟨rfl, K4, F4⟩
  have HF4 := hide F4
  have O4 : Hid (Ok 2 1 2 ⟨3, 11, 11, 2, 1, 0⟩) := hide (O3.out.alw N.out 11)
  have H4 := hide (allow_any w4 b 2 10 1 _ 2 11 K4 N.out O3.out)
  rw [show canB 1 ⟨2, 10, 11, 2, 0, 0⟩ 11 = true by decide, show bE 11 = 0 by decide, show alwS 1 ⟨2, 10, 11, 2, 0, 0⟩ 11 = ⟨3, 11, 11, 2, 1, 0⟩ by rfl] at H4
  clear K4 F4 H3 O3
  go_wp2_with fail
  refine H4.out.mono ?_
  rintro e w5 ⟨rfl, K5, F5⟩
  have HF5 := hide F5
  have H5 := hide (allow_any w5 b 2 10 1 _ 2 11 K5 N.out O4.out)
  rw [show canB 1 ⟨3, 11, 11, 2, 1, 0⟩ 11 = false by decide, show bE 11 = 0 by decide, show alwS 1 ⟨3, 11, 11, 2, 1, 0⟩ 11 = ⟨3, 11, 11, 2, 1, 0⟩ by rfl] at H5
  clear K5 F5 H4
  go_wp2_with fail
  refine H5.out.mono ?_
  rintro e w6 ⟨rfl, K6, F6⟩
  have HF6 := hide F6
  have H6 := hide (done_any w6 b 2 10 1 _ 2 12 true (by omega) K6 N.out O4.out)
  rw [show dnN 2 1 ⟨3, 11, 11, 2, 1, 0⟩ 12 true = 1 by decide, show bE 12 = 0 by decide] at H6
  clear K6 F6 H5
  go_wp2_with fail
  refine H6.out.mono ?_
  rintro e w7 ⟨rfl, K7, F7⟩
  have HF7 := hide F7
  clear K7 F7 H6
  go_wp2_with fail
  go_ret
  refine ⟨rfl, ?_⟩
  have st : ∀ i, i < w.heap.size → i = b → False := fun i hi e => by have := Hb.out; omega
  exact (((((HF1.out.trans HF2.out st).trans HF3.out st).trans HF4.out st).trans HF5.out st).trans HF6.out st).trans HF7.out st
end Go.Proofs.Ytfloifghpjiojaa
