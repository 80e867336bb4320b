/- BreakerOpen, walked. -/
import Derived.Test.YtfloifghpjiojaaX0
namespace Go.Proofs.Ytfloifghpjiojaa
open Go.ChangeShapes Go.WideShapes Go.ChangeAt Go.RowKit

/-- What BreakerOpen keeps beside a breaker. -/
structure OI (pr nw un sd : Int) (op : Bool) (s : Bs) : Prop where
  la : s.la ≤ nw
  n0 : 0 ≤ nw
  n1 : nw ≤ 2305843009213693952
  u0 : -1 ≤ un
  u1 : un ≤ nw + 1000000
  s1 : s.st = 1 → op = false ∧ un ≤ nw
  s2 : s.st = 2 → op = true ∧ un = s.en ∧ sd = 0
  s3 : s.st = 3 → op = true ∧ un ≤ nw ∧ sd = s.sr
  d0 : 0 ≤ sd
  d1 : sd ≤ pr
theorem OI.on {pr nw un sd nw' : Int} {op : Bool} {s : Bs} (h : OI pr nw un sd op s) (h1 : nw ≤ nw') (h2 : nw' ≤ 2305843009213693952) : OI pr nw' un sd op s :=
  ⟨by have := h.la; omega, by have := h.n0; omega, h2, h.u0, by have := h.u1; omega, fun x => ⟨(h.s1 x).1, by have := (h.s1 x).2; omega⟩, h.s2, fun x => ⟨(h.s3 x).1, by have := (h.s3 x).2.1; omega, (h.s3 x).2.2⟩, h.d0, h.d1⟩
theorem OI.mo {pr nw un sd : Int} {op : Bool} {s : Bs} (h : OI pr nw un sd op s) : mom nw = true := mom_yes h.n0 (by have := h.n1; omega)
theorem OI.at {pr nw un sd : Int} {op : Bool} {s : Bs} (h : OI pr nw un sd op s) : OI pr nw un sd op (atS s nw) ∧ (atS s nw).la = nw ∧ ((atS s nw).st = 2 → nw < un) := by
  have hm := h.mo
  obtain ⟨st, la, en, fl, sr, gd⟩ := s
  obtain ⟨hl, n0, n1, u0, u1, s1, s2, s3, d0, d1⟩ := h
  simp only at hl s1 s2 s3
  have e : max la nw = nw := by omega
  by_cases h2 : st = 2
  · subst h2
    obtain ⟨o, eu, ed⟩ := s2 rfl
    by_cases hq : en ≤ max la nw
    · rw [atS_y hm hq, e]
      exact ⟨⟨by simp, n0, n1, u0, u1, fun x => by simp at x, fun x => by simp at x, fun _ => ⟨o, by omega, by simp only; omega⟩, d0, d1⟩, rfl, fun x => by simp at x⟩
    · rw [atS_n hm hq, e]
      exact ⟨⟨by simp, n0, n1, u0, u1, fun x => by simp at x, fun _ => ⟨o, eu, ed⟩, fun x => by simp at x, d0, d1⟩, rfl, fun _ => by omega⟩
  · rw [atS_x hm h2, e]
    exact ⟨⟨by simp, n0, n1, u0, u1, s1, fun x => absurd x h2, s3, d0, d1⟩, rfl, fun x => absurd x h2⟩
theorem OI.allow {fa pr n nw un sd : Int} {op : Bool} {s : Bs} (h : OI pr nw un sd op s) (O : Ok fa pr n (atS s nw)) : (canB pr s nw = true → ¬ nw < un) ∧ OI pr nw un (if canB pr s nw = true ∧ op = true then sd + 1 else sd) op (alwS pr s nw) := by
  obtain ⟨A, e, q⟩ := h.at
  have hm := h.mo
  have hc : canB pr s nw = (decide ((atS s nw).st = 1) || (decide ((atS s nw).st = 3) && decide ((atS s nw).sr < pr))) := by unfold canB; rw [hm]; rfl
  unfold alwS
  rw [hc]
  clear hc h hm
  generalize atS s nw = t at *
  obtain ⟨st, la, en, fl, sr, gd⟩ := t
  obtain ⟨hl, n0, n1, u0, u1, s1, s2, s3, d0, d1⟩ := A
  have hst := O.st
  simp only at hl s1 s2 s3 e q hst ⊢
  rcases hst with rfl | rfl | rfl
  · obtain ⟨o, hu⟩ := s1 rfl
    subst o
    refine ⟨fun _ => by omega, ?_⟩
    rw [if_neg (fun x => by simp at x), if_neg (fun x => by simp at x)]
    exact ⟨hl, n0, n1, u0, u1, fun _ => ⟨rfl, hu⟩, fun x => by simp at x, fun x => by simp at x, d0, d1⟩
  · obtain ⟨o, hu, hs⟩ := s2 rfl
    refine ⟨fun x => by simp at x, ?_⟩
    rw [if_neg (fun x => by simp at x), if_neg (fun x => by simp at x)]
    exact ⟨hl, n0, n1, u0, u1, fun x => by simp at x, fun _ => ⟨o, hu, hs⟩, fun x => by simp at x, d0, d1⟩
  · obtain ⟨o, hu, hs⟩ := s3 rfl
    subst o
    refine ⟨fun _ => by omega, ?_⟩
    by_cases hq : sr < pr
    · have hc : (decide ((3 : Int) = 1) || (decide ((3 : Int) = 3) && decide (sr < pr))) = true := by simp [hq]
      rw [if_pos ⟨hc, rfl⟩, if_pos ⟨hc, rfl⟩]
      exact ⟨hl, n0, n1, u0, u1, fun x => by simp at x, fun x => by simp at x, fun _ => ⟨rfl, hu, by simp only; omega⟩, by omega, by omega⟩
    · have hc : ¬ (decide ((3 : Int) = 1) || (decide ((3 : Int) = 3) && decide (sr < pr))) = true := by simp [hq]
      rw [if_neg (fun x => hc x.1), if_neg (fun x => hc x.1)]
      exact ⟨hl, n0, n1, u0, u1, fun x => by simp at x, fun x => by simp at x, fun _ => ⟨rfl, hu, hs⟩, d0, d1⟩
theorem OI.done {fa co pr n nw un sd : Int} {op : Bool} {s : Bs} (h : OI pr nw un sd op s) (N : Num fa co pr) (O : Ok fa pr n (atS s nw)) (ok : Bool) :
    (dnN fa pr s nw ok = 0 ∧ OI pr nw un sd op (dnS fa co pr s nw ok)) ∨ (dnN fa pr s nw ok = 1 ∧ ¬ nw < un ∧ OI pr nw un sd false (dnS fa co pr s nw ok)) ∨ (dnN fa pr s nw ok = 2 ∧ ¬ nw < un ∧ OI pr nw (nw + co) 0 true (dnS fa co pr s nw ok)) := by
  obtain ⟨A, e, q⟩ := h.at
  have hm := h.mo
  unfold dnN dnS
  rw [if_pos hm, if_pos hm]
  clear h hm
  generalize atS s nw = t at *
  obtain ⟨st, la, en, fl, sr, gd⟩ := t
  obtain ⟨hl, n0, n1, u0, u1, s1, s2, s3, d0, d1⟩ := A
  have hst := O.st
  have c0 := N.c0
  have c1 := N.c1
  have p0 := N.p0
  simp only at hl s1 s2 s3 e q hst ⊢
  subst e
  have el : later la co = la + co := by unfold later; rw [if_pos (by omega)]
  rcases hst with rfl | rfl | rfl
  · obtain ⟨o, hu⟩ := s1 rfl
    have z1 : ¬ (1 : Int) = 2 := by omega
    have z2 : ¬ (1 : Int) = 3 := by omega
    rw [if_neg z1, if_neg z2, if_neg z1, if_neg z2]
    unfold ctN ctS
    cases ok with
    | true => exact .inl ⟨rfl, ⟨hl, n0, n1, u0, u1, fun _ => ⟨o, hu⟩, fun x => by simp at x, fun x => by simp at x, d0, d1⟩⟩
    | false =>
      simp only [Bool.false_eq_true, if_false]
      split
      · exact .inr (.inr ⟨rfl, by omega, ⟨by simp, n0, n1, by omega, by omega, fun x => by simp at x, fun _ => ⟨rfl, by simp only; omega, rfl⟩, fun x => by simp at x, by omega, by omega⟩⟩)
      · exact .inl ⟨rfl, ⟨by simp, n0, n1, u0, u1, fun _ => ⟨o, hu⟩, fun x => by simp at x, fun x => by simp at x, d0, d1⟩⟩
  · rw [if_pos rfl, if_pos rfl]
    exact .inl ⟨rfl, ⟨hl, n0, n1, u0, u1, fun x => by simp at x, fun _ => s2 rfl, fun x => by simp at x, d0, d1⟩⟩
  · obtain ⟨o, hu, hs⟩ := s3 rfl
    have z1 : ¬ (3 : Int) = 2 := by omega
    rw [if_neg z1, if_pos rfl, if_neg z1, if_pos rfl]
    unfold prN prS opS
    cases ok with
    | true =>
      simp only [if_true]
      split
      · exact .inl ⟨rfl, ⟨by simp, n0, n1, u0, u1, fun x => by simp at x, fun x => by simp at x, fun _ => ⟨o, hu, hs⟩, d0, d1⟩⟩
      · exact .inr (.inl ⟨rfl, by omega, ⟨by simp, n0, n1, u0, u1, fun _ => ⟨rfl, hu⟩, fun x => by simp at x, fun x => by simp at x, d0, d1⟩⟩)
    | false =>
      simp only [Bool.false_eq_true, if_false]
      exact .inr (.inr ⟨trivial, by omega, ⟨by simp, n0, n1, by omega, by omega, fun x => by simp at x, fun _ => ⟨rfl, by simp only; omega, rfl⟩, fun x => by simp at x, by omega, by omega⟩⟩)

set_option maxHeartbeats 1000000 in
set_option maxRecDepth 100000 in
theorem open_walk (fa co pr : Int) (ad : Option Addr) (len cap : Nat) (W : World) (hlen : len < 17592186044416)
    (hst : Hid (∀ i, i < len → ∃ b off, ∃ (x0 : Int) (x1 : Int), ad = some ⟨b, off, none⟩ ∧ (W.cell? ⟨b, off + i * 2, none⟩ = some (.int .i64 x0) ∧ W.cell? ⟨b, off + i * 2 + 1, none⟩ = some (.int .i64 x1)) ∧ b < W.heap.size ∧ (-9223372036854775808 ≤ x0 ∧ x0 ≤ 9223372036854775807) ∧ (-9223372036854775808 ≤ x1 ∧ x1 ≤ 9223372036854775807))) :
    Calls Try.prog 4 #[.agg #[.int .i64 fa, .int .i64 co, .int .i64 pr], .slice ad len cap] W fun e w' => e = .returned (.bool true) ∧ Below W.heap.size W w' := by
  by_cases hA : okN fa co pr
  · have HN := hide (fun V => new_any V fa co pr hA)
    have N := hide hA.num
    have D0 : Hid (Ok fa pr ((0 : Nat) : Int) s0) := hide hA.ok
    have J0 : Hid (OI pr 0 (-1) 0 false s0) := hide ⟨by simp [s0], by omega, by omega, by omega, by omega, fun _ => ⟨rfl, by omega⟩, fun x => by simp [s0] at x, fun x => by simp [s0] at x, by omega, by have := hA.2.2.1; omega⟩
    clear hA
    go_enter Try.func4, Try.ntmps4
    go_wp2_with fail
    have A0 : (W.alloc (.cells #[.int .i64 fa, .int .i64 co, .int .i64 pr] 23)).heap[W.heap.size]? = some (nmO fa co pr) := hp_new _ _
    have F0 := Fr.alloc none' W (.cells #[.int .i64 fa, .int .i64 co, .int .i64 pr] 23)
    have Z0 : Hid (W.heap.size < (W.alloc (.cells #[.int .i64 fa, .int .i64 co, .int .i64 pr] 23)).heap.size) := hide (by simp)
    generalize W.alloc (.cells #[.int .i64 fa, .int .i64 co, .int .i64 pr] 23) = W1 at A0 F0 Z0 ⊢
    refine (HN.out W1).mono ?_
    rintro e w1 ⟨rfl, K1, F1, z1⟩
    have I0 : Hid (G2 W w1 W.heap.size W1.heap.size (nmO fa co pr) (brO fa co pr s0)) := hide ⟨F1.hd id A0, K1, F0.trans F1 (fun _ _ x => x), by have := Z0.out; omega⟩
    have c0 : w1.cell? ⟨W.heap.size, 0, none⟩ = some (.int .i64 fa) := cell_of I0.out.B 0
    clear K1 F1 z1 HN A0 F0 Z0
    go_wp2_with fail
    clear c0
    generalize hb1 : W1.heap.size = b at *
    clear hb1
    obtain ⟨a, Ha⟩ : ∃ a, Hid (W.heap.size = a) := ⟨_, hide rfl⟩
    rw [Ha.out] at I0 ⊢
    go_loopw [7, 8, 9, 10, 40] (fun v7 v8 v9 v10 v wr => ∃ (k : Nat) (nw un sd : Int) (op : Bool) (s : Bs), k ≤ len ∧ v = .int .i64 (k : Int) ∧ v7 = .int .i64 nw ∧ v8 = .int .i64 un ∧ v9 = .int .i64 sd ∧ v10 = .bool op ∧ Hid (G2 W wr a b (nmO fa co pr) (brO fa co pr s)) ∧ Hid (OI pr nw un sd op s) ∧ Hid (Ok fa pr (k : Int) s)) (fun _ _ _ _ v _ => len - (intOf v).toNat)
    case atStart => exact ⟨0, _, _, _, _, _, Nat.zero_le _, rfl, rfl, rfl, rfl, rfl, I0, J0, D0⟩
    case round =>
      clear I0 D0 J0
      obtain ⟨k, nw, un, sd, op, s, hk, rfl, rfl, rfl, rfl, rfl, HI, HJ, HO⟩ := hrel
      by_cases hlt : k < len
      · obtain ⟨pb, off, kd, x, rfl, ⟨hc0, hc1⟩, hb, -, hn0, hn1⟩ := hst.out k hlt
        have e0 : wr.cell? ⟨pb, off + k * 2, none⟩ = some (.int .i64 kd) := (World.cell?_of_block (HI.out.F.block pb hb id)).trans hc0
        have e1 : wr.cell? ⟨pb, off + k * 2 + 1, none⟩ = some (.int .i64 x) := (World.cell?_of_block (HI.out.F.block pb hb id)).trans hc1
        clear hc0 hc1 hst hb
        have HT := hide (HI.out.take (stO kd x))
        clear HI
        by_cases hq : nw < x ∧ x ≤ 2305843009213693952
        · obtain ⟨q0, q1⟩ := hq
          have HJ' := hide (HJ.out.on (show nw ≤ x by omega) q1)
          clear HJ
          rename Hid (OI pr x un sd op s) => HJ
          by_cases k0 : kd = 0
          · subst k0
            have HC := hide (allow_any (wr.alloc (stO 0 x)) b fa co pr s (k : Int) x HT.out.C N.out HO.out)
            rw [bE_mom HJ.out.mo] at HC
            have HX := hide (HJ.out.allow (HO.out.at N.out x))
            have HO2 := hide ((HO.out.alw N.out x).more (show (k : Int) ≤ ((k + 1 : Nat) : Int) by omega))
            generalize canB pr s x = xx at *
            generalize alwS pr s x = s2 at *
            cases xx with
            | false =>
              have HJ2 := hide HX.out.2
              rw [if_neg (fun x => by simp at x)] at HJ2
              clear HX
              go_wp2_with fail
              refine HC.out.mono ?_
              rintro e w2 ⟨rfl, K, F⟩
              have HT2 := hide (HT.out.c K F)
              clear K F
              go_wp2_with fail
              go_roundw
              case rel => exact ⟨k + 1, _, _, _, _, s2, by omega, by go_num, rfl, rfl, rfl, rfl, hide HT2.out.drop, HJ2, HO2⟩
              case measure => simp [intOf]; omega
            | true =>
              have hlt2 := HX.out.1 rfl
              cases op with
              | false =>
                have HJ2 := hide HX.out.2
                rw [if_neg (fun x => by simp at x)] at HJ2
                clear HX
                go_wp2_with fail
                refine HC.out.mono ?_
                rintro e w2 ⟨rfl, K, F⟩
                have HT2 := hide (HT.out.c K F)
                clear K F
                go_wp2_with fail
                go_roundw
                case rel => exact ⟨k + 1, _, _, _, _, s2, by omega, by go_num, rfl, rfl, rfl, rfl, hide HT2.out.drop, HJ2, HO2⟩
                case measure => simp [intOf]; omega
              | true =>
                have HJ2 := hide HX.out.2
                rw [if_pos ⟨rfl, rfl⟩] at HJ2
                have hd1 := HJ2.out.d1
                have hd0 := HJ2.out.d0
                have hp1 := N.out.p1
                have hd2 : ¬ pr < sd + 1 := by omega
                clear HX
                go_wp2_with fail
                refine HC.out.mono ?_
                rintro e w2 ⟨rfl, K, F⟩
                have HT2 := hide (HT.out.c K F)
                have c2 : w2.cell? ⟨a, 2, none⟩ = some (.int .i64 pr) := cell_of HT2.out.B 2
                clear K F
                go_wp2_with fail
                go_roundw
                case rel => exact ⟨k + 1, _, _, _, _, s2, by omega, by go_num, rfl, rfl, rfl, rfl, hide HT2.out.drop, HJ2, HO2⟩
                case measure => simp [intOf]; omega
          have kk0 : (kd == 0) = false := by simpa using k0
          by_cases k1 : kd = 1
          · subst k1
            clear k0 kk0
            have HC := hide (done_any (wr.alloc (stO 1 x)) b fa co pr s (k : Int) x true (by omega) HT.out.C N.out HO.out)
            rw [bE_mom HJ.out.mo] at HC
            have HX := hide (HJ.out.done N.out (HO.out.at N.out x) true)
            have HO2 := hide ((HO.out.done N.out x true).more (show (k : Int) + 1 ≤ ((k + 1 : Nat) : Int) by omega))
            have g1 := HJ.out.n0
            have g2 := HJ.out.n1
            have g3 := N.out.c0
            have g4 := N.out.c1
            generalize dnN fa pr s x true = xx at *
            generalize dnS fa co pr s x true = s2 at *
            rcases HX.out with ⟨rfl, J2⟩ | ⟨rfl, hlt2, J2⟩ | ⟨rfl, hlt2, J2⟩
            · have HJ2 := hide J2
              clear HX J2
              go_wp2_with fail
              refine HC.out.mono ?_
              rintro e w2 ⟨rfl, K, F⟩
              have HT2 := hide (HT.out.c K F)
              have c1 : w2.cell? ⟨a, 1, none⟩ = some (.int .i64 co) := cell_of HT2.out.B 1
              clear K F
              go_wp2_with fail
              all_goals
                go_roundw
                case rel => exact ⟨k + 1, _, _, _, _, s2, by omega, by go_num, rfl, rfl, rfl, rfl, hide HT2.out.drop, HJ2, HO2⟩
                case measure => simp [intOf]; omega
            · have HJ2 := hide J2
              clear HX J2
              go_wp2_with fail
              refine HC.out.mono ?_
              rintro e w2 ⟨rfl, K, F⟩
              have HT2 := hide (HT.out.c K F)
              have c1 : w2.cell? ⟨a, 1, none⟩ = some (.int .i64 co) := cell_of HT2.out.B 1
              clear K F
              go_wp2_with fail
              all_goals
                go_roundw
                case rel => exact ⟨k + 1, _, _, _, _, s2, by omega, by go_num, rfl, rfl, rfl, rfl, hide HT2.out.drop, HJ2, HO2⟩
                case measure => simp [intOf]; omega
            · have HJ2 := hide J2
              clear HX J2
              go_wp2_with fail
              refine HC.out.mono ?_
              rintro e w2 ⟨rfl, K, F⟩
              have HT2 := hide (HT.out.c K F)
              have c1 : w2.cell? ⟨a, 1, none⟩ = some (.int .i64 co) := cell_of HT2.out.B 1
              clear K F
              go_wp2_with fail
              all_goals
                go_roundw
                case rel => exact ⟨k + 1, _, _, _, _, s2, by omega, by go_num, rfl, rfl, rfl, rfl, hide HT2.out.drop, HJ2, HO2⟩
                case measure => simp [intOf]; omega
          have kk1 : (kd == 1) = false := by simpa using k1
          have HC := hide (done_any (wr.alloc (stO kd x)) b fa co pr s (k : Int) x false (by omega) HT.out.C N.out HO.out)
          rw [bE_mom HJ.out.mo] at HC
          have HX := hide (HJ.out.done N.out (HO.out.at N.out x) false)
          have HO2 := hide ((HO.out.done N.out x false).more (show (k : Int) + 1 ≤ ((k + 1 : Nat) : Int) by omega))
          have g1 := HJ.out.n0
          have g2 := HJ.out.n1
          have g3 := N.out.c0
          have g4 := N.out.c1
          generalize dnN fa pr s x false = xx at *
          generalize dnS fa co pr s x false = s2 at *
          rcases HX.out with ⟨rfl, J2⟩ | ⟨rfl, hlt2, J2⟩ | ⟨rfl, hlt2, J2⟩
          · have HJ2 := hide J2
            clear HX J2
            go_wp2_with fail
            refine HC.out.mono ?_
            rintro e w2 ⟨rfl, K, F⟩
            have HT2 := hide (HT.out.c K F)
            have c1 : w2.cell? ⟨a, 1, none⟩ = some (.int .i64 co) := cell_of HT2.out.B 1
            clear K F
            go_wp2_with fail
            all_goals
              go_roundw
              case rel => exact ⟨k + 1, _, _, _, _, s2, by omega, by go_num, rfl, rfl, rfl, rfl, hide HT2.out.drop, HJ2, HO2⟩
              case measure => simp [intOf]; omega
          · have HJ2 := hide J2
            clear HX J2
            go_wp2_with fail
            refine HC.out.mono ?_
            rintro e w2 ⟨rfl, K, F⟩
            have HT2 := hide (HT.out.c K F)
            have c1 : w2.cell? ⟨a, 1, none⟩ = some (.int .i64 co) := cell_of HT2.out.B 1
            clear K F
            go_wp2_with fail
            all_goals
              go_roundw
              case rel => exact ⟨k + 1, _, _, _, _, s2, by omega, by go_num, rfl, rfl, rfl, rfl, hide HT2.out.drop, HJ2, HO2⟩
              case measure => simp [intOf]; omega
          · have HJ2 := hide J2
            clear HX J2
            go_wp2_with fail
            refine HC.out.mono ?_
            rintro e w2 ⟨rfl, K, F⟩
            have HT2 := hide (HT.out.c K F)
            have c1 : w2.cell? ⟨a, 1, none⟩ = some (.int .i64 co) := cell_of HT2.out.B 1
            clear K F
            go_wp2_with fail
            all_goals
              go_roundw
              case rel => exact ⟨k + 1, _, _, _, _, s2, by omega, by go_num, rfl, rfl, rfl, rfl, hide HT2.out.drop, HJ2, HO2⟩
              case measure => simp [intOf]; omega
        · have hq2 : ¬ nw < x ∨ (nw < x ∧ ¬ x ≤ 2305843009213693952) := by omega
          clear hq
          rcases hq2 with q0 | ⟨q0, q1⟩
          all_goals
            by_cases k0 : kd = 0
            · subst k0
              have HC := hide (allow_any (wr.alloc (stO 0 x)) b fa co pr s (k : Int) nw HT.out.C N.out HO.out)
              rw [bE_mom HJ.out.mo] at HC
              have HX := hide (HJ.out.allow (HO.out.at N.out nw))
              have HO2 := hide ((HO.out.alw N.out nw).more (show (k : Int) ≤ ((k + 1 : Nat) : Int) by omega))
              generalize canB pr s nw = xx at *
              generalize alwS pr s nw = s2 at *
              cases xx with
              | false =>
                have HJ2 := hide HX.out.2
                rw [if_neg (fun x => by simp at x)] at HJ2
                clear HX
                go_wp2_with fail
                refine HC.out.mono ?_
                rintro e w2 ⟨rfl, K, F⟩
                have HT2 := hide (HT.out.c K F)
                clear K F
                go_wp2_with fail
                go_roundw
                case rel => exact ⟨k + 1, _, _, _, _, s2, by omega, by go_num, rfl, rfl, rfl, rfl, hide HT2.out.drop, HJ2, HO2⟩
                case measure => simp [intOf]; omega
              | true =>
                have hlt2 := HX.out.1 rfl
                cases op with
                | false =>
                  have HJ2 := hide HX.out.2
                  rw [if_neg (fun x => by simp at x)] at HJ2
                  clear HX
                  go_wp2_with fail
                  refine HC.out.mono ?_
                  rintro e w2 ⟨rfl, K, F⟩
                  have HT2 := hide (HT.out.c K F)
                  clear K F
                  go_wp2_with fail
                  go_roundw
                  case rel => exact ⟨k + 1, _, _, _, _, s2, by omega, by go_num, rfl, rfl, rfl, rfl, hide HT2.out.drop, HJ2, HO2⟩
                  case measure => simp [intOf]; omega
                | true =>
                  have HJ2 := hide HX.out.2
                  rw [if_pos ⟨rfl, rfl⟩] at HJ2
                  have hd1 := HJ2.out.d1
                  have hd0 := HJ2.out.d0
                  have hp1 := N.out.p1
                  have hd2 : ¬ pr < sd + 1 := by omega
                  clear HX
                  go_wp2_with fail
                  refine HC.out.mono ?_
                  rintro e w2 ⟨rfl, K, F⟩
                  have HT2 := hide (HT.out.c K F)
                  have c2 : w2.cell? ⟨a, 2, none⟩ = some (.int .i64 pr) := cell_of HT2.out.B 2
                  clear K F
                  go_wp2_with fail
                  go_roundw
                  case rel => exact ⟨k + 1, _, _, _, _, s2, by omega, by go_num, rfl, rfl, rfl, rfl, hide HT2.out.drop, HJ2, HO2⟩
                  case measure => simp [intOf]; omega
            have kk0 : (kd == 0) = false := by simpa using k0
            by_cases k1 : kd = 1
            · subst k1
              clear k0 kk0
              have HC := hide (done_any (wr.alloc (stO 1 x)) b fa co pr s (k : Int) nw true (by omega) HT.out.C N.out HO.out)
              rw [bE_mom HJ.out.mo] at HC
              have HX := hide (HJ.out.done N.out (HO.out.at N.out nw) true)
              have HO2 := hide ((HO.out.done N.out nw true).more (show (k : Int) + 1 ≤ ((k + 1 : Nat) : Int) by omega))
              have g1 := HJ.out.n0
              have g2 := HJ.out.n1
              have g3 := N.out.c0
              have g4 := N.out.c1
              generalize dnN fa pr s nw true = xx at *
              generalize dnS fa co pr s nw true = s2 at *
              rcases HX.out with ⟨rfl, J2⟩ | ⟨rfl, hlt2, J2⟩ | ⟨rfl, hlt2, J2⟩
              · have HJ2 := hide J2
                clear HX J2
                go_wp2_with fail
                refine HC.out.mono ?_
                rintro e w2 ⟨rfl, K, F⟩
                have HT2 := hide (HT.out.c K F)
                have c1 : w2.cell? ⟨a, 1, none⟩ = some (.int .i64 co) := cell_of HT2.out.B 1
                clear K F
                go_wp2_with fail
                all_goals
                  go_roundw
                  case rel => exact ⟨k + 1, _, _, _, _, s2, by omega, by go_num, rfl, rfl, rfl, rfl, hide HT2.out.drop, HJ2, HO2⟩
                  case measure => simp [intOf]; omega
              · have HJ2 := hide J2
                clear HX J2
                go_wp2_with fail
                refine HC.out.mono ?_
                rintro e w2 ⟨rfl, K, F⟩
                have HT2 := hide (HT.out.c K F)
                have c1 : w2.cell? ⟨a, 1, none⟩ = some (.int .i64 co) := cell_of HT2.out.B 1
                clear K F
                go_wp2_with fail
                all_goals
                  go_roundw
                  case rel => exact ⟨k + 1, _, _, _, _, s2, by omega, by go_num, rfl, rfl, rfl, rfl, hide HT2.out.drop, HJ2, HO2⟩
                  case measure => simp [intOf]; omega
              · have HJ2 := hide J2
                clear HX J2
                go_wp2_with fail
                refine HC.out.mono ?_
                rintro e w2 ⟨rfl, K, F⟩
                have HT2 := hide (HT.out.c K F)
                have c1 : w2.cell? ⟨a, 1, none⟩ = some (.int .i64 co) := cell_of HT2.out.B 1
                clear K F
                go_wp2_with fail
                all_goals
                  go_roundw
                  case rel => exact ⟨k + 1, _, _, _, _, s2, by omega, by go_num, rfl, rfl, rfl, rfl, hide HT2.out.drop, HJ2, HO2⟩
                  case measure => simp [intOf]; omega
            have kk1 : (kd == 1) = false := by simpa using k1
            have HC := hide (done_any (wr.alloc (stO kd x)) b fa co pr s (k : Int) nw false (by omega) HT.out.C N.out HO.out)
            rw [bE_mom HJ.out.mo] at HC
            have HX := hide (HJ.out.done N.out (HO.out.at N.out nw) false)
            have HO2 := hide ((HO.out.done N.out nw false).more (show (k : Int) + 1 ≤ ((k + 1 : Nat) : Int) by omega))
            have g1 := HJ.out.n0
            have g2 := HJ.out.n1
            have g3 := N.out.c0
            have g4 := N.out.c1
            generalize dnN fa pr s nw false = xx at *
            generalize dnS fa co pr s nw false = s2 at *
            rcases HX.out with ⟨rfl, J2⟩ | ⟨rfl, hlt2, J2⟩ | ⟨rfl, hlt2, J2⟩
            · have HJ2 := hide J2
              clear HX J2
              go_wp2_with fail
              refine HC.out.mono ?_
              rintro e w2 ⟨rfl, K, F⟩
              have HT2 := hide (HT.out.c K F)
              have c1 : w2.cell? ⟨a, 1, none⟩ = some (.int .i64 co) := cell_of HT2.out.B 1
              clear K F
              go_wp2_with fail
              all_goals
                go_roundw
                case rel => exact ⟨k + 1, _, _, _, _, s2, by omega, by go_num, rfl, rfl, rfl, rfl, hide HT2.out.drop, HJ2, HO2⟩
                case measure => simp [intOf]; omega
            · have HJ2 := hide J2
              clear HX J2
              go_wp2_with fail
              refine HC.out.mono ?_
              rintro e w2 ⟨rfl, K, F⟩
              have HT2 := hide (HT.out.c K F)
              have c1 : w2.cell? ⟨a, 1, none⟩ = some (.int .i64 co) := cell_of HT2.out.B 1
              clear K F
              go_wp2_with fail
              all_goals
                go_roundw
                case rel => exact ⟨k + 1, _, _, _, _, s2, by omega, by go_num, rfl, rfl, rfl, rfl, hide HT2.out.drop, HJ2, HO2⟩
                case measure => simp [intOf]; omega
            · have HJ2 := hide J2
              clear HX J2
              go_wp2_with fail
              refine HC.out.mono ?_
              rintro e w2 ⟨rfl, K, F⟩
              have HT2 := hide (HT.out.c K F)
              have c1 : w2.cell? ⟨a, 1, none⟩ = some (.int .i64 co) := cell_of HT2.out.B 1
              clear K F
              go_wp2_with fail
              all_goals
                go_roundw
                case rel => exact ⟨k + 1, _, _, _, _, s2, by omega, by go_num, rfl, rfl, rfl, rfl, hide HT2.out.drop, HJ2, HO2⟩
                case measure => simp [intOf]; omega
      · have ek : k = len := by omega
        subst ek
        go_wp2_with (go_at_call 10; refine (speaks_any _).mono ?_; rintro e w9 ⟨rfl, HG⟩)
        go_ret
        exact ⟨rfl, (HI.out.F.trans HG (fun _ _ x => x)).below (by have := Ha.out; omega) (fun _ _ x => x)⟩
  · have HN := hide (fun V => new_bad V fa co pr hA)
    clear hA
    go_enter Try.func4, Try.ntmps4
    go_wp2_with (first | (go_at_call 8; refine (HN.out _).mono ?_; rintro e w' ⟨rfl, rfl⟩) | (go_at_call 10; refine (speaks_any _).mono ?_; rintro e w9 ⟨rfl, HG⟩))
    go_ret
    exact ⟨rfl, ((Fr.alloc none' W _).trans HG (fun _ _ x => x)).below (Nat.le_refl _) (fun _ _ x => x)⟩
end Go.Proofs.Ytfloifghpjiojaa
