/- BreakerCloses, walked. -/
import Derived.Test.YtfloifghpjiojaaX0
namespace Go.Proofs.Ytfloifghpjiojaa
open Go.ChangeShapes Go.WideShapes Go.ChangeAt Go.RowKit

theorem Ok.ren {fa pr n m : Int} {s : Bs} (h : Ok fa pr n s) (hf : s.fl ≤ m) : Ok fa pr m s := ⟨h.st, h.l0, h.l1, h.e0, h.e1, h.f0, hf, h.s0, h.s1, h.g0, h.g1, h.half, h.shut⟩
/-- While it counts failures. -/
structure CA (fa co pr nw : Int) (k : Nat) (s : Bs) : Prop where
  O : Ok fa pr 1000 s
  la : s.la ≤ nw
  a : (k : Int) < fa → s.st = 1 ∧ s.fl = k
  b : (k : Int) = fa → s.st = 2 ∧ s.en = nw + co ∧ s.fl ≤ 1000
/-- While it is probed. -/
structure CB (fa pr nw : Int) (k : Nat) (s : Bs) : Prop where
  O : Ok fa pr 1000 s
  la : s.la ≤ nw
  z : k = 0 → s.st = 2 ∧ s.en = nw
  m : 0 < k → (k : Int) < pr → s.st = 3 ∧ s.sr = k ∧ s.gd = k
  e : (k : Int) = pr → s.st = 1 ∧ s.fl = 0
theorem CA.step {fa co pr nw : Int} {k : Nat} {s : Bs} (h : CA fa co pr nw k s) (N : Num fa co pr) (n0 : 0 ≤ nw) (n1 : nw ≤ 5000000) (hk : (k : Int) < fa) :
    dnN fa pr s nw false = (if (k : Int) = fa - 1 then 2 else 0) ∧ CA fa co pr nw (k + 1) (dnS fa co pr s nw false) := by
  have hm : mom nw = true := mom_yes n0 (by omega)
  have O2 := h.O.done N nw false
  obtain ⟨e1, e2⟩ := h.a hk
  have hl := h.la
  have f1 := N.f1
  have c0 := N.c0
  have c1 := N.c1
  obtain ⟨st, la, en, fl, sr, gd⟩ := s
  simp only at e1 e2 hl
  subst e1 e2
  have e : max la nw = nw := by omega
  have at1 : atS ⟨1, la, en, (k : Int), sr, gd⟩ nw = ⟨1, nw, en, (k : Int), sr, gd⟩ := by rw [atS_x hm (by decide), e]
  have d1 : dnS fa co pr ⟨1, la, en, (k : Int), sr, gd⟩ nw false = ctS fa co false ⟨1, nw, en, (k : Int), sr, gd⟩ := by unfold dnS; rw [if_pos hm, at1]; rfl
  have d2 : dnN fa pr ⟨1, la, en, (k : Int), sr, gd⟩ nw false = ctN fa false ⟨1, nw, en, (k : Int), sr, gd⟩ := by unfold dnN; rw [if_pos hm, at1]; rfl
  have el : later nw co = nw + co := by unfold later; rw [if_pos (by omega)]
  rw [d1] at O2
  rw [d1, d2]
  clear d1 d2 at1
  unfold ctS ctN at *
  simp only [Bool.false_eq_true, if_false] at O2 ⊢
  by_cases hq : (k : Int) + 1 = fa
  · rw [if_pos hq] at O2
    rw [if_pos hq, if_pos hq, if_pos (by omega)]
    exact ⟨rfl, ⟨O2.ren (by simp only; omega), by simp, fun x => absurd x (by omega), fun _ => ⟨rfl, el, by simp only; omega⟩⟩⟩
  · rw [if_neg hq] at O2
    rw [if_neg hq, if_neg hq, if_neg (by omega)]
    exact ⟨rfl, ⟨O2.ren (by simp only; omega), by simp, fun _ => ⟨rfl, by simp⟩, fun x => absurd x (by omega)⟩⟩
theorem CB.step {fa co pr nw : Int} {k : Nat} {s : Bs} (h : CB fa pr nw k s) (N : Num fa co pr) (n0 : 0 ≤ nw) (n1 : nw ≤ 5000000) (hk : (k : Int) < pr) :
    canB pr s nw = true ∧ dnN fa pr (alwS pr s nw) nw true = (if (k : Int) = pr - 1 then 1 else 0) ∧ CB fa pr nw (k + 1) (dnS fa co pr (alwS pr s nw) nw true) ∧ Ok fa pr 1000 (alwS pr s nw) := by
  have hm : mom nw = true := mom_yes n0 (by omega)
  have O1 := h.O.alw N nw
  have O2 := O1.done N nw true
  have hl := h.la
  have f0 := h.O.f0
  have f1 := h.O.f1
  have hz := h.z
  have hmm := h.m
  have key : ∃ en fl : Int, fl ≤ 1000 ∧ canB pr s nw = true ∧ alwS pr s nw = ⟨3, nw, en, fl, (k : Int) + 1, (k : Int)⟩ := by
    obtain ⟨st, la, en, fl, sr, gd⟩ := s
    simp only at hl f0 f1 hz hmm
    have e : max la nw = nw := by omega
    by_cases k0 : k = 0
    · obtain ⟨e1, e2⟩ := hz k0
      subst e1 e2 k0
      have at1 : atS ⟨2, la, en, fl, sr, gd⟩ en = ⟨3, en, en, fl, 0, 0⟩ := by rw [atS_y hm (by omega), e]
      have c : canB pr ⟨2, la, en, fl, sr, gd⟩ en = true := by unfold canB; rw [at1, hm]; simp; simpa using hk
      exact ⟨en, fl, f1, c, by unfold alwS; rw [c, at1]; simp⟩
    · obtain ⟨e1, e2, e3⟩ := hmm (by omega) hk
      subst e1 e2 e3
      have at1 : atS ⟨3, la, en, fl, (k : Int), (k : Int)⟩ nw = ⟨3, nw, en, fl, (k : Int), (k : Int)⟩ := by rw [atS_x hm (by decide), e]
      have c : canB pr ⟨3, la, en, fl, (k : Int), (k : Int)⟩ nw = true := by unfold canB; rw [at1, hm]; simp [hk]
      exact ⟨en, fl, f1, c, by unfold alwS; rw [c, at1]; simp⟩
  obtain ⟨en, fl, hf, c, ea⟩ := key
  rw [ea] at O1 O2 ⊢
  have at2 : atS ⟨3, nw, en, fl, (k : Int) + 1, (k : Int)⟩ nw = ⟨3, nw, en, fl, (k : Int) + 1, (k : Int)⟩ := by rw [atS_x hm (by decide), show max nw nw = nw by omega]
  have d1 : dnS fa co pr ⟨3, nw, en, fl, (k : Int) + 1, (k : Int)⟩ nw true = prS co pr true ⟨3, nw, en, fl, (k : Int) + 1, (k : Int)⟩ := by unfold dnS; rw [if_pos hm, at2]; rfl
  have d2 : dnN fa pr ⟨3, nw, en, fl, (k : Int) + 1, (k : Int)⟩ nw true = prN pr true ⟨3, nw, en, fl, (k : Int) + 1, (k : Int)⟩ := by unfold dnN; rw [if_pos hm, at2]; rfl
  rw [d1] at O2
  rw [d1, d2]
  clear d1 d2 at2 ea hz hmm h
  unfold prS prN at *
  simp only [if_true] at O2 ⊢
  by_cases hq : (k : Int) + 1 < pr
  · rw [if_pos hq] at O2
    rw [if_pos hq, if_pos hq, if_neg (by omega)]
    exact ⟨c, rfl, ⟨O2.ren hf, by simp, fun x => by omega, fun _ _ => ⟨rfl, by simp, by simp⟩, fun x => absurd x (by omega)⟩, O1⟩
  · rw [if_neg hq] at O2
    rw [if_neg hq, if_neg hq, if_pos (by omega)]
    exact ⟨c, rfl, ⟨O2.ren (by simp), by simp, fun x => by omega, fun _ x => absurd x (by omega), fun _ => ⟨rfl, rfl⟩⟩, O1⟩

set_option maxHeartbeats 2000000 in
set_option maxRecDepth 100000 in
theorem closes_walk (fa co pr tm : Int) (W : World) :
    Calls Try.prog 5 #[.agg #[.int .i64 fa, .int .i64 co, .int .i64 pr], .int .i64 tm] W fun e w' => e = .returned (.bool true) ∧ Below W.heap.size W w' := by
  by_cases hA : okN fa co pr
  · have HN := hide (fun V => new_any V fa co pr hA)
    have N := hide hA.num
    have D0 : Hid (Ok fa pr 1000 s0) := hide (hA.ok.ren (by simp [s0]))
    have c0 := hA.2.1.1
    have c1 := hA.2.1.2
    have f0 := hA.1.1
    have f1 := hA.1.2
    have p0 := hA.2.2.1
    have p1 := hA.2.2.2
    clear hA
    by_cases hz : fa = 0
    · subst hz
      go_enter Try.func5, Try.ntmps5
      go_wp2_with fail
      have A0 : (W.alloc (.cells #[.int .i64 0, .int .i64 co, .int .i64 pr] 23)).heap[W.heap.size]? = some (nmO 0 co pr) := hp_new _ _
      have F0 := Fr.alloc none' W (.cells #[.int .i64 0, .int .i64 co, .int .i64 pr] 23)
      generalize W.alloc (.cells #[.int .i64 0, .int .i64 co, .int .i64 pr] 23) = W1 at A0 F0 ⊢
      refine (HN.out W1).mono ?_
      rintro e w1 ⟨rfl, K1, F1, z1⟩
      have cc0 : w1.cell? ⟨W.heap.size, 0, none⟩ = some (.int .i64 0) := cell_of (F1.hd id A0) 0
      have HF := hide (F0.trans F1 (fun _ _ x => x))
      clear K1 F1 z1 A0 F0
      go_wp2_with (go_at_call 10; refine (speaks_any _).mono ?_; rintro e w9 ⟨rfl, HG⟩)
      go_ret
      exact ⟨rfl, (HF.out.trans HG (fun _ _ x => x)).below (Nat.le_refl _) (fun _ _ x => x)⟩
    have hzb : (fa == 0) = false := by simpa using hz
    have hf0 : 0 < fa := by omega
    go_enter Try.func5, Try.ntmps5
    go_wp2_with fail
    have A0 : (W.alloc (.cells #[.int .i64 fa, .int .i64 co, .int .i64 pr] 23)).heap[W.heap.size]? = some (nmO fa co pr) := hp_new _ _
    have F0 := Fr.alloc none' W (.cells #[.int .i64 fa, .int .i64 co, .int .i64 pr] 23)
    have Z0 : Hid (W.heap.size < (W.alloc (.cells #[.int .i64 fa, .int .i64 co, .int .i64 pr] 23)).heap.size) := hide (by simp)
    generalize W.alloc (.cells #[.int .i64 fa, .int .i64 co, .int .i64 pr] 23) = W1 at A0 F0 Z0 ⊢
    refine (HN.out W1).mono ?_
    rintro e w1 ⟨rfl, K1, F1, z1⟩
    have I0 : Hid (G2 W w1 W.heap.size W1.heap.size (nmO fa co pr) (brO fa co pr s0)) := hide ⟨F1.hd id A0, K1, F0.trans F1 (fun _ _ x => x), by have := Z0.out; omega⟩
    have cc0 : w1.cell? ⟨W.heap.size, 0, none⟩ = some (.int .i64 fa) := cell_of I0.out.B 0
    clear K1 F1 z1 HN A0 F0 Z0
    go_wp2_with fail
    clear cc0
    generalize hb1 : W1.heap.size = b at *
    clear hb1
    obtain ⟨a, Ha⟩ : ∃ a, Hid (W.heap.size = a) := ⟨_, hide rfl⟩
    rw [Ha.out] at I0 ⊢
    go_loopw [7, 8] (fun v7 v wr => ∃ (i : Nat) (nw : Int) (s : Bs), i ≤ 5 ∧ v = .int .i64 (i : Int) ∧ v7 = .int .i64 nw ∧ 0 ≤ nw ∧ nw ≤ 1000000 * i ∧ Hid (G2 W wr a b (nmO fa co pr) (brO fa co pr s)) ∧ Hid (Ok fa pr 1000 s ∧ s.st = 1 ∧ s.fl = 0 ∧ s.la ≤ nw)) (fun _ v _ => 5 - (intOf v).toNat)
    case atStart => exact ⟨0, 0, s0, by omega, rfl, rfl, by omega, by omega, I0, hide ⟨D0.out, rfl, rfl, by simp [s0]⟩⟩
    case round =>
      clear I0 D0
      obtain ⟨i, nw, s, hi, rfl, rfl, n0, n1, HI, HS⟩ := hrel
      have n2 : nw ≤ 5000000 := by omega
      by_cases hlt : (i : Int) < tm ∧ i < 5
      · obtain ⟨h1, h2⟩ := hlt
        have h2i : (i : Int) < 5 := by omega
        have CA0 : Hid (CA fa co pr nw 0 s) := hide ⟨HS.out.1, HS.out.2.2.2, fun _ => ⟨HS.out.2.1, by rw [HS.out.2.2.1]; rfl⟩, fun x => absurd x (by omega)⟩
        have n3 : nw + co ≤ 5000000 := by omega
        have n4 : nw + co ≤ 1000000 * ((i + 1 : Nat) : Int) := by omega
        clear HS
        go_wp2_with fail
        obtain ⟨wo, ewo⟩ : ∃ wo, wo = wr := ⟨wr, rfl⟩
        subst ewo
        go_loopw [9] (fun v wr => ∃ (k : Nat) (s : Bs), (k : Int) ≤ fa ∧ v = .int .i64 (k : Int) ∧ Hid (G2 W wr a b (nmO fa co pr) (brO fa co pr s)) ∧ Hid (CA fa co pr nw k s)) (fun v _ => fa.toNat - (intOf v).toNat)
        case atStart => exact ⟨0, s, by omega, rfl, HI, CA0⟩
        case round =>
          clear CA0 HI
          obtain ⟨k, s, hk, rfl, HI, HC⟩ := hrel
          have a0 : wr.cell? ⟨a, 0, none⟩ = some (.int .i64 fa) := cell_of HI.out.B 0
          by_cases hkl : (k : Int) < fa
          · obtain ⟨hx, hc⟩ := HC.out.step N.out n0 n2 hkl
            have HC2 := hide hc
            have HD := hide (done_any wr b fa co pr s 1000 nw false (by omega) HI.out.C N.out HC.out.O)
            rw [hx, bE_mom (mom_yes n0 (by omega))] at HD
            clear hx hc
            generalize dnS fa co pr s nw false = s2 at *
            by_cases hq : (k : Int) = fa - 1
            · rw [if_pos hq] at HD
              have hqb : ((k : Int) == fa - 1) = true := by simpa using hq
              clear hq
              go_wp2_with fail
              refine HD.out.mono ?_
              rintro e w2 ⟨rfl, K, F⟩
              have HI2 := hide (HI.out.c K F)
              clear K F a0
              have a0 : w2.cell? ⟨a, 0, none⟩ = some (.int .i64 fa) := cell_of HI2.out.B 0
              go_wp2_with fail
              go_roundw
              case rel => exact ⟨k + 1, s2, by omega, by go_num, HI2, HC2⟩
              case measure => simp [intOf]; omega
            · rw [if_neg hq] at HD
              have hqb : ((k : Int) == fa - 1) = false := by simpa using hq
              clear hq
              go_wp2_with fail
              refine HD.out.mono ?_
              rintro e w2 ⟨rfl, K, F⟩
              have HI2 := hide (HI.out.c K F)
              clear K F a0
              have a0 : w2.cell? ⟨a, 0, none⟩ = some (.int .i64 fa) := cell_of HI2.out.B 0
              go_wp2_with fail
              go_roundw
              case rel => exact ⟨k + 1, s2, by omega, by go_num, HI2, HC2⟩
              case measure => simp [intOf]; omega
          · have hkf : (k : Int) = fa := by omega
            have a1 : wr.cell? ⟨a, 1, none⟩ = some (.int .i64 co) := cell_of HI.out.B 1
            obtain ⟨q1, q2, q3⟩ := HC.out.b hkf
            have CB0 : Hid (CB fa pr (nw + co) 0 s) := hide ⟨HC.out.O, by have := HC.out.la; omega, fun _ => ⟨q1, q2⟩, fun x => by omega, fun x => absurd x (by omega)⟩
            clear q1 q2 q3 HC hkf
            go_wp2_with fail
            obtain ⟨wp, ewp⟩ : ∃ wp, wp = wr := ⟨wr, rfl⟩
            subst ewp
            generalize nw + co = nx at *
            go_loopw [12] (fun v wr => ∃ (k : Nat) (s : Bs), (k : Int) ≤ pr ∧ v = .int .i64 (k : Int) ∧ Hid (G2 W wr a b (nmO fa co pr) (brO fa co pr s)) ∧ Hid (CB fa pr nx k s)) (fun v _ => pr.toNat - (intOf v).toNat)
            case atStart => exact ⟨0, s, by omega, rfl, HI, CB0⟩
            case round =>
              clear CB0 HI a0 a1
              obtain ⟨k2, s, hk2, rfl, HI, HC⟩ := hrel
              have a2 : wr.cell? ⟨a, 2, none⟩ = some (.int .i64 pr) := cell_of HI.out.B 2
              have x0 : 0 ≤ nx := by have := HC.out.O.l0; have := HC.out.la; omega
              by_cases hkl2 : (k2 : Int) < pr
              · obtain ⟨hx0, hx, hc, ho⟩ := HC.out.step N.out x0 n3 hkl2
                have HC2 := hide hc
                have HAl := hide (allow_any wr b fa co pr s 1000 nx HI.out.C N.out HC.out.O)
                have HD := hide (fun V h => done_any V b fa co pr (alwS pr s nx) 1000 nx true (by omega) h N.out ho)
                rw [hx0, bE_mom (mom_yes x0 (by omega))] at HAl
                rw [hx, bE_mom (mom_yes x0 (by omega))] at HD
                clear hx hc hx0 ho
                generalize dnS fa co pr (alwS pr s nx) nx true = s3 at *
                generalize alwS pr s nx = s2 at *
                by_cases hq : (k2 : Int) = pr - 1
                · rw [if_pos hq] at HD
                  have hqb : ((k2 : Int) == pr - 1) = true := by simpa using hq
                  clear hq
                  go_wp2_with fail
                  refine HAl.out.mono ?_
                  rintro e w2 ⟨rfl, K, F⟩
                  have HI2 := hide (HI.out.c K F)
                  clear K F
                  go_wp2_with fail
                  refine (HD.out _ HI2.out.C).mono ?_
                  rintro e w3 ⟨rfl, K, F⟩
                  have HI3 := hide (HI2.out.c K F)
                  clear K F a2
                  have a2 : w3.cell? ⟨a, 2, none⟩ = some (.int .i64 pr) := cell_of HI3.out.B 2
                  go_wp2_with fail
                  go_roundw
                  case rel => exact ⟨k2 + 1, s3, by omega, by go_num, HI3, HC2⟩
                  case measure => simp [intOf]; omega
                · rw [if_neg hq] at HD
                  have hqb : ((k2 : Int) == pr - 1) = false := by simpa using hq
                  clear hq
                  go_wp2_with fail
                  refine HAl.out.mono ?_
                  rintro e w2 ⟨rfl, K, F⟩
                  have HI2 := hide (HI.out.c K F)
                  clear K F
                  go_wp2_with fail
                  refine (HD.out _ HI2.out.C).mono ?_
                  rintro e w3 ⟨rfl, K, F⟩
                  have HI3 := hide (HI2.out.c K F)
                  clear K F a2
                  have a2 : w3.cell? ⟨a, 2, none⟩ = some (.int .i64 pr) := cell_of HI3.out.B 2
                  go_wp2_with fail
                  go_roundw
                  case rel => exact ⟨k2 + 1, s3, by omega, by go_num, HI3, HC2⟩
                  case measure => simp [intOf]; omega
              · have hke : (k2 : Int) = pr := by omega
                obtain ⟨q1, q2⟩ := HC.out.e hke
                have HS2 : Hid (Ok fa pr 1000 s ∧ s.st = 1 ∧ s.fl = 0 ∧ s.la ≤ nx) := hide ⟨HC.out.O, q1, q2, HC.out.la⟩
                clear q1 q2 hke HC
                go_wp2_with fail
                go_roundw
                case rel => exact ⟨i + 1, nx, s, by omega, by go_num, rfl, x0, n4, HI, HS2⟩
                case measure => simp [intOf]; omega
      · have hex : ((i : Int) < tm ∧ ¬ i < 5) ∨ ¬ (i : Int) < tm := by omega
        clear hlt
        have HSt := hide (state_any wr b fa co pr s 1000 nw HI.out.C HS.out.1)
        have hm : mom nw = true := mom_yes n0 (by omega)
        have e1 : stN s nw = 1 := by
          rw [stN_mom hm]
          obtain ⟨st, la, en, fl, sr, gd⟩ := s
          have := HS.out.2.1
          simp only at this
          subst this
          rw [atS_x hm (by decide)]
        rw [e1, bE_mom hm] at HSt
        clear e1 hm
        rcases hex with ⟨h1, h2⟩ | h1
        all_goals
          go_wp2_with fail
          refine HSt.out.mono ?_
          rintro e w2 ⟨rfl, K, F⟩
          have HI2 := hide (HI.out.c K F)
          clear K F
          go_wp2_with (go_at_call 10; refine (speaks_any _).mono ?_; rintro e w9 ⟨rfl, HG⟩)
          go_ret
          exact ⟨rfl, (HI2.out.F.trans HG (fun _ _ x => x)).below (by have := Ha.out; omega) (fun _ _ x => x)⟩
  · have HN := hide (fun V => new_bad V fa co pr hA)
    clear hA
    go_enter Try.func5, Try.ntmps5
    go_wp2_with (first | (go_at_call 8; refine (HN.out _).mono ?_; rintro e w' ⟨rfl, rfl⟩) | (go_at_call 10; refine (speaks_any _).mono ?_; rintro e w9 ⟨rfl, HG⟩))
    go_ret
    exact ⟨rfl, ((Fr.alloc none' W _).trans HG (fun _ _ x => x)).below (Nat.le_refl _) (fun _ _ x => x)⟩
end Go.Proofs.Ytfloifghpjiojaa
