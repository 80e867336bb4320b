/- HostsSteps, walked. -/
import Derived.Test.YtobkgkcemdocnaaOStp
namespace Go.Proofs.Ytobkgkcemdocnaa
open Go.ChangeShapes Go.WideShapes Go.ChangeAt Go.RowKit

theorem Two.rot {S R H X : Thing} {w : World} {P : Nat → Prop} (h : Two S (Two R (Two H X)) w P) : Two R (Two H (Two S X)) w P := by
  obtain ⟨P1, Q1, s, ⟨P2, Q2, r, ⟨P3, P4, hh, x, d3, e3⟩, d2, e2⟩, d1, e1⟩ := h
  have n2 : ∀ k, P1 k → ¬ P2 k := fun k a c => d1 k a ((e2 k).2 (.inl c))
  have n3 : ∀ k, P1 k → ¬ P3 k := fun k a c => d1 k a ((e2 k).2 (.inr ((e3 k).2 (.inl c))))
  have n4 : ∀ k, P1 k → ¬ P4 k := fun k a c => d1 k a ((e2 k).2 (.inr ((e3 k).2 (.inr c))))
  have m3 : ∀ k, P2 k → ¬ P3 k := fun k a c => d2 k a ((e3 k).2 (.inl c))
  have m4 : ∀ k, P2 k → ¬ P4 k := fun k a c => d2 k a ((e3 k).2 (.inr c))
  refine ⟨P2, fun k => P3 k ∨ P1 k ∨ P4 k, r, ⟨P3, fun k => P1 k ∨ P4 k, hh, ⟨P1, P4, s, x, n4, fun _ => Iff.rfl⟩, fun k a c => ?_, fun _ => Iff.rfl⟩, fun k a c => ?_, fun k => ?_⟩
  · rcases c with c | c
    · exact n3 k c a
    · exact d3 k a c
  · rcases c with c | c | c
    · exact m3 k a c
    · exact n2 k c a
    · exact m4 k a c
  · rw [e1 k, e2 k, e3 k]
    constructor
    · rintro (a | a | a | a)
      · exact .inr (.inr (.inl a))
      · exact .inl a
      · exact .inr (.inl a)
      · exact .inr (.inr (.inr a))
    · rintro (a | a | a | a)
      · exact .inr (.inl a)
      · exact .inr (.inr (.inl a))
      · exact .inl a
      · exact .inr (.inr (.inr a))
theorem Top.rot {S R H X : Thing} {W w : World} (h : Top (Two S (Two R (Two H X))) W w) : Top (Two R (Two H (Two S X))) W w := h.mono (fun _ P y => ⟨P, y.rot, fun _ hk => hk⟩)
theorem Top.drop2 {A B C X : Thing} {W w : World} (h : Top (Two A (Two B (Two C X))) W w) : Top (Two A (Two B X)) W w := h.mono (fun _ _ x => Two.mono (fun _ _ y => Two.mono Two.snd y) x)

set_option maxHeartbeats 8000000 in
set_option maxRecDepth 100000 in
theorem steps_walk (n fl bs lo sh : Int) (ad : Option Addr) (len cap : Nat) (W : World) (hlen : len < 8796093022207)
    (hst : Hid (∀ i, i < len → ∃ b off, ∃ (x0 : Int) (x1 : Int) (x2 : Int), ad = some ⟨b, off, none⟩ ∧ (W.cell? ⟨b, off + i * 3, none⟩ = some (.int .i64 x0) ∧ W.cell? ⟨b, off + i * 3 + 1, none⟩ = some (.int .i64 x1) ∧ W.cell? ⟨b, off + i * 3 + 2, none⟩ = some (.int .i64 x2)) ∧ b < W.heap.size ∧ (-9223372036854775808 ≤ x0 ∧ x0 ≤ 9223372036854775807) ∧ (-9223372036854775808 ≤ x1 ∧ x1 ≤ 9223372036854775807) ∧ (-9223372036854775808 ≤ x2 ∧ x2 ≤ 9223372036854775807))) :
    Calls Try.prog 3 #[.agg #[.int .i64 n, .int .i64 fl, .int .i64 bs, .int .i64 lo, .int .i64 sh], .slice ad len cap] W fun e w' => e = .returned (.bool true) ∧ Below W.heap.size W w' := by
  by_cases hA : okN n fl bs lo sh
  · obtain ⟨n', rfl⟩ := Int.eq_ofNat_of_zero_le (show 0 ≤ n by have := hA.1.1; omega)
    have HN := hide (fun V => new_any V n' fl bs lo sh hA)
    have HN2 := hide (fun V => rnew_any V n' fl bs lo sh hA)
    have K0 := hide hA.ok
    clear hA
    go_enter Try.func3, Try.ntmps3
    go_wp2_with fail
    have T0 : Hid (Top (Two (Blk W.heap.size (askO n' fl bs lo sh)) Nil) W (W.alloc (askO n' fl bs lo sh))) := hide ((Top.nil W).put (Blk.new W _))
    generalize W.alloc (askO n' fl bs lo sh) = W1 at T0 ⊢
    obtain ⟨a, Ha⟩ : ∃ a, Hid (W.heap.size = a) := ⟨_, hide rfl⟩
    rw [Ha.out] at T0 ⊢
    refine (HN.out W1).mono ?_
    rintro e w1 ⟨rfl, d⟩
    have T1 := hide (T0.out.put d)
    clear d T0 HN
    generalize W1.heap.size = g at *
    obtain ⟨b, Hb⟩ : ∃ b, Hid (g + 1 = b) := ⟨_, hide rfl⟩
    rw [Hb.out] at T1 ⊢
    obtain ⟨_, xb, _⟩ := T1.out.at1
    have c0 : w1.cell? ⟨a, 0, none⟩ = some (.int .i64 (n' : Int)) := cell_of xb.1 0
    have c1 : w1.cell? ⟨a, 1, none⟩ = some (.int .i64 fl) := cell_of xb.1 1
    have c2 : w1.cell? ⟨a, 2, none⟩ = some (.int .i64 bs) := cell_of xb.1 2
    have c3 : w1.cell? ⟨a, 3, none⟩ = some (.int .i64 lo) := cell_of xb.1 3
    have c4 : w1.cell? ⟨a, 4, none⟩ = some (.int .i64 sh) := cell_of xb.1 4
    clear xb
    go_wp2_with fail
    refine (HN2.out w1).mono ?_
    rintro e w2 ⟨rfl, d⟩
    have T2 := hide (T1.out.put d)
    clear d T1 HN2 c0 c1 c2 c3 c4
    generalize w1.heap.size = gc at *
    obtain ⟨c, Hc⟩ : ∃ c, Hid (gc + 1 = c) := ⟨_, hide rfl⟩
    rw [Hc.out] at T2 ⊢
    go_wp2_with fail
    go_loopw [58] (fun v wr => ∃ (k : Nat) (la : Int) (L : List HR), k ≤ len ∧ v = .int .i64 (k : Int) ∧ Hid (HOk fl bs lo sh la (k : Int) L) ∧ Hid (Top (DuT fl bs lo sh la L b g c gc (Two (Blk a (askO n' fl bs lo sh)) Nil)) W wr)) (fun v _ => len - (intOf v).toNat)
    case atStart => exact ⟨0, 0, _, Nat.zero_le _, rfl, K0, T2⟩
    case round =>
      clear T2 K0
      obtain ⟨k, la, L, hk, rfl, HK, HI⟩ := hrel
      by_cases hlt : k < len
      · obtain ⟨pb, off, kd, nw, ho, rfl, ⟨hc0, hc1, hc2⟩, hb, -, -, -⟩ := hst.out k hlt
        have e0 : wr.cell? ⟨pb, off + k * 3, none⟩ = some (.int .i64 kd) := (World.cell?_of_block (HI.out.fr.block pb hb id)).trans hc0
        have e1 : wr.cell? ⟨pb, off + k * 3 + 1, none⟩ = some (.int .i64 nw) := (World.cell?_of_block (HI.out.fr.block pb hb id)).trans hc1
        have e2 : wr.cell? ⟨pb, off + k * 3 + 2, none⟩ = some (.int .i64 ho) := (World.cell?_of_block (HI.out.fr.block pb hb id)).trans hc2
        clear hc0 hc1 hc2 hst hb
        go_upto_region 10 with fail
        have T3 : Hid (Top (DuT fl bs lo sh la L b g c gc (Two (Blk wr.heap.size (stO kd nw ho)) (Two (Blk a (askO n' fl bs lo sh)) Nil))) W (wr.alloc (stO kd nw ho))) := hide (HI.out.put (Blk.new wr _)).rot
        generalize wr.alloc (stO kd nw ho) = w3 at T3 ⊢
        generalize wr.heap.size = ew at *
        clear e0 e1 e2 HI
        obtain ⟨_, xb, _⟩ := T3.out.at2
        have e0 : w3.cell? ⟨ew, 0, none⟩ = some (.int .i64 kd) := cell_of xb.1 0
        have e1 : w3.cell? ⟨ew, 1, none⟩ = some (.int .i64 nw) := cell_of xb.1 1
        have e2 : w3.cell? ⟨ew, 2, none⟩ = some (.int .i64 ho) := cell_of xb.1 2
        have HC := hide (asks_any W w3 fl bs lo sh la (k : Int) kd nw ho L b g c gc T3.out HK.out (by omega))
        clear xb T3
        go_wp2_with fail
        refine HC.out.mono ?_
        rintro e w4 ⟨rfl, la2, L2, hk2, t4⟩
        have HK2 := hide hk2
        have T4 := hide t4
        clear hk2 t4 HC e0 e1 e2 HK
        obtain ⟨_, xb, _⟩ := T4.out.at2
        have e2 : w4.cell? ⟨ew, 2, none⟩ = some (.int .i64 ho) := cell_of xb.1 2
        obtain ⟨_, xh, _⟩ := T4.out.at1
        obtain ⟨_, xr, _⟩ := T4.out.at0
        have HU1 := hide (until_h w4 fl bs lo sh la2 ho L2 b g xh.1)
        have HU2 := hide (runtil_h w4 fl bs lo sh la2 ho L2 c gc xr.1)
        have HE1 := hide (ejected_any w4 fl bs lo sh la2 L2 b g xh.1 HK2.out.n1)
        have HE2 := hide (rejected_any w4 fl bs lo sh la2 L2 c gc xr.1 HK2.out.n1)
        clear xb xh xr
        generalize untN L2 ho = un at *
        generalize untB L2 ho = ub at *
        generalize nE L2 = ne at *
        go_wp2_with (first | (go_at_call 12; refine HU1.out.mono ?_; rintro e w' ⟨rfl, rfl⟩) | (go_at_call 13; refine HU2.out.mono ?_; rintro e w' ⟨rfl, rfl⟩) | (go_at_call 14; refine HE1.out.mono ?_; rintro e w' ⟨rfl, rfl⟩))
        refine HE2.out.mono ?_
        rintro e w5 ⟨rfl, F5⟩
        have T5 := hide (T4.out.same F5).drop2
        clear F5 T4 e2 HU1 HU2 HE1 HE2
        go_wp2_with fail
        go_roundw
        case rel => exact ⟨k + 1, la2, L2, by omega, by go_num, HK2, T5⟩
        case measure => simp [intOf]; omega
      · have ek : k = len := by omega
        subst ek
        go_wp2_with (go_at_call 10; refine (speaks_any _).mono ?_; rintro e w9 ⟨rfl, HG⟩)
        go_ret
        exact ⟨rfl, (HI.out.fr.trans HG (fun _ _ x => x)).below (Nat.le_refl _) (fun _ _ x => x)⟩
  · have HN := hide (fun V => new_bad V n fl bs lo sh hA)
    have HN2 := hide (fun V => rnew_bad V n fl bs lo sh hA)
    clear hA
    go_enter Try.func3, Try.ntmps3
    go_wp2_with (first | (go_at_call 8; refine (HN.out _).mono ?_; rintro e w' ⟨rfl, rfl⟩) | (go_at_call 9; refine (HN2.out _).mono ?_; rintro e w' ⟨rfl, rfl⟩) | (go_at_call 10; refine (speaks_any _).mono ?_; rintro e w9 ⟨rfl, HG⟩))
    go_ret
    exact ⟨rfl, ((Fr.alloc none' W _).trans HG (fun _ _ x => x)).below (Nat.le_refl _) (fun _ _ x => x)⟩
end Go.Proofs.Ytobkgkcemdocnaa
