/- An attempt's end, told to a set of hosts. -/
import Derived.Test.YtobkgkcemdocnaaOAsk
import Derived.Deep.RegionHeld3
namespace Go.Proofs.Ytobkgkcemdocnaa
open Go.ChangeShapes Go.WideShapes Go.ChangeAt Go.RowKit

def latI (t d : Int) : Int := if 4611686018427387904 - t < d then 4611686018427387904 else t + d
theorem later_t (t d : Int) (w : World) (h0 : 0 ≤ t) (h1 : t ≤ 4611686018427387904) (d0 : 0 ≤ d) (d1 : d ≤ 4611686018427387904) :
    Calls Try.prog 36 #[.int .i64 t, .int .i64 d] w fun e w' => e = .returned (.int .i64 (latI t d)) ∧ w = w' := by
  unfold latI
  by_cases h : 4611686018427387904 - t < d
  · rw [if_pos h]
    go_enter Try.func36, Try.ntmps36
    go_wp2
    go_ret
    exact ⟨rfl, rfl⟩
  · rw [if_neg h]
    go_enter Try.func36, Try.ntmps36
    go_wp2
    go_ret
    exact ⟨rfl, rfl⟩
theorem add_t (t d : Int) (w : World) (h0 : 0 ≤ t) (h1 : t ≤ 4611686018427387904) (d0 : 0 ≤ d) (d1 : d ≤ 4611686018427387904) :
    Calls Try.prog 34 #[.int .i64 t, .int .i64 d] w fun e w' => e = .returned (.tuple #[.int .i64 (latI t d), .int .i64 0]) ∧ w = w' := by
  have HM := hide (isMoment_any t w)
  rw [mom_yes h0 h1] at HM
  have HL := hide (later_t t d w h0 h1 d0 d1)
  go_enter Try.func34, Try.ntmps34
  go_wp2_with (first | (go_at_call 35; refine HM.out.mono ?_; rintro e w' ⟨rfl, rfl⟩) | (go_at_call 36; refine HL.out.mono ?_; rintro e w' ⟨rfl, rfl⟩))
  go_ret2
  exact ⟨rfl, rfl⟩

/-- For how long a host is ejected, and the host that is. -/
def span (bs lo t : Int) : Int := if lo < bs * t then lo else bs * t
def ejR (bs lo la : Int) (r : HR) : HR := ⟨r.h, true, latI la (span bs lo (r.t + 1)), 0, r.t + 1⟩
structure HOk (fl bs lo sh la K : Int) (L : List HR) : Prop where
  f0 : 0 ≤ fl
  f1 : fl ≤ 1000
  b0 : 1 ≤ bs
  b1 : bs ≤ 1000000
  o0 : bs ≤ lo
  o1 : lo ≤ 1000000
  s0 : 0 ≤ sh
  s1 : sh ≤ 100
  l0 : 0 ≤ la
  l1 : la ≤ 4611686018427387904
  n0 : 1 ≤ L.length
  n1 : L.length ≤ 16
  k0 : 0 ≤ K
  rows : ∀ r ∈ L, (0 ≤ r.f ∧ r.f ≤ K) ∧ (0 ≤ r.t ∧ r.t ≤ K) ∧ (0 ≤ r.u ∧ r.u ≤ 4611686018427387904)
theorem prod_bd {bs t K : Int} (b0 : 1 ≤ bs) (b1 : bs ≤ 1000000) (t0 : 0 ≤ t) (t1 : t ≤ K) (hK : K ≤ 8796093022208) : 0 ≤ bs * t ∧ bs * t ≤ 8796093022208000000 := by
  have h1 := Int.mul_le_mul b1 (show t ≤ 8796093022208 by omega) t0 (by omega : (0:Int) ≤ 1000000)
  have h0 := Int.mul_nonneg (show 0 ≤ bs by omega) t0
  omega
theorem span_bd {bs lo t K : Int} (b0 : 1 ≤ bs) (b1 : bs ≤ 1000000) (o0 : bs ≤ lo) (t0 : 1 ≤ t) (t1 : t ≤ K) (hK : K ≤ 8796093022208) : 1 ≤ span bs lo t ∧ span bs lo t ≤ lo := by
  have h := prod_bd b0 b1 (by omega) t1 hK
  have h2 : bs * 1 ≤ bs * t := Int.mul_le_mul_of_nonneg_left t0 (by omega)
  unfold span
  split <;> omega
set_option maxHeartbeats 2000000 in
set_option maxRecDepth 100000 in
theorem eject_any (w : World) (P : Nat → Prop) (fl bs lo sh la K : Int) (i : Nat) (r : HR) (L : List HR) (b g : Nat) (h : Hs fl bs lo sh la L b g w P) (k : HOk fl bs lo sh la K L) (hK : K < 8796093022208) (hr : L[i]? = some r) :
    Calls Try.prog 30 #[.pointer (some ⟨b, 0, none⟩), .pointer (some ⟨g, i * 5, none⟩)] w fun e w' => e = .returned (.tuple #[]) ∧ Does (Hs fl bs lo sh la (L.set i (ejR bs lo la r)) b g) P w w' := by
  obtain ⟨c0, c1, c2, c3, c4, c5, f4⟩ := h.1.cB
  obtain ⟨g0, g1, g2, g3, g4⟩ := h.1.cG hr
  have hmem : r ∈ L := List.mem_of_getElem? hr
  obtain ⟨⟨-, -⟩, ⟨t0, t1⟩, -⟩ := k.rows r hmem
  have hli : i < L.length := by obtain ⟨q, _⟩ := List.getElem?_eq_some_iff.1 hr; exact q
  have zz := h.1.fz
  obtain ⟨rh, re, ru, rf, rt⟩ := r
  simp only at t0 t1 g0 g1 g2 g3 g4
  have z4 := zz (i * 5 + 4)
  obtain ⟨x0, x1⟩ := prod_bd (t := rt + 1) (K := K + 1) k.b0 k.b1 (by omega) (by omega) (by omega)
  obtain ⟨y0, y1⟩ := span_bd (t := rt + 1) (K := K + 1) k.b0 k.b1 k.o0 (by omega) (by omega) (by omega)
  have o1 := k.o1
  have b0 := k.b0
  have b1 := k.b1
  have HA := hide (fun V => add_t la (span bs lo (rt + 1)) V k.l0 k.l1 (by omega) (by omega))
  have HSP : Hid ((if lo < bs * (rt + 1) then lo else bs * (rt + 1)) = span bs lo (rt + 1)) := hide rfl
  have T1 : Hid (Does (Hs fl bs lo sh la (L.set i ⟨rh, re, ru, rf, rt + 1⟩) b g) P w (w.setCell ⟨g, i * 5 + 4, none⟩ (.int .i64 (rt + 1)))) := hide (HsT.set2 (j := 4) h hr (by omega) rfl)
  have hs1 : (L.set i ⟨rh, re, ru, rf, rt + 1⟩)[i]? = some ⟨rh, re, ru, rf, rt + 1⟩ := by rw [List.getElem?_set_self hli]
  have HS1 := hide hs1
  clear h k hmem zz hs1
  go_enter Try.func30, Try.ntmps30
  go_upto_region 1 with fail
  clear c0 c1 c2 c3 c4 c5 f4 g0 g1 g2 g3 g4 z4
  generalize w.setCell ⟨g, i * 5 + 4, none⟩ (.int .i64 (rt + 1)) = W1 at *
  obtain ⟨P2, y⟩ : ∃ P2, Hs fl bs lo sh la (L.set i ⟨rh, re, ru, rf, rt + 1⟩) b g W1 P2 := by obtain ⟨P2, q, _⟩ := T1.out; exact ⟨P2, q⟩
  obtain ⟨c0, c1, c2, c3, c4, c5, f4⟩ := y.1.cB
  obtain ⟨g0, g1, g2, g3, g4⟩ := y.1.cG HS1.out
  have z2 := y.1.fz (i * 5 + 2)
  clear y
  have HWR : Hid (IntKind.i64.wrap (bs * (rt + 1)) = bs * (rt + 1)) := hide (IntWalk.i64_in _ (by omega))
  have HLI := hide hli
  clear HSP hr hli t0 t1
  by_cases hq : lo < bs * (rt + 1)
  · have e0 : span bs lo (rt + 1) = lo := by unfold span; rw [if_pos hq]
    rw [e0] at HA y0 y1
    have HE : Hid (ejR bs lo la ⟨rh, re, ru, rf, rt⟩ = ⟨rh, true, latI la (lo), 0, rt + 1⟩) := hide (by unfold ejR; rw [e0])
    clear e0
    have T2 : Hid (Does (Hs fl bs lo sh la ((L.set i ⟨rh, re, ru, rf, rt + 1⟩).set i ⟨rh, re, latI la (lo), rf, rt + 1⟩) b g) P w (W1.drew.setCell ⟨g, i * 5 + 2, none⟩ (.int .i64 (latI la (lo))))) := hide ((T1.out.e (Fr.drew _ _)).trans (fun _ y => HsT.set2 (j := 2) y HS1.out (by omega) rfl))
    have HS2 : Hid (((L.set i ⟨rh, re, ru, rf, rt + 1⟩).set i ⟨rh, re, latI la (lo), rf, rt + 1⟩)[i]? = some ⟨rh, re, latI la (lo), rf, rt + 1⟩) := hide (by rw [List.getElem?_set_self (by rw [List.length_set]; exact HLI.out)])
    have cS : W1.drew.cell? ⟨b, 4, none⟩ = some (.int .i64 la) ∧ W1.drew.cell? ⟨b, 1, none⟩ = some (.int .i64 bs) ∧ W1.drew.cell? ⟨g, i * 5 + 4, none⟩ = some (.int .i64 (rt + 1)) ∧ W1.drew.cell? ⟨b, 2, none⟩ = some (.int .i64 lo) := ⟨c4, c1, g4, c2⟩
    have cZ : (W1.drew.setCell ⟨g, i * 5 + 2, none⟩ (.int .i64 (latI la (lo)))).cell? ⟨b, 4, none⟩ = some (.int .i64 la) ∧ (W1.drew.setCell ⟨g, i * 5 + 2, none⟩ (.int .i64 (latI la (lo)))).cell? ⟨b, 1, none⟩ = some (.int .i64 bs) ∧ (W1.drew.setCell ⟨g, i * 5 + 2, none⟩ (.int .i64 (latI la (lo)))).cell? ⟨g, i * 5 + 4, none⟩ = some (.int .i64 (rt + 1)) ∧ (W1.drew.setCell ⟨g, i * 5 + 2, none⟩ (.int .i64 (latI la (lo)))).cell? ⟨b, 2, none⟩ = some (.int .i64 lo) := by
      obtain ⟨P9, y9, -, -⟩ := T2.out
      obtain ⟨u0, u1, u2, u3, u4, u5, -⟩ := y9.1.cB
      obtain ⟨v0, v1, v2, v3, v4⟩ := y9.1.cG HS2.out
      exact ⟨u4, u1, v4, u2⟩
    refine wp_region_noPanic ?_
    refine wp_region_held_drew (S := fun W => W.cell? ⟨b, 4, none⟩ = some (.int .i64 la) ∧ W.cell? ⟨b, 1, none⟩ = some (.int .i64 bs) ∧ W.cell? ⟨g, i * 5 + 4, none⟩ = some (.int .i64 (rt + 1)) ∧ W.cell? ⟨b, 2, none⟩ = some (.int .i64 lo)) (by kernel_rfl) cS (fun hHeld => ?_)
    refine wpAnyH_take (i := 0) (v := ?_) rfl (by kernel_rfl) (by kernel_rfl) (by kernel_rfl) (fun _ _ _ h => h) (Or.inl ⟨by rfl, ?_⟩) (by assumption) ?_
    rotate_left
    · (intro W hSw; obtain ⟨s1, s2, s3, s4⟩ := hSw; go_simp; try with_reducible rfl)
    simp only [List.getElem_toArray, List.getElem_cons_zero, Act.put, List.setIfInBounds_toArray, List.set_cons_zero, List.set_cons_succ]
    refine wpAnyH_take (i := 1) (v := ?_) rfl (by kernel_rfl) (by kernel_rfl) (by kernel_rfl) (fun _ _ _ h => h) (Or.inl ⟨by rfl, ?_⟩) (by assumption) ?_
    rotate_left
    · (intro W hSw; obtain ⟨s1, s2, s3, s4⟩ := hSw; go_simp; try with_reducible rfl)
    simp only [List.getElem_toArray, List.getElem_cons_zero, List.getElem_cons_succ, Act.put, List.setIfInBounds_toArray, List.set_cons_zero, List.set_cons_succ]
    refine wpAnyH_take (i := 2) (v := ?_) rfl (by kernel_rfl) (by kernel_rfl) (by kernel_rfl) (fun _ _ _ h => h) (Or.inl ⟨by rfl, ?_⟩) (by assumption) ?_
    rotate_left
    · (intro W hSw; obtain ⟨s1, s2, s3, s4⟩ := hSw; go_simp; try with_reducible rfl)
    simp only [List.getElem_toArray, List.getElem_cons_zero, List.getElem_cons_succ, Act.put, List.setIfInBounds_toArray, List.set_cons_zero, List.set_cons_succ]
    refine wpAnyH_take (i := 3) (v := ?_) rfl (by kernel_rfl) (by kernel_rfl) (by kernel_rfl) (fun _ _ _ h => h) (Or.inl ⟨by rfl, ?_⟩) (by assumption) ?_
    rotate_left
    · (intro W hSw; obtain ⟨s1, s2, s3, s4⟩ := hSw; go_simp; try with_reducible rfl)
    simp only [List.getElem_toArray, List.getElem_cons_zero, List.getElem_cons_succ, Act.put, List.setIfInBounds_toArray, List.set_cons_zero, List.set_cons_succ]
    refine wpAnyH_take (i := 4) (v := ?_) rfl (by kernel_rfl) (by kernel_rfl) (by kernel_rfl) (fun _ _ _ h => h) (Or.inl ⟨by rfl, ?_⟩) (by assumption) ?_
    rotate_left
    · (intro W hSw; obtain ⟨s1, s2, s3, s4⟩ := hSw; go_simp; try with_reducible rfl)
    simp only [List.getElem_toArray, List.getElem_cons_zero, List.getElem_cons_succ, Act.put, List.setIfInBounds_toArray, List.set_cons_zero, List.set_cons_succ]
    refine wpAnyH_take (i := 5) (v := ?_) rfl (by kernel_rfl) (by kernel_rfl) (by kernel_rfl) (fun _ _ _ h => h) (Or.inl ⟨by rfl, ?_⟩) (by assumption) ?_
    rotate_left
    · (intro W hSw; obtain ⟨s1, s2, s3, s4⟩ := hSw; go_simp; try with_reducible rfl)
    simp only [List.getElem_toArray, List.getElem_cons_zero, List.getElem_cons_succ, Act.put, List.setIfInBounds_toArray, List.set_cons_zero, List.set_cons_succ]
    refine wpAnyH_take (i := 6) (v := ?_) rfl (by kernel_rfl) (by kernel_rfl) (by kernel_rfl) (fun _ _ _ h => h) (Or.inl ⟨by rfl, ?_⟩) (by assumption) ?_
    rotate_left
    · (intro W hSw; obtain ⟨s1, s2, s3, s4⟩ := hSw; go_simp; try with_reducible rfl)
    simp only [List.getElem_toArray, List.getElem_cons_zero, List.getElem_cons_succ, Act.put, List.setIfInBounds_toArray, List.set_cons_zero, List.set_cons_succ]
    refine wpAnyH_take (i := 7) (v := ?_) rfl (by kernel_rfl) (by kernel_rfl) (by kernel_rfl) (fun _ _ _ h => h) (Or.inl ⟨by rfl, ?_⟩) (by assumption) ?_
    rotate_left
    · (intro W hSw; obtain ⟨s1, s2, s3, s4⟩ := hSw; go_simp; try with_reducible rfl)
    simp only [List.getElem_toArray, List.getElem_cons_zero, List.getElem_cons_succ, Act.put, List.setIfInBounds_toArray, List.set_cons_zero, List.set_cons_succ]
    refine wpAnyH_take (i := 8) (v := ?_) rfl (by kernel_rfl) (by kernel_rfl) (by kernel_rfl) (fun _ _ _ h => h) (Or.inl ⟨by rfl, ?_⟩) (by assumption) ?_
    rotate_left
    · (intro W hSw; obtain ⟨s1, s2, s3, s4⟩ := hSw; go_simp; try with_reducible rfl)
    simp only [List.getElem_toArray, List.getElem_cons_zero, List.getElem_cons_succ, Act.put, List.setIfInBounds_toArray, List.set_cons_zero, List.set_cons_succ]
    refine wpAnyH_take (i := 9) (v := ?_) rfl (by kernel_rfl) (by kernel_rfl) (by kernel_rfl) (fun _ _ _ h => h) (Or.inl ⟨by rfl, ?_⟩) (by assumption) ?_
    rotate_left
    · (intro W hSw; obtain ⟨s1, s2, s3, s4⟩ := hSw; go_simp; try with_reducible rfl)
    simp only [List.getElem_toArray, List.getElem_cons_zero, List.getElem_cons_succ, Act.put, List.setIfInBounds_toArray, List.set_cons_zero, List.set_cons_succ]
    refine wpAnyH_take (i := 10) (v := ?_) rfl (by kernel_rfl) (by kernel_rfl) (by kernel_rfl) (fun _ _ _ h => h) (Or.inl ⟨by rfl, ?_⟩) (by assumption) ?_
    rotate_left
    · (intro W hSw; obtain ⟨s1, s2, s3, s4⟩ := hSw; go_simp; try with_reducible rfl)
    simp only [List.getElem_toArray, List.getElem_cons_zero, List.getElem_cons_succ, Act.put, List.setIfInBounds_toArray, List.set_cons_zero, List.set_cons_succ]
    refine wpAnyH_take (i := 11) (v := ?_) rfl (by kernel_rfl) (by kernel_rfl) (by kernel_rfl) (fun _ _ _ h => h) (Or.inl ⟨by rfl, ?_⟩) (by assumption) ?_
    rotate_left
    · (intro W hSw; obtain ⟨s1, s2, s3, s4⟩ := hSw; go_simp; try with_reducible rfl)
    simp only [List.getElem_toArray, List.getElem_cons_zero, List.getElem_cons_succ, Act.put, List.setIfInBounds_toArray, List.set_cons_zero, List.set_cons_succ]
    refine wpAnyH_take (i := 12) (v := ?_) rfl (by kernel_rfl) (by kernel_rfl) (by kernel_rfl) (fun _ _ _ h => h) (Or.inl ⟨by rfl, ?_⟩) (by assumption) ?_
    rotate_left
    · (intro W hSw; obtain ⟨s1, s2, s3, s4⟩ := hSw; go_simp; try with_reducible rfl)
    simp only [List.getElem_toArray, List.getElem_cons_zero, List.getElem_cons_succ, Act.put, List.setIfInBounds_toArray, List.set_cons_zero, List.set_cons_succ]
    refine wpAnyH_take (i := 13) (v := .int .i64 (bs * (rt + 1))) rfl (by kernel_rfl) (by kernel_rfl) (by kernel_rfl) (fun _ _ _ h => h) (Or.inl ⟨by rfl, ?_⟩) (by assumption) ?_
    · (intro W hSw; have hw := HWR.out; go_simp; try with_reducible rfl)
    simp only [List.getElem_toArray, List.getElem_cons_zero, List.getElem_cons_succ, Act.put, List.setIfInBounds_toArray, List.set_cons_zero, List.set_cons_succ]
    refine wpAnyH_take (i := 14) (v := ?_) rfl (by kernel_rfl) (by kernel_rfl) (by kernel_rfl) (fun _ _ _ h => h) (Or.inl ⟨by rfl, ?_⟩) (by assumption) ?_
    rotate_left
    · (intro W hSw; obtain ⟨s1, s2, s3, s4⟩ := hSw; go_simp; try with_reducible rfl)
    simp only [List.getElem_toArray, List.getElem_cons_zero, List.getElem_cons_succ, Act.put, List.setIfInBounds_toArray, List.set_cons_zero, List.set_cons_succ]
    refine wpAnyH_take (i := 15) (v := ?_) rfl (by kernel_rfl) (by kernel_rfl) (by kernel_rfl) (fun _ _ _ h => h) (Or.inl ⟨by rfl, ?_⟩) (by assumption) ?_
    rotate_left
    · (intro W hSw; obtain ⟨s1, s2, s3, s4⟩ := hSw; go_simp; try with_reducible rfl)
    simp only [List.getElem_toArray, List.getElem_cons_zero, List.getElem_cons_succ, Act.put, List.setIfInBounds_toArray, List.set_cons_zero, List.set_cons_succ]
    refine wpAnyH_take (i := 16) (v := ?_) rfl (by kernel_rfl) (by kernel_rfl) (by kernel_rfl) (fun _ _ _ h => h) (Or.inl ⟨by rfl, ?_⟩) (by assumption) ?_
    rotate_left
    · (intro W hSw; obtain ⟨s1, s2, s3, s4⟩ := hSw; go_simp; try with_reducible rfl)
    simp only [List.getElem_toArray, List.getElem_cons_zero, List.getElem_cons_succ, Act.put, List.setIfInBounds_toArray, List.set_cons_zero, List.set_cons_succ]
    refine wpAnyH_take (i := 17) (v := ?_) rfl (by kernel_rfl) (by kernel_rfl) (by kernel_rfl) (fun _ _ _ h => h) (Or.inl ⟨by rfl, ?_⟩) (by assumption) ?_
    rotate_left
    · (intro W hSw; obtain ⟨s1, s2, s3, s4⟩ := hSw; go_simp; try with_reducible rfl)
    simp only [List.getElem_toArray, List.getElem_cons_zero, List.getElem_cons_succ, Act.put, List.setIfInBounds_toArray, List.set_cons_zero, List.set_cons_succ]
    refine wpAnyH_take (i := 18) (v := .int .i64 (lo)) rfl (by kernel_rfl) (by kernel_rfl) (by kernel_rfl) (fun _ _ _ h => h) (Or.inl ⟨by rfl, ?_⟩) (by assumption) ?_
    · (intro W hSw; obtain ⟨s1, s2, s3, s4⟩ := hSw; go_simp; try with_reducible rfl)
    simp only [List.getElem_toArray, List.getElem_cons_zero, List.getElem_cons_succ, Act.put, List.setIfInBounds_toArray, List.set_cons_zero, List.set_cons_succ]
    refine wpAnyH_ready (rs := [19]) (by kernel_rfl) (by simp) ?_
    refine AllReadyH.cons rfl (fun K hK => ?_) AllReadyH.nil
    go_simp
    refine (HA.out _).mono ?_
    rintro e w' ⟨rfl, rfl⟩
    refine hK.out _ _ cS (fun hHeld => ?_)
    clear hK K
    try simp only [List.getElem_toArray, List.getElem_cons_zero, List.getElem_cons_succ, Act.put, List.setIfInBounds_toArray, List.set_cons_zero, List.set_cons_succ]
    refine wpAnyH_take (i := 20) (v := ?_) rfl (by kernel_rfl) (by kernel_rfl) (by kernel_rfl) (fun _ _ _ h => h) (Or.inl ⟨by rfl, ?_⟩) (by assumption) ?_
    rotate_left
    · (intro W hSw; obtain ⟨s1, s2, s3, s4⟩ := hSw; go_simp; try with_reducible rfl)
    simp only [List.getElem_toArray, List.getElem_cons_zero, List.getElem_cons_succ, Act.put, List.setIfInBounds_toArray, List.set_cons_zero, List.set_cons_succ]
    refine wpAnyH_take (i := 21) (v := ?_) rfl (by kernel_rfl) (by kernel_rfl) (by kernel_rfl) (fun _ _ _ h => h) (Or.inl ⟨by rfl, ?_⟩) (by assumption) ?_
    rotate_left
    · (intro W hSw; obtain ⟨s1, s2, s3, s4⟩ := hSw; go_simp; try with_reducible rfl)
    simp only [List.getElem_toArray, List.getElem_cons_zero, List.getElem_cons_succ, Act.put, List.setIfInBounds_toArray, List.set_cons_zero, List.set_cons_succ]
    refine wpAnyH_take (i := 22) (v := ?_) rfl (by kernel_rfl) (by kernel_rfl) (by kernel_rfl) (fun _ _ _ h => h) (Or.inl ⟨by rfl, ?_⟩) (by assumption) ?_
    rotate_left
    · (intro W hSw; obtain ⟨s1, s2, s3, s4⟩ := hSw; go_simp; try with_reducible rfl)
    simp only [List.getElem_toArray, List.getElem_cons_zero, List.getElem_cons_succ, Act.put, List.setIfInBounds_toArray, List.set_cons_zero, List.set_cons_succ]
    refine wpAnyH_take (i := 23) (v := ?_) rfl (by kernel_rfl) (by kernel_rfl) (by kernel_rfl) (fun _ _ _ h => h) (Or.inl ⟨by rfl, ?_⟩) (by assumption) ?_
    rotate_left
    · (intro W hSw; obtain ⟨s1, s2, s3, s4⟩ := hSw; go_simp; try with_reducible rfl)
    simp only [List.getElem_toArray, List.getElem_cons_zero, List.getElem_cons_succ, Act.put, List.setIfInBounds_toArray, List.set_cons_zero, List.set_cons_succ]
    refine wpAnyH_take (i := 24) (v := ?_) rfl (by kernel_rfl) (by kernel_rfl) (by kernel_rfl) (fun _ _ _ h => h) (Or.inl ⟨by rfl, ?_⟩) (by assumption) ?_
    rotate_left
    · (intro W hSw; obtain ⟨s1, s2, s3, s4⟩ := hSw; go_simp; try with_reducible rfl)
    simp only [List.getElem_toArray, List.getElem_cons_zero, List.getElem_cons_succ, Act.put, List.setIfInBounds_toArray, List.set_cons_zero, List.set_cons_succ]
    refine wpAnyH_ready (rs := [25]) (by kernel_rfl) (by simp) ?_
    refine AllReadyH.cons rfl (fun K hK => ?_) AllReadyH.nil
    go_simp
    refine hK.out _ _ cZ (fun hHeld => ?_)
    clear hK K
    try simp only [List.getElem_toArray, List.getElem_cons_zero, List.getElem_cons_succ, Act.put, List.setIfInBounds_toArray, List.set_cons_zero, List.set_cons_succ]
    refine wpAnyH_done (by kernel_rfl) ?_ _
    clear hHeld cS cZ
    refine NoPanic.normal ?_
    rw [show (W1.setCell ⟨g, i * 5 + 2, none⟩ (.int .i64 (latI la (lo)))).drew = W1.drew.setCell ⟨g, i * 5 + 2, none⟩ (.int .i64 (latI la (lo))) from rfl]
    clear c0 c1 c2 c3 c4 c5 f4 g0 g1 g2 g3 g4 z2
    generalize W1.drew.setCell ⟨g, i * 5 + 2, none⟩ (.int .i64 (latI la (lo))) = W2 at *
    obtain ⟨P3, y3⟩ : ∃ P3, Hs fl bs lo sh la _ b g W2 P3 := by obtain ⟨P2, q, _⟩ := T2.out; exact ⟨P2, q⟩
    obtain ⟨g0, g1, g2, g3, g4⟩ := y3.1.cG HS2.out
    have z1 := y3.1.fz (i * 5 + 1)
    have T3 := hide (T2.out.trans (fun _ y => HsT.set2 (j := 1) (r' := ⟨rh, true, latI la (lo), rf, rt + 1⟩) (v := .bool true) y HS2.out (by omega) rfl))
    have HS3 : Hid ((((L.set i ⟨rh, re, ru, rf, rt + 1⟩).set i ⟨rh, re, latI la (lo), rf, rt + 1⟩).set i ⟨rh, true, latI la (lo), rf, rt + 1⟩)[i]? = some ⟨rh, true, latI la (lo), rf, rt + 1⟩) := hide (by rw [List.getElem?_set_self (by rw [List.length_set, List.length_set]; exact HLI.out)])
    obtain ⟨P4, y4⟩ : ∃ P4, Hs fl bs lo sh la _ b g (W2.setCell ⟨g, i * 5 + 1, none⟩ (.bool true)) P4 := by obtain ⟨P2, q, _⟩ := T3.out; exact ⟨P2, q⟩
    obtain ⟨-, -, -, k3, -⟩ := y4.1.cG HS3.out
    have z3 := y4.1.fz (i * 5 + 3)
    have T4 := hide (T3.out.trans (fun _ y => HsT.set2 (j := 3) (r' := ⟨rh, true, latI la (lo), 0, rt + 1⟩) (v := .int .i64 0) y HS3.out (by omega) rfl))
    rw [List.set_set, List.set_set, List.set_set, ← HE.out] at T4
    clear y3 y4 T1 T2 T3 HS1 HS2 HS3 HE
    go_wp2_with fail
    go_end0
    exact ⟨rfl, T4.out⟩
  · have e0 : span bs lo (rt + 1) = bs * (rt + 1) := by unfold span; rw [if_neg hq]
    rw [e0] at HA y0 y1
    have HE : Hid (ejR bs lo la ⟨rh, re, ru, rf, rt⟩ = ⟨rh, true, latI la (bs * (rt + 1)), 0, rt + 1⟩) := hide (by unfold ejR; rw [e0])
    clear e0
    have T2 : Hid (Does (Hs fl bs lo sh la ((L.set i ⟨rh, re, ru, rf, rt + 1⟩).set i ⟨rh, re, latI la (bs * (rt + 1)), rf, rt + 1⟩) b g) P w (W1.drew.setCell ⟨g, i * 5 + 2, none⟩ (.int .i64 (latI la (bs * (rt + 1)))))) := hide ((T1.out.e (Fr.drew _ _)).trans (fun _ y => HsT.set2 (j := 2) y HS1.out (by omega) rfl))
    have HS2 : Hid (((L.set i ⟨rh, re, ru, rf, rt + 1⟩).set i ⟨rh, re, latI la (bs * (rt + 1)), rf, rt + 1⟩)[i]? = some ⟨rh, re, latI la (bs * (rt + 1)), rf, rt + 1⟩) := hide (by rw [List.getElem?_set_self (by rw [List.length_set]; exact HLI.out)])
    have cS : W1.drew.cell? ⟨b, 4, none⟩ = some (.int .i64 la) ∧ W1.drew.cell? ⟨b, 1, none⟩ = some (.int .i64 bs) ∧ W1.drew.cell? ⟨g, i * 5 + 4, none⟩ = some (.int .i64 (rt + 1)) ∧ W1.drew.cell? ⟨b, 2, none⟩ = some (.int .i64 lo) := ⟨c4, c1, g4, c2⟩
    have cZ : (W1.drew.setCell ⟨g, i * 5 + 2, none⟩ (.int .i64 (latI la (bs * (rt + 1))))).cell? ⟨b, 4, none⟩ = some (.int .i64 la) ∧ (W1.drew.setCell ⟨g, i * 5 + 2, none⟩ (.int .i64 (latI la (bs * (rt + 1))))).cell? ⟨b, 1, none⟩ = some (.int .i64 bs) ∧ (W1.drew.setCell ⟨g, i * 5 + 2, none⟩ (.int .i64 (latI la (bs * (rt + 1))))).cell? ⟨g, i * 5 + 4, none⟩ = some (.int .i64 (rt + 1)) ∧ (W1.drew.setCell ⟨g, i * 5 + 2, none⟩ (.int .i64 (latI la (bs * (rt + 1))))).cell? ⟨b, 2, none⟩ = some (.int .i64 lo) := by
      obtain ⟨P9, y9, -, -⟩ := T2.out
      obtain ⟨u0, u1, u2, u3, u4, u5, -⟩ := y9.1.cB
      obtain ⟨v0, v1, v2, v3, v4⟩ := y9.1.cG HS2.out
      exact ⟨u4, u1, v4, u2⟩
    refine wp_region_noPanic ?_
    refine wp_region_held_drew (S := fun W => W.cell? ⟨b, 4, none⟩ = some (.int .i64 la) ∧ W.cell? ⟨b, 1, none⟩ = some (.int .i64 bs) ∧ W.cell? ⟨g, i * 5 + 4, none⟩ = some (.int .i64 (rt + 1)) ∧ W.cell? ⟨b, 2, none⟩ = some (.int .i64 lo)) (by kernel_rfl) cS (fun hHeld => ?_)
    refine wpAnyH_take (i := 0) (v := ?_) rfl (by kernel_rfl) (by kernel_rfl) (by kernel_rfl) (fun _ _ _ h => h) (Or.inl ⟨by rfl, ?_⟩) (by assumption) ?_
    rotate_left
    · (intro W hSw; obtain ⟨s1, s2, s3, s4⟩ := hSw; go_simp; try with_reducible rfl)
    simp only [List.getElem_toArray, List.getElem_cons_zero, Act.put, List.setIfInBounds_toArray, List.set_cons_zero, List.set_cons_succ]
    refine wpAnyH_take (i := 1) (v := ?_) rfl (by kernel_rfl) (by kernel_rfl) (by kernel_rfl) (fun _ _ _ h => h) (Or.inl ⟨by rfl, ?_⟩) (by assumption) ?_
    rotate_left
    · (intro W hSw; obtain ⟨s1, s2, s3, s4⟩ := hSw; go_simp; try with_reducible rfl)
    simp only [List.getElem_toArray, List.getElem_cons_zero, List.getElem_cons_succ, Act.put, List.setIfInBounds_toArray, List.set_cons_zero, List.set_cons_succ]
    refine wpAnyH_take (i := 2) (v := ?_) rfl (by kernel_rfl) (by kernel_rfl) (by kernel_rfl) (fun _ _ _ h => h) (Or.inl ⟨by rfl, ?_⟩) (by assumption) ?_
    rotate_left
    · (intro W hSw; obtain ⟨s1, s2, s3, s4⟩ := hSw; go_simp; try with_reducible rfl)
    simp only [List.getElem_toArray, List.getElem_cons_zero, List.getElem_cons_succ, Act.put, List.setIfInBounds_toArray, List.set_cons_zero, List.set_cons_succ]
    refine wpAnyH_take (i := 3) (v := ?_) rfl (by kernel_rfl) (by kernel_rfl) (by kernel_rfl) (fun _ _ _ h => h) (Or.inl ⟨by rfl, ?_⟩) (by assumption) ?_
    rotate_left
    · (intro W hSw; obtain ⟨s1, s2, s3, s4⟩ := hSw; go_simp; try with_reducible rfl)
    simp only [List.getElem_toArray, List.getElem_cons_zero, List.getElem_cons_succ, Act.put, List.setIfInBounds_toArray, List.set_cons_zero, List.set_cons_succ]
    refine wpAnyH_take (i := 4) (v := ?_) rfl (by kernel_rfl) (by kernel_rfl) (by kernel_rfl) (fun _ _ _ h => h) (Or.inl ⟨by rfl, ?_⟩) (by assumption) ?_
    rotate_left
    · (intro W hSw; obtain ⟨s1, s2, s3, s4⟩ := hSw; go_simp; try with_reducible rfl)
    simp only [List.getElem_toArray, List.getElem_cons_zero, List.getElem_cons_succ, Act.put, List.setIfInBounds_toArray, List.set_cons_zero, List.set_cons_succ]
    refine wpAnyH_take (i := 5) (v := ?_) rfl (by kernel_rfl) (by kernel_rfl) (by kernel_rfl) (fun _ _ _ h => h) (Or.inl ⟨by rfl, ?_⟩) (by assumption) ?_
    rotate_left
    · (intro W hSw; obtain ⟨s1, s2, s3, s4⟩ := hSw; go_simp; try with_reducible rfl)
    simp only [List.getElem_toArray, List.getElem_cons_zero, List.getElem_cons_succ, Act.put, List.setIfInBounds_toArray, List.set_cons_zero, List.set_cons_succ]
    refine wpAnyH_take (i := 6) (v := ?_) rfl (by kernel_rfl) (by kernel_rfl) (by kernel_rfl) (fun _ _ _ h => h) (Or.inl ⟨by rfl, ?_⟩) (by assumption) ?_
    rotate_left
    · (intro W hSw; obtain ⟨s1, s2, s3, s4⟩ := hSw; go_simp; try with_reducible rfl)
    simp only [List.getElem_toArray, List.getElem_cons_zero, List.getElem_cons_succ, Act.put, List.setIfInBounds_toArray, List.set_cons_zero, List.set_cons_succ]
    refine wpAnyH_take (i := 7) (v := ?_) rfl (by kernel_rfl) (by kernel_rfl) (by kernel_rfl) (fun _ _ _ h => h) (Or.inl ⟨by rfl, ?_⟩) (by assumption) ?_
    rotate_left
    · (intro W hSw; obtain ⟨s1, s2, s3, s4⟩ := hSw; go_simp; try with_reducible rfl)
    simp only [List.getElem_toArray, List.getElem_cons_zero, List.getElem_cons_succ, Act.put, List.setIfInBounds_toArray, List.set_cons_zero, List.set_cons_succ]
    refine wpAnyH_take (i := 8) (v := ?_) rfl (by kernel_rfl) (by kernel_rfl) (by kernel_rfl) (fun _ _ _ h => h) (Or.inl ⟨by rfl, ?_⟩) (by assumption) ?_
    rotate_left
    · (intro W hSw; obtain ⟨s1, s2, s3, s4⟩ := hSw; go_simp; try with_reducible rfl)
    simp only [List.getElem_toArray, List.getElem_cons_zero, List.getElem_cons_succ, Act.put, List.setIfInBounds_toArray, List.set_cons_zero, List.set_cons_succ]
    refine wpAnyH_take (i := 9) (v := ?_) rfl (by kernel_rfl) (by kernel_rfl) (by kernel_rfl) (fun _ _ _ h => h) (Or.inl ⟨by rfl, ?_⟩) (by assumption) ?_
    rotate_left
    · (intro W hSw; obtain ⟨s1, s2, s3, s4⟩ := hSw; go_simp; try with_reducible rfl)
    simp only [List.getElem_toArray, List.getElem_cons_zero, List.getElem_cons_succ, Act.put, List.setIfInBounds_toArray, List.set_cons_zero, List.set_cons_succ]
    refine wpAnyH_take (i := 10) (v := ?_) rfl (by kernel_rfl) (by kernel_rfl) (by kernel_rfl) (fun _ _ _ h => h) (Or.inl ⟨by rfl, ?_⟩) (by assumption) ?_
    rotate_left
    · (intro W hSw; obtain ⟨s1, s2, s3, s4⟩ := hSw; go_simp; try with_reducible rfl)
    simp only [List.getElem_toArray, List.getElem_cons_zero, List.getElem_cons_succ, Act.put, List.setIfInBounds_toArray, List.set_cons_zero, List.set_cons_succ]
    refine wpAnyH_take (i := 11) (v := ?_) rfl (by kernel_rfl) (by kernel_rfl) (by kernel_rfl) (fun _ _ _ h => h) (Or.inl ⟨by rfl, ?_⟩) (by assumption) ?_
    rotate_left
    · (intro W hSw; obtain ⟨s1, s2, s3, s4⟩ := hSw; go_simp; try with_reducible rfl)
    simp only [List.getElem_toArray, List.getElem_cons_zero, List.getElem_cons_succ, Act.put, List.setIfInBounds_toArray, List.set_cons_zero, List.set_cons_succ]
    refine wpAnyH_take (i := 12) (v := ?_) rfl (by kernel_rfl) (by kernel_rfl) (by kernel_rfl) (fun _ _ _ h => h) (Or.inl ⟨by rfl, ?_⟩) (by assumption) ?_
    rotate_left
    · (intro W hSw; obtain ⟨s1, s2, s3, s4⟩ := hSw; go_simp; try with_reducible rfl)
    simp only [List.getElem_toArray, List.getElem_cons_zero, List.getElem_cons_succ, Act.put, List.setIfInBounds_toArray, List.set_cons_zero, List.set_cons_succ]
    refine wpAnyH_take (i := 13) (v := .int .i64 (bs * (rt + 1))) rfl (by kernel_rfl) (by kernel_rfl) (by kernel_rfl) (fun _ _ _ h => h) (Or.inl ⟨by rfl, ?_⟩) (by assumption) ?_
    · (intro W hSw; have hw := HWR.out; go_simp; try with_reducible rfl)
    simp only [List.getElem_toArray, List.getElem_cons_zero, List.getElem_cons_succ, Act.put, List.setIfInBounds_toArray, List.set_cons_zero, List.set_cons_succ]
    refine wpAnyH_take (i := 14) (v := ?_) rfl (by kernel_rfl) (by kernel_rfl) (by kernel_rfl) (fun _ _ _ h => h) (Or.inl ⟨by rfl, ?_⟩) (by assumption) ?_
    rotate_left
    · (intro W hSw; obtain ⟨s1, s2, s3, s4⟩ := hSw; go_simp; try with_reducible rfl)
    simp only [List.getElem_toArray, List.getElem_cons_zero, List.getElem_cons_succ, Act.put, List.setIfInBounds_toArray, List.set_cons_zero, List.set_cons_succ]
    refine wpAnyH_take (i := 15) (v := ?_) rfl (by kernel_rfl) (by kernel_rfl) (by kernel_rfl) (fun _ _ _ h => h) (Or.inl ⟨by rfl, ?_⟩) (by assumption) ?_
    rotate_left
    · (intro W hSw; obtain ⟨s1, s2, s3, s4⟩ := hSw; go_simp; try with_reducible rfl)
    simp only [List.getElem_toArray, List.getElem_cons_zero, List.getElem_cons_succ, Act.put, List.setIfInBounds_toArray, List.set_cons_zero, List.set_cons_succ]
    refine wpAnyH_take (i := 16) (v := ?_) rfl (by kernel_rfl) (by kernel_rfl) (by kernel_rfl) (fun _ _ _ h => h) (Or.inl ⟨by rfl, ?_⟩) (by assumption) ?_
    rotate_left
    · (intro W hSw; obtain ⟨s1, s2, s3, s4⟩ := hSw; go_simp; try with_reducible rfl)
    simp only [List.getElem_toArray, List.getElem_cons_zero, List.getElem_cons_succ, Act.put, List.setIfInBounds_toArray, List.set_cons_zero, List.set_cons_succ]
    refine wpAnyH_take (i := 17) (v := ?_) rfl (by kernel_rfl) (by kernel_rfl) (by kernel_rfl) (fun _ _ _ h => h) (Or.inl ⟨by rfl, ?_⟩) (by assumption) ?_
    rotate_left
    · (intro W hSw; obtain ⟨s1, s2, s3, s4⟩ := hSw; go_simp; try with_reducible rfl)
    simp only [List.getElem_toArray, List.getElem_cons_zero, List.getElem_cons_succ, Act.put, List.setIfInBounds_toArray, List.set_cons_zero, List.set_cons_succ]
    refine wpAnyH_take (i := 18) (v := .int .i64 (bs * (rt + 1))) rfl (by kernel_rfl) (by kernel_rfl) (by kernel_rfl) (fun _ _ _ h => h) (Or.inl ⟨by rfl, ?_⟩) (by assumption) ?_
    · (intro W hSw; obtain ⟨s1, s2, s3, s4⟩ := hSw; go_simp; try with_reducible rfl)
    simp only [List.getElem_toArray, List.getElem_cons_zero, List.getElem_cons_succ, Act.put, List.setIfInBounds_toArray, List.set_cons_zero, List.set_cons_succ]
    refine wpAnyH_ready (rs := [19]) (by kernel_rfl) (by simp) ?_
    refine AllReadyH.cons rfl (fun K hK => ?_) AllReadyH.nil
    go_simp
    refine (HA.out _).mono ?_
    rintro e w' ⟨rfl, rfl⟩
    refine hK.out _ _ cS (fun hHeld => ?_)
    clear hK K
    try simp only [List.getElem_toArray, List.getElem_cons_zero, List.getElem_cons_succ, Act.put, List.setIfInBounds_toArray, List.set_cons_zero, List.set_cons_succ]
    refine wpAnyH_take (i := 20) (v := ?_) rfl (by kernel_rfl) (by kernel_rfl) (by kernel_rfl) (fun _ _ _ h => h) (Or.inl ⟨by rfl, ?_⟩) (by assumption) ?_
    rotate_left
    · (intro W hSw; obtain ⟨s1, s2, s3, s4⟩ := hSw; go_simp; try with_reducible rfl)
    simp only [List.getElem_toArray, List.getElem_cons_zero, List.getElem_cons_succ, Act.put, List.setIfInBounds_toArray, List.set_cons_zero, List.set_cons_succ]
    refine wpAnyH_take (i := 21) (v := ?_) rfl (by kernel_rfl) (by kernel_rfl) (by kernel_rfl) (fun _ _ _ h => h) (Or.inl ⟨by rfl, ?_⟩) (by assumption) ?_
    rotate_left
    · (intro W hSw; obtain ⟨s1, s2, s3, s4⟩ := hSw; go_simp; try with_reducible rfl)
    simp only [List.getElem_toArray, List.getElem_cons_zero, List.getElem_cons_succ, Act.put, List.setIfInBounds_toArray, List.set_cons_zero, List.set_cons_succ]
    refine wpAnyH_take (i := 22) (v := ?_) rfl (by kernel_rfl) (by kernel_rfl) (by kernel_rfl) (fun _ _ _ h => h) (Or.inl ⟨by rfl, ?_⟩) (by assumption) ?_
    rotate_left
    · (intro W hSw; obtain ⟨s1, s2, s3, s4⟩ := hSw; go_simp; try with_reducible rfl)
    simp only [List.getElem_toArray, List.getElem_cons_zero, List.getElem_cons_succ, Act.put, List.setIfInBounds_toArray, List.set_cons_zero, List.set_cons_succ]
    refine wpAnyH_take (i := 23) (v := ?_) rfl (by kernel_rfl) (by kernel_rfl) (by kernel_rfl) (fun _ _ _ h => h) (Or.inl ⟨by rfl, ?_⟩) (by assumption) ?_
    rotate_left
    · (intro W hSw; obtain ⟨s1, s2, s3, s4⟩ := hSw; go_simp; try with_reducible rfl)
    simp only [List.getElem_toArray, List.getElem_cons_zero, List.getElem_cons_succ, Act.put, List.setIfInBounds_toArray, List.set_cons_zero, List.set_cons_succ]
    refine wpAnyH_take (i := 24) (v := ?_) rfl (by kernel_rfl) (by kernel_rfl) (by kernel_rfl) (fun _ _ _ h => h) (Or.inl ⟨by rfl, ?_⟩) (by assumption) ?_
    rotate_left
    · (intro W hSw; obtain ⟨s1, s2, s3, s4⟩ := hSw; go_simp; try with_reducible rfl)
    simp only [List.getElem_toArray, List.getElem_cons_zero, List.getElem_cons_succ, Act.put, List.setIfInBounds_toArray, List.set_cons_zero, List.set_cons_succ]
    refine wpAnyH_ready (rs := [25]) (by kernel_rfl) (by simp) ?_
    refine AllReadyH.cons rfl (fun K hK => ?_) AllReadyH.nil
    go_simp
    refine hK.out _ _ cZ (fun hHeld => ?_)
    clear hK K
    try simp only [List.getElem_toArray, List.getElem_cons_zero, List.getElem_cons_succ, Act.put, List.setIfInBounds_toArray, List.set_cons_zero, List.set_cons_succ]
    refine wpAnyH_done (by kernel_rfl) ?_ _
    clear hHeld cS cZ
    refine NoPanic.normal ?_
    rw [show (W1.setCell ⟨g, i * 5 + 2, none⟩ (.int .i64 (latI la (bs * (rt + 1))))).drew = W1.drew.setCell ⟨g, i * 5 + 2, none⟩ (.int .i64 (latI la (bs * (rt + 1)))) from rfl]
    clear c0 c1 c2 c3 c4 c5 f4 g0 g1 g2 g3 g4 z2
    generalize W1.drew.setCell ⟨g, i * 5 + 2, none⟩ (.int .i64 (latI la (bs * (rt + 1)))) = W2 at *
    obtain ⟨P3, y3⟩ : ∃ P3, Hs fl bs lo sh la _ b g W2 P3 := by obtain ⟨P2, q, _⟩ := T2.out; exact ⟨P2, q⟩
    obtain ⟨g0, g1, g2, g3, g4⟩ := y3.1.cG HS2.out
    have z1 := y3.1.fz (i * 5 + 1)
    have T3 := hide (T2.out.trans (fun _ y => HsT.set2 (j := 1) (r' := ⟨rh, true, latI la (bs * (rt + 1)), rf, rt + 1⟩) (v := .bool true) y HS2.out (by omega) rfl))
    have HS3 : Hid ((((L.set i ⟨rh, re, ru, rf, rt + 1⟩).set i ⟨rh, re, latI la (bs * (rt + 1)), rf, rt + 1⟩).set i ⟨rh, true, latI la (bs * (rt + 1)), rf, rt + 1⟩)[i]? = some ⟨rh, true, latI la (bs * (rt + 1)), rf, rt + 1⟩) := hide (by rw [List.getElem?_set_self (by rw [List.length_set, List.length_set]; exact HLI.out)])
    obtain ⟨P4, y4⟩ : ∃ P4, Hs fl bs lo sh la _ b g (W2.setCell ⟨g, i * 5 + 1, none⟩ (.bool true)) P4 := by obtain ⟨P2, q, _⟩ := T3.out; exact ⟨P2, q⟩
    obtain ⟨-, -, -, k3, -⟩ := y4.1.cG HS3.out
    have z3 := y4.1.fz (i * 5 + 3)
    have T4 := hide (T3.out.trans (fun _ y => HsT.set2 (j := 3) (r' := ⟨rh, true, latI la (bs * (rt + 1)), 0, rt + 1⟩) (v := .int .i64 0) y HS3.out (by omega) rfl))
    rw [List.set_set, List.set_set, List.set_set, ← HE.out] at T4
    clear y3 y4 T1 T2 T3 HS1 HS2 HS3 HE
    go_wp2_with fail
    go_end0
    exact ⟨rfl, T4.out⟩
end Go.Proofs.Ytobkgkcemdocnaa
