/- A probe's answer. -/
import Derived.Test.YtlnckiknikaifaaQDu
namespace Go.Proofs.Ytlnckiknikaifaa
open Go.ChangeShapes Go.WideShapes Go.ChangeAt Go.RowKit
set_option linter.unusedVariables false

def ctF (ok : Bool) (r : HR) : Int := if ok then r.f + 1 else 0
def ctT (ok : Bool) (r : HR) : Int := if ok then 0 else r.t + 1
def anN (up dn : Int) (ok : Bool) (r : HR) : Int := if r.h then (if dn ≤ ctT ok r then 2 else 0) else (if up ≤ ctF ok r then 1 else 0)
def anH (up dn : Int) (ok : Bool) (r : HR) : Bool := if r.h then !decide (dn ≤ ctT ok r) else decide (up ≤ ctF ok r)
/-- A host behind its probe's answer. -/
def anR (ev up dn m : Int) (ok : Bool) (r : HR) : HR := ⟨anH up dn ok r, false, latI m ev, ctF ok r, ctT ok r⟩

set_option maxHeartbeats 1000000 in
set_option maxRecDepth 100000 in
theorem count_r (w : World) (P : Nat → Prop) (ev ti up dn la : Int) (i : Nat) (r : HR) (ok : Bool) (L : List HR) (b g : Nat) (h : Hs ev ti up dn la L b g w P) (hr : L[i]? = some r) (f0 : 0 ≤ r.f) (f1 : r.f < 4611686018427387904) (t0 : 0 ≤ r.t) (t1 : r.t < 4611686018427387904) :
    Calls Try.prog 22 #[.pointer (some ⟨g, i * 5, none⟩), .bool ok] w fun e w' => e = .returned (.tuple #[]) ∧ Does (Hs ev ti up dn la (L.set i ⟨r.h, r.e, r.u, ctF ok r, ctT ok r⟩) b g) P w w' := by
  obtain ⟨g0, g1, g2, g3, g4⟩ := h.1.cG hr
  have z3 := h.1.fz (i * 5 + 3)
  have hli : i < L.length := (List.getElem?_eq_some_iff.1 hr).1
  obtain ⟨rh, re, ru, rf, rt⟩ := r
  simp only at *
  cases ok with
  | true =>
    have T1 := HsT.set2 (j := 3) (r' := ⟨rh, re, ru, rf + 1, rt⟩) (v := .int .i64 (rf + 1)) h hr (by omega) rfl
    have s1 : (L.set i ⟨rh, re, ru, rf + 1, rt⟩)[i]? = some ⟨rh, re, ru, rf + 1, rt⟩ := by rw [List.getElem?_set_self hli]
    obtain ⟨_, y, -, -⟩ := T1
    obtain ⟨-, -, -, -, k4⟩ := y.1.cG s1
    have z4 := y.1.fz (i * 5 + 4)
    have T1 := HsT.set2 (j := 3) (r' := ⟨rh, re, ru, rf + 1, rt⟩) (v := .int .i64 (rf + 1)) h hr (by omega) rfl
    have T2 := hide (T1.trans (fun _ y => HsT.set2 (j := 4) (r' := ⟨rh, re, ru, rf + 1, 0⟩) (v := .int .i64 0) y s1 (by omega) rfl))
    rw [List.set_set] at T2
    have e : (⟨rh, re, ru, ctF true ⟨rh, re, ru, rf, rt⟩, ctT true ⟨rh, re, ru, rf, rt⟩⟩ : HR) = ⟨rh, re, ru, rf + 1, 0⟩ := rfl
    rw [e]
    clear h hr y T1 s1 e
    go_enter Try.func22, Try.ntmps22
    go_wp2_with fail
    refine bodyPost_ret (results_none rfl _ _ _) rfl ?_
    exact ⟨rfl, T2.out⟩
  | false =>
    have T1 := HsT.set2 (j := 3) (r' := ⟨rh, re, ru, 0, rt⟩) (v := .int .i64 0) h hr (by omega) rfl
    have s1 : (L.set i ⟨rh, re, ru, 0, rt⟩)[i]? = some ⟨rh, re, ru, 0, rt⟩ := by rw [List.getElem?_set_self hli]
    obtain ⟨_, y, -, -⟩ := T1
    obtain ⟨-, -, -, -, k4⟩ := y.1.cG s1
    have z4 := y.1.fz (i * 5 + 4)
    have T1 := HsT.set2 (j := 3) (r' := ⟨rh, re, ru, 0, rt⟩) (v := .int .i64 0) h hr (by omega) rfl
    have T2 := hide (T1.trans (fun _ y => HsT.set2 (j := 4) (r' := ⟨rh, re, ru, 0, rt + 1⟩) (v := .int .i64 (rt + 1)) y s1 (by omega) rfl))
    rw [List.set_set] at T2
    have e : (⟨rh, re, ru, ctF false ⟨rh, re, ru, rf, rt⟩, ctT false ⟨rh, re, ru, rf, rt⟩⟩ : HR) = ⟨rh, re, ru, 0, rt + 1⟩ := rfl
    rw [e]
    clear h hr y T1 s1 e
    go_enter Try.func22, Try.ntmps22
    go_wp2_with fail
    go_end0
    exact ⟨rfl, T2.out⟩

set_option maxHeartbeats 4000000 in
set_option maxRecDepth 100000 in
theorem answer_any (w : World) (P : Nat → Prop) (ev ti up dn la now : Int) (i : Nat) (r : HR) (ok : Bool) (L : List HR) (b g : Nat) (h : Hs ev ti up dn la L b g w P) (hl : L.length ≤ 16) (hm : mom now = true) (l0 : 0 ≤ la) (l1 : la ≤ 4611686018427387904) (e0 : 0 ≤ ev) (e1 : ev ≤ 1000000)
    (hr : L[i]? = some r) (he : r.e = true) (f0 : 0 ≤ r.f) (f1 : r.f < 4611686018427387904) (t0 : 0 ≤ r.t) (t1 : r.t < 4611686018427387904) :
    Calls Try.prog 10 #[.pointer (some ⟨b, 0, none⟩), .int .i64 now, .int .i64 (i : Int), .bool ok] w fun e w' => e = .returned (.tuple #[.int .i64 (anN up dn ok r), .int .i64 0]) ∧ Does (Hs ev ti up dn (mx la now) (L.set i (anR ev up dn (mx la now) ok r)) b g) P w w' := by
  have HR := hide (running_any w ev ti up dn la now i r L b g h.1 hm hr he hl)
  have HK := hide (ask_any w P ev ti up dn la now L b g h hm)
  have hmb : 0 ≤ mx la now ∧ mx la now ≤ 4611686018427387904 := by have := mom_iff.1 hm; unfold mx; split <;> omega
  have hli : i < L.length := (List.getElem?_eq_some_iff.1 hr).1
  have HLI := hide hli
  have Hr := hide hr
  clear h hm l0 l1 hr hli he
  generalize mx la now = m at *
  have HA := hide (fun V => add_t m ev V hmb.1 hmb.2 e0 (by omega))
  obtain ⟨N, HN⟩ : ∃ N, Hid (anN up dn ok r = N) := ⟨_, hide rfl⟩
  obtain ⟨Z, HZ⟩ : ∃ Z, Hid (anR ev up dn m ok r = Z) := ⟨_, hide rfl⟩
  rw [HN.out, HZ.out]
  obtain ⟨rh, re, ru, rf, rt⟩ := r
  simp only at f0 f1 t0 t1
  go_enter Try.func10, Try.ntmps10
  go_wp2_with (go_at_call 21; refine HR.out.mono ?_; rintro e w' ⟨rfl, rfl⟩)
  refine HK.out.mono ?_
  rintro e w1 ⟨rfl, d1⟩
  have T0 := hide d1
  obtain ⟨_, x, -, -⟩ := d1
  obtain ⟨g0, g1, g2, g3, g4⟩ := x.1.cG Hr.out
  have z1 := x.1.fz (i * 5 + 1)
  clear x HK HR
  have T1 : Hid (Does (Hs ev ti up dn m (L.set i ⟨rh, false, ru, rf, rt⟩) b g) P w (w1.setCell ⟨g, i * 5 + 1, none⟩ (.bool false))) := hide (T0.out.trans (fun _ y => HsT.set2 (j := 1) y Hr.out (by omega) rfl))
  have HS1 : Hid ((L.set i ⟨rh, false, ru, rf, rt⟩)[i]? = some ⟨rh, false, ru, rf, rt⟩) := hide (by rw [List.getElem?_set_self HLI.out])
  go_upto_region 6 with fail
  clear g0 g1 g2 g3 g4 z1 T0 Hr
  generalize w1.setCell ⟨g, i * 5 + 1, none⟩ (.bool false) = W2 at *
  obtain ⟨_, y, -, -⟩ := T1.out
  obtain ⟨c0, c1, c2, c3, c4, c5, -⟩ := y.1.cB
  obtain ⟨g0, g1, g2, g3, g4⟩ := y.1.cG HS1.out
  have z2 := y.1.fz (i * 5 + 2)
  clear y
  have T2 : Hid (Does (Hs ev ti up dn m (L.set i ⟨rh, false, latI m ev, rf, rt⟩) b g) P w (W2.drew.setCell ⟨g, i * 5 + 2, none⟩ (.int .i64 (latI m ev)))) := hide (by
    have := (T1.out.e (Fr.drew _ _)).trans (fun _ y => HsT.set2 (j := 2) (r' := ⟨rh, false, latI m ev, rf, rt⟩) (v := .int .i64 (latI m ev)) y HS1.out (by omega) rfl)
    rw [List.set_set] at this
    exact this)
  have HS2 : Hid ((L.set i ⟨rh, false, latI m ev, rf, rt⟩)[i]? = some ⟨rh, false, latI m ev, rf, rt⟩) := hide (by rw [List.getElem?_set_self HLI.out])
  have cS : W2.drew.cell? ⟨b, 4, none⟩ = some (.int .i64 m) ∧ W2.drew.cell? ⟨b, 0, none⟩ = some (.int .i64 ev) := ⟨c4, c0⟩
  have cZ : (W2.drew.setCell ⟨g, i * 5 + 2, none⟩ (.int .i64 (latI m ev))).cell? ⟨b, 4, none⟩ = some (.int .i64 m) ∧ (W2.drew.setCell ⟨g, i * 5 + 2, none⟩ (.int .i64 (latI m ev))).cell? ⟨b, 0, none⟩ = some (.int .i64 ev) := by
    obtain ⟨P9, y9, -, -⟩ := T2.out
    obtain ⟨u0, u1, u2, u3, u4, u5, -⟩ := y9.1.cB
    exact ⟨u4, u0⟩
  clear T1 HS1
  refine wp_region_noPanic ?_
  refine wp_region_held_drew (S := fun W => W.cell? ⟨b, 4, none⟩ = some (.int .i64 m) ∧ W.cell? ⟨b, 0, none⟩ = some (.int .i64 ev)) (by kernel_rfl) cS (fun hHeld => ?_)
  refine wpAnyH_take (i := 0) (v := ?_) rfl (by kernel_rfl) (by kernel_rfl) (by kernel_rfl) (fun _ _ _ h => h) (Or.inl ⟨by rfl, ?_⟩) (by assumption) ?_
  rotate_left
  · (intro W hSw; obtain ⟨s1, s2⟩ := hSw; go_simp; try with_reducible rfl)
  try simp only [List.getElem_toArray, List.getElem_cons_zero, Act.put, List.setIfInBounds_toArray, List.set_cons_zero, List.set_cons_succ]
  refine wpAnyH_take (i := 1) (v := ?_) rfl (by kernel_rfl) (by kernel_rfl) (by kernel_rfl) (fun _ _ _ h => h) (Or.inl ⟨by rfl, ?_⟩) (by assumption) ?_
  rotate_left
  · (intro W hSw; obtain ⟨s1, s2⟩ := hSw; go_simp; try with_reducible rfl)
  try simp only [List.getElem_toArray, List.getElem_cons_zero, List.getElem_cons_succ, Act.put, List.setIfInBounds_toArray, List.set_cons_zero, List.set_cons_succ]
  refine wpAnyH_take (i := 2) (v := ?_) rfl (by kernel_rfl) (by kernel_rfl) (by kernel_rfl) (fun _ _ _ h => h) (Or.inl ⟨by rfl, ?_⟩) (by assumption) ?_
  rotate_left
  · (intro W hSw; obtain ⟨s1, s2⟩ := hSw; go_simp; try with_reducible rfl)
  try simp only [List.getElem_toArray, List.getElem_cons_zero, List.getElem_cons_succ, Act.put, List.setIfInBounds_toArray, List.set_cons_zero, List.set_cons_succ]
  refine wpAnyH_take (i := 3) (v := ?_) rfl (by kernel_rfl) (by kernel_rfl) (by kernel_rfl) (fun _ _ _ h => h) (Or.inl ⟨by rfl, ?_⟩) (by assumption) ?_
  rotate_left
  · (intro W hSw; obtain ⟨s1, s2⟩ := hSw; go_simp; try with_reducible rfl)
  try simp only [List.getElem_toArray, List.getElem_cons_zero, List.getElem_cons_succ, Act.put, List.setIfInBounds_toArray, List.set_cons_zero, List.set_cons_succ]
  refine wpAnyH_take (i := 4) (v := ?_) rfl (by kernel_rfl) (by kernel_rfl) (by kernel_rfl) (fun _ _ _ h => h) (Or.inl ⟨by rfl, ?_⟩) (by assumption) ?_
  rotate_left
  · (intro W hSw; obtain ⟨s1, s2⟩ := hSw; go_simp; try with_reducible rfl)
  try simp only [List.getElem_toArray, List.getElem_cons_zero, List.getElem_cons_succ, Act.put, List.setIfInBounds_toArray, List.set_cons_zero, List.set_cons_succ]
  refine wpAnyH_take (i := 5) (v := ?_) rfl (by kernel_rfl) (by kernel_rfl) (by kernel_rfl) (fun _ _ _ h => h) (Or.inl ⟨by rfl, ?_⟩) (by assumption) ?_
  rotate_left
  · (intro W hSw; obtain ⟨s1, s2⟩ := hSw; go_simp; try with_reducible rfl)
  try simp only [List.getElem_toArray, List.getElem_cons_zero, List.getElem_cons_succ, Act.put, List.setIfInBounds_toArray, List.set_cons_zero, List.set_cons_succ]
  refine wpAnyH_take (i := 6) (v := ?_) rfl (by kernel_rfl) (by kernel_rfl) (by kernel_rfl) (fun _ _ _ h => h) (Or.inl ⟨by rfl, ?_⟩) (by assumption) ?_
  rotate_left
  · (intro W hSw; obtain ⟨s1, s2⟩ := hSw; go_simp; try with_reducible rfl)
  try simp only [List.getElem_toArray, List.getElem_cons_zero, List.getElem_cons_succ, Act.put, List.setIfInBounds_toArray, List.set_cons_zero, List.set_cons_succ]
  refine wpAnyH_take (i := 7) (v := ?_) rfl (by kernel_rfl) (by kernel_rfl) (by kernel_rfl) (fun _ _ _ h => h) (Or.inl ⟨by rfl, ?_⟩) (by assumption) ?_
  rotate_left
  · (intro W hSw; obtain ⟨s1, s2⟩ := hSw; go_simp; try with_reducible rfl)
  try simp only [List.getElem_toArray, List.getElem_cons_zero, List.getElem_cons_succ, Act.put, List.setIfInBounds_toArray, List.set_cons_zero, List.set_cons_succ]
  refine wpAnyH_take (i := 8) (v := ?_) rfl (by kernel_rfl) (by kernel_rfl) (by kernel_rfl) (fun _ _ _ h => h) (Or.inl ⟨by rfl, ?_⟩) (by assumption) ?_
  rotate_left
  · (intro W hSw; obtain ⟨s1, s2⟩ := hSw; go_simp; try with_reducible rfl)
  try simp only [List.getElem_toArray, List.getElem_cons_zero, List.getElem_cons_succ, Act.put, List.setIfInBounds_toArray, List.set_cons_zero, List.set_cons_succ]
  refine wpAnyH_take (i := 9) (v := ?_) rfl (by kernel_rfl) (by kernel_rfl) (by kernel_rfl) (fun _ _ _ h => h) (Or.inl ⟨by rfl, ?_⟩) (by assumption) ?_
  rotate_left
  · (intro W hSw; obtain ⟨s1, s2⟩ := hSw; go_simp; try with_reducible rfl)
  try simp only [List.getElem_toArray, List.getElem_cons_zero, List.getElem_cons_succ, Act.put, List.setIfInBounds_toArray, List.set_cons_zero, List.set_cons_succ]
  refine wpAnyH_ready (rs := [10]) (by kernel_rfl) (by simp) ?_
  refine AllReadyH.cons rfl (fun K hK => ?_) AllReadyH.nil
  go_simp
  refine (HA.out _).mono ?_
  rintro e w' ⟨rfl, rfl⟩
  refine hK.out _ _ cS (fun hHeld => ?_)
  clear hK K
  try simp only [List.getElem_toArray, List.getElem_cons_zero, List.getElem_cons_succ, Act.put, List.setIfInBounds_toArray, List.set_cons_zero, List.set_cons_succ]
  refine wpAnyH_take (i := 11) (v := ?_) rfl (by kernel_rfl) (by kernel_rfl) (by kernel_rfl) (fun _ _ _ h => h) (Or.inl ⟨by rfl, ?_⟩) (by assumption) ?_
  rotate_left
  · (intro W hSw; obtain ⟨s1, s2⟩ := hSw; go_simp; try with_reducible rfl)
  try simp only [List.getElem_toArray, List.getElem_cons_zero, List.getElem_cons_succ, Act.put, List.setIfInBounds_toArray, List.set_cons_zero, List.set_cons_succ]
  refine wpAnyH_take (i := 12) (v := ?_) rfl (by kernel_rfl) (by kernel_rfl) (by kernel_rfl) (fun _ _ _ h => h) (Or.inl ⟨by rfl, ?_⟩) (by assumption) ?_
  rotate_left
  · (intro W hSw; obtain ⟨s1, s2⟩ := hSw; go_simp; try with_reducible rfl)
  try simp only [List.getElem_toArray, List.getElem_cons_zero, List.getElem_cons_succ, Act.put, List.setIfInBounds_toArray, List.set_cons_zero, List.set_cons_succ]
  refine wpAnyH_take (i := 13) (v := ?_) rfl (by kernel_rfl) (by kernel_rfl) (by kernel_rfl) (fun _ _ _ h => h) (Or.inl ⟨by rfl, ?_⟩) (by assumption) ?_
  rotate_left
  · (intro W hSw; obtain ⟨s1, s2⟩ := hSw; go_simp; try with_reducible rfl)
  try simp only [List.getElem_toArray, List.getElem_cons_zero, List.getElem_cons_succ, Act.put, List.setIfInBounds_toArray, List.set_cons_zero, List.set_cons_succ]
  refine wpAnyH_take (i := 14) (v := ?_) rfl (by kernel_rfl) (by kernel_rfl) (by kernel_rfl) (fun _ _ _ h => h) (Or.inl ⟨by rfl, ?_⟩) (by assumption) ?_
  rotate_left
  · (intro W hSw; obtain ⟨s1, s2⟩ := hSw; go_simp; try with_reducible rfl)
  try simp only [List.getElem_toArray, List.getElem_cons_zero, List.getElem_cons_succ, Act.put, List.setIfInBounds_toArray, List.set_cons_zero, List.set_cons_succ]
  refine wpAnyH_take (i := 15) (v := ?_) rfl (by kernel_rfl) (by kernel_rfl) (by kernel_rfl) (fun _ _ _ h => h) (Or.inl ⟨by rfl, ?_⟩) (by assumption) ?_
  rotate_left
  · (intro W hSw; obtain ⟨s1, s2⟩ := hSw; go_simp; try with_reducible rfl)
  try simp only [List.getElem_toArray, List.getElem_cons_zero, List.getElem_cons_succ, Act.put, List.setIfInBounds_toArray, List.set_cons_zero, List.set_cons_succ]
  refine wpAnyH_ready (rs := [16]) (by kernel_rfl) (by simp) ?_
  refine AllReadyH.cons rfl (fun K hK => ?_) AllReadyH.nil
  go_simp
  refine hK.out _ _ cZ (fun hHeld => ?_)
  clear hK K
  try simp only [List.getElem_toArray, List.getElem_cons_zero, List.getElem_cons_succ, Act.put, List.setIfInBounds_toArray, List.set_cons_zero, List.set_cons_succ]
  refine wpAnyH_done (by kernel_rfl) ?_ _
  clear hHeld cS cZ
  refine NoPanic.normal ?_
  rw [show (W2.setCell ⟨g, i * 5 + 2, none⟩ (.int .i64 (latI m ev))).drew = W2.drew.setCell ⟨g, i * 5 + 2, none⟩ (.int .i64 (latI m ev)) from rfl]
  clear c0 c1 c2 c3 c4 c5 g0 g1 g2 g3 g4 z2
  generalize W2.drew.setCell ⟨g, i * 5 + 2, none⟩ (.int .i64 (latI m ev)) = W3 at *
  obtain ⟨P3, x3, y3, y4⟩ := T2.out
  have HC := hide (count_r W3 P3 ev ti up dn m i ⟨rh, false, latI m ev, rf, rt⟩ ok _ b g x3 HS2.out f0 f1 t0 t1)
  have HM := hide (fun (O : Thing) V (d : Does O P3 W3 V) => Does.more (w := w) y3 y4 d)
  rw [List.set_set] at HC
  clear x3 y3 y4 T2 HS2 HA
  go_wp2_with fail
  refine HC.out.mono ?_
  rintro e w4 ⟨rfl, d4⟩
  have T4 := hide (HM.out _ _ d4)
  clear d4 HC HM
  try simp only at T4
  rw [show ctF ok ⟨rh, false, latI m ev, rf, rt⟩ = ctF ok ⟨rh, re, ru, rf, rt⟩ from rfl, show ctT ok ⟨rh, false, latI m ev, rf, rt⟩ = ctT ok ⟨rh, re, ru, rf, rt⟩ from rfl] at T4
  unfold anN at HN
  unfold anR anH at HZ
  simp only at HN HZ
  generalize ctF ok ⟨rh, re, ru, rf, rt⟩ = F at *
  generalize ctT ok ⟨rh, re, ru, rf, rt⟩ = T at *
  generalize latI m ev = u at *
  have HS4 : Hid ((L.set i ⟨rh, false, u, F, T⟩)[i]? = some ⟨rh, false, u, F, T⟩) := hide (by rw [List.getElem?_set_self HLI.out])
  obtain ⟨_, x4, -, -⟩ := T4.out
  obtain ⟨c0, c1, c2, c3, c4, c5, -⟩ := x4.1.cB
  obtain ⟨g0, g1, g2, g3, g4⟩ := x4.1.cG HS4.out
  simp only [Bool.false_bne] at g0
  have z0 := x4.1.fz (i * 5)
  clear x4
  cases rh with
  | false =>
    by_cases hF : up ≤ F
    · have hd : decide (up ≤ F) = true := decide_eq_true hF
      have e1 : N = 1 := by rw [← HN.out]; simp [hF]
      have e2 : Z = ⟨true, false, u, F, T⟩ := by rw [← HZ.out]; simp [hF]
      subst e1 e2
      have T5 : Hid (∀ n, Does (Hs ev ti up dn m (L.set i ⟨true, false, u, F, T⟩) b g) P w ((w4.drewN n).setCell ⟨g, i * 5, none⟩ (.bool true))) := hide (fun n => by
        have := (T4.out.e (Fr.drewN none' _ n)).trans (fun _ y => HsT.set2 (j := 0) (r' := ⟨true, false, u, F, T⟩) (v := .bool true) y HS4.out (by omega) rfl)
        rw [List.set_set] at this
        exact this)
      clear HN HZ T4
      go_wp2_with fail
      go_quiet (fail)
      go_wp2_with fail
      go_ret2
      exact ⟨rfl, T5.out _⟩
    · have hd : decide (up ≤ F) = false := decide_eq_false hF
      have e1 : N = 0 := by rw [← HN.out]; simp [hF]
      have e2 : Z = ⟨false, false, u, F, T⟩ := by rw [← HZ.out]; simp [hF]
      subst e1 e2
      clear HN HZ
      go_wp2_with fail
      go_quiet (fail)
      go_wp2_with fail
      go_quiet (fail)
      go_wp2_with fail
      go_ret2
      refine ⟨rfl, T4.out.e ?_⟩
      repeat apply Fr.d
      exact Fr.refl _ _
  | true =>
    by_cases hT : dn ≤ T
    · have hd : decide (dn ≤ T) = true := decide_eq_true hT
      have e1 : N = 2 := by rw [← HN.out]; simp [hT]
      have e2 : Z = ⟨false, false, u, F, T⟩ := by rw [← HZ.out]; simp [hT]
      subst e1 e2
      have T5 : Hid (∀ n, Does (Hs ev ti up dn m (L.set i ⟨false, false, u, F, T⟩) b g) P w ((w4.drewN n).setCell ⟨g, i * 5, none⟩ (.bool false))) := hide (fun n => by
        have := (T4.out.e (Fr.drewN none' _ n)).trans (fun _ y => HsT.set2 (j := 0) (r' := ⟨false, false, u, F, T⟩) (v := .bool false) y HS4.out (by omega) rfl)
        rw [List.set_set] at this
        exact this)
      clear HN HZ T4
      go_wp2_with fail
      go_quiet (fail)
      go_wp2_with fail
      go_quiet (fail)
      go_wp2_with fail
      go_ret2
      exact ⟨rfl, by first | exact T5.out _ | (have := T5.out; simp only [World.drewN_drewN]; exact this _)⟩
    · have hd : decide (dn ≤ T) = false := decide_eq_false hT
      have e1 : N = 0 := by rw [← HN.out]; simp [hT]
      have e2 : Z = ⟨true, false, u, F, T⟩ := by rw [← HZ.out]; simp [hT]
      subst e1 e2
      clear HN HZ
      go_wp2_with fail
      go_quiet (fail)
      go_wp2_with fail
      go_quiet (fail)
      go_wp2_with fail
      go_ret2
      refine ⟨rfl, T4.out.e ?_⟩
      repeat apply Fr.d
      exact Fr.refl _ _
theorem answer_nil (w : World) (now host : Int) (ok : Bool) : Calls Try.prog 10 #[.pointer none, .int .i64 now, .int .i64 host, .bool ok] w fun e w' => e = .returned (.tuple #[.int .i64 0, .int .i64 (if mom now then 6 else 1)]) ∧ w = w' := by
  have HR := hide (running_nil w now host)
  have hb : (if mom now then (6 : Int) else 1) = 6 ∨ (if mom now then (6 : Int) else 1) = 1 := by split <;> simp
  generalize (if mom now then (6 : Int) else 1) = x at *
  rcases hb with rfl | rfl
  all_goals
    go_enter Try.func10, Try.ntmps10
    go_wp2_with (go_at_call 21; refine HR.out.mono ?_; rintro e w' ⟨rfl, rfl⟩)
    go_ret2
    exact ⟨rfl, rfl⟩
end Go.Proofs.Ytlnckiknikaifaa
