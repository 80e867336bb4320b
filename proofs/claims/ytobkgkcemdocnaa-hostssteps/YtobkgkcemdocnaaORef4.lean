/- The document's Result. -/
import Derived.Test.YtobkgkcemdocnaaORef3
import Derived.Deep.RegionHeld3
namespace Go.Proofs.Ytobkgkcemdocnaa
open Go.ChangeShapes Go.WideShapes Go.ChangeAt Go.RowKit

theorem Blk.set {b : Nat} {c : Array Value} {T : TypeId} {w : World} {P : Nat → Prop} (h : Blk b (.cells c T (0, 0)) w P) (i : Nat) (v : Value) {c' : Array Value} (e : c.setIfInBounds i v = c') : Does (Blk b (.cells c' T (0, 0))) P w (w.setCell ⟨b, i, none⟩ v) :=
  ⟨P, ⟨by rw [hp_set h.1 i v, e], h.2⟩, (Fr.set _ _ _ _).mono (fun k _ x => (h.2 k).2 x), fun _ hk => .inl hk⟩
theorem Does.newblk {B : Thing} [ob : Ob B] {P : Nat → Prop} {w w1 : World} (h : Does B P w w1) (o : Obj) : Does (Two (Blk w1.heap.size o) B) P w (w1.alloc o) := by
  obtain ⟨P', h1, h2, h3⟩ := h
  have F := Fr.alloc none' w1 o
  refine ⟨fun k => k = w1.heap.size ∨ P' k, ⟨fun k => k = w1.heap.size, P', ⟨hp_new w1 o, fun _ => Iff.rfl⟩, ob.fr _ _ _ _ h1 F (fun _ _ x => x), fun k hk x => ?_, fun _ => Iff.rfl⟩, h2.trans F (fun _ _ x => x.elim), fun k hk => ?_⟩
  · have := ob.lt _ _ _ h1 x; omega
  · rcases hk with rfl | x
    · exact .inr h2.size
    · exact h3 k x

/-- A whole row stored, cell by cell. -/
theorem HsT.store5 {T R : TypeId} {fl bs lo sh la : Int} {L : List HR} {b g : Nat} {z : World} {P : Nat → Prop} (h : HsT T R true fl bs lo sh la L b g z P) {i : Nat} {r : HR} (hr : L[i]? = some r) (r' : HR) :
    (z.cell? ⟨g, i * 5, none⟩ = some (.bool (!r.h)) ∧ z.frozen? ⟨g, i * 5, none⟩ = false ∧ (z.setCell ⟨g, i * 5, none⟩ (.bool (!r'.h))).cell? ⟨g, i * 5 + 1, none⟩ = some (.bool r.e) ∧ (z.setCell ⟨g, i * 5, none⟩ (.bool (!r'.h))).frozen? ⟨g, i * 5 + 1, none⟩ = false ∧ ((z.setCell ⟨g, i * 5, none⟩ (.bool (!r'.h))).setCell ⟨g, i * 5 + 1, none⟩ (.bool r'.e)).cell? ⟨g, i * 5 + 2, none⟩ = some (.int .i64 r.u) ∧ ((z.setCell ⟨g, i * 5, none⟩ (.bool (!r'.h))).setCell ⟨g, i * 5 + 1, none⟩ (.bool r'.e)).frozen? ⟨g, i * 5 + 2, none⟩ = false ∧ (((z.setCell ⟨g, i * 5, none⟩ (.bool (!r'.h))).setCell ⟨g, i * 5 + 1, none⟩ (.bool r'.e)).setCell ⟨g, i * 5 + 2, none⟩ (.int .i64 r'.u)).cell? ⟨g, i * 5 + 3, none⟩ = some (.int .i64 r.f) ∧ (((z.setCell ⟨g, i * 5, none⟩ (.bool (!r'.h))).setCell ⟨g, i * 5 + 1, none⟩ (.bool r'.e)).setCell ⟨g, i * 5 + 2, none⟩ (.int .i64 r'.u)).frozen? ⟨g, i * 5 + 3, none⟩ = false ∧ ((((z.setCell ⟨g, i * 5, none⟩ (.bool (!r'.h))).setCell ⟨g, i * 5 + 1, none⟩ (.bool r'.e)).setCell ⟨g, i * 5 + 2, none⟩ (.int .i64 r'.u)).setCell ⟨g, i * 5 + 3, none⟩ (.int .i64 r'.f)).cell? ⟨g, i * 5 + 4, none⟩ = some (.int .i64 r.t) ∧ ((((z.setCell ⟨g, i * 5, none⟩ (.bool (!r'.h))).setCell ⟨g, i * 5 + 1, none⟩ (.bool r'.e)).setCell ⟨g, i * 5 + 2, none⟩ (.int .i64 r'.u)).setCell ⟨g, i * 5 + 3, none⟩ (.int .i64 r'.f)).frozen? ⟨g, i * 5 + 4, none⟩ = false) ∧ Does (HsT T R true fl bs lo sh la (L.set i r') b g) P z (((((z.setCell ⟨g, i * 5, none⟩ (.bool (!r'.h))).setCell ⟨g, i * 5 + 1, none⟩ (.bool r'.e)).setCell ⟨g, i * 5 + 2, none⟩ (.int .i64 r'.u)).setCell ⟨g, i * 5 + 3, none⟩ (.int .i64 r'.f)).setCell ⟨g, i * 5 + 4, none⟩ (.int .i64 r'.t)) := by
  have hli : i < L.length := (List.getElem?_eq_some_iff.1 hr).1
  have d0 : Does (HsT T R true fl bs lo sh la L b g) P z z := Does.refl h
  have d1 : Does (HsT T R true fl bs lo sh la (L.set i ⟨r'.h, r.e, r.u, r.f, r.t⟩) b g) P z (z.setCell ⟨g, i * 5, none⟩ (.bool (!r'.h))) := by
    have := d0.trans (fun _ y => HsT.set2 (j := 0) (r' := ⟨r'.h, r.e, r.u, r.f, r.t⟩) (v := (.bool (!r'.h))) y hr (by omega) (by simp [enc]))
    exact this
  have d2 : Does (HsT T R true fl bs lo sh la (L.set i ⟨r'.h, r'.e, r.u, r.f, r.t⟩) b g) P z ((z.setCell ⟨g, i * 5, none⟩ (.bool (!r'.h))).setCell ⟨g, i * 5 + 1, none⟩ (.bool r'.e)) := by
    have := d1.trans (fun _ y => HsT.set2 (j := 1) (r' := ⟨r'.h, r'.e, r.u, r.f, r.t⟩) (v := (.bool r'.e)) y (show (L.set i ⟨r'.h, r.e, r.u, r.f, r.t⟩)[i]? = some ⟨r'.h, r.e, r.u, r.f, r.t⟩ by rw [List.getElem?_set_self hli]) (by omega) (by simp [enc]))
    rw [List.set_set] at this
    exact this
  have d3 : Does (HsT T R true fl bs lo sh la (L.set i ⟨r'.h, r'.e, r'.u, r.f, r.t⟩) b g) P z (((z.setCell ⟨g, i * 5, none⟩ (.bool (!r'.h))).setCell ⟨g, i * 5 + 1, none⟩ (.bool r'.e)).setCell ⟨g, i * 5 + 2, none⟩ (.int .i64 r'.u)) := by
    have := d2.trans (fun _ y => HsT.set2 (j := 2) (r' := ⟨r'.h, r'.e, r'.u, r.f, r.t⟩) (v := (.int .i64 r'.u)) y (show (L.set i ⟨r'.h, r'.e, r.u, r.f, r.t⟩)[i]? = some ⟨r'.h, r'.e, r.u, r.f, r.t⟩ by rw [List.getElem?_set_self hli]) (by omega) (by simp [enc]))
    rw [List.set_set] at this
    exact this
  have d4 : Does (HsT T R true fl bs lo sh la (L.set i ⟨r'.h, r'.e, r'.u, r'.f, r.t⟩) b g) P z ((((z.setCell ⟨g, i * 5, none⟩ (.bool (!r'.h))).setCell ⟨g, i * 5 + 1, none⟩ (.bool r'.e)).setCell ⟨g, i * 5 + 2, none⟩ (.int .i64 r'.u)).setCell ⟨g, i * 5 + 3, none⟩ (.int .i64 r'.f)) := by
    have := d3.trans (fun _ y => HsT.set2 (j := 3) (r' := ⟨r'.h, r'.e, r'.u, r'.f, r.t⟩) (v := (.int .i64 r'.f)) y (show (L.set i ⟨r'.h, r'.e, r'.u, r.f, r.t⟩)[i]? = some ⟨r'.h, r'.e, r'.u, r.f, r.t⟩ by rw [List.getElem?_set_self hli]) (by omega) (by simp [enc]))
    rw [List.set_set] at this
    exact this
  have d5 : Does (HsT T R true fl bs lo sh la (L.set i ⟨r'.h, r'.e, r'.u, r'.f, r'.t⟩) b g) P z (((((z.setCell ⟨g, i * 5, none⟩ (.bool (!r'.h))).setCell ⟨g, i * 5 + 1, none⟩ (.bool r'.e)).setCell ⟨g, i * 5 + 2, none⟩ (.int .i64 r'.u)).setCell ⟨g, i * 5 + 3, none⟩ (.int .i64 r'.f)).setCell ⟨g, i * 5 + 4, none⟩ (.int .i64 r'.t)) := by
    have := d4.trans (fun _ y => HsT.set2 (j := 4) (r' := ⟨r'.h, r'.e, r'.u, r'.f, r'.t⟩) (v := (.int .i64 r'.t)) y (show (L.set i ⟨r'.h, r'.e, r'.u, r'.f, r.t⟩)[i]? = some ⟨r'.h, r'.e, r'.u, r'.f, r.t⟩ by rw [List.getElem?_set_self hli]) (by omega) (by simp [enc]))
    rw [List.set_set] at this
    exact this
  refine ⟨⟨by obtain ⟨_, y, _⟩ := d0; have q := (y.1.cG hr).1; simpa using q, by obtain ⟨_, y, _⟩ := d0; exact y.1.fz _, by obtain ⟨_, y, _⟩ := d1; have q := (y.1.cG (show (L.set i ⟨r'.h, r.e, r.u, r.f, r.t⟩)[i]? = some ⟨r'.h, r.e, r.u, r.f, r.t⟩ by rw [List.getElem?_set_self hli])).2.1; simpa using q, by obtain ⟨_, y, _⟩ := d1; exact y.1.fz _, by obtain ⟨_, y, _⟩ := d2; have q := (y.1.cG (show (L.set i ⟨r'.h, r'.e, r.u, r.f, r.t⟩)[i]? = some ⟨r'.h, r'.e, r.u, r.f, r.t⟩ by rw [List.getElem?_set_self hli])).2.2.1; simpa using q, by obtain ⟨_, y, _⟩ := d2; exact y.1.fz _, by obtain ⟨_, y, _⟩ := d3; have q := (y.1.cG (show (L.set i ⟨r'.h, r'.e, r'.u, r.f, r.t⟩)[i]? = some ⟨r'.h, r'.e, r'.u, r.f, r.t⟩ by rw [List.getElem?_set_self hli])).2.2.2.1; simpa using q, by obtain ⟨_, y, _⟩ := d3; exact y.1.fz _, by obtain ⟨_, y, _⟩ := d4; have q := (y.1.cG (show (L.set i ⟨r'.h, r'.e, r'.u, r'.f, r.t⟩)[i]? = some ⟨r'.h, r'.e, r'.u, r'.f, r.t⟩ by rw [List.getElem?_set_self hli])).2.2.2.2; simpa using q, by obtain ⟨_, y, _⟩ := d4; exact y.1.fz _⟩, ?_⟩
  exact d5
theorem rlater_t (t d : Int) (w : World) (h0 : 0 ≤ t) (h1 : t ≤ 4611686018427387904) (d0 : 0 ≤ d) (d1 : d ≤ 1000000) :
    Calls Try.prog 33 #[.int .i64 t, .int .i64 d] w fun e w' => e = .returned (.int .i64 (latI t d)) ∧ w = w' := by
  unfold latI
  have h2 : decide (t + d < t) = false := decide_eq_false (by omega)
  by_cases h : 4611686018427387904 - t < d
  · rw [if_pos h]
    have h3 : decide (4611686018427387904 < t + d) = true := decide_eq_true (by omega)
    go_enter Try.func33, Try.ntmps33
    go_wp2
    go_ret
    exact ⟨rfl, rfl⟩
  · rw [if_neg h]
    have h3 : decide (4611686018427387904 < t + d) = false := decide_eq_false (by omega)
    go_enter Try.func33, Try.ntmps33
    go_wp2
    go_ret
    exact ⟨rfl, rfl⟩
theorem cell_fr {w w' : World} (F : Fr none' w w') {a : Addr} {v : Value} (h : w.cell? a = some v) : w'.cell? a = some v := (World.cell?_of_block (F.block a.block (World.block_lt_of_cell? w a h) id)).trans h
set_option maxHeartbeats 4000000 in
set_option maxRecDepth 100000 in
theorem rresult_any (w : World) (P : Nat → Prop) (fl bs lo sh la now K : Int) (ok : Bool) (i : Nat) (r : HR) (L : List HR) (b g : Nat) (h : Rs fl bs lo sh la L b g w P) (k : HOk fl bs lo sh la K L) (hK : K < 8796093022207) (hm : mom now = true) (hr : (brS (mx la now) L)[i]? = some r) :
    Calls Try.prog 22 #[.pointer (some ⟨b, 0, none⟩), .int .i64 now, .int .i64 (i : Int), .bool ok] w fun e w' => e = .returned (.tuple #[.bool (resB fl sh (brS (mx la now) L) r ok), .int .i64 0]) ∧ Does (Rs fl bs lo sh (mx la now) ((brS (mx la now) L).set i (resR fl bs lo sh (mx la now) (brS (mx la now) L) r ok)) b g) P w w' := by
  have hi : i < L.length := by obtain ⟨q, _⟩ := List.getElem?_eq_some_iff.1 hr; rwa [brS_len] at q
  have HA := hide (rasked_any w P fl bs lo sh la now i L b g h k.n1 hm hi)
  have HR := hide hr
  have HK := hide (k.bring hm)
  have HL1 := hide (brS_len (mx la now) L)
  clear h hm hr k
  generalize brS (mx la now) L = L1 at *
  generalize mx la now = m at *
  obtain ⟨n, Hn⟩ : ∃ n, Hid (L.length = n) := ⟨_, hide rfl⟩
  rw [Hn.out] at hi HL1
  have hi2 : (i : Int) < (n : Int) := by omega
  obtain ⟨⟨rf0, rf1⟩, ⟨rt0, rt1⟩, -⟩ := HK.out.rows r (List.mem_of_getElem? HR.out)
  have fl0 := HK.out.f0
  have fl1 := HK.out.f1
  obtain ⟨rh, re, ru, rf, rt⟩ := r
  simp only at rf0 rf1 rt0 rt1
  have HN16 : Hid (n ≤ 16) := hide (by rw [← HL1.out]; exact HK.out.n1)
  cases re with
  | true =>
    have e1 : resB fl sh L1 ⟨rh, true, ru, rf, rt⟩ ok = false := rfl
    have e2 : resR fl bs lo sh m L1 ⟨rh, true, ru, rf, rt⟩ ok = ⟨rh, true, ru, rf, rt⟩ := rfl
    rw [e1, e2, set_same HR.out]
    go_enter Try.func22, Try.ntmps22
    go_wp2_with fail
    refine HA.out.mono ?_
    rintro e w1 ⟨rfl, d⟩
    have HD := hide d
    obtain ⟨P2, y, -, -⟩ := d
    obtain ⟨c0, c1, c2, c3, c4, c5, f4⟩ := y.1.cB
    rw [HL1.out] at c5
    obtain ⟨g0, g1, g2, g3, g4⟩ := y.1.cG HR.out
    clear y HA
    go_upto_region 5 with fail
    have T1 : Hid (Does (Two (Blk w1.heap.size (rwO ⟨rh, true, ru, rf, rt⟩)) (Rs fl bs lo sh m L1 b g)) P w (w1.alloc (rwO ⟨rh, true, ru, rf, rt⟩))) := hide (HD.out.newblk _)
    clear c0 c1 c2 c3 c4 c5 f4 g0 g1 g2 g3 g4 HD
    generalize w1.alloc (rwO ⟨rh, true, ru, rf, rt⟩) = W2 at *
    generalize w1.heap.size = ew at *
    have k1 : W2.cell? ⟨ew, 1, none⟩ = some (.bool true) := by obtain ⟨_, x⟩ := T1.out.fst_of; exact cell_of x.1 1
    go_wp2_with fail
    go_ret2
    exact ⟨rfl, T1.out.snd⟩
  | false =>
    cases ok with
    | true =>
      have e1 : resB fl sh L1 ⟨rh, false, ru, rf, rt⟩ true = false := by unfold resB; simp
      have e2 : resR fl bs lo sh m L1 ⟨rh, false, ru, rf, rt⟩ true = ⟨rh, false, ru, 0, rt⟩ := rfl
      rw [e1, e2]
      clear e1 e2
      go_enter Try.func22, Try.ntmps22
      go_wp2_with fail
      refine HA.out.mono ?_
      rintro e w1 ⟨rfl, d⟩
      have HD := hide d
      obtain ⟨P2, y, -, -⟩ := d
      obtain ⟨c0, c1, c2, c3, c4, c5, f4⟩ := y.1.cB
      rw [HL1.out] at c5
      obtain ⟨g0, g1, g2, g3, g4⟩ := y.1.cG HR.out
      clear y HA
      go_upto_region 5 with fail
      have T1 : Hid (Does (Two (Blk w1.heap.size (rwO ⟨rh, false, ru, rf, rt⟩)) (Rs fl bs lo sh m L1 b g)) P w (w1.alloc (rwO ⟨rh, false, ru, rf, rt⟩))) := hide (HD.out.newblk _)
      clear c0 c1 c2 c3 c4 c5 f4 g0 g1 g2 g3 g4 HD
      generalize w1.alloc (rwO ⟨rh, false, ru, rf, rt⟩) = W2 at *
      generalize w1.heap.size = ew at *
      have k1 : W2.cell? ⟨ew, 1, none⟩ = some (.bool false) := by obtain ⟨_, x⟩ := T1.out.fst_of; exact cell_of x.1 1
      go_upto_region 8 with fail
      obtain ⟨P3, x3⟩ := T1.out.snd_of
      obtain ⟨c0, c1, c2, c3, c4, c5, f4⟩ := x3.1.cB
      rw [HL1.out] at c5
      obtain ⟨g0, g1, g2, g3, g4⟩ := x3.1.cG HR.out
      have z3 := x3.1.fz (i * 5 + 3)
      have T2 : Hid (Does (Two (Blk ew (rwO ⟨rh, false, ru, rf, rt⟩)) (Rs fl bs lo sh m (L1.set i ⟨rh, false, ru, 0, rt⟩) b g)) P w (W2.setCell ⟨g, i * 5 + 3, none⟩ (.int .i64 0))) := hide (T1.out.right (fun _ y => HsT.set2 (j := 3) y HR.out (by omega) rfl))
      clear x3
      go_wp2_with fail
      go_ret2
      exact ⟨rfl, T2.out.snd⟩
    | false =>
      have e1 : resB fl sh L1 ⟨rh, false, ru, rf, rt⟩ false = ejB fl sh L1 ⟨rh, false, ru, rf, rt⟩ := by unfold resB; simp
      have e2 : resR fl bs lo sh m L1 ⟨rh, false, ru, rf, rt⟩ false = if ejB fl sh L1 ⟨rh, false, ru, rf, rt⟩ then ejR bs lo m ⟨rh, false, ru, rf, rt⟩ else ⟨rh, false, ru, rf + 1, rt⟩ := rfl
      rw [e1, e2]
      by_cases q0 : fl = 0
      · have e3 : ejB fl sh L1 ⟨rh, false, ru, rf, rt⟩ = false := by unfold ejB; simp [q0]
        rw [e3, if_neg (by simp)]
        have q0' : decide (0 < fl) = false := decide_eq_false (by omega)
        clear e1 e2 e3 q0
        go_enter Try.func22, Try.ntmps22
        go_wp2_with fail
        refine HA.out.mono ?_
        rintro e w1 ⟨rfl, d⟩
        have HD := hide d
        obtain ⟨P2, y, -, -⟩ := d
        obtain ⟨c0, c1, c2, c3, c4, c5, f4⟩ := y.1.cB
        rw [HL1.out] at c5
        obtain ⟨g0, g1, g2, g3, g4⟩ := y.1.cG HR.out
        clear y HA
        go_upto_region 5 with fail
        have T1 : Hid (Does (Two (Blk w1.heap.size (rwO ⟨rh, false, ru, rf, rt⟩)) (Rs fl bs lo sh m L1 b g)) P w (w1.alloc (rwO ⟨rh, false, ru, rf, rt⟩))) := hide (HD.out.newblk _)
        clear c0 c1 c2 c3 c4 c5 f4 g0 g1 g2 g3 g4 HD
        generalize w1.alloc (rwO ⟨rh, false, ru, rf, rt⟩) = W2 at *
        generalize w1.heap.size = ew at *
        have k1 : W2.cell? ⟨ew, 1, none⟩ = some (.bool false) := by obtain ⟨_, x⟩ := T1.out.fst_of; exact cell_of x.1 1
        have T2 : Hid (Does (Two (Blk ew (rwO ⟨rh, false, ru, rf + 1, rt⟩)) (Rs fl bs lo sh m L1 b g)) P w (W2.setCell ⟨ew, 3, none⟩ (.int .i64 (rf + 1)))) := hide (T1.out.left (fun _ y => y.set 3 _ rfl))
        have k3 : W2.cell? ⟨ew, 3, none⟩ = some (.int .i64 rf) := by obtain ⟨_, x⟩ := T1.out.fst_of; exact cell_of x.1 3
        have z3 : W2.frozen? ⟨ew, 3, none⟩ = false := by obtain ⟨_, x⟩ := T1.out.fst_of; exact frozen_of x.1 3
        go_upto_region 11 with fail
        clear k1 k3 z3 T1
        generalize W2.setCell ⟨ew, 3, none⟩ (.int .i64 (rf + 1)) = W3 at *
        obtain ⟨P3, x3⟩ := T2.out.snd_of
        obtain ⟨c0, c1, c2, c3, c4, c5, f4⟩ := x3.1.cB
        rw [HL1.out] at c5
        have kf : W3.cell? ⟨ew, 3, none⟩ = some (.int .i64 (rf + 1)) := by obtain ⟨_, x⟩ := T2.out.fst_of; exact cell_of x.1 3
        clear x3
        go_quiet (fail)
        have TZ : Hid (Does (Two (Blk ew (rwO ⟨rh, false, ru, rf + 1, rt⟩)) (Rs fl bs lo sh m L1 b g)) P w (W3.drewN nq)) := hide (T2.out.e (Fr.drewN _ _ _))
        generalize W3.drewN nq = z at *
        clear c0 c1 c2 c3 c4 c5 f4 T2 kf
        obtain ⟨P3, x3⟩ := TZ.out.snd_of
        obtain ⟨c0, c1, c2, c3, c4, c5, f4⟩ := x3.1.cB
        rw [HL1.out] at c5
        obtain ⟨P4, x4⟩ := TZ.out.fst_of
        have k0 : z.cell? ⟨ew, 0, none⟩ = some (.bool (!rh)) := cell_of x4.1 0
        have k1 : z.cell? ⟨ew, 1, none⟩ = some (.bool false) := cell_of x4.1 1
        have k2 : z.cell? ⟨ew, 2, none⟩ = some (.int .i64 (ru)) := cell_of x4.1 2
        have k3 : z.cell? ⟨ew, 3, none⟩ = some (.int .i64 (rf + 1)) := cell_of x4.1 3
        have k4 : z.cell? ⟨ew, 4, none⟩ = some (.int .i64 (rt)) := cell_of x4.1 4
        obtain ⟨⟨o0, p0, o1, p1, o2, p2, o3, p3, o4, p4⟩, -⟩ := HsT.store5 x3 HR.out ⟨rh, false, ru, rf + 1, rt⟩
        have T5 : Hid (Does (Two (Blk ew (rwO ⟨rh, false, ru, rf + 1, rt⟩)) (Rs fl bs lo sh m (L1.set i ⟨rh, false, ru, rf + 1, rt⟩) b g)) P w (((((z.setCell ⟨g, i * 5, none⟩ (.bool (!rh))).setCell ⟨g, i * 5 + 1, none⟩ (.bool false)).setCell ⟨g, i * 5 + 2, none⟩ (.int .i64 (ru))).setCell ⟨g, i * 5 + 3, none⟩ (.int .i64 (rf + 1))).setCell ⟨g, i * 5 + 4, none⟩ (.int .i64 (rt)))) := hide (TZ.out.right (fun _ y => (HsT.store5 y HR.out ⟨rh, false, ru, rf + 1, rt⟩).2))
        clear x3 x4
        go_upto_region 20 with fail
        have cS : (fun W => W.cell? ⟨b, 5, none⟩ = some (.slice (some ⟨g, 0, none⟩) n n) ∧ W.cell? ⟨ew, 0, none⟩ = some (.bool (!rh)) ∧ W.cell? ⟨ew, 1, none⟩ = some (.bool false) ∧ W.cell? ⟨ew, 2, none⟩ = some (.int .i64 (ru)) ∧ W.cell? ⟨ew, 3, none⟩ = some (.int .i64 (rf + 1)) ∧ W.cell? ⟨ew, 4, none⟩ = some (.int .i64 (rt))) z.drew := ⟨c5, k0, k1, k2, k3, k4⟩
        refine wp_region_noPanic ?_
        refine wp_region_held_drew (S := fun W => W.cell? ⟨b, 5, none⟩ = some (.slice (some ⟨g, 0, none⟩) n n) ∧ W.cell? ⟨ew, 0, none⟩ = some (.bool (!rh)) ∧ W.cell? ⟨ew, 1, none⟩ = some (.bool false) ∧ W.cell? ⟨ew, 2, none⟩ = some (.int .i64 (ru)) ∧ W.cell? ⟨ew, 3, none⟩ = some (.int .i64 (rf + 1)) ∧ W.cell? ⟨ew, 4, none⟩ = some (.int .i64 (rt))) (by kernel_rfl) cS (fun hHeld => ?_)
        refine wpAnyH_take (i := 0) (v := ?_) rfl (by kernel_rfl) (by kernel_rfl) (by kernel_rfl) (fun _ _ _ h => h) (Or.inl ⟨by rfl, ?_⟩) (by assumption) ?_
        rotate_left
        · (intro W hSw; obtain ⟨s0, s1, s2, s3, s4, s5⟩ := hSw; go_simp; try with_reducible rfl)
        simp only [List.getElem_toArray, List.getElem_cons_zero, Act.put, List.setIfInBounds_toArray, List.set_cons_zero, List.set_cons_succ]
        refine wpAnyH_take (i := 1) (v := ?_) rfl (by kernel_rfl) (by kernel_rfl) (by kernel_rfl) (fun _ _ _ h => h) (Or.inl ⟨by rfl, ?_⟩) (by assumption) ?_
        rotate_left
        · (intro W hSw; obtain ⟨s0, s1, s2, s3, s4, s5⟩ := hSw; go_simp; try with_reducible rfl)
        simp only [List.getElem_toArray, List.getElem_cons_zero, List.getElem_cons_succ, Act.put, List.setIfInBounds_toArray, List.set_cons_zero, List.set_cons_succ]
        refine wpAnyH_take (i := 2) (v := ?_) rfl (by kernel_rfl) (by kernel_rfl) (by kernel_rfl) (fun _ _ _ h => h) (Or.inl ⟨by rfl, ?_⟩) (by assumption) ?_
        rotate_left
        · (intro W hSw; obtain ⟨s0, s1, s2, s3, s4, s5⟩ := hSw; go_simp; try with_reducible rfl)
        simp only [List.getElem_toArray, List.getElem_cons_zero, List.getElem_cons_succ, Act.put, List.setIfInBounds_toArray, List.set_cons_zero, List.set_cons_succ]
        refine wpAnyH_take (i := 3) (v := ?_) rfl (by kernel_rfl) (by kernel_rfl) (by kernel_rfl) (fun _ _ _ h => h) (Or.inl ⟨by rfl, ?_⟩) (by assumption) ?_
        rotate_left
        · (intro W hSw; obtain ⟨s0, s1, s2, s3, s4, s5⟩ := hSw; go_simp; try with_reducible rfl)
        simp only [List.getElem_toArray, List.getElem_cons_zero, List.getElem_cons_succ, Act.put, List.setIfInBounds_toArray, List.set_cons_zero, List.set_cons_succ]
        refine wpAnyH_take (i := 4) (v := ?_) rfl (by kernel_rfl) (by kernel_rfl) (by kernel_rfl) (fun _ _ _ h => h) (Or.inl ⟨by rfl, ?_⟩) (by assumption) ?_
        rotate_left
        · (intro W hSw; obtain ⟨s0, s1, s2, s3, s4, s5⟩ := hSw; go_simp; try with_reducible rfl)
        simp only [List.getElem_toArray, List.getElem_cons_zero, List.getElem_cons_succ, Act.put, List.setIfInBounds_toArray, List.set_cons_zero, List.set_cons_succ]
        refine wpAnyH_take (i := 5) (v := ?_) rfl (by kernel_rfl) (by kernel_rfl) (by kernel_rfl) (fun _ _ _ h => h) (Or.inl ⟨by rfl, ?_⟩) (by assumption) ?_
        rotate_left
        · (intro W hSw; obtain ⟨s0, s1, s2, s3, s4, s5⟩ := hSw; go_simp; try with_reducible rfl)
        simp only [List.getElem_toArray, List.getElem_cons_zero, List.getElem_cons_succ, Act.put, List.setIfInBounds_toArray, List.set_cons_zero, List.set_cons_succ]
        refine wpAnyH_take (i := 6) (v := ?_) rfl (by kernel_rfl) (by kernel_rfl) (by kernel_rfl) (fun _ _ _ h => h) (Or.inl ⟨by rfl, ?_⟩) (by assumption) ?_
        rotate_left
        · (intro W hSw; obtain ⟨s0, s1, s2, s3, s4, s5⟩ := hSw; go_simp; try with_reducible rfl)
        simp only [List.getElem_toArray, List.getElem_cons_zero, List.getElem_cons_succ, Act.put, List.setIfInBounds_toArray, List.set_cons_zero, List.set_cons_succ]
        refine wpAnyH_ready (rs := [7]) (by kernel_rfl) (by simp) ?_
        refine AllReadyH.cons rfl (fun K hK => ?_) AllReadyH.nil
        clear cS hHeld
        go_simp
        clear c0 c1 c2 c3 c4 c5 f4 k0 k1 k2 k3 k4 o0 p0 o1 p1 o2 p2 o3 p3 o4 p4
        generalize (((((z.setCell ⟨g, i * 5, none⟩ (.bool (!rh))).setCell ⟨g, i * 5 + 1, none⟩ (.bool false)).setCell ⟨g, i * 5 + 2, none⟩ (.int .i64 (ru))).setCell ⟨g, i * 5 + 3, none⟩ (.int .i64 (rf + 1))).setCell ⟨g, i * 5 + 4, none⟩ (.int .i64 (rt))) = ZZ at T5 ⊢
        have cZ : (fun W => W.cell? ⟨b, 5, none⟩ = some (.slice (some ⟨g, 0, none⟩) n n) ∧ W.cell? ⟨ew, 0, none⟩ = some (.bool (!rh)) ∧ W.cell? ⟨ew, 1, none⟩ = some (.bool false) ∧ W.cell? ⟨ew, 2, none⟩ = some (.int .i64 (ru)) ∧ W.cell? ⟨ew, 3, none⟩ = some (.int .i64 (rf + 1)) ∧ W.cell? ⟨ew, 4, none⟩ = some (.int .i64 (rt))) ZZ.drew := by
          obtain ⟨P9, y9⟩ := T5.out.snd_of
          obtain ⟨u0, u1, u2, u3, u4, u5, -⟩ := y9.1.cB
          rw [List.length_set, HL1.out] at u5
          obtain ⟨P8, y8⟩ := T5.out.fst_of
          exact ⟨u5, cell_of y8.1 0, cell_of y8.1 1, cell_of y8.1 2, cell_of y8.1 3, cell_of y8.1 4⟩
        refine hK.out _ _ cZ (fun hHeld => ?_)
        clear hK K
        try simp only [List.getElem_toArray, List.getElem_cons_zero, List.getElem_cons_succ, Act.put, List.setIfInBounds_toArray, List.set_cons_zero, List.set_cons_succ]
        refine wpAnyH_done (by kernel_rfl) ?_ _
        clear hHeld cZ
        refine NoPanic.normal ?_
        have T6 := hide (T5.out.e (Fr.drew none' _))
        go_wp2_with fail
        go_ret2
        exact ⟨rfl, T6.out.snd⟩
      have q0' : decide (0 < fl) = true := decide_eq_true (by omega)
      have q0p : 0 < fl := by omega
      by_cases q1 : rf + 1 < fl
      · have e3 : ejB fl sh L1 ⟨rh, false, ru, rf, rt⟩ = false := by unfold ejB; rw [decide_eq_false (show ¬ fl ≤ rf + 1 by omega)]; simp
        rw [e3, if_neg (by simp)]
        have q1' : decide (fl ≤ rf + 1) = false := decide_eq_false (by omega)
        clear e1 e2 e3
        go_enter Try.func22, Try.ntmps22
        go_wp2_with fail
        refine HA.out.mono ?_
        rintro e w1 ⟨rfl, d⟩
        have HD := hide d
        obtain ⟨P2, y, -, -⟩ := d
        obtain ⟨c0, c1, c2, c3, c4, c5, f4⟩ := y.1.cB
        rw [HL1.out] at c5
        obtain ⟨g0, g1, g2, g3, g4⟩ := y.1.cG HR.out
        clear y HA
        go_upto_region 5 with fail
        have T1 : Hid (Does (Two (Blk w1.heap.size (rwO ⟨rh, false, ru, rf, rt⟩)) (Rs fl bs lo sh m L1 b g)) P w (w1.alloc (rwO ⟨rh, false, ru, rf, rt⟩))) := hide (HD.out.newblk _)
        clear c0 c1 c2 c3 c4 c5 f4 g0 g1 g2 g3 g4 HD
        generalize w1.alloc (rwO ⟨rh, false, ru, rf, rt⟩) = W2 at *
        generalize w1.heap.size = ew at *
        have k1 : W2.cell? ⟨ew, 1, none⟩ = some (.bool false) := by obtain ⟨_, x⟩ := T1.out.fst_of; exact cell_of x.1 1
        have T2 : Hid (Does (Two (Blk ew (rwO ⟨rh, false, ru, rf + 1, rt⟩)) (Rs fl bs lo sh m L1 b g)) P w (W2.setCell ⟨ew, 3, none⟩ (.int .i64 (rf + 1)))) := hide (T1.out.left (fun _ y => y.set 3 _ rfl))
        have k3 : W2.cell? ⟨ew, 3, none⟩ = some (.int .i64 rf) := by obtain ⟨_, x⟩ := T1.out.fst_of; exact cell_of x.1 3
        have z3 : W2.frozen? ⟨ew, 3, none⟩ = false := by obtain ⟨_, x⟩ := T1.out.fst_of; exact frozen_of x.1 3
        go_upto_region 11 with fail
        clear k1 k3 z3 T1
        generalize W2.setCell ⟨ew, 3, none⟩ (.int .i64 (rf + 1)) = W3 at *
        obtain ⟨P3, x3⟩ := T2.out.snd_of
        obtain ⟨c0, c1, c2, c3, c4, c5, f4⟩ := x3.1.cB
        rw [HL1.out] at c5
        have kf : W3.cell? ⟨ew, 3, none⟩ = some (.int .i64 (rf + 1)) := by obtain ⟨_, x⟩ := T2.out.fst_of; exact cell_of x.1 3
        clear x3
        go_quiet (fail)
        have TZ : Hid (Does (Two (Blk ew (rwO ⟨rh, false, ru, rf + 1, rt⟩)) (Rs fl bs lo sh m L1 b g)) P w (W3.drewN nq)) := hide (T2.out.e (Fr.drewN _ _ _))
        generalize W3.drewN nq = z at *
        clear c0 c1 c2 c3 c4 c5 f4 T2 kf
        obtain ⟨P3, x3⟩ := TZ.out.snd_of
        obtain ⟨c0, c1, c2, c3, c4, c5, f4⟩ := x3.1.cB
        rw [HL1.out] at c5
        obtain ⟨P4, x4⟩ := TZ.out.fst_of
        have k0 : z.cell? ⟨ew, 0, none⟩ = some (.bool (!rh)) := cell_of x4.1 0
        have k1 : z.cell? ⟨ew, 1, none⟩ = some (.bool false) := cell_of x4.1 1
        have k2 : z.cell? ⟨ew, 2, none⟩ = some (.int .i64 (ru)) := cell_of x4.1 2
        have k3 : z.cell? ⟨ew, 3, none⟩ = some (.int .i64 (rf + 1)) := cell_of x4.1 3
        have k4 : z.cell? ⟨ew, 4, none⟩ = some (.int .i64 (rt)) := cell_of x4.1 4
        obtain ⟨⟨o0, p0, o1, p1, o2, p2, o3, p3, o4, p4⟩, -⟩ := HsT.store5 x3 HR.out ⟨rh, false, ru, rf + 1, rt⟩
        have T5 : Hid (Does (Two (Blk ew (rwO ⟨rh, false, ru, rf + 1, rt⟩)) (Rs fl bs lo sh m (L1.set i ⟨rh, false, ru, rf + 1, rt⟩) b g)) P w (((((z.setCell ⟨g, i * 5, none⟩ (.bool (!rh))).setCell ⟨g, i * 5 + 1, none⟩ (.bool false)).setCell ⟨g, i * 5 + 2, none⟩ (.int .i64 (ru))).setCell ⟨g, i * 5 + 3, none⟩ (.int .i64 (rf + 1))).setCell ⟨g, i * 5 + 4, none⟩ (.int .i64 (rt)))) := hide (TZ.out.right (fun _ y => (HsT.store5 y HR.out ⟨rh, false, ru, rf + 1, rt⟩).2))
        clear x3 x4
        go_upto_region 20 with fail
        have cS : (fun W => W.cell? ⟨b, 5, none⟩ = some (.slice (some ⟨g, 0, none⟩) n n) ∧ W.cell? ⟨ew, 0, none⟩ = some (.bool (!rh)) ∧ W.cell? ⟨ew, 1, none⟩ = some (.bool false) ∧ W.cell? ⟨ew, 2, none⟩ = some (.int .i64 (ru)) ∧ W.cell? ⟨ew, 3, none⟩ = some (.int .i64 (rf + 1)) ∧ W.cell? ⟨ew, 4, none⟩ = some (.int .i64 (rt))) z.drew := ⟨c5, k0, k1, k2, k3, k4⟩
        refine wp_region_noPanic ?_
        refine wp_region_held_drew (S := fun W => W.cell? ⟨b, 5, none⟩ = some (.slice (some ⟨g, 0, none⟩) n n) ∧ W.cell? ⟨ew, 0, none⟩ = some (.bool (!rh)) ∧ W.cell? ⟨ew, 1, none⟩ = some (.bool false) ∧ W.cell? ⟨ew, 2, none⟩ = some (.int .i64 (ru)) ∧ W.cell? ⟨ew, 3, none⟩ = some (.int .i64 (rf + 1)) ∧ W.cell? ⟨ew, 4, none⟩ = some (.int .i64 (rt))) (by kernel_rfl) cS (fun hHeld => ?_)
        refine wpAnyH_take (i := 0) (v := ?_) rfl (by kernel_rfl) (by kernel_rfl) (by kernel_rfl) (fun _ _ _ h => h) (Or.inl ⟨by rfl, ?_⟩) (by assumption) ?_
        rotate_left
        · (intro W hSw; obtain ⟨s0, s1, s2, s3, s4, s5⟩ := hSw; go_simp; try with_reducible rfl)
        simp only [List.getElem_toArray, List.getElem_cons_zero, Act.put, List.setIfInBounds_toArray, List.set_cons_zero, List.set_cons_succ]
        refine wpAnyH_take (i := 1) (v := ?_) rfl (by kernel_rfl) (by kernel_rfl) (by kernel_rfl) (fun _ _ _ h => h) (Or.inl ⟨by rfl, ?_⟩) (by assumption) ?_
        rotate_left
        · (intro W hSw; obtain ⟨s0, s1, s2, s3, s4, s5⟩ := hSw; go_simp; try with_reducible rfl)
        simp only [List.getElem_toArray, List.getElem_cons_zero, List.getElem_cons_succ, Act.put, List.setIfInBounds_toArray, List.set_cons_zero, List.set_cons_succ]
        refine wpAnyH_take (i := 2) (v := ?_) rfl (by kernel_rfl) (by kernel_rfl) (by kernel_rfl) (fun _ _ _ h => h) (Or.inl ⟨by rfl, ?_⟩) (by assumption) ?_
        rotate_left
        · (intro W hSw; obtain ⟨s0, s1, s2, s3, s4, s5⟩ := hSw; go_simp; try with_reducible rfl)
        simp only [List.getElem_toArray, List.getElem_cons_zero, List.getElem_cons_succ, Act.put, List.setIfInBounds_toArray, List.set_cons_zero, List.set_cons_succ]
        refine wpAnyH_take (i := 3) (v := ?_) rfl (by kernel_rfl) (by kernel_rfl) (by kernel_rfl) (fun _ _ _ h => h) (Or.inl ⟨by rfl, ?_⟩) (by assumption) ?_
        rotate_left
        · (intro W hSw; obtain ⟨s0, s1, s2, s3, s4, s5⟩ := hSw; go_simp; try with_reducible rfl)
        simp only [List.getElem_toArray, List.getElem_cons_zero, List.getElem_cons_succ, Act.put, List.setIfInBounds_toArray, List.set_cons_zero, List.set_cons_succ]
        refine wpAnyH_take (i := 4) (v := ?_) rfl (by kernel_rfl) (by kernel_rfl) (by kernel_rfl) (fun _ _ _ h => h) (Or.inl ⟨by rfl, ?_⟩) (by assumption) ?_
        rotate_left
        · (intro W hSw; obtain ⟨s0, s1, s2, s3, s4, s5⟩ := hSw; go_simp; try with_reducible rfl)
        simp only [List.getElem_toArray, List.getElem_cons_zero, List.getElem_cons_succ, Act.put, List.setIfInBounds_toArray, List.set_cons_zero, List.set_cons_succ]
        refine wpAnyH_take (i := 5) (v := ?_) rfl (by kernel_rfl) (by kernel_rfl) (by kernel_rfl) (fun _ _ _ h => h) (Or.inl ⟨by rfl, ?_⟩) (by assumption) ?_
        rotate_left
        · (intro W hSw; obtain ⟨s0, s1, s2, s3, s4, s5⟩ := hSw; go_simp; try with_reducible rfl)
        simp only [List.getElem_toArray, List.getElem_cons_zero, List.getElem_cons_succ, Act.put, List.setIfInBounds_toArray, List.set_cons_zero, List.set_cons_succ]
        refine wpAnyH_take (i := 6) (v := ?_) rfl (by kernel_rfl) (by kernel_rfl) (by kernel_rfl) (fun _ _ _ h => h) (Or.inl ⟨by rfl, ?_⟩) (by assumption) ?_
        rotate_left
        · (intro W hSw; obtain ⟨s0, s1, s2, s3, s4, s5⟩ := hSw; go_simp; try with_reducible rfl)
        simp only [List.getElem_toArray, List.getElem_cons_zero, List.getElem_cons_succ, Act.put, List.setIfInBounds_toArray, List.set_cons_zero, List.set_cons_succ]
        refine wpAnyH_ready (rs := [7]) (by kernel_rfl) (by simp) ?_
        refine AllReadyH.cons rfl (fun K hK => ?_) AllReadyH.nil
        clear cS hHeld
        go_simp
        clear c0 c1 c2 c3 c4 c5 f4 k0 k1 k2 k3 k4 o0 p0 o1 p1 o2 p2 o3 p3 o4 p4
        generalize (((((z.setCell ⟨g, i * 5, none⟩ (.bool (!rh))).setCell ⟨g, i * 5 + 1, none⟩ (.bool false)).setCell ⟨g, i * 5 + 2, none⟩ (.int .i64 (ru))).setCell ⟨g, i * 5 + 3, none⟩ (.int .i64 (rf + 1))).setCell ⟨g, i * 5 + 4, none⟩ (.int .i64 (rt))) = ZZ at T5 ⊢
        have cZ : (fun W => W.cell? ⟨b, 5, none⟩ = some (.slice (some ⟨g, 0, none⟩) n n) ∧ W.cell? ⟨ew, 0, none⟩ = some (.bool (!rh)) ∧ W.cell? ⟨ew, 1, none⟩ = some (.bool false) ∧ W.cell? ⟨ew, 2, none⟩ = some (.int .i64 (ru)) ∧ W.cell? ⟨ew, 3, none⟩ = some (.int .i64 (rf + 1)) ∧ W.cell? ⟨ew, 4, none⟩ = some (.int .i64 (rt))) ZZ.drew := by
          obtain ⟨P9, y9⟩ := T5.out.snd_of
          obtain ⟨u0, u1, u2, u3, u4, u5, -⟩ := y9.1.cB
          rw [List.length_set, HL1.out] at u5
          obtain ⟨P8, y8⟩ := T5.out.fst_of
          exact ⟨u5, cell_of y8.1 0, cell_of y8.1 1, cell_of y8.1 2, cell_of y8.1 3, cell_of y8.1 4⟩
        refine hK.out _ _ cZ (fun hHeld => ?_)
        clear hK K
        try simp only [List.getElem_toArray, List.getElem_cons_zero, List.getElem_cons_succ, Act.put, List.setIfInBounds_toArray, List.set_cons_zero, List.set_cons_succ]
        refine wpAnyH_done (by kernel_rfl) ?_ _
        clear hHeld cZ
        refine NoPanic.normal ?_
        have T6 := hide (T5.out.e (Fr.drew none' _))
        go_wp2_with fail
        go_ret2
        exact ⟨rfl, T6.out.snd⟩
      have q1' : decide (fl ≤ rf + 1) = true := decide_eq_true (by omega)
      have q1p : fl ≤ rf + 1 := by omega
      have e3 : ejB fl sh L1 ⟨rh, false, ru, rf, rt⟩ = roomB sh L1 := by unfold ejB; rw [decide_eq_false q0, decide_eq_true q1p]; simp
      rw [e3]
      have HRO : Hid (roomB sh L1 = decide (100 * ((nE L1 : Int) + 1) ≤ sh * (n : Int))) := hide (by unfold roomB; rw [HL1.out])
      clear e1 e2 e3 q1
      have s0 := HK.out.s0
      have s1 := HK.out.s1
      have n16 := HN16.out
      have x0 : 0 ≤ sh * (n : Int) := Int.mul_nonneg s0 (by omega)
      have x1 : sh * (n : Int) ≤ 1600 := by have := Int.mul_le_mul s1 (show (n : Int) ≤ 16 by omega) (by omega) (by omega : (0:Int) ≤ 100); omega
      have HWS : Hid (IntKind.i64.wrap (sh * (n : Int)) = sh * (n : Int)) := hide (IntWalk.i64_in _ (by omega))
      have b0 := HK.out.b0
      have b1 := HK.out.b1
      have o0 := HK.out.o0
      have o1 := HK.out.o1
      obtain ⟨v0, v1⟩ := prod_bd (t := rt + 1) (K := K + 1) b0 b1 (by omega) (by omega) (by omega)
      obtain ⟨y0, y1⟩ := span_bd (t := rt + 1) (K := K + 1) b0 b1 o0 (by omega) (by omega) (by omega)
      have HLT := hide (fun V => rlater_t m (span bs lo (rt + 1)) V HK.out.l0 HK.out.l1 (by omega) (by omega))
      have hwr : IntKind.i64.wrap (bs * (rt + 1)) = bs * (rt + 1) := IntWalk.i64_in _ (by omega)
      obtain ⟨RR, HR0⟩ : ∃ RR, Hid (roomB sh L1 = RR) := ⟨_, hide rfl⟩
      have HRR : Hid (decide (100 * ((nE L1 : Int) + 1) ≤ sh * (n : Int)) = RR) := hide (HRO.out.symm.trans HR0.out)
      rw [HR0.out]
      clear HRO HR0
      have EJ1 : ejR bs lo m ⟨rh, false, ru, rf, rt⟩ = ⟨rh, true, latI m (span bs lo (rt + 1)), 0, rt + 1⟩ := rfl
      rw [EJ1]
      clear EJ1
      have hcase : (lo < bs * (rt + 1) ∧ span bs lo (rt + 1) = lo) ∨ (¬ lo < bs * (rt + 1) ∧ span bs lo (rt + 1) = bs * (rt + 1)) := by
        unfold span
        by_cases x : lo < bs * (rt + 1)
        · exact .inl ⟨x, if_pos x⟩
        · exact .inr ⟨x, if_neg x⟩
      obtain ⟨sp, Hsp⟩ : ∃ sp, Hid (span bs lo (rt + 1) = sp) := ⟨_, hide rfl⟩
      rw [Hsp.out] at hcase HLT y0 y1 ⊢
      clear Hsp
      go_enter Try.func22, Try.ntmps22
      go_wp2_with fail
      refine HA.out.mono ?_
      rintro e w1 ⟨rfl, d⟩
      have HD := hide d
      obtain ⟨P2, y, -, -⟩ := d
      obtain ⟨c0, c1, c2, c3, c4, c5, f4⟩ := y.1.cB
      rw [HL1.out] at c5
      obtain ⟨g0, g1, g2, g3, g4⟩ := y.1.cG HR.out
      clear y HA
      go_upto_region 5 with fail
      have T1 : Hid (Does (Two (Blk w1.heap.size (rwO ⟨rh, false, ru, rf, rt⟩)) (Rs fl bs lo sh m L1 b g)) P w (w1.alloc (rwO ⟨rh, false, ru, rf, rt⟩))) := hide (HD.out.newblk _)
      clear c0 c1 c2 c3 c4 c5 f4 g0 g1 g2 g3 g4 HD
      generalize w1.alloc (rwO ⟨rh, false, ru, rf, rt⟩) = W2 at *
      generalize w1.heap.size = ew at *
      have k1 : W2.cell? ⟨ew, 1, none⟩ = some (.bool false) := by obtain ⟨_, x⟩ := T1.out.fst_of; exact cell_of x.1 1
      have T2 : Hid (Does (Two (Blk ew (rwO ⟨rh, false, ru, rf + 1, rt⟩)) (Rs fl bs lo sh m L1 b g)) P w (W2.setCell ⟨ew, 3, none⟩ (.int .i64 (rf + 1)))) := hide (T1.out.left (fun _ y => y.set 3 _ rfl))
      have k3 : W2.cell? ⟨ew, 3, none⟩ = some (.int .i64 rf) := by obtain ⟨_, x⟩ := T1.out.fst_of; exact cell_of x.1 3
      have z3 : W2.frozen? ⟨ew, 3, none⟩ = false := by obtain ⟨_, x⟩ := T1.out.fst_of; exact frozen_of x.1 3
      go_upto_region 11 with fail
      clear k1 k3 z3 T1
      generalize W2.setCell ⟨ew, 3, none⟩ (.int .i64 (rf + 1)) = W3 at *
      obtain ⟨P3, x3⟩ := T2.out.snd_of
      obtain ⟨c0, c1, c2, c3, c4, c5, f4⟩ := x3.1.cB
      rw [HL1.out] at c5
      have kf : W3.cell? ⟨ew, 3, none⟩ = some (.int .i64 (rf + 1)) := by obtain ⟨_, x⟩ := T2.out.fst_of; exact cell_of x.1 3
      have HEJ := hide (rejected_any W3.drew fl bs lo sh m L1 b g (x3.1.fr (Fr.drew _ _)) HK.out.n1)
      have hm16 : nE L1 ≤ 16 := Nat.le_trans (nE_le L1) HK.out.n1
      clear x3
      generalize nE L1 = mE at *
      have HW1 : Hid (IntKind.i64.wrap ((mE : Int) + 1) = (mE : Int) + 1) := hide (IntWalk.i64_in _ (by omega))
      have HW2 : Hid (IntKind.i64.wrap (100 * ((mE : Int) + 1)) = 100 * ((mE : Int) + 1)) := hide (IntWalk.i64_in _ (by omega))
      have cS : (fun W => W.cell? ⟨b, 0, none⟩ = some (.int .i64 fl) ∧ W.cell? ⟨ew, 3, none⟩ = some (.int .i64 (rf + 1)) ∧ W.cell? ⟨b, 3, none⟩ = some (.int .i64 sh) ∧ W.cell? ⟨b, 5, none⟩ = some (.slice (some ⟨g, 0, none⟩) n n)) W3.drew := ⟨c0, kf, c3, c5⟩
      refine wp_region_noPanic ?_
      refine wp_region_held_drew (S := fun W => W.cell? ⟨b, 0, none⟩ = some (.int .i64 fl) ∧ W.cell? ⟨ew, 3, none⟩ = some (.int .i64 (rf + 1)) ∧ W.cell? ⟨b, 3, none⟩ = some (.int .i64 sh) ∧ W.cell? ⟨b, 5, none⟩ = some (.slice (some ⟨g, 0, none⟩) n n)) (by kernel_rfl) cS (fun hHeld => ?_)
      refine wpAnyH_take (i := 0) (v := ?_) rfl (by kernel_rfl) (by kernel_rfl) (by kernel_rfl) (fun _ _ _ h => h) (Or.inl ⟨by rfl, ?_⟩) (by assumption) ?_
      rotate_left
      · (intro W hSw; obtain ⟨s0, s1, s2, s3⟩ := hSw; go_simp; try with_reducible rfl)
      simp only [List.getElem_toArray, List.getElem_cons_zero, Act.put, List.setIfInBounds_toArray, List.set_cons_zero, List.set_cons_succ]
      refine wpAnyH_take (i := 1) (v := ?_) rfl (by kernel_rfl) (by kernel_rfl) (by kernel_rfl) (fun _ _ _ h => h) (Or.inl ⟨by rfl, ?_⟩) (by assumption) ?_
      rotate_left
      · (intro W hSw; obtain ⟨s0, s1, s2, s3⟩ := hSw; go_simp; try with_reducible rfl)
      simp only [List.getElem_toArray, List.getElem_cons_zero, List.getElem_cons_succ, Act.put, List.setIfInBounds_toArray, List.set_cons_zero, List.set_cons_succ]
      refine wpAnyH_take (i := 2) (v := ?_) rfl (by kernel_rfl) (by kernel_rfl) (by kernel_rfl) (fun _ _ _ h => h) (Or.inl ⟨by rfl, ?_⟩) (by assumption) ?_
      rotate_left
      · (intro W hSw; obtain ⟨s0, s1, s2, s3⟩ := hSw; go_simp; try with_reducible rfl)
      simp only [List.getElem_toArray, List.getElem_cons_zero, List.getElem_cons_succ, Act.put, List.setIfInBounds_toArray, List.set_cons_zero, List.set_cons_succ]
      refine wpAnyH_take (i := 3) (v := ?_) rfl (by kernel_rfl) (by kernel_rfl) (by kernel_rfl) (fun _ _ _ h => h) (Or.inl ⟨by rfl, ?_⟩) (by assumption) ?_
      rotate_left
      · (intro W hSw; obtain ⟨s0, s1, s2, s3⟩ := hSw; go_simp; try with_reducible rfl)
      simp only [List.getElem_toArray, List.getElem_cons_zero, List.getElem_cons_succ, Act.put, List.setIfInBounds_toArray, List.set_cons_zero, List.set_cons_succ]
      refine wpAnyH_take (i := 4) (v := .bool true) rfl (by kernel_rfl) (by kernel_rfl) (by kernel_rfl) (fun _ _ _ h => h) (Or.inl ⟨by rfl, ?_⟩) (by assumption) ?_
      · (intro W hSw; go_simp; try with_reducible rfl)
      simp only [List.getElem_toArray, List.getElem_cons_zero, List.getElem_cons_succ, Act.put, List.setIfInBounds_toArray, List.set_cons_zero, List.set_cons_succ]
      refine wpAnyH_take (i := 5) (v := ?_) rfl (by kernel_rfl) (by kernel_rfl) (by kernel_rfl) (fun _ _ _ h => h) (Or.inl ⟨by rfl, ?_⟩) (by assumption) ?_
      rotate_left
      · (intro W hSw; obtain ⟨s0, s1, s2, s3⟩ := hSw; go_simp; try with_reducible rfl)
      simp only [List.getElem_toArray, List.getElem_cons_zero, List.getElem_cons_succ, Act.put, List.setIfInBounds_toArray, List.set_cons_zero, List.set_cons_succ]
      refine wpAnyH_take (i := 6) (v := ?_) rfl (by kernel_rfl) (by kernel_rfl) (by kernel_rfl) (fun _ _ _ h => h) (Or.inl ⟨by rfl, ?_⟩) (by assumption) ?_
      rotate_left
      · (intro W hSw; obtain ⟨s0, s1, s2, s3⟩ := hSw; go_simp; try with_reducible rfl)
      simp only [List.getElem_toArray, List.getElem_cons_zero, List.getElem_cons_succ, Act.put, List.setIfInBounds_toArray, List.set_cons_zero, List.set_cons_succ]
      refine wpAnyH_take (i := 7) (v := ?_) rfl (by kernel_rfl) (by kernel_rfl) (by kernel_rfl) (fun _ _ _ h => h) (Or.inl ⟨by rfl, ?_⟩) (by assumption) ?_
      rotate_left
      · (intro W hSw; obtain ⟨s0, s1, s2, s3⟩ := hSw; go_simp; try with_reducible rfl)
      simp only [List.getElem_toArray, List.getElem_cons_zero, List.getElem_cons_succ, Act.put, List.setIfInBounds_toArray, List.set_cons_zero, List.set_cons_succ]
      refine wpAnyH_take (i := 8) (v := ?_) rfl (by kernel_rfl) (by kernel_rfl) (by kernel_rfl) (fun _ _ _ h => h) (Or.inl ⟨by rfl, ?_⟩) (by assumption) ?_
      rotate_left
      · (intro W hSw; obtain ⟨s0, s1, s2, s3⟩ := hSw; go_simp; try with_reducible rfl)
      simp only [List.getElem_toArray, List.getElem_cons_zero, List.getElem_cons_succ, Act.put, List.setIfInBounds_toArray, List.set_cons_zero, List.set_cons_succ]
      refine wpAnyH_take (i := 9) (v := ?_) rfl (by kernel_rfl) (by kernel_rfl) (by kernel_rfl) (fun _ _ _ h => h) (Or.inl ⟨by rfl, ?_⟩) (by assumption) ?_
      rotate_left
      · (intro W hSw; obtain ⟨s0, s1, s2, s3⟩ := hSw; go_simp; try with_reducible rfl)
      simp only [List.getElem_toArray, List.getElem_cons_zero, List.getElem_cons_succ, Act.put, List.setIfInBounds_toArray, List.set_cons_zero, List.set_cons_succ]
      refine wpAnyH_take (i := 10) (v := ?_) rfl (by kernel_rfl) (by kernel_rfl) (by kernel_rfl) (fun _ _ _ h => h) (Or.inl ⟨by rfl, ?_⟩) (by assumption) ?_
      rotate_left
      · (intro W hSw; obtain ⟨s0, s1, s2, s3⟩ := hSw; go_simp; try with_reducible rfl)
      simp only [List.getElem_toArray, List.getElem_cons_zero, List.getElem_cons_succ, Act.put, List.setIfInBounds_toArray, List.set_cons_zero, List.set_cons_succ]
      refine wpAnyH_take (i := 11) (v := ?_) rfl (by kernel_rfl) (by kernel_rfl) (by kernel_rfl) (fun _ _ _ h => h) (Or.inl ⟨by rfl, ?_⟩) (by assumption) ?_
      rotate_left
      · (intro W hSw; obtain ⟨s0, s1, s2, s3⟩ := hSw; go_simp; try with_reducible rfl)
      simp only [List.getElem_toArray, List.getElem_cons_zero, List.getElem_cons_succ, Act.put, List.setIfInBounds_toArray, List.set_cons_zero, List.set_cons_succ]
      refine wpAnyH_take (i := 12) (v := .bool true) rfl (by kernel_rfl) (by kernel_rfl) (by kernel_rfl) (fun _ _ _ h => h) (Or.inl ⟨by rfl, ?_⟩) (by assumption) ?_
      · (intro W hSw; go_simp; try with_reducible rfl)
      simp only [List.getElem_toArray, List.getElem_cons_zero, List.getElem_cons_succ, Act.put, List.setIfInBounds_toArray, List.set_cons_zero, List.set_cons_succ]
      refine wpAnyH_take (i := 13) (v := ?_) rfl (by kernel_rfl) (by kernel_rfl) (by kernel_rfl) (fun _ _ _ h => h) (Or.inl ⟨by rfl, ?_⟩) (by assumption) ?_
      rotate_left
      · (intro W hSw; obtain ⟨s0, s1, s2, s3⟩ := hSw; go_simp; try with_reducible rfl)
      simp only [List.getElem_toArray, List.getElem_cons_zero, List.getElem_cons_succ, Act.put, List.setIfInBounds_toArray, List.set_cons_zero, List.set_cons_succ]
      refine wpAnyH_take (i := 14) (v := ?_) rfl (by kernel_rfl) (by kernel_rfl) (by kernel_rfl) (fun _ _ _ h => h) (Or.inl ⟨by rfl, ?_⟩) (by assumption) ?_
      rotate_left
      · (intro W hSw; obtain ⟨s0, s1, s2, s3⟩ := hSw; go_simp; try with_reducible rfl)
      simp only [List.getElem_toArray, List.getElem_cons_zero, List.getElem_cons_succ, Act.put, List.setIfInBounds_toArray, List.set_cons_zero, List.set_cons_succ]
      refine wpAnyH_take (i := 15) (v := ?_) rfl (by kernel_rfl) (by kernel_rfl) (by kernel_rfl) (fun _ _ _ h => h) (Or.inl ⟨by rfl, ?_⟩) (by assumption) ?_
      rotate_left
      · (intro W hSw; obtain ⟨s0, s1, s2, s3⟩ := hSw; go_simp; try with_reducible rfl)
      simp only [List.getElem_toArray, List.getElem_cons_zero, List.getElem_cons_succ, Act.put, List.setIfInBounds_toArray, List.set_cons_zero, List.set_cons_succ]
      refine wpAnyH_take (i := 19) (v := ?_) rfl (by kernel_rfl) (by kernel_rfl) (by kernel_rfl) (fun _ _ _ h => h) (Or.inl ⟨by rfl, ?_⟩) (by assumption) ?_
      rotate_left
      · (intro W hSw; obtain ⟨s0, s1, s2, s3⟩ := hSw; go_simp; try with_reducible rfl)
      simp only [List.getElem_toArray, List.getElem_cons_zero, List.getElem_cons_succ, Act.put, List.setIfInBounds_toArray, List.set_cons_zero, List.set_cons_succ]
      refine wpAnyH_take (i := 20) (v := ?_) rfl (by kernel_rfl) (by kernel_rfl) (by kernel_rfl) (fun _ _ _ h => h) (Or.inl ⟨by rfl, ?_⟩) (by assumption) ?_
      rotate_left
      · (intro W hSw; obtain ⟨s0, s1, s2, s3⟩ := hSw; go_simp; try with_reducible rfl)
      simp only [List.getElem_toArray, List.getElem_cons_zero, List.getElem_cons_succ, Act.put, List.setIfInBounds_toArray, List.set_cons_zero, List.set_cons_succ]
      refine wpAnyH_take (i := 21) (v := ?_) rfl (by kernel_rfl) (by kernel_rfl) (by kernel_rfl) (fun _ _ _ h => h) (Or.inl ⟨by rfl, ?_⟩) (by assumption) ?_
      rotate_left
      · (intro W hSw; obtain ⟨s0, s1, s2, s3⟩ := hSw; go_simp; try with_reducible rfl)
      simp only [List.getElem_toArray, List.getElem_cons_zero, List.getElem_cons_succ, Act.put, List.setIfInBounds_toArray, List.set_cons_zero, List.set_cons_succ]
      refine wpAnyH_take (i := 22) (v := ?_) rfl (by kernel_rfl) (by kernel_rfl) (by kernel_rfl) (fun _ _ _ h => h) (Or.inl ⟨by rfl, ?_⟩) (by assumption) ?_
      rotate_left
      · (intro W hSw; obtain ⟨s0, s1, s2, s3⟩ := hSw; go_simp; try with_reducible rfl)
      simp only [List.getElem_toArray, List.getElem_cons_zero, List.getElem_cons_succ, Act.put, List.setIfInBounds_toArray, List.set_cons_zero, List.set_cons_succ]
      refine wpAnyH_take (i := 23) (v := ?_) rfl (by kernel_rfl) (by kernel_rfl) (by kernel_rfl) (fun _ _ _ h => h) (Or.inl ⟨by rfl, ?_⟩) (by assumption) ?_
      rotate_left
      · (intro W hSw; obtain ⟨s0, s1, s2, s3⟩ := hSw; go_simp; try with_reducible rfl)
      simp only [List.getElem_toArray, List.getElem_cons_zero, List.getElem_cons_succ, Act.put, List.setIfInBounds_toArray, List.set_cons_zero, List.set_cons_succ]
      refine wpAnyH_take (i := 24) (v := ?_) rfl (by kernel_rfl) (by kernel_rfl) (by kernel_rfl) (fun _ _ _ h => h) (Or.inl ⟨by rfl, ?_⟩) (by assumption) ?_
      rotate_left
      · (intro W hSw; obtain ⟨s0, s1, s2, s3⟩ := hSw; go_simp; try with_reducible rfl)
      simp only [List.getElem_toArray, List.getElem_cons_zero, List.getElem_cons_succ, Act.put, List.setIfInBounds_toArray, List.set_cons_zero, List.set_cons_succ]
      refine wpAnyH_take (i := 25) (v := ?_) rfl (by kernel_rfl) (by kernel_rfl) (by kernel_rfl) (fun _ _ _ h => h) (Or.inl ⟨by rfl, ?_⟩) (by assumption) ?_
      rotate_left
      · (intro W hSw; obtain ⟨s0, s1, s2, s3⟩ := hSw; go_simp; try with_reducible rfl)
      simp only [List.getElem_toArray, List.getElem_cons_zero, List.getElem_cons_succ, Act.put, List.setIfInBounds_toArray, List.set_cons_zero, List.set_cons_succ]
      refine wpAnyH_take (i := 26) (v := ?_) rfl (by kernel_rfl) (by kernel_rfl) (by kernel_rfl) (fun _ _ _ h => h) (Or.inl ⟨by rfl, ?_⟩) (by assumption) ?_
      rotate_left
      · (intro W hSw; obtain ⟨s0, s1, s2, s3⟩ := hSw; go_simp; try with_reducible rfl)
      simp only [List.getElem_toArray, List.getElem_cons_zero, List.getElem_cons_succ, Act.put, List.setIfInBounds_toArray, List.set_cons_zero, List.set_cons_succ]
      refine wpAnyH_take (i := 27) (v := ?_) rfl (by kernel_rfl) (by kernel_rfl) (by kernel_rfl) (fun _ _ _ h => h) (Or.inl ⟨by rfl, ?_⟩) (by assumption) ?_
      rotate_left
      · (intro W hSw; obtain ⟨s0, s1, s2, s3⟩ := hSw; go_simp; try with_reducible rfl)
      simp only [List.getElem_toArray, List.getElem_cons_zero, List.getElem_cons_succ, Act.put, List.setIfInBounds_toArray, List.set_cons_zero, List.set_cons_succ]
      refine wpAnyH_take (i := 28) (v := .int .i64 (sh * (n : Int))) rfl (by kernel_rfl) (by kernel_rfl) (by kernel_rfl) (fun _ _ _ h => h) (Or.inl ⟨by rfl, ?_⟩) (by assumption) ?_
      · (intro W hSw; have hw := HWS.out; go_simp; try with_reducible rfl)
      simp only [List.getElem_toArray, List.getElem_cons_zero, List.getElem_cons_succ, Act.put, List.setIfInBounds_toArray, List.set_cons_zero, List.set_cons_succ]
      refine wpAnyH_ready (rs := [16]) (by kernel_rfl) (by simp) ?_
      refine AllReadyH.cons rfl (fun K hK => ?_) AllReadyH.nil
      go_simp
      refine HEJ.out.mono ?_
      rintro e z ⟨rfl, FZ⟩
      have cY : (fun W => W.cell? ⟨b, 0, none⟩ = some (.int .i64 fl) ∧ W.cell? ⟨ew, 3, none⟩ = some (.int .i64 (rf + 1)) ∧ W.cell? ⟨b, 3, none⟩ = some (.int .i64 sh) ∧ W.cell? ⟨b, 5, none⟩ = some (.slice (some ⟨g, 0, none⟩) n n)) z := ⟨cell_fr FZ c0, cell_fr FZ kf, cell_fr FZ c3, cell_fr FZ c5⟩
      refine hK.out _ _ cY (fun hHeld => ?_)
      clear hK K
      try simp only [List.getElem_toArray, List.getElem_cons_zero, List.getElem_cons_succ, Act.put, List.setIfInBounds_toArray, List.set_cons_zero, List.set_cons_succ]
      refine wpAnyH_take (i := 17) (v := .int .i64 ((mE : Int) + 1)) rfl (by kernel_rfl) (by kernel_rfl) (by kernel_rfl) (fun _ _ _ h => h) (Or.inl ⟨by rfl, ?_⟩) (by assumption) ?_
      · (intro W hSw; have hw := HW1.out; go_simp; try with_reducible rfl)
      simp only [List.getElem_toArray, List.getElem_cons_zero, List.getElem_cons_succ, Act.put, List.setIfInBounds_toArray, List.set_cons_zero, List.set_cons_succ]
      refine wpAnyH_take (i := 18) (v := .int .i64 (100 * ((mE : Int) + 1))) rfl (by kernel_rfl) (by kernel_rfl) (by kernel_rfl) (fun _ _ _ h => h) (Or.inl ⟨by rfl, ?_⟩) (by assumption) ?_
      · (intro W hSw; have hw := HW2.out; go_simp; try with_reducible rfl)
      simp only [List.getElem_toArray, List.getElem_cons_zero, List.getElem_cons_succ, Act.put, List.setIfInBounds_toArray, List.set_cons_zero, List.set_cons_succ]
      refine wpAnyH_take (i := 29) (v := .bool RR) rfl (by kernel_rfl) (by kernel_rfl) (by kernel_rfl) (fun _ _ _ h => h) (Or.inl ⟨by rfl, ?_⟩) (by assumption) ?_
      · (intro W hSw; have hR := HRR.out; go_simp; try with_reducible rfl)
      simp only [List.getElem_toArray, List.getElem_cons_zero, List.getElem_cons_succ, Act.put, List.setIfInBounds_toArray, List.set_cons_zero, List.set_cons_succ]
      refine wpAnyH_take (i := 30) (v := ?_) rfl (by kernel_rfl) (by kernel_rfl) (by kernel_rfl) (fun _ _ _ h => h) (Or.inl ⟨by rfl, ?_⟩) (by assumption) ?_
      rotate_left
      · (intro W hSw; obtain ⟨s0, s1, s2, s3⟩ := hSw; go_simp; try with_reducible rfl)
      simp only [List.getElem_toArray, List.getElem_cons_zero, List.getElem_cons_succ, Act.put, List.setIfInBounds_toArray, List.set_cons_zero, List.set_cons_succ]
      refine wpAnyH_take (i := 31) (v := ?_) rfl (by kernel_rfl) (by kernel_rfl) (by kernel_rfl) (fun _ _ _ h => h) (Or.inl ⟨by rfl, ?_⟩) (by assumption) ?_
      rotate_left
      · (intro W hSw; obtain ⟨s0, s1, s2, s3⟩ := hSw; go_simp; try with_reducible rfl)
      simp only [List.getElem_toArray, List.getElem_cons_zero, List.getElem_cons_succ, Act.put, List.setIfInBounds_toArray, List.set_cons_zero, List.set_cons_succ]
      refine wpAnyH_done (by kernel_rfl) ?_ _
      clear hHeld cS cY
      refine NoPanic.normal ?_
      have TZ : Hid (Does (Two (Blk ew (rwO ⟨rh, false, ru, rf + 1, rt⟩)) (Rs fl bs lo sh m L1 b g)) P w z) := hide (T2.out.e (⟨FZ.os, FZ.tape, FZ.output, FZ.size, fun k hk _ => FZ.block k hk id⟩))
      clear c0 c1 c2 c3 c4 c5 f4 T2 kf FZ HEJ
      cases RR with
      | false =>
        obtain ⟨P3, x3⟩ := TZ.out.snd_of
        obtain ⟨c0, c1, c2, c3, c4, c5, f4⟩ := x3.1.cB
        rw [HL1.out] at c5
        obtain ⟨P4, x4⟩ := TZ.out.fst_of
        have k0 : z.cell? ⟨ew, 0, none⟩ = some (.bool (!rh)) := cell_of x4.1 0
        have k1 : z.cell? ⟨ew, 1, none⟩ = some (.bool false) := cell_of x4.1 1
        have k2 : z.cell? ⟨ew, 2, none⟩ = some (.int .i64 (ru)) := cell_of x4.1 2
        have k3 : z.cell? ⟨ew, 3, none⟩ = some (.int .i64 (rf + 1)) := cell_of x4.1 3
        have k4 : z.cell? ⟨ew, 4, none⟩ = some (.int .i64 (rt)) := cell_of x4.1 4
        obtain ⟨⟨o0, p0, o1, p1, o2, p2, o3, p3, o4, p4⟩, -⟩ := HsT.store5 x3 HR.out ⟨rh, false, ru, rf + 1, rt⟩
        have T5 : Hid (Does (Two (Blk ew (rwO ⟨rh, false, ru, rf + 1, rt⟩)) (Rs fl bs lo sh m (L1.set i ⟨rh, false, ru, rf + 1, rt⟩) b g)) P w (((((z.setCell ⟨g, i * 5, none⟩ (.bool (!rh))).setCell ⟨g, i * 5 + 1, none⟩ (.bool false)).setCell ⟨g, i * 5 + 2, none⟩ (.int .i64 (ru))).setCell ⟨g, i * 5 + 3, none⟩ (.int .i64 (rf + 1))).setCell ⟨g, i * 5 + 4, none⟩ (.int .i64 (rt)))) := hide (TZ.out.right (fun _ y => (HsT.store5 y HR.out ⟨rh, false, ru, rf + 1, rt⟩).2))
        clear x3 x4
        go_upto_region 20 with fail
        have cS : (fun W => W.cell? ⟨b, 5, none⟩ = some (.slice (some ⟨g, 0, none⟩) n n) ∧ W.cell? ⟨ew, 0, none⟩ = some (.bool (!rh)) ∧ W.cell? ⟨ew, 1, none⟩ = some (.bool false) ∧ W.cell? ⟨ew, 2, none⟩ = some (.int .i64 (ru)) ∧ W.cell? ⟨ew, 3, none⟩ = some (.int .i64 (rf + 1)) ∧ W.cell? ⟨ew, 4, none⟩ = some (.int .i64 (rt))) z.drew := ⟨c5, k0, k1, k2, k3, k4⟩
        refine wp_region_noPanic ?_
        refine wp_region_held_drew (S := fun W => W.cell? ⟨b, 5, none⟩ = some (.slice (some ⟨g, 0, none⟩) n n) ∧ W.cell? ⟨ew, 0, none⟩ = some (.bool (!rh)) ∧ W.cell? ⟨ew, 1, none⟩ = some (.bool false) ∧ W.cell? ⟨ew, 2, none⟩ = some (.int .i64 (ru)) ∧ W.cell? ⟨ew, 3, none⟩ = some (.int .i64 (rf + 1)) ∧ W.cell? ⟨ew, 4, none⟩ = some (.int .i64 (rt))) (by kernel_rfl) cS (fun hHeld => ?_)
        refine wpAnyH_take (i := 0) (v := ?_) rfl (by kernel_rfl) (by kernel_rfl) (by kernel_rfl) (fun _ _ _ h => h) (Or.inl ⟨by rfl, ?_⟩) (by assumption) ?_
        rotate_left
        · (intro W hSw; obtain ⟨s0, s1, s2, s3, s4, s5⟩ := hSw; go_simp; try with_reducible rfl)
        simp only [List.getElem_toArray, List.getElem_cons_zero, Act.put, List.setIfInBounds_toArray, List.set_cons_zero, List.set_cons_succ]
        refine wpAnyH_take (i := 1) (v := ?_) rfl (by kernel_rfl) (by kernel_rfl) (by kernel_rfl) (fun _ _ _ h => h) (Or.inl ⟨by rfl, ?_⟩) (by assumption) ?_
        rotate_left
        · (intro W hSw; obtain ⟨s0, s1, s2, s3, s4, s5⟩ := hSw; go_simp; try with_reducible rfl)
        simp only [List.getElem_toArray, List.getElem_cons_zero, List.getElem_cons_succ, Act.put, List.setIfInBounds_toArray, List.set_cons_zero, List.set_cons_succ]
        refine wpAnyH_take (i := 2) (v := ?_) rfl (by kernel_rfl) (by kernel_rfl) (by kernel_rfl) (fun _ _ _ h => h) (Or.inl ⟨by rfl, ?_⟩) (by assumption) ?_
        rotate_left
        · (intro W hSw; obtain ⟨s0, s1, s2, s3, s4, s5⟩ := hSw; go_simp; try with_reducible rfl)
        simp only [List.getElem_toArray, List.getElem_cons_zero, List.getElem_cons_succ, Act.put, List.setIfInBounds_toArray, List.set_cons_zero, List.set_cons_succ]
        refine wpAnyH_take (i := 3) (v := ?_) rfl (by kernel_rfl) (by kernel_rfl) (by kernel_rfl) (fun _ _ _ h => h) (Or.inl ⟨by rfl, ?_⟩) (by assumption) ?_
        rotate_left
        · (intro W hSw; obtain ⟨s0, s1, s2, s3, s4, s5⟩ := hSw; go_simp; try with_reducible rfl)
        simp only [List.getElem_toArray, List.getElem_cons_zero, List.getElem_cons_succ, Act.put, List.setIfInBounds_toArray, List.set_cons_zero, List.set_cons_succ]
        refine wpAnyH_take (i := 4) (v := ?_) rfl (by kernel_rfl) (by kernel_rfl) (by kernel_rfl) (fun _ _ _ h => h) (Or.inl ⟨by rfl, ?_⟩) (by assumption) ?_
        rotate_left
        · (intro W hSw; obtain ⟨s0, s1, s2, s3, s4, s5⟩ := hSw; go_simp; try with_reducible rfl)
        simp only [List.getElem_toArray, List.getElem_cons_zero, List.getElem_cons_succ, Act.put, List.setIfInBounds_toArray, List.set_cons_zero, List.set_cons_succ]
        refine wpAnyH_take (i := 5) (v := ?_) rfl (by kernel_rfl) (by kernel_rfl) (by kernel_rfl) (fun _ _ _ h => h) (Or.inl ⟨by rfl, ?_⟩) (by assumption) ?_
        rotate_left
        · (intro W hSw; obtain ⟨s0, s1, s2, s3, s4, s5⟩ := hSw; go_simp; try with_reducible rfl)
        simp only [List.getElem_toArray, List.getElem_cons_zero, List.getElem_cons_succ, Act.put, List.setIfInBounds_toArray, List.set_cons_zero, List.set_cons_succ]
        refine wpAnyH_take (i := 6) (v := ?_) rfl (by kernel_rfl) (by kernel_rfl) (by kernel_rfl) (fun _ _ _ h => h) (Or.inl ⟨by rfl, ?_⟩) (by assumption) ?_
        rotate_left
        · (intro W hSw; obtain ⟨s0, s1, s2, s3, s4, s5⟩ := hSw; go_simp; try with_reducible rfl)
        simp only [List.getElem_toArray, List.getElem_cons_zero, List.getElem_cons_succ, Act.put, List.setIfInBounds_toArray, List.set_cons_zero, List.set_cons_succ]
        refine wpAnyH_ready (rs := [7]) (by kernel_rfl) (by simp) ?_
        refine AllReadyH.cons rfl (fun K hK => ?_) AllReadyH.nil
        clear cS hHeld
        go_simp
        clear c0 c1 c2 c3 c4 c5 f4 k0 k1 k2 k3 k4 o0 p0 o1 p1 o2 p2 o3 p3 o4 p4
        generalize (((((z.setCell ⟨g, i * 5, none⟩ (.bool (!rh))).setCell ⟨g, i * 5 + 1, none⟩ (.bool false)).setCell ⟨g, i * 5 + 2, none⟩ (.int .i64 (ru))).setCell ⟨g, i * 5 + 3, none⟩ (.int .i64 (rf + 1))).setCell ⟨g, i * 5 + 4, none⟩ (.int .i64 (rt))) = ZZ at T5 ⊢
        have cZ : (fun W => W.cell? ⟨b, 5, none⟩ = some (.slice (some ⟨g, 0, none⟩) n n) ∧ W.cell? ⟨ew, 0, none⟩ = some (.bool (!rh)) ∧ W.cell? ⟨ew, 1, none⟩ = some (.bool false) ∧ W.cell? ⟨ew, 2, none⟩ = some (.int .i64 (ru)) ∧ W.cell? ⟨ew, 3, none⟩ = some (.int .i64 (rf + 1)) ∧ W.cell? ⟨ew, 4, none⟩ = some (.int .i64 (rt))) ZZ.drew := by
          obtain ⟨P9, y9⟩ := T5.out.snd_of
          obtain ⟨u0, u1, u2, u3, u4, u5, -⟩ := y9.1.cB
          rw [List.length_set, HL1.out] at u5
          obtain ⟨P8, y8⟩ := T5.out.fst_of
          exact ⟨u5, cell_of y8.1 0, cell_of y8.1 1, cell_of y8.1 2, cell_of y8.1 3, cell_of y8.1 4⟩
        refine hK.out _ _ cZ (fun hHeld => ?_)
        clear hK K
        try simp only [List.getElem_toArray, List.getElem_cons_zero, List.getElem_cons_succ, Act.put, List.setIfInBounds_toArray, List.set_cons_zero, List.set_cons_succ]
        refine wpAnyH_done (by kernel_rfl) ?_ _
        clear hHeld cZ
        refine NoPanic.normal ?_
        have T6 := hide (T5.out.e (Fr.drew none' _))
        go_wp2_with fail
        go_ret2
        exact ⟨rfl, T6.out.snd⟩
      | true =>
        obtain ⟨P3, x3⟩ := TZ.out.fst_of
        have k4 : z.cell? ⟨ew, 4, none⟩ = some (.int .i64 rt) := cell_of x3.1 4
        have z4 : z.frozen? ⟨ew, 4, none⟩ = false := frozen_of x3.1 4
        have T4 : Hid (Does (Two (Blk ew (rwO ⟨rh, false, ru, rf + 1, rt + 1⟩)) (Rs fl bs lo sh m L1 b g)) P w (z.setCell ⟨ew, 4, none⟩ (.int .i64 (rt + 1)))) := hide (TZ.out.left (fun _ y => y.set 4 _ rfl))
        clear x3 TZ
        go_upto_region 14 with fail
        clear k4 z4
        generalize z.setCell ⟨ew, 4, none⟩ (.int .i64 (rt + 1)) = za at *
        obtain ⟨P3, x3⟩ := T4.out.fst_of
        have k4 : za.cell? ⟨ew, 4, none⟩ = some (.int .i64 (rt + 1)) := cell_of x3.1 4
        obtain ⟨P3, x3⟩ := T4.out.snd_of
        obtain ⟨c0, c1, c2, c3, c4, c5, f4⟩ := x3.1.cB
        clear x3
        go_quiet (fail)
        have T5 : Hid (Does (Two (Blk ew (rwO ⟨rh, false, ru, rf + 1, rt + 1⟩)) (Rs fl bs lo sh m L1 b g)) P w (za.drewN nq)) := hide (T4.out.e (Fr.drewN _ _ _))
        clear c0 c1 c2 c3 c4 c5 f4 k4 T4
        generalize za.drewN nq = zb at *
        obtain ⟨P3, x3⟩ := T5.out.fst_of
        have k1 : zb.cell? ⟨ew, 1, none⟩ = some (.bool false) := cell_of x3.1 1
        have j1 : zb.frozen? ⟨ew, 1, none⟩ = false := frozen_of x3.1 1
        obtain ⟨P4, x4⟩ := T5.out.snd_of
        obtain ⟨c0, c1, c2, c3, c4, c5, f4⟩ := x4.1.cB
        have TA : Hid (Does (Two (Blk ew (rwO ⟨rh, true, ru, rf + 1, rt + 1⟩)) (Rs fl bs lo sh m L1 b g)) P w (zb.setCell ⟨ew, 1, none⟩ (.bool true))) := hide (T5.out.left (fun _ y => y.set 1 _ rfl))
        have k3 : (zb.setCell ⟨ew, 1, none⟩ (.bool true)).cell? ⟨ew, 3, none⟩ = some (.int .i64 (rf + 1)) := by obtain ⟨_, x⟩ := TA.out.fst_of; exact cell_of x.1 3
        have j3 : (zb.setCell ⟨ew, 1, none⟩ (.bool true)).frozen? ⟨ew, 3, none⟩ = false := by obtain ⟨_, x⟩ := TA.out.fst_of; exact frozen_of x.1 3
        have TB : Hid (Does (Two (Blk ew (rwO ⟨rh, true, ru, 0, rt + 1⟩)) (Rs fl bs lo sh m L1 b g)) P w ((zb.setCell ⟨ew, 1, none⟩ (.bool true)).setCell ⟨ew, 3, none⟩ (.int .i64 0))) := hide (TA.out.left (fun _ y => y.set 3 _ rfl))
        clear x3 x4 T5 TA
        rcases hcase with ⟨hc, rfl⟩ | ⟨hc, rfl⟩
        · go_upto_region 19 with fail
          clear c0 c1 c2 c3 c4 c5 f4 k1 j1 k3 j3
          generalize (zb.setCell ⟨ew, 1, none⟩ (.bool true)).setCell ⟨ew, 3, none⟩ (.int .i64 0) = zc at *
          obtain ⟨P3, x3⟩ := TB.out.fst_of
          have k2 : zc.cell? ⟨ew, 2, none⟩ = some (.int .i64 ru) := cell_of x3.1 2
          have j2 : zc.frozen? ⟨ew, 2, none⟩ = false := frozen_of x3.1 2
          obtain ⟨P4, x4⟩ := TB.out.snd_of
          obtain ⟨c0, c1, c2, c3, c4, c5, f4⟩ := x4.1.cB
          have TZ : Hid (Does (Two (Blk ew (rwO ⟨rh, true, latI m (sp), 0, rt + 1⟩)) (Rs fl bs sp sh m L1 b g)) P w (zc.setCell ⟨ew, 2, none⟩ (.int .i64 (latI m (sp))))) := hide (TB.out.left (fun _ y => y.set 2 _ rfl))
          clear x3 x4 TB
          go_upto_region 20 with (go_at_call 33; refine (HLT.out _).mono ?_; rintro e w' ⟨rfl, rfl⟩)
          clear c0 c1 c2 c3 c4 c5 f4 k2 j2
          generalize zc.setCell ⟨ew, 2, none⟩ (.int .i64 (latI m (sp))) = zd at *
          obtain ⟨P3, x3⟩ := TZ.out.snd_of
          obtain ⟨c0, c1, c2, c3, c4, c5, f4⟩ := x3.1.cB
          rw [HL1.out] at c5
          obtain ⟨P4, x4⟩ := TZ.out.fst_of
          have k0 : zd.cell? ⟨ew, 0, none⟩ = some (.bool (!rh)) := cell_of x4.1 0
          have k1 : zd.cell? ⟨ew, 1, none⟩ = some (.bool true) := cell_of x4.1 1
          have k2 : zd.cell? ⟨ew, 2, none⟩ = some (.int .i64 (latI m (sp))) := cell_of x4.1 2
          have k3 : zd.cell? ⟨ew, 3, none⟩ = some (.int .i64 (0)) := cell_of x4.1 3
          have k4 : zd.cell? ⟨ew, 4, none⟩ = some (.int .i64 (rt + 1)) := cell_of x4.1 4
          obtain ⟨⟨o0, p0, o1, p1, o2, p2, o3, p3, o4, p4⟩, -⟩ := HsT.store5 x3 HR.out ⟨rh, true, latI m (sp), 0, rt + 1⟩
          have T5 : Hid (Does (Two (Blk ew (rwO ⟨rh, true, latI m (sp), 0, rt + 1⟩)) (Rs fl bs sp sh m (L1.set i ⟨rh, true, latI m (sp), 0, rt + 1⟩) b g)) P w (((((zd.setCell ⟨g, i * 5, none⟩ (.bool (!rh))).setCell ⟨g, i * 5 + 1, none⟩ (.bool true)).setCell ⟨g, i * 5 + 2, none⟩ (.int .i64 (latI m (sp)))).setCell ⟨g, i * 5 + 3, none⟩ (.int .i64 (0))).setCell ⟨g, i * 5 + 4, none⟩ (.int .i64 (rt + 1)))) := hide (TZ.out.right (fun _ y => (HsT.store5 y HR.out ⟨rh, true, latI m (sp), 0, rt + 1⟩).2))
          clear x3 x4
          have cS : (fun W => W.cell? ⟨b, 5, none⟩ = some (.slice (some ⟨g, 0, none⟩) n n) ∧ W.cell? ⟨ew, 0, none⟩ = some (.bool (!rh)) ∧ W.cell? ⟨ew, 1, none⟩ = some (.bool true) ∧ W.cell? ⟨ew, 2, none⟩ = some (.int .i64 (latI m (sp))) ∧ W.cell? ⟨ew, 3, none⟩ = some (.int .i64 (0)) ∧ W.cell? ⟨ew, 4, none⟩ = some (.int .i64 (rt + 1))) zd.drew := ⟨c5, k0, k1, k2, k3, k4⟩
          refine wp_region_noPanic ?_
          refine wp_region_held_drew (S := fun W => W.cell? ⟨b, 5, none⟩ = some (.slice (some ⟨g, 0, none⟩) n n) ∧ W.cell? ⟨ew, 0, none⟩ = some (.bool (!rh)) ∧ W.cell? ⟨ew, 1, none⟩ = some (.bool true) ∧ W.cell? ⟨ew, 2, none⟩ = some (.int .i64 (latI m (sp))) ∧ W.cell? ⟨ew, 3, none⟩ = some (.int .i64 (0)) ∧ W.cell? ⟨ew, 4, none⟩ = some (.int .i64 (rt + 1))) (by kernel_rfl) cS (fun hHeld => ?_)
          refine wpAnyH_take (i := 0) (v := ?_) rfl (by kernel_rfl) (by kernel_rfl) (by kernel_rfl) (fun _ _ _ h => h) (Or.inl ⟨by rfl, ?_⟩) (by assumption) ?_
          rotate_left
          · (intro W hSw; obtain ⟨s0, s1, s2, s3, s4, s5⟩ := hSw; go_simp; try with_reducible rfl)
          simp only [List.getElem_toArray, List.getElem_cons_zero, Act.put, List.setIfInBounds_toArray, List.set_cons_zero, List.set_cons_succ]
          refine wpAnyH_take (i := 1) (v := ?_) rfl (by kernel_rfl) (by kernel_rfl) (by kernel_rfl) (fun _ _ _ h => h) (Or.inl ⟨by rfl, ?_⟩) (by assumption) ?_
          rotate_left
          · (intro W hSw; obtain ⟨s0, s1, s2, s3, s4, s5⟩ := hSw; go_simp; try with_reducible rfl)
          simp only [List.getElem_toArray, List.getElem_cons_zero, List.getElem_cons_succ, Act.put, List.setIfInBounds_toArray, List.set_cons_zero, List.set_cons_succ]
          refine wpAnyH_take (i := 2) (v := ?_) rfl (by kernel_rfl) (by kernel_rfl) (by kernel_rfl) (fun _ _ _ h => h) (Or.inl ⟨by rfl, ?_⟩) (by assumption) ?_
          rotate_left
          · (intro W hSw; obtain ⟨s0, s1, s2, s3, s4, s5⟩ := hSw; go_simp; try with_reducible rfl)
          simp only [List.getElem_toArray, List.getElem_cons_zero, List.getElem_cons_succ, Act.put, List.setIfInBounds_toArray, List.set_cons_zero, List.set_cons_succ]
          refine wpAnyH_take (i := 3) (v := ?_) rfl (by kernel_rfl) (by kernel_rfl) (by kernel_rfl) (fun _ _ _ h => h) (Or.inl ⟨by rfl, ?_⟩) (by assumption) ?_
          rotate_left
          · (intro W hSw; obtain ⟨s0, s1, s2, s3, s4, s5⟩ := hSw; go_simp; try with_reducible rfl)
          simp only [List.getElem_toArray, List.getElem_cons_zero, List.getElem_cons_succ, Act.put, List.setIfInBounds_toArray, List.set_cons_zero, List.set_cons_succ]
          refine wpAnyH_take (i := 4) (v := ?_) rfl (by kernel_rfl) (by kernel_rfl) (by kernel_rfl) (fun _ _ _ h => h) (Or.inl ⟨by rfl, ?_⟩) (by assumption) ?_
          rotate_left
          · (intro W hSw; obtain ⟨s0, s1, s2, s3, s4, s5⟩ := hSw; go_simp; try with_reducible rfl)
          simp only [List.getElem_toArray, List.getElem_cons_zero, List.getElem_cons_succ, Act.put, List.setIfInBounds_toArray, List.set_cons_zero, List.set_cons_succ]
          refine wpAnyH_take (i := 5) (v := ?_) rfl (by kernel_rfl) (by kernel_rfl) (by kernel_rfl) (fun _ _ _ h => h) (Or.inl ⟨by rfl, ?_⟩) (by assumption) ?_
          rotate_left
          · (intro W hSw; obtain ⟨s0, s1, s2, s3, s4, s5⟩ := hSw; go_simp; try with_reducible rfl)
          simp only [List.getElem_toArray, List.getElem_cons_zero, List.getElem_cons_succ, Act.put, List.setIfInBounds_toArray, List.set_cons_zero, List.set_cons_succ]
          refine wpAnyH_take (i := 6) (v := ?_) rfl (by kernel_rfl) (by kernel_rfl) (by kernel_rfl) (fun _ _ _ h => h) (Or.inl ⟨by rfl, ?_⟩) (by assumption) ?_
          rotate_left
          · (intro W hSw; obtain ⟨s0, s1, s2, s3, s4, s5⟩ := hSw; go_simp; try with_reducible rfl)
          simp only [List.getElem_toArray, List.getElem_cons_zero, List.getElem_cons_succ, Act.put, List.setIfInBounds_toArray, List.set_cons_zero, List.set_cons_succ]
          refine wpAnyH_ready (rs := [7]) (by kernel_rfl) (by simp) ?_
          refine AllReadyH.cons rfl (fun K hK => ?_) AllReadyH.nil
          clear cS hHeld
          go_simp
          clear c0 c1 c2 c3 c4 c5 f4 k0 k1 k2 k3 k4 o0 p0 o1 p1 o2 p2 o3 p3 o4 p4
          generalize (((((zd.setCell ⟨g, i * 5, none⟩ (.bool (!rh))).setCell ⟨g, i * 5 + 1, none⟩ (.bool true)).setCell ⟨g, i * 5 + 2, none⟩ (.int .i64 (latI m (sp)))).setCell ⟨g, i * 5 + 3, none⟩ (.int .i64 (0))).setCell ⟨g, i * 5 + 4, none⟩ (.int .i64 (rt + 1))) = ZZ at T5 ⊢
          have cZ : (fun W => W.cell? ⟨b, 5, none⟩ = some (.slice (some ⟨g, 0, none⟩) n n) ∧ W.cell? ⟨ew, 0, none⟩ = some (.bool (!rh)) ∧ W.cell? ⟨ew, 1, none⟩ = some (.bool true) ∧ W.cell? ⟨ew, 2, none⟩ = some (.int .i64 (latI m (sp))) ∧ W.cell? ⟨ew, 3, none⟩ = some (.int .i64 (0)) ∧ W.cell? ⟨ew, 4, none⟩ = some (.int .i64 (rt + 1))) ZZ.drew := by
            obtain ⟨P9, y9⟩ := T5.out.snd_of
            obtain ⟨u0, u1, u2, u3, u4, u5, -⟩ := y9.1.cB
            rw [List.length_set, HL1.out] at u5
            obtain ⟨P8, y8⟩ := T5.out.fst_of
            exact ⟨u5, cell_of y8.1 0, cell_of y8.1 1, cell_of y8.1 2, cell_of y8.1 3, cell_of y8.1 4⟩
          refine hK.out _ _ cZ (fun hHeld => ?_)
          clear hK K
          try simp only [List.getElem_toArray, List.getElem_cons_zero, List.getElem_cons_succ, Act.put, List.setIfInBounds_toArray, List.set_cons_zero, List.set_cons_succ]
          refine wpAnyH_done (by kernel_rfl) ?_ _
          clear hHeld cZ
          refine NoPanic.normal ?_
          have T6 := hide (T5.out.e (Fr.drew none' _))
          go_wp2_with fail
          go_ret2
          exact ⟨rfl, T6.out.snd⟩
        · go_upto_region 19 with fail
          clear c0 c1 c2 c3 c4 c5 f4 k1 j1 k3 j3
          generalize (zb.setCell ⟨ew, 1, none⟩ (.bool true)).setCell ⟨ew, 3, none⟩ (.int .i64 0) = zc at *
          obtain ⟨P3, x3⟩ := TB.out.fst_of
          have k2 : zc.cell? ⟨ew, 2, none⟩ = some (.int .i64 ru) := cell_of x3.1 2
          have j2 : zc.frozen? ⟨ew, 2, none⟩ = false := frozen_of x3.1 2
          obtain ⟨P4, x4⟩ := TB.out.snd_of
          obtain ⟨c0, c1, c2, c3, c4, c5, f4⟩ := x4.1.cB
          have TZ : Hid (Does (Two (Blk ew (rwO ⟨rh, true, latI m (bs * (rt + 1)), 0, rt + 1⟩)) (Rs fl bs lo sh m L1 b g)) P w (zc.setCell ⟨ew, 2, none⟩ (.int .i64 (latI m (bs * (rt + 1)))))) := hide (TB.out.left (fun _ y => y.set 2 _ rfl))
          clear x3 x4 TB
          go_upto_region 20 with (go_at_call 33; refine (HLT.out _).mono ?_; rintro e w' ⟨rfl, rfl⟩)
          clear c0 c1 c2 c3 c4 c5 f4 k2 j2
          generalize zc.setCell ⟨ew, 2, none⟩ (.int .i64 (latI m (bs * (rt + 1)))) = zd at *
          obtain ⟨P3, x3⟩ := TZ.out.snd_of
          obtain ⟨c0, c1, c2, c3, c4, c5, f4⟩ := x3.1.cB
          rw [HL1.out] at c5
          obtain ⟨P4, x4⟩ := TZ.out.fst_of
          have k0 : zd.cell? ⟨ew, 0, none⟩ = some (.bool (!rh)) := cell_of x4.1 0
          have k1 : zd.cell? ⟨ew, 1, none⟩ = some (.bool true) := cell_of x4.1 1
          have k2 : zd.cell? ⟨ew, 2, none⟩ = some (.int .i64 (latI m (bs * (rt + 1)))) := cell_of x4.1 2
          have k3 : zd.cell? ⟨ew, 3, none⟩ = some (.int .i64 (0)) := cell_of x4.1 3
          have k4 : zd.cell? ⟨ew, 4, none⟩ = some (.int .i64 (rt + 1)) := cell_of x4.1 4
          obtain ⟨⟨o0, p0, o1, p1, o2, p2, o3, p3, o4, p4⟩, -⟩ := HsT.store5 x3 HR.out ⟨rh, true, latI m (bs * (rt + 1)), 0, rt + 1⟩
          have T5 : Hid (Does (Two (Blk ew (rwO ⟨rh, true, latI m (bs * (rt + 1)), 0, rt + 1⟩)) (Rs fl bs lo sh m (L1.set i ⟨rh, true, latI m (bs * (rt + 1)), 0, rt + 1⟩) b g)) P w (((((zd.setCell ⟨g, i * 5, none⟩ (.bool (!rh))).setCell ⟨g, i * 5 + 1, none⟩ (.bool true)).setCell ⟨g, i * 5 + 2, none⟩ (.int .i64 (latI m (bs * (rt + 1))))).setCell ⟨g, i * 5 + 3, none⟩ (.int .i64 (0))).setCell ⟨g, i * 5 + 4, none⟩ (.int .i64 (rt + 1)))) := hide (TZ.out.right (fun _ y => (HsT.store5 y HR.out ⟨rh, true, latI m (bs * (rt + 1)), 0, rt + 1⟩).2))
          clear x3 x4
          have cS : (fun W => W.cell? ⟨b, 5, none⟩ = some (.slice (some ⟨g, 0, none⟩) n n) ∧ W.cell? ⟨ew, 0, none⟩ = some (.bool (!rh)) ∧ W.cell? ⟨ew, 1, none⟩ = some (.bool true) ∧ W.cell? ⟨ew, 2, none⟩ = some (.int .i64 (latI m (bs * (rt + 1)))) ∧ W.cell? ⟨ew, 3, none⟩ = some (.int .i64 (0)) ∧ W.cell? ⟨ew, 4, none⟩ = some (.int .i64 (rt + 1))) zd.drew := ⟨c5, k0, k1, k2, k3, k4⟩
          refine wp_region_noPanic ?_
          refine wp_region_held_drew (S := fun W => W.cell? ⟨b, 5, none⟩ = some (.slice (some ⟨g, 0, none⟩) n n) ∧ W.cell? ⟨ew, 0, none⟩ = some (.bool (!rh)) ∧ W.cell? ⟨ew, 1, none⟩ = some (.bool true) ∧ W.cell? ⟨ew, 2, none⟩ = some (.int .i64 (latI m (bs * (rt + 1)))) ∧ W.cell? ⟨ew, 3, none⟩ = some (.int .i64 (0)) ∧ W.cell? ⟨ew, 4, none⟩ = some (.int .i64 (rt + 1))) (by kernel_rfl) cS (fun hHeld => ?_)
          refine wpAnyH_take (i := 0) (v := ?_) rfl (by kernel_rfl) (by kernel_rfl) (by kernel_rfl) (fun _ _ _ h => h) (Or.inl ⟨by rfl, ?_⟩) (by assumption) ?_
          rotate_left
          · (intro W hSw; obtain ⟨s0, s1, s2, s3, s4, s5⟩ := hSw; go_simp; try with_reducible rfl)
          simp only [List.getElem_toArray, List.getElem_cons_zero, Act.put, List.setIfInBounds_toArray, List.set_cons_zero, List.set_cons_succ]
          refine wpAnyH_take (i := 1) (v := ?_) rfl (by kernel_rfl) (by kernel_rfl) (by kernel_rfl) (fun _ _ _ h => h) (Or.inl ⟨by rfl, ?_⟩) (by assumption) ?_
          rotate_left
          · (intro W hSw; obtain ⟨s0, s1, s2, s3, s4, s5⟩ := hSw; go_simp; try with_reducible rfl)
          simp only [List.getElem_toArray, List.getElem_cons_zero, List.getElem_cons_succ, Act.put, List.setIfInBounds_toArray, List.set_cons_zero, List.set_cons_succ]
          refine wpAnyH_take (i := 2) (v := ?_) rfl (by kernel_rfl) (by kernel_rfl) (by kernel_rfl) (fun _ _ _ h => h) (Or.inl ⟨by rfl, ?_⟩) (by assumption) ?_
          rotate_left
          · (intro W hSw; obtain ⟨s0, s1, s2, s3, s4, s5⟩ := hSw; go_simp; try with_reducible rfl)
          simp only [List.getElem_toArray, List.getElem_cons_zero, List.getElem_cons_succ, Act.put, List.setIfInBounds_toArray, List.set_cons_zero, List.set_cons_succ]
          refine wpAnyH_take (i := 3) (v := ?_) rfl (by kernel_rfl) (by kernel_rfl) (by kernel_rfl) (fun _ _ _ h => h) (Or.inl ⟨by rfl, ?_⟩) (by assumption) ?_
          rotate_left
          · (intro W hSw; obtain ⟨s0, s1, s2, s3, s4, s5⟩ := hSw; go_simp; try with_reducible rfl)
          simp only [List.getElem_toArray, List.getElem_cons_zero, List.getElem_cons_succ, Act.put, List.setIfInBounds_toArray, List.set_cons_zero, List.set_cons_succ]
          refine wpAnyH_take (i := 4) (v := ?_) rfl (by kernel_rfl) (by kernel_rfl) (by kernel_rfl) (fun _ _ _ h => h) (Or.inl ⟨by rfl, ?_⟩) (by assumption) ?_
          rotate_left
          · (intro W hSw; obtain ⟨s0, s1, s2, s3, s4, s5⟩ := hSw; go_simp; try with_reducible rfl)
          simp only [List.getElem_toArray, List.getElem_cons_zero, List.getElem_cons_succ, Act.put, List.setIfInBounds_toArray, List.set_cons_zero, List.set_cons_succ]
          refine wpAnyH_take (i := 5) (v := ?_) rfl (by kernel_rfl) (by kernel_rfl) (by kernel_rfl) (fun _ _ _ h => h) (Or.inl ⟨by rfl, ?_⟩) (by assumption) ?_
          rotate_left
          · (intro W hSw; obtain ⟨s0, s1, s2, s3, s4, s5⟩ := hSw; go_simp; try with_reducible rfl)
          simp only [List.getElem_toArray, List.getElem_cons_zero, List.getElem_cons_succ, Act.put, List.setIfInBounds_toArray, List.set_cons_zero, List.set_cons_succ]
          refine wpAnyH_take (i := 6) (v := ?_) rfl (by kernel_rfl) (by kernel_rfl) (by kernel_rfl) (fun _ _ _ h => h) (Or.inl ⟨by rfl, ?_⟩) (by assumption) ?_
          rotate_left
          · (intro W hSw; obtain ⟨s0, s1, s2, s3, s4, s5⟩ := hSw; go_simp; try with_reducible rfl)
          simp only [List.getElem_toArray, List.getElem_cons_zero, List.getElem_cons_succ, Act.put, List.setIfInBounds_toArray, List.set_cons_zero, List.set_cons_succ]
          refine wpAnyH_ready (rs := [7]) (by kernel_rfl) (by simp) ?_
          refine AllReadyH.cons rfl (fun K hK => ?_) AllReadyH.nil
          clear cS hHeld
          go_simp
          clear c0 c1 c2 c3 c4 c5 f4 k0 k1 k2 k3 k4 o0 p0 o1 p1 o2 p2 o3 p3 o4 p4
          generalize (((((zd.setCell ⟨g, i * 5, none⟩ (.bool (!rh))).setCell ⟨g, i * 5 + 1, none⟩ (.bool true)).setCell ⟨g, i * 5 + 2, none⟩ (.int .i64 (latI m (bs * (rt + 1))))).setCell ⟨g, i * 5 + 3, none⟩ (.int .i64 (0))).setCell ⟨g, i * 5 + 4, none⟩ (.int .i64 (rt + 1))) = ZZ at T5 ⊢
          have cZ : (fun W => W.cell? ⟨b, 5, none⟩ = some (.slice (some ⟨g, 0, none⟩) n n) ∧ W.cell? ⟨ew, 0, none⟩ = some (.bool (!rh)) ∧ W.cell? ⟨ew, 1, none⟩ = some (.bool true) ∧ W.cell? ⟨ew, 2, none⟩ = some (.int .i64 (latI m (bs * (rt + 1)))) ∧ W.cell? ⟨ew, 3, none⟩ = some (.int .i64 (0)) ∧ W.cell? ⟨ew, 4, none⟩ = some (.int .i64 (rt + 1))) ZZ.drew := by
            obtain ⟨P9, y9⟩ := T5.out.snd_of
            obtain ⟨u0, u1, u2, u3, u4, u5, -⟩ := y9.1.cB
            rw [List.length_set, HL1.out] at u5
            obtain ⟨P8, y8⟩ := T5.out.fst_of
            exact ⟨u5, cell_of y8.1 0, cell_of y8.1 1, cell_of y8.1 2, cell_of y8.1 3, cell_of y8.1 4⟩
          refine hK.out _ _ cZ (fun hHeld => ?_)
          clear hK K
          try simp only [List.getElem_toArray, List.getElem_cons_zero, List.getElem_cons_succ, Act.put, List.setIfInBounds_toArray, List.set_cons_zero, List.set_cons_succ]
          refine wpAnyH_done (by kernel_rfl) ?_ _
          clear hHeld cZ
          refine NoPanic.normal ?_
          have T6 := hide (T5.out.e (Fr.drew none' _))
          go_wp2_with fail
          go_ret2
          exact ⟨rfl, T6.out.snd⟩
end Go.Proofs.Ytobkgkcemdocnaa
