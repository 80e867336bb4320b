/- Result of a set of hosts, and who may be used. -/
import Derived.Test.YtobkgkcemdocnaaORes
namespace Go.Proofs.Ytobkgkcemdocnaa
open Go.ChangeShapes Go.WideShapes Go.ChangeAt Go.RowKit

/-- Is a host ejected by a failure? -/
def ejB (fl sh : Int) (L : List HR) (r : HR) : Bool := !(decide (fl = 0)) && decide (fl ≤ r.f + 1) && roomB sh L
/-- A host behind an attempt's end, and whether it was ejected. -/
def resR (fl bs lo sh la : Int) (L : List HR) (r : HR) (ok : Bool) : HR :=
  if r.e then r else if ok then ⟨r.h, r.e, r.u, 0, r.t⟩ else if ejB fl sh L r then ejR bs lo la r else ⟨r.h, r.e, r.u, r.f + 1, r.t⟩
def resB (fl sh : Int) (L : List HR) (r : HR) (ok : Bool) : Bool := !r.e && !ok && ejB fl sh L r
theorem HOk.bring {fl bs lo sh la K : Int} {L : List HR} (h : HOk fl bs lo sh la K L) {now : Int} (hm : mom now = true) : HOk fl bs lo sh (mx la now) K (brS (mx la now) L) := by
  have := mom_iff.1 hm
  have l0 := h.l0
  have l1 := h.l1
  refine ⟨h.f0, h.f1, h.b0, h.b1, h.o0, h.o1, h.s0, h.s1, by unfold mx; split <;> omega, by unfold mx; split <;> omega, by rw [brS_len]; exact h.n0, by rw [brS_len]; exact h.n1, h.k0, fun r hr => ?_⟩
  unfold brS at hr
  obtain ⟨r0, h0, rfl⟩ := List.mem_map.1 hr
  have := h.rows r0 h0
  have k0 := h.k0
  unfold brR
  split
  · exact ⟨⟨by show (0:Int) ≤ 0; omega, by show (0:Int) ≤ K; omega⟩, this.2.1, this.2.2⟩
  · exact this
theorem HOk.set {fl bs lo sh la K K' : Int} {L : List HR} (h : HOk fl bs lo sh la K L) (hK : K ≤ K') {i : Nat} {r : HR} (hr : (0 ≤ r.f ∧ r.f ≤ K') ∧ (0 ≤ r.t ∧ r.t ≤ K') ∧ (0 ≤ r.u ∧ r.u ≤ 4611686018427387904)) : HOk fl bs lo sh la K' (L.set i r) := by
  have k0 := h.k0
  refine ⟨h.f0, h.f1, h.b0, h.b1, h.o0, h.o1, h.s0, h.s1, h.l0, h.l1, by rw [List.length_set]; exact h.n0, by rw [List.length_set]; exact h.n1, by omega, fun x hx => ?_⟩
  rcases List.mem_or_eq_of_mem_set hx with y | y
  · have := h.rows x y; omega
  · subst y; exact hr
theorem HOk.more {fl bs lo sh la K K' : Int} {L : List HR} (h : HOk fl bs lo sh la K L) (hK : K ≤ K') : HOk fl bs lo sh la K' L := by
  have k0 := h.k0
  refine ⟨h.f0, h.f1, h.b0, h.b1, h.o0, h.o1, h.s0, h.s1, h.l0, h.l1, h.n0, h.n1, by omega, fun x hx => ?_⟩
  have := h.rows x hx; omega
theorem HOk.res {fl bs lo sh la K : Int} {L : List HR} (h : HOk fl bs lo sh la K L) (hK : K < 8796093022208) {i : Nat} {r : HR} (hr : L[i]? = some r) (ok : Bool) : HOk fl bs lo sh la (K + 1) (L.set i (resR fl bs lo sh la L r ok)) := by
  have hm := h.rows r (List.mem_of_getElem? hr)
  have k0 := h.k0
  refine h.set (by omega) ?_
  unfold resR
  split
  · omega
  · split
    · exact ⟨⟨by show (0:Int) ≤ 0; omega, by show (0:Int) ≤ K + 1; omega⟩, by show 0 ≤ r.t ∧ r.t ≤ K + 1; omega, hm.2.2⟩
    · split
      · obtain ⟨y0, y1⟩ := span_bd (t := r.t + 1) (K := K + 1) h.b0 h.b1 h.o0 (by omega) (by omega) (by omega)
        have l0 := h.l0
        have l1 := h.l1
        refine ⟨⟨by show (0:Int) ≤ 0; omega, by show (0:Int) ≤ K + 1; omega⟩, ?_, ?_⟩
        · show 0 ≤ r.t + 1 ∧ r.t + 1 ≤ K + 1; omega
        · show 0 ≤ latI la (span bs lo (r.t + 1)) ∧ latI la (span bs lo (r.t + 1)) ≤ 4611686018427387904
          unfold latI; split <;> omega
      · exact ⟨by show 0 ≤ r.f + 1 ∧ r.f + 1 ≤ K + 1; omega, by show 0 ≤ r.t ∧ r.t ≤ K + 1; omega, hm.2.2⟩
theorem nE_set {L : List HR} {i : Nat} {r r' : HR} (hr : L[i]? = some r) (he : r'.e = r.e) : nE (L.set i r') = nE L := by
  obtain ⟨hi, hx⟩ := List.getElem?_eq_some_iff.1 hr
  unfold nE
  rw [List.countP_set hi, hx, he]
  have hp : 0 < L.countP (fun r => r.e) ∨ r.e = false := by
    cases h : r.e with
    | false => exact .inr rfl
    | true => exact .inl (List.countP_pos_iff.2 ⟨r, List.mem_of_getElem? hr, h⟩)
  cases h : r.e with
  | false => simp
  | true => rcases hp with x | x <;> simp_all <;> omega
theorem room_set {sh : Int} {L : List HR} {i : Nat} {r r' : HR} (hr : L[i]? = some r) (he : r'.e = r.e) : roomB sh (L.set i r') = roomB sh L := by
  unfold roomB; rw [nE_set hr he, List.length_set]
theorem set_same {L : List HR} {i : Nat} {r : HR} (hr : L[i]? = some r) : L.set i r = L := by
  obtain ⟨h1, h2⟩ := List.getElem?_eq_some_iff.1 hr
  rw [← h2, List.set_getElem_self]

set_option maxHeartbeats 2000000 in
set_option maxRecDepth 100000 in
theorem result_bad (w : World) (fl bs lo sh la now host : Int) (ok : Bool) (L : List HR) (b g : Nat) (h : Hp fl bs lo sh la L b g w) (hb : askE L.length now host ≠ 0) :
    Calls Try.prog 16 #[.pointer (some ⟨b, 0, none⟩), .int .i64 now, .int .i64 host, .bool ok] w fun e w' => e = .returned (.tuple #[.bool false, .int .i64 (askE L.length now host)]) ∧ w = w' := by
  have HA := hide (asked_bad w fl bs lo sh la now host L b g h hb)
  clear h
  generalize askE L.length now host = ee at *
  have hb2 : (ee != 0) = true := bne_iff_ne.2 hb
  go_enter Try.func16, Try.ntmps16
  go_wp2_with (go_at_call 28; refine HA.out.mono ?_; rintro e w' ⟨rfl, rfl⟩)
  go_ret2
  exact ⟨rfl, rfl⟩
theorem mark_bad (w : World) (fl bs lo sh la now host : Int) (x : Bool) (L : List HR) (b g : Nat) (h : Hp fl bs lo sh la L b g w) (hb : askE L.length now host ≠ 0) :
    Calls Try.prog 20 #[.pointer (some ⟨b, 0, none⟩), .int .i64 now, .int .i64 host, .bool x] w fun e w' => e = .returned (.tuple #[.bool false, .int .i64 (askE L.length now host)]) ∧ w = w' := by
  have HA := hide (asked_bad w fl bs lo sh la now host L b g h hb)
  clear h
  generalize askE L.length now host = ee at *
  have hb2 : (ee != 0) = true := bne_iff_ne.2 hb
  go_enter Try.func20, Try.ntmps20
  go_wp2_with (go_at_call 28; refine HA.out.mono ?_; rintro e w' ⟨rfl, rfl⟩)
  go_ret2
  exact ⟨rfl, rfl⟩
theorem result_nil (w : World) (now host : Int) (ok : Bool) :
    Calls Try.prog 16 #[.pointer none, .int .i64 now, .int .i64 host, .bool ok] w fun e w' => e = .returned (.tuple #[.bool false, .int .i64 (if mom now then 6 else 1)]) ∧ w = w' := by
  have HA := hide (asked_nil w now host)
  have hb : (if mom now then (6 : Int) else 1) ≠ 0 := by split <;> omega
  generalize (if mom now then (6 : Int) else 1) = ee at *
  have hb2 : (ee != 0) = true := bne_iff_ne.2 hb
  go_enter Try.func16, Try.ntmps16
  go_wp2_with (go_at_call 28; refine HA.out.mono ?_; rintro e w' ⟨rfl, rfl⟩)
  go_ret2
  exact ⟨rfl, rfl⟩
theorem mark_nil (w : World) (now host : Int) (x : Bool) :
    Calls Try.prog 20 #[.pointer none, .int .i64 now, .int .i64 host, .bool x] w fun e w' => e = .returned (.tuple #[.bool false, .int .i64 (if mom now then 6 else 1)]) ∧ w = w' := by
  have HA := hide (asked_nil w now host)
  have hb : (if mom now then (6 : Int) else 1) ≠ 0 := by split <;> omega
  generalize (if mom now then (6 : Int) else 1) = ee at *
  have hb2 : (ee != 0) = true := bne_iff_ne.2 hb
  go_enter Try.func20, Try.ntmps20
  go_wp2_with (go_at_call 28; refine HA.out.mono ?_; rintro e w' ⟨rfl, rfl⟩)
  go_ret2
  exact ⟨rfl, rfl⟩

set_option maxHeartbeats 2000000 in
set_option maxRecDepth 100000 in
theorem result_any (w : World) (P : Nat → Prop) (fl bs lo sh la now K : Int) (ok : Bool) (i : Nat) (r : HR) (L : List HR) (b g : Nat) (h : Hs fl bs lo sh la L b g w P) (k : HOk fl bs lo sh la K L) (hK : K < 8796093022207) (hm : mom now = true) (hr : (brS (mx la now) L)[i]? = some r) :
    Calls Try.prog 16 #[.pointer (some ⟨b, 0, none⟩), .int .i64 now, .int .i64 (i : Int), .bool ok] w fun e w' => e = .returned (.tuple #[.bool (resB fl sh (brS (mx la now) L) r ok), .int .i64 0]) ∧ Does (Hs fl bs lo sh (mx la now) ((brS (mx la now) L).set i (resR fl bs lo sh (mx la now) (brS (mx la now) L) r ok)) b g) P w w' := by
  have hi : i < L.length := by obtain ⟨q, _⟩ := List.getElem?_eq_some_iff.1 hr; rwa [brS_len] at q
  have HA := hide (asked_any w P fl bs lo sh la now i L b g h k.n1 hm hi)
  have HR := hide hr
  have HK := hide (k.bring hm)
  have hli : i < (brS (mx la now) L).length := by rw [brS_len]; exact hi
  have HLI := hide hli
  clear h hm hr hi k hli
  generalize brS (mx la now) L = L1 at *
  generalize mx la now = m at *
  obtain ⟨⟨rf0, rf1⟩, ⟨rt0, rt1⟩, -⟩ := HK.out.rows r (List.mem_of_getElem? HR.out)
  have fl0 := HK.out.f0
  have fl1 := HK.out.f1
  by_cases he : r.e = true
  · have e1 : resB fl sh L1 r ok = false := by unfold resB; rw [he]; rfl
    have e2 : resR fl bs lo sh m L1 r ok = r := by unfold resR; rw [he]; rfl
    rw [e1, e2, set_same HR.out]
    go_enter Try.func16, Try.ntmps16
    go_wp2_with fail
    refine HA.out.mono ?_
    rintro e w1 ⟨rfl, d⟩
    have HD := hide d
    obtain ⟨P2, y, -, -⟩ := d
    obtain ⟨g0, g1, g2, g3, g4⟩ := y.1.cG HR.out
    rw [he] at g1
    clear y HA
    go_wp2_with fail
    go_ret2
    exact ⟨rfl, HD.out⟩
  · have he' : r.e = false := by simpa using he
    cases ok with
    | true =>
      have e1 : resB fl sh L1 r true = false := by unfold resB; simp
      have e2 : resR fl bs lo sh m L1 r true = ⟨r.h, r.e, r.u, 0, r.t⟩ := by unfold resR; rw [he']; rfl
      rw [e1, e2]
      go_enter Try.func16, Try.ntmps16
      go_wp2_with fail
      refine HA.out.mono ?_
      rintro e w1 ⟨rfl, d⟩
      have HD := hide d
      obtain ⟨P2, y, -, -⟩ := d
      obtain ⟨g0, g1, g2, g3, g4⟩ := y.1.cG HR.out
      have z3 := y.1.fz (i * 5 + 3)
      rw [he'] at g1
      have T1 : Hid (Does (Hs fl bs lo sh m (L1.set i ⟨r.h, r.e, r.u, 0, r.t⟩) b g) P w (w1.setCell ⟨g, i * 5 + 3, none⟩ (.int .i64 0))) := hide (HD.out.trans (fun _ y => HsT.set2 (j := 3) y HR.out (by omega) rfl))
      clear y HA
      go_wp2_with fail
      go_ret2
      exact ⟨rfl, T1.out⟩
    | false =>
      have e1 : resB fl sh L1 r false = ejB fl sh L1 r := by unfold resB; rw [he']; simp
      have e2 : resR fl bs lo sh m L1 r false = if ejB fl sh L1 r then ejR bs lo m r else ⟨r.h, r.e, r.u, r.f + 1, r.t⟩ := by unfold resR; rw [he']; rfl
      rw [e1, e2]
      by_cases q0 : fl = 0
      · have q0' : (fl == 0) = true := by simpa using q0
        have e3 : ejB fl sh L1 r = false := by unfold ejB; simp [q0]
        rw [e3, if_neg (by simp)]
        clear e1 e2 e3
        go_enter Try.func16, Try.ntmps16
        go_wp2_with fail
        refine HA.out.mono ?_
        rintro e w1 ⟨rfl, d⟩
        have HD := hide d
        obtain ⟨P2, y, -, -⟩ := d
        obtain ⟨g0, g1, g2, g3, g4⟩ := y.1.cG HR.out
        have z3 := y.1.fz (i * 5 + 3)
        rw [he'] at g1
        have T1 : Hid (Does (Hs fl bs lo sh m (L1.set i ⟨r.h, r.e, r.u, r.f + 1, r.t⟩) b g) P w (w1.setCell ⟨g, i * 5 + 3, none⟩ (.int .i64 (r.f + 1)))) := hide (HD.out.trans (fun _ y => HsT.set2 (j := 3) y HR.out (by omega) rfl))
        clear y HA HD
        go_upto_region 8 with fail
        clear g0 g1 g2 g3 g4 z3
        generalize w1.setCell ⟨g, i * 5 + 3, none⟩ (.int .i64 (r.f + 1)) = W2 at *
        have HS1 : Hid ((L1.set i ⟨r.h, r.e, r.u, r.f + 1, r.t⟩)[i]? = some ⟨r.h, r.e, r.u, r.f + 1, r.t⟩) := hide (by rw [List.getElem?_set_self HLI.out])
        obtain ⟨P3, y⟩ : ∃ P3, Hs fl bs lo sh m (L1.set i ⟨r.h, r.e, r.u, r.f + 1, r.t⟩) b g W2 P3 := by obtain ⟨P2, q, _⟩ := T1.out; exact ⟨P2, q⟩
        obtain ⟨c0, c1, c2, c3, c4, c5, f4⟩ := y.1.cB
        obtain ⟨g0, g1, g2, g3, g4⟩ := y.1.cG HS1.out
        have HRM := hide (fun q => room_any (W2.drewN q) fl bs lo sh m (L1.set i ⟨r.h, r.e, r.u, r.f + 1, r.t⟩) b g (y.1.fr (Fr.drewN _ _ _)) (by rw [List.length_set]; exact HK.out.n1) HK.out.s0 HK.out.s1)
        rw [room_set (r' := ⟨r.h, r.e, r.u, r.f + 1, r.t⟩) HR.out rfl] at HRM
        have HK2 := hide (HK.out.set (K' := K + 1) (by omega) (i := i) (r := ⟨r.h, r.e, r.u, r.f + 1, r.t⟩) ⟨by show 0 ≤ r.f + 1 ∧ r.f + 1 ≤ K + 1; omega, by show 0 ≤ r.t ∧ r.t ≤ K + 1; omega, (HK.out.rows r (List.mem_of_getElem? HR.out)).2.2⟩)
        clear y
        go_wp2_with fail
        go_quiet (first | (go_at_call 29; refine Calls.quiet_of (HRM.out _)))
        go_wp2_with fail
        go_ret2
        exact ⟨rfl, T1.out.e (Fr.drewN _ _ _)⟩

      have q0' : (fl == 0) = false := by simpa using q0
      by_cases q1 : r.f + 1 < fl
      · have q1' : decide (r.f + 1 < fl) = true := decide_eq_true q1
        have e3 : ejB fl sh L1 r = false := by unfold ejB; rw [decide_eq_false (show ¬ fl ≤ r.f + 1 by omega)]; simp
        rw [e3, if_neg (by simp)]
        clear e1 e2 e3
        go_enter Try.func16, Try.ntmps16
        go_wp2_with fail
        refine HA.out.mono ?_
        rintro e w1 ⟨rfl, d⟩
        have HD := hide d
        obtain ⟨P2, y, -, -⟩ := d
        obtain ⟨g0, g1, g2, g3, g4⟩ := y.1.cG HR.out
        have z3 := y.1.fz (i * 5 + 3)
        rw [he'] at g1
        have T1 : Hid (Does (Hs fl bs lo sh m (L1.set i ⟨r.h, r.e, r.u, r.f + 1, r.t⟩) b g) P w (w1.setCell ⟨g, i * 5 + 3, none⟩ (.int .i64 (r.f + 1)))) := hide (HD.out.trans (fun _ y => HsT.set2 (j := 3) y HR.out (by omega) rfl))
        clear y HA HD
        go_upto_region 8 with fail
        clear g0 g1 g2 g3 g4 z3
        generalize w1.setCell ⟨g, i * 5 + 3, none⟩ (.int .i64 (r.f + 1)) = W2 at *
        have HS1 : Hid ((L1.set i ⟨r.h, r.e, r.u, r.f + 1, r.t⟩)[i]? = some ⟨r.h, r.e, r.u, r.f + 1, r.t⟩) := hide (by rw [List.getElem?_set_self HLI.out])
        obtain ⟨P3, y⟩ : ∃ P3, Hs fl bs lo sh m (L1.set i ⟨r.h, r.e, r.u, r.f + 1, r.t⟩) b g W2 P3 := by obtain ⟨P2, q, _⟩ := T1.out; exact ⟨P2, q⟩
        obtain ⟨c0, c1, c2, c3, c4, c5, f4⟩ := y.1.cB
        obtain ⟨g0, g1, g2, g3, g4⟩ := y.1.cG HS1.out
        have HRM := hide (fun q => room_any (W2.drewN q) fl bs lo sh m (L1.set i ⟨r.h, r.e, r.u, r.f + 1, r.t⟩) b g (y.1.fr (Fr.drewN _ _ _)) (by rw [List.length_set]; exact HK.out.n1) HK.out.s0 HK.out.s1)
        rw [room_set (r' := ⟨r.h, r.e, r.u, r.f + 1, r.t⟩) HR.out rfl] at HRM
        have HK2 := hide (HK.out.set (K' := K + 1) (by omega) (i := i) (r := ⟨r.h, r.e, r.u, r.f + 1, r.t⟩) ⟨by show 0 ≤ r.f + 1 ∧ r.f + 1 ≤ K + 1; omega, by show 0 ≤ r.t ∧ r.t ≤ K + 1; omega, (HK.out.rows r (List.mem_of_getElem? HR.out)).2.2⟩)
        clear y
        go_wp2_with fail
        go_quiet (first | (go_at_call 29; refine Calls.quiet_of (HRM.out _)))
        go_wp2_with fail
        go_ret2
        exact ⟨rfl, T1.out.e (Fr.drewN _ _ _)⟩

      have q1' : decide (r.f + 1 < fl) = false := decide_eq_false q1
      cases q2 : roomB sh L1 with
      | false =>
        have e3 : ejB fl sh L1 r = false := by unfold ejB; rw [q2]; simp
        rw [e3, if_neg (by simp)]
        clear e1 e2 e3
        go_enter Try.func16, Try.ntmps16
        go_wp2_with fail
        refine HA.out.mono ?_
        rintro e w1 ⟨rfl, d⟩
        have HD := hide d
        obtain ⟨P2, y, -, -⟩ := d
        obtain ⟨g0, g1, g2, g3, g4⟩ := y.1.cG HR.out
        have z3 := y.1.fz (i * 5 + 3)
        rw [he'] at g1
        have T1 : Hid (Does (Hs fl bs lo sh m (L1.set i ⟨r.h, r.e, r.u, r.f + 1, r.t⟩) b g) P w (w1.setCell ⟨g, i * 5 + 3, none⟩ (.int .i64 (r.f + 1)))) := hide (HD.out.trans (fun _ y => HsT.set2 (j := 3) y HR.out (by omega) rfl))
        clear y HA HD
        go_upto_region 8 with fail
        clear g0 g1 g2 g3 g4 z3
        generalize w1.setCell ⟨g, i * 5 + 3, none⟩ (.int .i64 (r.f + 1)) = W2 at *
        have HS1 : Hid ((L1.set i ⟨r.h, r.e, r.u, r.f + 1, r.t⟩)[i]? = some ⟨r.h, r.e, r.u, r.f + 1, r.t⟩) := hide (by rw [List.getElem?_set_self HLI.out])
        obtain ⟨P3, y⟩ : ∃ P3, Hs fl bs lo sh m (L1.set i ⟨r.h, r.e, r.u, r.f + 1, r.t⟩) b g W2 P3 := by obtain ⟨P2, q, _⟩ := T1.out; exact ⟨P2, q⟩
        obtain ⟨c0, c1, c2, c3, c4, c5, f4⟩ := y.1.cB
        obtain ⟨g0, g1, g2, g3, g4⟩ := y.1.cG HS1.out
        have HRM := hide (fun q => room_any (W2.drewN q) fl bs lo sh m (L1.set i ⟨r.h, r.e, r.u, r.f + 1, r.t⟩) b g (y.1.fr (Fr.drewN _ _ _)) (by rw [List.length_set]; exact HK.out.n1) HK.out.s0 HK.out.s1)
        rw [room_set (r' := ⟨r.h, r.e, r.u, r.f + 1, r.t⟩) HR.out rfl, q2] at HRM
        have HK2 := hide (HK.out.set (K' := K + 1) (by omega) (i := i) (r := ⟨r.h, r.e, r.u, r.f + 1, r.t⟩) ⟨by show 0 ≤ r.f + 1 ∧ r.f + 1 ≤ K + 1; omega, by show 0 ≤ r.t ∧ r.t ≤ K + 1; omega, (HK.out.rows r (List.mem_of_getElem? HR.out)).2.2⟩)
        clear y
        go_wp2_with fail
        go_quiet (first | (go_at_call 29; refine Calls.quiet_of (HRM.out _)))
        go_wp2_with fail
        go_ret2
        exact ⟨rfl, T1.out.e (Fr.drewN _ _ _)⟩

      | true =>
        have e3 : ejB fl sh L1 r = true := by unfold ejB; rw [q2, decide_eq_false q0, decide_eq_true (show fl ≤ r.f + 1 by omega)]; rfl
        have HE : Hid (ejR bs lo m ⟨r.h, r.e, r.u, r.f + 1, r.t⟩ = ejR bs lo m r) := hide rfl
        rw [e3, if_pos rfl]
        clear e1 e2 e3
        go_enter Try.func16, Try.ntmps16
        go_wp2_with fail
        refine HA.out.mono ?_
        rintro e w1 ⟨rfl, d⟩
        have HD := hide d
        obtain ⟨P2, y, -, -⟩ := d
        obtain ⟨g0, g1, g2, g3, g4⟩ := y.1.cG HR.out
        have z3 := y.1.fz (i * 5 + 3)
        rw [he'] at g1
        have T1 : Hid (Does (Hs fl bs lo sh m (L1.set i ⟨r.h, r.e, r.u, r.f + 1, r.t⟩) b g) P w (w1.setCell ⟨g, i * 5 + 3, none⟩ (.int .i64 (r.f + 1)))) := hide (HD.out.trans (fun _ y => HsT.set2 (j := 3) y HR.out (by omega) rfl))
        clear y HA HD
        go_upto_region 8 with fail
        clear g0 g1 g2 g3 g4 z3
        generalize w1.setCell ⟨g, i * 5 + 3, none⟩ (.int .i64 (r.f + 1)) = W2 at *
        have HS1 : Hid ((L1.set i ⟨r.h, r.e, r.u, r.f + 1, r.t⟩)[i]? = some ⟨r.h, r.e, r.u, r.f + 1, r.t⟩) := hide (by rw [List.getElem?_set_self HLI.out])
        obtain ⟨P3, y, fx, sx⟩ := T1.out
        have HY := hide y
        have FX := hide fx
        have SX := hide sx
        clear fx sx
        obtain ⟨c0, c1, c2, c3, c4, c5, f4⟩ := y.1.cB
        obtain ⟨g0, g1, g2, g3, g4⟩ := y.1.cG HS1.out
        have HRM := hide (fun q => room_any (W2.drewN q) fl bs lo sh m (L1.set i ⟨r.h, r.e, r.u, r.f + 1, r.t⟩) b g (y.1.fr (Fr.drewN _ _ _)) (by rw [List.length_set]; exact HK.out.n1) HK.out.s0 HK.out.s1)
        rw [room_set (r' := ⟨r.h, r.e, r.u, r.f + 1, r.t⟩) HR.out rfl, q2] at HRM
        have HK2 := hide (HK.out.set (K' := K + 1) (by omega) (i := i) (r := ⟨r.h, r.e, r.u, r.f + 1, r.t⟩) ⟨by show 0 ≤ r.f + 1 ∧ r.f + 1 ≤ K + 1; omega, by show 0 ≤ r.t ∧ r.t ≤ K + 1; omega, (HK.out.rows r (List.mem_of_getElem? HR.out)).2.2⟩)
        clear y
        have HX := hide (fun q => eject_any (W2.drewN q) _ fl bs lo sh m (K + 1) i _ _ b g ((HsT.ob _ _ _ _ _ _ _ _ _ _ _).fr _ _ _ _ HY.out (Fr.drewN none' W2 q) (fun _ _ x => x)) HK2.out (by omega) HS1.out)
        rw [HE.out, List.set_set] at HX
        go_wp2_with fail
        go_quiet (first | (go_at_call 29; refine Calls.quiet_of (HRM.out _)))
        go_wp2_with fail
        refine (HX.out _).mono ?_
        rintro e w9 ⟨rfl, d⟩
        have T3 := hide (Does.more (FX.out.d _) SX.out d)
        clear d
        go_wp2_with fail
        go_ret2
        exact ⟨rfl, T3.out⟩

end Go.Proofs.Ytobkgkcemdocnaa
