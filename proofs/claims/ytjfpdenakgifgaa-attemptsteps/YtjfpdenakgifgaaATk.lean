/- Moments later; a request's block and its row, and what is read of it. -/
import Derived.Test.YtjfpdenakgifgaaAPu
import Derived.Test.YtjfpdenakgifgaaURw
namespace Go.Proofs.Ytjfpdenakgifgaa
open Go.ChangeShapes Go.WideShapes Go.ChangeAt Go.RowKit
set_option linter.unusedVariables false

theorem later_any (t d : Int) (w : World) (h0 : 0 ≤ t) (h1 : t ≤ 4611686018427387904) (d0 : 0 ≤ d) (d1 : d ≤ 1000000) :
    Calls Try.prog 62 #[.int .i64 t, .int .i64 d] w fun e w' => e = .returned (.int .i64 (latI t d)) ∧ w = w' := by
  unfold latI
  by_cases h : 4611686018427387904 - t < d
  · rw [if_pos h]
    go_enter Try.func62, Try.ntmps62
    go_wp2
    go_ret
    exact ⟨rfl, rfl⟩
  · rw [if_neg h]
    go_enter Try.func62, Try.ntmps62
    go_wp2
    go_ret
    exact ⟨rfl, rfl⟩
theorem add_any (t d : Int) (w : World) (h0 : 0 ≤ t) (h1 : t ≤ 4611686018427387904) (d0 : 0 ≤ d) (d1 : d ≤ 1000000) :
    Calls Try.prog 56 #[.int .i64 t, .int .i64 d] w fun e w' => e = .returned (.tuple #[.int .i64 (latI t d), .int .i64 0]) ∧ w = w' := by
  have HL := hide (later_any t d w h0 h1 d0 d1)
  have hm := mom_yes h0 h1
  clear h0 h1
  go_enter Try.func56, Try.ntmps56
  go_wp2_with (first | (go_at_call 57; refine (isMoment_any _ _).mono ?_; rintro e w' ⟨rfl, rfl⟩) | (go_at_call 62; refine HL.out.mono ?_; rintro e w' ⟨rfl, rfl⟩))
  go_ret2
  exact ⟨rfl, rfl⟩
theorem lat_any (t d : Int) (w : World) (h0 : 0 ≤ t) (h1 : t ≤ 4611686018427387904) (d0 : 0 ≤ d) (d1 : d ≤ 1000000) :
    Calls Try.prog 28 #[.int .i64 t, .int .i64 d] w fun e w' => e = .returned (.int .i64 (latI t d)) ∧ w = w' := by
  have HL := hide (add_any t d w h0 h1 d0 d1)
  clear h0 h1 d0 d1
  go_enter Try.func28, Try.ntmps28
  go_wp2_with (go_at_call 56; refine HL.out.mono ?_; rintro e w' ⟨rfl, rfl⟩)
  go_ret
  exact ⟨rfl, rfl⟩
theorem untE_0 (now : Int) : untE 0 now = if mom now then 0 else 1 := by
  unfold untE mom
  simp only [decide_eq_true_eq]
  split <;> split <;> omega
theorem isMom_any (t : Int) (w : World) : Calls Try.prog 27 #[.int .i64 t] w fun e w' => e = .returned (.bool (mom t)) ∧ w = w' := by
  have HU := hide (until_any 0 t w)
  rw [untE_0] at HU
  cases hm : mom t with
  | true =>
    rw [hm, if_pos rfl] at HU
    clear hm
    go_enter Try.func27, Try.ntmps27
    go_wp2_with (go_at_call 55; refine HU.out.mono ?_; rintro e w' ⟨rfl, rfl⟩)
    go_ret
    exact ⟨rfl, rfl⟩
  | false =>
    rw [hm, if_neg (by simp)] at HU
    clear hm
    go_enter Try.func27, Try.ntmps27
    go_wp2_with (go_at_call 55; refine HU.out.mono ?_; rintro e w' ⟨rfl, rfl⟩)
    go_ret
    exact ⟨rfl, rfl⟩
theorem isSpan_any (t : Int) (w : World) : Calls Try.prog 54 #[.int .i64 t] w fun e w' => e = .returned (.bool (decide (1 ≤ t ∧ t ≤ 1000000))) ∧ w = w' := by
  by_cases h : 1 ≤ t
  · by_cases k : t ≤ 1000000
    all_goals
      go_enter Try.func54, Try.ntmps54
      go_wp2
      go_ret
      exact ⟨ret_bool (by simp; omega), rfl⟩
  · go_enter Try.func54, Try.ntmps54
    go_wp2
    go_ret
    exact ⟨ret_bool (by simp; omega), rfl⟩
theorem isBad_any (t : Int) (w : World) : Calls Try.prog 51 #[.int .i64 t] w fun e w' => e = .returned (.bool (badB t)) ∧ w = w' := by
  obtain ⟨R, HR⟩ : ∃ R, Hid (badB t = R) := ⟨_, hide rfl⟩
  rw [HR.out]
  unfold badB at HR
  cases h : (t == 502) with
  | true =>
    go_enter Try.func51, Try.ntmps51
    go_wp2
    go_ret
    exact ⟨ret_bool (by rw [← HR.out, h]; rfl), rfl⟩
  | false =>
    cases k : (t == 503) with
    | true =>
      go_enter Try.func51, Try.ntmps51
      go_wp2
      go_ret
      exact ⟨ret_bool (by rw [← HR.out, h, k]; rfl), rfl⟩
    | false =>
      go_enter Try.func51, Try.ntmps51
      go_wp2
      go_ret
      exact ⟨ret_bool (by rw [← HR.out, h, k]; simp), rfl⟩
theorem failure_any (t : Int) (w : World) : Calls Try.prog 60 #[.int .i64 t] w fun e w' => e = .returned (.int .i64 (failC t)) ∧ w = w' := by
  unfold failC
  by_cases h : t = 2
  · subst h
    go_enter Try.func60, Try.ntmps60
    go_wp2
    go_ret
    exact ⟨rfl, rfl⟩
  · rw [if_neg h]
    by_cases k : t = 3
    · subst k
      go_enter Try.func60, Try.ntmps60
      go_wp2
      go_ret
      exact ⟨rfl, rfl⟩
    · rw [if_neg k]
      have h2 : (t == 2) = false := by simpa using h
      have k2 : (t == 3) = false := by simpa using k
      go_enter Try.func60, Try.ntmps60
      go_wp2
      go_ret
      exact ⟨rfl, rfl⟩

def encN (r : Rn) : List Int := [r.id, r.si]
theorem encN_len (r : Rn) : (encN r).length = 2 := rfl
def rnV (r : Rn) : Value := .agg #[.int .i64 r.id, .int .i64 r.si]
def rnO (r : Rn) : Obj := .cells #[.int .i64 r.id, .int .i64 r.si] 72
theorem rn_cells {w : World} {b : Nat} {r : Rn} (h : w.heap[b]? = some (rnO r)) : w.cell? ⟨b, 0, none⟩ = some (.int .i64 r.id) ∧ w.cell? ⟨b, 1, none⟩ = some (.int .i64 r.si) :=
  ⟨cell_of h 0, cell_of h 1⟩
def rqO (p : Rq) (vr : Value) : Obj := .cells #[.int .i64 p.re, .int .i64 p.hg, .int .i64 p.ha, .int .i64 p.pt, .int .i64 p.to, .bool p.sf, .int .i64 p.en, .int .i64 p.m0, .int .i64 p.m1, .int .i64 p.m2, .int .i64 p.la, vr] 62 (0, 0)
abbrev RR (vr : Value) (R : List Rn) : Thing := RT 72 2 vr R.length (fl encN R)
def QT (p : Rq) (b : Nat) (vr : Value) : Thing := Two (Blk b (rqO p vr)) (RR vr p.R)
instance QT.ob (p : Rq) (b : Nat) (vr : Value) : Ob (QT p b vr) := Ob.two
def QX (p : Rq) (b : Nat) : Thing := fun w P => ∃ vr, QT p b vr w P
instance QX.ob (p : Rq) (b : Nat) : Ob (QX p b) := ⟨fun w w' P Q ⟨vr, h⟩ F d => ⟨vr, (QT.ob p b vr).fr w w' P Q h F d⟩, fun w P k ⟨vr, h⟩ hk => (QT.ob p b vr).lt w P k h hk⟩
theorem Does.qx {p : Rq} {b : Nat} {vr : Value} {P : Nat → Prop} {w w' : World} (h : Does (QT p b vr) P w w') : Does (QX p b) P w w' := by
  obtain ⟨P', h1, h2, h3⟩ := h
  exact ⟨P', ⟨vr, h1⟩, h2, h3⟩
/-- What is read of a request. -/
structure QV (p : Rq) (b : Nat) (vr : Value) (w : World) : Prop where
  B : w.heap[b]? = some (rqO p vr)
  R : Rw 72 2 w vr p.R.length (fl encN p.R)
theorem QT.v {p : Rq} {b : Nat} {vr : Value} {w : World} {P : Nat → Prop} (h : QT p b vr w P) : QV p b vr w := by
  obtain ⟨P1, P2, h1, h2, -, -⟩ := h
  exact ⟨h1.1, h2.1⟩
section
variable {p : Rq} {b : Nat} {vr : Value} {w : World}
theorem QV.fr (h : QV p b vr w) {w' : World} (F : Fr none' w w') : QV p b vr w' := ⟨F.hd id h.B, h.R.fr F (fun _ _ x => x)⟩
theorem QV.c (h : QV p b vr w) : w.cell? ⟨b, 0, none⟩ = some (.int .i64 p.re) ∧ w.cell? ⟨b, 1, none⟩ = some (.int .i64 p.hg) ∧ w.cell? ⟨b, 2, none⟩ = some (.int .i64 p.ha) ∧ w.cell? ⟨b, 3, none⟩ = some (.int .i64 p.pt) ∧ w.cell? ⟨b, 4, none⟩ = some (.int .i64 p.to) ∧ w.cell? ⟨b, 5, none⟩ = some (.bool p.sf) ∧ w.cell? ⟨b, 6, none⟩ = some (.int .i64 p.en) ∧ w.cell? ⟨b, 7, none⟩ = some (.int .i64 p.m0) ∧ w.cell? ⟨b, 8, none⟩ = some (.int .i64 p.m1) ∧ w.cell? ⟨b, 9, none⟩ = some (.int .i64 p.m2) ∧ w.cell? ⟨b, 10, none⟩ = some (.int .i64 p.la) ∧ w.cell? ⟨b, 11, none⟩ = some vr :=
  ⟨cell_of h.B 0, cell_of h.B 1, cell_of h.B 2, cell_of h.B 3, cell_of h.B 4, cell_of h.B 5, cell_of h.B 6, cell_of h.B 7, cell_of h.B 8, cell_of h.B 9, cell_of h.B 10, cell_of h.B 11⟩
theorem QV.fz (h : QV p b vr w) (i : Nat) : w.frozen? ⟨b, i, none⟩ = false := frozen_of h.B i
theorem QV.r (h : QV p b vr w) : ∃ a cap, vr = .slice a p.R.length cap ∧ p.R.length ≤ cap ∧ cap ≤ 9223372036854775807 := h.R.shape
theorem run_cells {w : World} {v : Value} {L : List Rn} (h : Rw 72 2 w v L.length (fl encN L)) {i : Nat} {r : Rn} (hr : L[i]? = some r) : ∃ g off cap, v = .slice (some ⟨g, off, none⟩) L.length cap ∧ L.length ≤ cap ∧ cap ≤ 9223372036854775807 ∧ w.cell? ⟨g, off + i * 2, none⟩ = some (.int .i64 r.id) ∧ w.cell? ⟨g, off + i * 2 + 1, none⟩ = some (.int .i64 r.si) ∧ (∀ k, w.frozen? ⟨g, k, none⟩ = false) ∧ g < w.heap.size := by
  have hi : i < L.length := (List.getElem?_eq_some_iff.1 hr).1
  obtain ⟨g, off, cap, e, h1, h2, h3, h4, h5⟩ := h.at hi
  have k : ∀ j, j < 2 → w.cell? ⟨g, off + i * 2 + j, none⟩ = some (.int .i64 ((encN r).getD j 0)) := fun j hj => by
    rw [h3 j hj, fl_at encN_len L i j r hr hj]
  exact ⟨g, off, cap, e, h1, h2, k 0 (by omega), k 1 (by omega), h4, h5⟩
end
theorem get_ok {α : Type} {L : List α} {i : Nat} (hi : i < L.length) : L[i]? = some L[i] := List.getElem?_eq_getElem hi
section
variable (p : Rq) (b : Nat) (vr : Value) (w : World)
set_option maxHeartbeats 1000000 in
theorem over_any (h : QV p b vr w) : Calls Try.prog 19 #[.pointer (some ⟨b, 0, none⟩)] w fun e w' => e = .returned (.bool p.R.isEmpty) ∧ w = w' := by
  obtain ⟨c0, c1, c2, c3, c4, c5, c6, c7, c8, c9, c10, c11⟩ := h.c
  obtain ⟨a, cap, rfl, hc0, hc1⟩ := h.r
  clear h
  by_cases hn : p.R.length = 0
  · have e : p.R.isEmpty = true := by rw [List.eq_nil_of_length_eq_zero hn]; rfl
    rw [e]
    rw [hn] at c11
    clear e hn
    go_enter Try.func19, Try.ntmps19
    go_wp2
    go_ret
    exact ⟨rfl, rfl⟩
  · have e : p.R.isEmpty = false := by rw [List.isEmpty_eq_false_iff]; exact fun x => hn (by rw [x]; rfl)
    rw [e]
    clear e
    generalize p.R.length = n at *
    have hn2 : ((n : Int) == 0) = false := by simpa using hn
    go_enter Try.func19, Try.ntmps19
    go_wp2
    go_ret
    exact ⟨rfl, rfl⟩
theorem over_nil : Calls Try.prog 19 #[.pointer none] w fun e w' => e = .returned (.bool true) ∧ w = w' := by
  go_enter Try.func19, Try.ntmps19
  go_wp2
  go_ret
  exact ⟨rfl, rfl⟩
set_option maxHeartbeats 1000000 in
theorem tired_any (r : Rn) (h : QV p b vr w) (k0 : QOk p) (s0 : 0 ≤ r.si) (s1 : r.si ≤ 4611686018427387904) : Calls Try.prog 40 #[.pointer (some ⟨b, 0, none⟩), rnV r] w fun e w' => e = .returned (.int .i64 (latI r.si p.pt)) ∧ Fr none' w w' := by
  have HA := hide (fun V => (lat_any r.si p.pt V s0 s1 (by have := k0.pt0; omega) k0.pt1).mono (R' := fun e w' => e = .returned (.int .i64 (latI r.si p.pt)) ∧ w' = V) (fun e w' ⟨x, y⟩ => ⟨x, y.symm⟩))
  have HV := hide (h.fr (Fr.alloc none' w (rnO r)))
  have HB : Hid ((w.alloc (rnO r)).heap[w.heap.size]? = some (rnO r)) := hide (hp_new _ _)
  have HF := hide (Fr.alloc none' w (rnO r))
  clear h k0
  unfold rnV
  unfold rnO at HV HB HF
  go_enter Try.func40, Try.ntmps40
  go_wp2_with fail
  obtain ⟨r0, r1⟩ := rn_cells HB.out
  obtain ⟨c0, c1, c2, c3, c4, c5, c6, c7, c8, c9, c10, c11⟩ := HV.out.c
  clear HV HB
  generalize w.alloc _ = w1 at *
  generalize w.heap.size = g at *
  go_quiet (first | (go_at_call 28; refine Calls.quiet_of_same (HA.out _)))
  go_wp2_with fail
  go_ret
  exact ⟨rfl, HF.out.d _⟩
set_option maxHeartbeats 2000000 in
theorem may_any (why : Int) (al : Bool) (h : QV p b vr w) : Calls Try.prog 53 #[.pointer (some ⟨b, 0, none⟩), .int .i64 why, .bool al] w fun e w' => e = .returned (.bool (mayB p why al)) ∧ Fr none' w w' := by
  obtain ⟨c0, c1, c2, c3, c4, c5, c6, c7, c8, c9, c10, c11⟩ := h.c
  clear h
  have HF := hide (fun n => Fr.drewN none' w n)
  obtain ⟨R, HR⟩ : ∃ R, Hid (mayB p why al = R) := ⟨_, hide rfl⟩
  rw [HR.out]
  unfold mayB at HR
  obtain ⟨u, Hu⟩ : ∃ u, Hid ((why == 1 || why == 4) = u) := ⟨_, hide rfl⟩
  rw [Hu.out] at HR
  generalize hsf : p.sf = sf at *
  generalize p.m1 = m at *
  generalize p.re = e at *
  have fin : ∀ n, w.drewN n = w.drewN n := fun _ => rfl
  have HD : Hid (decide (m < e) = true ∨ decide (m < e) = false) := hide (by cases decide (m < e); right; rfl; left; rfl)
  have H1 : Hid ((why == 1) = true ∨ ((why == 1) = false ∧ (why == 4) = true) ∨ ((why == 1) = false ∧ (why == 4) = false)) := hide (by cases (why == 1) <;> cases (why == 4) <;> simp)
  rcases H1.out with h1 | ⟨h1, h4⟩ | ⟨h1, h4⟩
  · clear H1
    cases al with
    | false =>
      cases sf with
      | false =>
        rcases HD.out with hd | hd
        · clear HD
          go_enter Try.func53, Try.ntmps53
          go_upto_region 2 with fail
          go_quiet (fail)
          go_wp2_with fail
          go_ret
          exact ⟨ret_bool (by rw [← HR.out, ← Hu.out]; simp [*]), HF.out _⟩
        · clear HD
          go_enter Try.func53, Try.ntmps53
          go_upto_region 2 with fail
          go_quiet (fail)
          go_wp2_with fail
          go_ret
          exact ⟨ret_bool (by rw [← HR.out, ← Hu.out]; simp [*]), HF.out _⟩
      | true =>
        rcases HD.out with hd | hd
        · clear HD
          go_enter Try.func53, Try.ntmps53
          go_upto_region 2 with fail
          go_quiet (fail)
          go_wp2_with fail
          go_ret
          exact ⟨ret_bool (by rw [← HR.out, ← Hu.out]; simp [*]), HF.out _⟩
        · clear HD
          go_enter Try.func53, Try.ntmps53
          go_upto_region 2 with fail
          go_quiet (fail)
          go_wp2_with fail
          go_ret
          exact ⟨ret_bool (by rw [← HR.out, ← Hu.out]; simp [*]), HF.out _⟩
    | true =>
      cases sf with
      | false =>
        rcases HD.out with hd | hd
        · clear HD
          go_enter Try.func53, Try.ntmps53
          go_upto_region 2 with fail
          go_quiet (fail)
          go_wp2_with fail
          go_ret
          exact ⟨ret_bool (by rw [← HR.out, ← Hu.out]; simp [*]), HF.out _⟩
        · clear HD
          go_enter Try.func53, Try.ntmps53
          go_upto_region 2 with fail
          go_quiet (fail)
          go_wp2_with fail
          go_ret
          exact ⟨ret_bool (by rw [← HR.out, ← Hu.out]; simp [*]), HF.out _⟩
      | true =>
        rcases HD.out with hd | hd
        · clear HD
          go_enter Try.func53, Try.ntmps53
          go_upto_region 2 with fail
          go_quiet (fail)
          go_wp2_with fail
          go_ret
          exact ⟨ret_bool (by rw [← HR.out, ← Hu.out]; simp [*]), HF.out _⟩
        · clear HD
          go_enter Try.func53, Try.ntmps53
          go_upto_region 2 with fail
          go_quiet (fail)
          go_wp2_with fail
          go_ret
          exact ⟨ret_bool (by rw [← HR.out, ← Hu.out]; simp [*]), HF.out _⟩
  · clear H1
    cases al with
    | false =>
      cases sf with
      | false =>
        rcases HD.out with hd | hd
        · clear HD
          go_enter Try.func53, Try.ntmps53
          go_upto_region 2 with fail
          go_quiet (fail)
          go_wp2_with fail
          go_ret
          exact ⟨ret_bool (by rw [← HR.out, ← Hu.out]; simp [*]), HF.out _⟩
        · clear HD
          go_enter Try.func53, Try.ntmps53
          go_upto_region 2 with fail
          go_quiet (fail)
          go_wp2_with fail
          go_ret
          exact ⟨ret_bool (by rw [← HR.out, ← Hu.out]; simp [*]), HF.out _⟩
      | true =>
        rcases HD.out with hd | hd
        · clear HD
          go_enter Try.func53, Try.ntmps53
          go_upto_region 2 with fail
          go_quiet (fail)
          go_wp2_with fail
          go_ret
          exact ⟨ret_bool (by rw [← HR.out, ← Hu.out]; simp [*]), HF.out _⟩
        · clear HD
          go_enter Try.func53, Try.ntmps53
          go_upto_region 2 with fail
          go_quiet (fail)
          go_wp2_with fail
          go_ret
          exact ⟨ret_bool (by rw [← HR.out, ← Hu.out]; simp [*]), HF.out _⟩
    | true =>
      cases sf with
      | false =>
        rcases HD.out with hd | hd
        · clear HD
          go_enter Try.func53, Try.ntmps53
          go_upto_region 2 with fail
          go_quiet (fail)
          go_wp2_with fail
          go_ret
          exact ⟨ret_bool (by rw [← HR.out, ← Hu.out]; simp [*]), HF.out _⟩
        · clear HD
          go_enter Try.func53, Try.ntmps53
          go_upto_region 2 with fail
          go_quiet (fail)
          go_wp2_with fail
          go_ret
          exact ⟨ret_bool (by rw [← HR.out, ← Hu.out]; simp [*]), HF.out _⟩
      | true =>
        rcases HD.out with hd | hd
        · clear HD
          go_enter Try.func53, Try.ntmps53
          go_upto_region 2 with fail
          go_quiet (fail)
          go_wp2_with fail
          go_ret
          exact ⟨ret_bool (by rw [← HR.out, ← Hu.out]; simp [*]), HF.out _⟩
        · clear HD
          go_enter Try.func53, Try.ntmps53
          go_upto_region 2 with fail
          go_quiet (fail)
          go_wp2_with fail
          go_ret
          exact ⟨ret_bool (by rw [← HR.out, ← Hu.out]; simp [*]), HF.out _⟩
  · clear H1
    cases al with
    | false =>
      cases sf with
      | false =>
        rcases HD.out with hd | hd
        · clear HD
          go_enter Try.func53, Try.ntmps53
          go_upto_region 2 with fail
          go_quiet (fail)
          go_wp2_with fail
          go_ret
          exact ⟨ret_bool (by rw [← HR.out, ← Hu.out]; simp [*]), HF.out _⟩
        · clear HD
          go_enter Try.func53, Try.ntmps53
          go_upto_region 2 with fail
          go_quiet (fail)
          go_wp2_with fail
          go_ret
          exact ⟨ret_bool (by rw [← HR.out, ← Hu.out]; simp [*]), HF.out _⟩
      | true =>
        rcases HD.out with hd | hd
        · clear HD
          go_enter Try.func53, Try.ntmps53
          go_upto_region 2 with fail
          go_quiet (fail)
          go_wp2_with fail
          go_ret
          exact ⟨ret_bool (by rw [← HR.out, ← Hu.out]; simp [*]), HF.out _⟩
        · clear HD
          go_enter Try.func53, Try.ntmps53
          go_upto_region 2 with fail
          go_quiet (fail)
          go_wp2_with fail
          go_ret
          exact ⟨ret_bool (by rw [← HR.out, ← Hu.out]; simp [*]), HF.out _⟩
    | true =>
      cases sf with
      | false =>
        rcases HD.out with hd | hd
        · clear HD
          go_enter Try.func53, Try.ntmps53
          go_upto_region 2 with fail
          go_quiet (fail)
          go_wp2_with fail
          go_ret
          exact ⟨ret_bool (by rw [← HR.out, ← Hu.out]; simp [*]), HF.out _⟩
        · clear HD
          go_enter Try.func53, Try.ntmps53
          go_upto_region 2 with fail
          go_quiet (fail)
          go_wp2_with fail
          go_ret
          exact ⟨ret_bool (by rw [← HR.out, ← Hu.out]; simp [*]), HF.out _⟩
      | true =>
        rcases HD.out with hd | hd
        · clear HD
          go_enter Try.func53, Try.ntmps53
          go_upto_region 2 with fail
          go_quiet (fail)
          go_wp2_with fail
          go_ret
          exact ⟨ret_bool (by rw [← HR.out, ← Hu.out]; simp [*]), HF.out _⟩
        · clear HD
          go_enter Try.func53, Try.ntmps53
          go_upto_region 2 with fail
          go_quiet (fail)
          go_wp2_with fail
          go_ret
          exact ⟨ret_bool (by rw [← HR.out, ← Hu.out]; simp [*]), HF.out _⟩
end
end Go.Proofs.Ytjfpdenakgifgaa
