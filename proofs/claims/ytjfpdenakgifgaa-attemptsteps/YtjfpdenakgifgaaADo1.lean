/- The document's request: its block and its rows; what is read of it. -/
import Derived.Test.YtjfpdenakgifgaaATp
import Derived.Test.YtjfpdenakgifgaaAFi
namespace Go.Proofs.Ytjfpdenakgifgaa
open Go.ChangeShapes Go.WideShapes Go.ChangeAt Go.RowKit
set_option linter.unusedVariables false

/-- What the document keeps beside: since when, how many hedges, and whether none is made any more. -/
structure Ex where
  si : Int
  hg : Int
  tm : Bool
def dO (x : Ex) (p : Rq) (mk : Int) (ov : Bool) (vi vb vo : Value) : Obj := .cells #[.int .i64 p.re, .int .i64 x.hg, .int .i64 p.ha, .int .i64 p.pt, .int .i64 p.to, .bool p.sf, .int .i64 x.si, .int .i64 p.la, .int .i64 mk, .int .i64 p.m1, .int .i64 p.m2, vi, vb, .bool ov, .bool x.tm, vo] 47 (0, 0)
def sis (L : List Rn) : List Int := L.map (·.si)
theorem sis_len (L : List Rn) : (sis L).length = L.length := by simp [sis]
abbrev RB (v : Value) (A : List Ac) : Thing := RT 66 3 v A.length (fl encA A)
theorem infRac : Inf 33 66 3 24 := inf_of Try.underlying33 (by kernel_rfl)
def DT (x : Ex) (p : Rq) (mk : Int) (ov : Bool) (I B : List Int) (A : List Ac) (b : Nat) (vi vb vo : Value) : Thing := Two (Blk b (dO x p mk ov vi vb vo)) (Two (RI vi I) (Two (RI vb B) (RB vo A)))
instance DT.ob (x : Ex) (p : Rq) (mk : Int) (ov : Bool) (I B : List Int) (A : List Ac) (b : Nat) (vi vb vo : Value) : Ob (DT x p mk ov I B A b vi vb vo) := Ob.two
def DX (x : Ex) (p : Rq) (mk : Int) (A : List Ac) (ov : Bool) (b : Nat) : Thing := fun w P => ∃ vi vb vo, DT x p mk ov (ids p.R) (sis p.R) A b vi vb vo w P
instance DX.ob (x : Ex) (p : Rq) (mk : Int) (A : List Ac) (ov : Bool) (b : Nat) : Ob (DX x p mk A ov b) := ⟨fun w w' P Q ⟨vi, vb, vo, h⟩ F d => ⟨vi, vb, vo, Ob.fr w w' P Q h F d⟩, fun w P k ⟨vi, vb, vo, h⟩ hk => Ob.lt w P k h hk⟩
theorem Does.dx {x : Ex} {p : Rq} {mk : Int} {A : List Ac} {ov : Bool} {b : Nat} {vi vb vo : Value} {P : Nat → Prop} {w w' : World} (h : Does (DT x p mk ov (ids p.R) (sis p.R) A b vi vb vo) P w w') : Does (DX x p mk A ov b) P w w' := by
  obtain ⟨P', h1, h2, h3⟩ := h
  exact ⟨P', ⟨vi, vb, vo, h1⟩, h2, h3⟩
/-- Its parts, and that they lie apart. -/
structure DPt (x : Ex) (p : Rq) (mk : Int) (ov : Bool) (I B : List Int) (A : List Ac) (b : Nat) (vi vb vo : Value) (w : World) (P : Nat → Prop) : Prop where
  B0 : w.heap[b]? = some (dO x p mk ov vi vb vo)
  I : Rw 3 1 w vi I.length I
  B : Rw 3 1 w vb B.length B
  A : Rw 66 3 w vo A.length (fl encA A)
  nI : vi.ownBlock ≠ some b
  nB : vb.ownBlock ≠ some b
  nA : vo.ownBlock ≠ some b
  dIB : ∀ k, vi.ownBlock = some k → vb.ownBlock ≠ some k
  dIA : ∀ k, vi.ownBlock = some k → vo.ownBlock ≠ some k
  dBA : ∀ k, vb.ownBlock = some k → vo.ownBlock ≠ some k
  hP : ∀ k, P k ↔ (k = b ∨ vi.ownBlock = some k ∨ vb.ownBlock = some k ∨ vo.ownBlock = some k)
section
variable {x : Ex} {p : Rq} {mk : Int} {ov : Bool} {I B : List Int} {A : List Ac} {b : Nat} {vi vb vo : Value} {w : World} {P : Nat → Prop}
theorem DT.pt (h : DT x p mk ov I B A b vi vb vo w P) : DPt x p mk ov I B A b vi vb vo w P := by
  obtain ⟨P1, P2, h1, ⟨P3, P4, h3, ⟨P5, P6, h5, h6, d3, e3⟩, d2, e2⟩, d1, e1⟩ := h
  refine ⟨h1.1, h3.1, h5.1, h6.1, fun e => ?_, fun e => ?_, fun e => ?_, fun k hk e => ?_, fun k hk e => ?_, fun k hk e => ?_, fun k => ?_⟩
  · exact d1 b ((h1.2 b).2 rfl) ((e2 b).2 (.inl ((h3.2 b).2 e)))
  · exact d1 b ((h1.2 b).2 rfl) ((e2 b).2 (.inr ((e3 b).2 (.inl ((h5.2 b).2 e)))))
  · exact d1 b ((h1.2 b).2 rfl) ((e2 b).2 (.inr ((e3 b).2 (.inr ((h6.2 b).2 e)))))
  · exact d2 k ((h3.2 k).2 hk) ((e3 k).2 (.inl ((h5.2 k).2 e)))
  · exact d2 k ((h3.2 k).2 hk) ((e3 k).2 (.inr ((h6.2 k).2 e)))
  · exact d3 k ((h5.2 k).2 hk) ((h6.2 k).2 e)
  · rw [e1 k, e2 k, e3 k, h1.2 k, h3.2 k, h5.2 k, h6.2 k]
theorem DT.mkd (B0 : w.heap[b]? = some (dO x p mk ov vi vb vo)) (hI : Rw 3 1 w vi I.length I) (hB : Rw 3 1 w vb B.length B) (hA : Rw 66 3 w vo A.length (fl encA A)) (nI : vi.ownBlock ≠ some b) (nB : vb.ownBlock ≠ some b) (nA : vo.ownBlock ≠ some b) (dIB : ∀ k, vi.ownBlock = some k → vb.ownBlock ≠ some k) (dIA : ∀ k, vi.ownBlock = some k → vo.ownBlock ≠ some k) (dBA : ∀ k, vb.ownBlock = some k → vo.ownBlock ≠ some k) : DT x p mk ov I B A b vi vb vo w (fun k => k = b ∨ vi.ownBlock = some k ∨ vb.ownBlock = some k ∨ vo.ownBlock = some k) :=
  ⟨fun k => k = b, fun k => vi.ownBlock = some k ∨ vb.ownBlock = some k ∨ vo.ownBlock = some k, ⟨B0, fun _ => Iff.rfl⟩, ⟨_, fun k => vb.ownBlock = some k ∨ vo.ownBlock = some k, ⟨hI, fun _ => Iff.rfl⟩, ⟨_, _, ⟨hB, fun _ => Iff.rfl⟩, ⟨hA, fun _ => Iff.rfl⟩, dBA, fun _ => Iff.rfl⟩, fun k hk e => e.elim (dIB k hk) (dIA k hk), fun _ => Iff.rfl⟩, fun k e y => by subst e; exact y.elim nI (fun z => z.elim nB nA), fun _ => Iff.rfl⟩
theorem DPt.c (h : DPt x p mk ov I B A b vi vb vo w P) : w.cell? ⟨b, 0, none⟩ = some (.int .i64 p.re) ∧ w.cell? ⟨b, 1, none⟩ = some (.int .i64 x.hg) ∧ w.cell? ⟨b, 2, none⟩ = some (.int .i64 p.ha) ∧ w.cell? ⟨b, 3, none⟩ = some (.int .i64 p.pt) ∧ w.cell? ⟨b, 4, none⟩ = some (.int .i64 p.to) ∧ w.cell? ⟨b, 5, none⟩ = some (.bool p.sf) ∧ w.cell? ⟨b, 6, none⟩ = some (.int .i64 x.si) ∧ w.cell? ⟨b, 7, none⟩ = some (.int .i64 p.la) ∧ w.cell? ⟨b, 8, none⟩ = some (.int .i64 mk) ∧ w.cell? ⟨b, 9, none⟩ = some (.int .i64 p.m1) ∧ w.cell? ⟨b, 10, none⟩ = some (.int .i64 p.m2) ∧ w.cell? ⟨b, 11, none⟩ = some vi ∧ w.cell? ⟨b, 12, none⟩ = some vb ∧ w.cell? ⟨b, 13, none⟩ = some (.bool ov) ∧ w.cell? ⟨b, 14, none⟩ = some (.bool x.tm) ∧ w.cell? ⟨b, 15, none⟩ = some vo :=
  ⟨cell_of h.B0 0, cell_of h.B0 1, cell_of h.B0 2, cell_of h.B0 3, cell_of h.B0 4, cell_of h.B0 5, cell_of h.B0 6, cell_of h.B0 7, cell_of h.B0 8, cell_of h.B0 9, cell_of h.B0 10, cell_of h.B0 11, cell_of h.B0 12, cell_of h.B0 13, cell_of h.B0 14, cell_of h.B0 15⟩
theorem DPt.fz (h : DPt x p mk ov I B A b vi vb vo w P) (i : Nat) : w.frozen? ⟨b, i, none⟩ = false := frozen_of h.B0 i
theorem DPt.fr (h : DPt x p mk ov I B A b vi vb vo w P) {w' : World} (F : Fr none' w w') : DPt x p mk ov I B A b vi vb vo w' P := ⟨F.hd (fun y => y) h.B0, h.I.fr F (fun _ _ y => y), h.B.fr F (fun _ _ y => y), h.A.fr F (fun _ _ y => y), h.nI, h.nB, h.nA, h.dIB, h.dIA, h.dBA, h.hP⟩
/-- One number of its own. -/
theorem DT.setN (h : DT x p mk ov I B A b vi vb vo w P) {x' : Ex} {p' : Rq} {mk' : Int} {ov' : Bool} (i : Nat) (v : Value) (he : setO (dO x p mk ov vi vb vo) i v = dO x' p' mk' ov' vi vb vo) : Does (DT x' p' mk' ov' I B A b vi vb vo) P w (w.setCell ⟨b, i, none⟩ v) := by
  have q := h.pt
  have F := Fr.set w b i v
  refine ⟨_, DT.mkd (by rw [← he]; exact hp_set q.B0 i v) (q.I.fr F (fun k hk e => q.nI (by rw [hk, e]))) (q.B.fr F (fun k hk e => q.nB (by rw [hk, e]))) (q.A.fr F (fun k hk e => q.nA (by rw [hk, e]))) q.nI q.nB q.nA q.dIB q.dIA q.dBA, F.mono (fun k _ e => (q.hP k).2 (.inl e)), fun k hk => .inl ((q.hP k).2 hk)⟩
theorem DT.setI (h : DT x p mk ov I B A b vi vb vo w P) {w' : World} {v' : Value} {I' : List Int} (s : Rw 3 1 w' v' I'.length I') (F : Fr (fun k => vi.ownBlock = some k) w w') (o : ∀ k, v'.ownBlock = some k → vi.ownBlock = some k ∨ w.heap.size ≤ k) : Does (DT x p mk ov I' B A b v' vb vo) P w (w'.setCell ⟨b, 11, none⟩ v') := by
  have q := h.pt
  have hb := hp_lt q.B0
  have n1 : v'.ownBlock ≠ some b := fun e => (o b e).elim q.nI (fun y => by omega)
  have k1 : w'.heap[b]? = some (dO x p mk ov vi vb vo) := F.hd q.nI q.B0
  refine ⟨_, DT.mkd (hp_set k1 11 v') (s.fr (Fr.set _ _ _ _) (fun k hk e => n1 (by rw [hk, e]))) ((q.B.fr F (fun k hk e => q.dIB k e hk)).fr (Fr.set _ _ _ _) (fun k hk e => q.nB (by rw [hk, e]))) ((q.A.fr F (fun k hk e => q.dIA k e hk)).fr (Fr.set _ _ _ _) (fun k hk e => q.nA (by rw [hk, e]))) n1 q.nB q.nA (fun k hk e => (o k hk).elim (fun y => q.dIB k y e) (fun y => by have := q.B.lt e; omega)) (fun k hk e => (o k hk).elim (fun y => q.dIA k y e) (fun y => by have := q.A.lt e; omega)) q.dBA, (F.mono (fun k _ y => (q.hP k).2 (.inr (.inl y)))).trans (Fr.set _ _ _ _) (fun k _ e => (q.hP k).2 (.inl e)), fun k hk => ?_⟩
  rcases hk with e | e | e | e
  · exact .inl ((q.hP k).2 (.inl e))
  · exact (o k e).imp (fun y => (q.hP k).2 (.inr (.inl y))) (fun y => y)
  · exact .inl ((q.hP k).2 (.inr (.inr (.inl e))))
  · exact .inl ((q.hP k).2 (.inr (.inr (.inr e))))
theorem DT.setB (h : DT x p mk ov I B A b vi vb vo w P) {w' : World} {v' : Value} {B' : List Int} (s : Rw 3 1 w' v' B'.length B') (F : Fr (fun k => vb.ownBlock = some k) w w') (o : ∀ k, v'.ownBlock = some k → vb.ownBlock = some k ∨ w.heap.size ≤ k) : Does (DT x p mk ov I B' A b vi v' vo) P w (w'.setCell ⟨b, 12, none⟩ v') := by
  have q := h.pt
  have hb := hp_lt q.B0
  have n1 : v'.ownBlock ≠ some b := fun e => (o b e).elim q.nB (fun y => by omega)
  have k1 : w'.heap[b]? = some (dO x p mk ov vi vb vo) := F.hd q.nB q.B0
  refine ⟨_, DT.mkd (hp_set k1 12 v') ((q.I.fr F (fun k hk e => q.dIB k hk e)).fr (Fr.set _ _ _ _) (fun k hk e => q.nI (by rw [hk, e]))) (s.fr (Fr.set _ _ _ _) (fun k hk e => n1 (by rw [hk, e]))) ((q.A.fr F (fun k hk e => q.dBA k e hk)).fr (Fr.set _ _ _ _) (fun k hk e => q.nA (by rw [hk, e]))) q.nI n1 q.nA (fun k hk e => (o k e).elim (q.dIB k hk) (fun y => by have := q.I.lt hk; omega)) q.dIA (fun k hk e => (o k hk).elim (fun y => q.dBA k y e) (fun y => by have := q.A.lt e; omega)), (F.mono (fun k _ y => (q.hP k).2 (.inr (.inr (.inl y))))).trans (Fr.set _ _ _ _) (fun k _ e => (q.hP k).2 (.inl e)), fun k hk => ?_⟩
  rcases hk with e | e | e | e
  · exact .inl ((q.hP k).2 (.inl e))
  · exact .inl ((q.hP k).2 (.inr (.inl e)))
  · exact (o k e).imp (fun y => (q.hP k).2 (.inr (.inr (.inl y)))) (fun y => y)
  · exact .inl ((q.hP k).2 (.inr (.inr (.inr e))))
theorem DT.setA (h : DT x p mk ov I B A b vi vb vo w P) {w' : World} {v' : Value} {A' : List Ac} (s : Rw 66 3 w' v' A'.length (fl encA A')) (F : Fr (fun k => vo.ownBlock = some k) w w') (o : ∀ k, v'.ownBlock = some k → vo.ownBlock = some k ∨ w.heap.size ≤ k) : Does (DT x p mk ov I B A' b vi vb v') P w (w'.setCell ⟨b, 15, none⟩ v') := by
  have q := h.pt
  have hb := hp_lt q.B0
  have n1 : v'.ownBlock ≠ some b := fun e => (o b e).elim q.nA (fun y => by omega)
  have k1 : w'.heap[b]? = some (dO x p mk ov vi vb vo) := F.hd q.nA q.B0
  refine ⟨_, DT.mkd (hp_set k1 15 v') ((q.I.fr F (fun k hk e => q.dIA k hk e)).fr (Fr.set _ _ _ _) (fun k hk e => q.nI (by rw [hk, e]))) ((q.B.fr F (fun k hk e => q.dBA k hk e)).fr (Fr.set _ _ _ _) (fun k hk e => q.nB (by rw [hk, e]))) (s.fr (Fr.set _ _ _ _) (fun k hk e => n1 (by rw [hk, e]))) q.nI q.nB n1 q.dIB (fun k hk e => (o k e).elim (q.dIA k hk) (fun y => by have := q.I.lt hk; omega)) (fun k hk e => (o k e).elim (q.dBA k hk) (fun y => by have := q.B.lt hk; omega)), (F.mono (fun k _ y => (q.hP k).2 (.inr (.inr (.inr y))))).trans (Fr.set _ _ _ _) (fun k _ e => (q.hP k).2 (.inl e)), fun k hk => ?_⟩
  rcases hk with e | e | e | e
  · exact .inl ((q.hP k).2 (.inl e))
  · exact .inl ((q.hP k).2 (.inr (.inl e)))
  · exact .inl ((q.hP k).2 (.inr (.inr (.inl e))))
  · exact (o k e).imp (fun y => (q.hP k).2 (.inr (.inr (.inr y)))) (fun y => y)
end
theorem rlater_any (t d : Int) (w : World) (h0 : 0 ≤ t) (h1 : t ≤ 4611686018427387904) (d0 : 0 ≤ d) (d1 : d ≤ 1000000) :
    Calls Try.prog 38 #[.int .i64 t, .int .i64 d] w fun e w' => e = .returned (.int .i64 (latI t d)) ∧ w = w' := by
  unfold latI
  have h2 : decide (t + d < t) = false := decide_eq_false (by omega)
  by_cases h : 4611686018427387904 - t < d
  · rw [if_pos h]
    have h3 : decide (4611686018427387904 < t + d) = true := decide_eq_true (by omega)
    go_enter Try.func38, Try.ntmps38
    go_wp2
    go_ret
    exact ⟨rfl, rfl⟩
  · rw [if_neg h]
    have h3 : decide (4611686018427387904 < t + d) = false := decide_eq_false (by omega)
    go_enter Try.func38, Try.ntmps38
    go_wp2
    go_ret
    exact ⟨rfl, rfl⟩
theorem rspan_any (t : Int) (w : World) : Calls Try.prog 30 #[.int .i64 t] w fun e w' => e = .returned (.bool (decide (1 ≤ t ∧ t ≤ 1000000))) ∧ w = w' := by
  by_cases h : 1 ≤ t
  · by_cases k : t ≤ 1000000
    all_goals
      go_enter Try.func30, Try.ntmps30
      go_wp2
      go_ret
      exact ⟨ret_bool (by simp; omega), rfl⟩
  · go_enter Try.func30, Try.ntmps30
    go_wp2
    go_ret
    exact ⟨ret_bool (by simp; omega), rfl⟩
section
variable {x : Ex} {p : Rq} {mk : Int} {ov : Bool} {I B : List Int} {A : List Ac} {b : Nat} {vi vb vo : Value} {w : World} {P : Nat → Prop}
set_option maxHeartbeats 2000000 in
theorem rmay_any (why : Int) (al : Bool) (h : DPt x p mk ov I B A b vi vb vo w P) : Calls Try.prog 36 #[.pointer (some ⟨b, 0, none⟩), .int .i64 why, .bool al] w fun e w' => e = .returned (.bool (mayB p why al)) ∧ Fr none' w w' := by
  obtain ⟨c0, c1, c2, c3, c4, c5, c6, c7, c8, c9, c10, c11, c12, c13, c14, c15⟩ := h.c
  clear h
  have HF := hide (fun n => Fr.drewN none' w n)
  obtain ⟨R, HR⟩ : ∃ R, Hid (mayB p why al = R) := ⟨_, hide rfl⟩
  rw [HR.out]
  unfold mayB at HR
  generalize hsf : p.sf = sf at *
  generalize p.m1 = m at *
  generalize p.re = e at *
  have HD : Hid (decide (m < e) = true ∨ decide (m < e) = false) := hide (by cases decide (m < e); right; rfl; left; rfl)
  have H1 : Hid ((why == 1) = true ∨ ((why == 1) = false ∧ (why == 4) = true) ∨ ((why == 1) = false ∧ (why == 4) = false)) := hide (by cases (why == 1) <;> cases (why == 4) <;> simp)
  rcases H1.out with h1 | ⟨h1, h4⟩ | ⟨h1, h4⟩
  · clear H1
    cases al with
    | false =>
      cases sf with
      | false =>
        rcases HD.out with hd | hd
        · clear HD
          go_enter Try.func36, Try.ntmps36
          go_upto_region 1 with fail
          go_quiet (fail)
          go_wp2_with fail
          go_ret
          exact ⟨ret_bool (by rw [← HR.out]; simp [*]), HF.out _⟩
        · clear HD
          go_enter Try.func36, Try.ntmps36
          go_upto_region 1 with fail
          go_quiet (fail)
          go_wp2_with fail
          go_ret
          exact ⟨ret_bool (by rw [← HR.out]; simp [*]), HF.out _⟩
      | true =>
        rcases HD.out with hd | hd
        · clear HD
          go_enter Try.func36, Try.ntmps36
          go_upto_region 1 with fail
          go_quiet (fail)
          go_wp2_with fail
          go_ret
          exact ⟨ret_bool (by rw [← HR.out]; simp [*]), HF.out _⟩
        · clear HD
          go_enter Try.func36, Try.ntmps36
          go_upto_region 1 with fail
          go_quiet (fail)
          go_wp2_with fail
          go_ret
          exact ⟨ret_bool (by rw [← HR.out]; simp [*]), HF.out _⟩
    | true =>
      cases sf with
      | false =>
        rcases HD.out with hd | hd
        · clear HD
          go_enter Try.func36, Try.ntmps36
          go_upto_region 1 with fail
          go_quiet (fail)
          go_wp2_with fail
          go_ret
          exact ⟨ret_bool (by rw [← HR.out]; simp [*]), HF.out _⟩
        · clear HD
          go_enter Try.func36, Try.ntmps36
          go_upto_region 1 with fail
          go_quiet (fail)
          go_wp2_with fail
          go_ret
          exact ⟨ret_bool (by rw [← HR.out]; simp [*]), HF.out _⟩
      | true =>
        rcases HD.out with hd | hd
        · clear HD
          go_enter Try.func36, Try.ntmps36
          go_upto_region 1 with fail
          go_quiet (fail)
          go_wp2_with fail
          go_ret
          exact ⟨ret_bool (by rw [← HR.out]; simp [*]), HF.out _⟩
        · clear HD
          go_enter Try.func36, Try.ntmps36
          go_upto_region 1 with fail
          go_quiet (fail)
          go_wp2_with fail
          go_ret
          exact ⟨ret_bool (by rw [← HR.out]; simp [*]), HF.out _⟩
  · clear H1
    cases al with
    | false =>
      cases sf with
      | false =>
        rcases HD.out with hd | hd
        · clear HD
          go_enter Try.func36, Try.ntmps36
          go_upto_region 1 with fail
          go_quiet (fail)
          go_wp2_with fail
          go_ret
          exact ⟨ret_bool (by rw [← HR.out]; simp [*]), HF.out _⟩
        · clear HD
          go_enter Try.func36, Try.ntmps36
          go_upto_region 1 with fail
          go_quiet (fail)
          go_wp2_with fail
          go_ret
          exact ⟨ret_bool (by rw [← HR.out]; simp [*]), HF.out _⟩
      | true =>
        rcases HD.out with hd | hd
        · clear HD
          go_enter Try.func36, Try.ntmps36
          go_upto_region 1 with fail
          go_quiet (fail)
          go_wp2_with fail
          go_ret
          exact ⟨ret_bool (by rw [← HR.out]; simp [*]), HF.out _⟩
        · clear HD
          go_enter Try.func36, Try.ntmps36
          go_upto_region 1 with fail
          go_quiet (fail)
          go_wp2_with fail
          go_ret
          exact ⟨ret_bool (by rw [← HR.out]; simp [*]), HF.out _⟩
    | true =>
      cases sf with
      | false =>
        rcases HD.out with hd | hd
        · clear HD
          go_enter Try.func36, Try.ntmps36
          go_upto_region 1 with fail
          go_quiet (fail)
          go_wp2_with fail
          go_ret
          exact ⟨ret_bool (by rw [← HR.out]; simp [*]), HF.out _⟩
        · clear HD
          go_enter Try.func36, Try.ntmps36
          go_upto_region 1 with fail
          go_quiet (fail)
          go_wp2_with fail
          go_ret
          exact ⟨ret_bool (by rw [← HR.out]; simp [*]), HF.out _⟩
      | true =>
        rcases HD.out with hd | hd
        · clear HD
          go_enter Try.func36, Try.ntmps36
          go_upto_region 1 with fail
          go_quiet (fail)
          go_wp2_with fail
          go_ret
          exact ⟨ret_bool (by rw [← HR.out]; simp [*]), HF.out _⟩
        · clear HD
          go_enter Try.func36, Try.ntmps36
          go_upto_region 1 with fail
          go_quiet (fail)
          go_wp2_with fail
          go_ret
          exact ⟨ret_bool (by rw [← HR.out]; simp [*]), HF.out _⟩
  · clear H1
    cases al with
    | false =>
      cases sf with
      | false =>
        rcases HD.out with hd | hd
        · clear HD
          go_enter Try.func36, Try.ntmps36
          go_upto_region 1 with fail
          go_quiet (fail)
          go_wp2_with fail
          go_ret
          exact ⟨ret_bool (by rw [← HR.out]; simp [*]), HF.out _⟩
        · clear HD
          go_enter Try.func36, Try.ntmps36
          go_upto_region 1 with fail
          go_quiet (fail)
          go_wp2_with fail
          go_ret
          exact ⟨ret_bool (by rw [← HR.out]; simp [*]), HF.out _⟩
      | true =>
        rcases HD.out with hd | hd
        · clear HD
          go_enter Try.func36, Try.ntmps36
          go_upto_region 1 with fail
          go_quiet (fail)
          go_wp2_with fail
          go_ret
          exact ⟨ret_bool (by rw [← HR.out]; simp [*]), HF.out _⟩
        · clear HD
          go_enter Try.func36, Try.ntmps36
          go_upto_region 1 with fail
          go_quiet (fail)
          go_wp2_with fail
          go_ret
          exact ⟨ret_bool (by rw [← HR.out]; simp [*]), HF.out _⟩
    | true =>
      cases sf with
      | false =>
        rcases HD.out with hd | hd
        · clear HD
          go_enter Try.func36, Try.ntmps36
          go_upto_region 1 with fail
          go_quiet (fail)
          go_wp2_with fail
          go_ret
          exact ⟨ret_bool (by rw [← HR.out]; simp [*]), HF.out _⟩
        · clear HD
          go_enter Try.func36, Try.ntmps36
          go_upto_region 1 with fail
          go_quiet (fail)
          go_wp2_with fail
          go_ret
          exact ⟨ret_bool (by rw [← HR.out]; simp [*]), HF.out _⟩
      | true =>
        rcases HD.out with hd | hd
        · clear HD
          go_enter Try.func36, Try.ntmps36
          go_upto_region 1 with fail
          go_quiet (fail)
          go_wp2_with fail
          go_ret
          exact ⟨ret_bool (by rw [← HR.out]; simp [*]), HF.out _⟩
        · clear HD
          go_enter Try.func36, Try.ntmps36
          go_upto_region 1 with fail
          go_quiet (fail)
          go_wp2_with fail
          go_ret
          exact ⟨ret_bool (by rw [← HR.out]; simp [*]), HF.out _⟩
set_option maxHeartbeats 2000000 in
theorem rtold_any (h : DT x p mk ov I B A b vi vb vo w P) : Calls Try.prog 32 #[.pointer (some ⟨b, 0, none⟩)] w fun e w' => e = .returned vo ∧ Does (Two (RB vo A) (DT x p mk ov I B [] b vi vb (.slice none 0 0))) P w w' := by
  have q := h.pt
  obtain ⟨a, cap, hvo, -, -⟩ := q.A.shape
  have T1 : Hid (Does (Two (RB vo A) (DT x p mk ov I B [] b vi vb (.slice none 0 0))) P w (w.setCell ⟨b, 15, none⟩ (.slice none 0 0))) := hide (by
    have F := Fr.set w b 15 (.slice none 0 0)
    refine ⟨P, ⟨fun k => vo.ownBlock = some k, fun k => k = b ∨ vi.ownBlock = some k ∨ vb.ownBlock = some k ∨ (Value.slice none 0 0).ownBlock = some k, ⟨q.A.fr F (fun k hk e => q.nA (by rw [hk, e])), fun _ => Iff.rfl⟩, DT.mkd (hp_set q.B0 15 _) (q.I.fr F (fun k hk e => q.nI (by rw [hk, e]))) (q.B.fr F (fun k hk e => q.nB (by rw [hk, e]))) (Rw.nil _ _ _) q.nI q.nB (by simp [Value.ownBlock]) q.dIB (fun k _ => by simp [Value.ownBlock]) (fun k _ => by simp [Value.ownBlock]), fun k hk e => ?_, fun k => ?_⟩, F.mono (fun k _ e => (q.hP k).2 (.inl e)), fun k hk => .inl hk⟩
    · rcases e with e | e | e | e
      · exact q.nA (by rw [hk, e])
      · exact q.dIA k e hk
      · exact q.dBA k e hk
      · simp [Value.ownBlock] at e
    · rw [q.hP k]
      constructor
      · rintro (e | e | e | e)
        · exact .inr (.inl e)
        · exact .inr (.inr (.inl e))
        · exact .inr (.inr (.inr (.inl e)))
        · exact .inl e
      · rintro (e | e | e | e | e)
        · exact .inr (.inr (.inr e))
        · exact .inl e
        · exact .inr (.inl e)
        · exact .inr (.inr (.inl e))
        · simp [Value.ownBlock] at e)
  obtain ⟨c0, c1, c2, c3, c4, c5, c6, c7, c8, c9, c10, c11, c12, c13, c14, c15⟩ := q.c
  have z := q.fz 15
  subst hvo
  clear h q
  go_enter Try.func32, Try.ntmps32
  go_wp2_with fail
  go_ret
  exact ⟨rfl, T1.out⟩
set_option maxHeartbeats 2000000 in
theorem rruns_any (id : Int) (h : DPt x p mk ov I B A b vi vb vo w P) (hl : I.length ≤ 64) : Calls Try.prog 33 #[.pointer (some ⟨b, 0, none⟩), .int .i64 id] w fun e w' => e = .returned (.bool (I.contains id && !ov)) ∧ w = w' := by
  obtain ⟨c0, c1, c2, c3, c4, c5, c6, c7, c8, c9, c10, c11, c12, c13, c14, c15⟩ := h.c
  obtain ⟨a, cap, rfl, hc0, hc1⟩ := h.I.shape
  have HH := hide h.I
  clear h
  obtain ⟨n, Hn⟩ : ∃ n, Hid (I.length = n) := ⟨_, hide rfl⟩
  rw [Hn.out] at hl hc0 c11
  obtain ⟨R, HR⟩ : ∃ R, Hid ((I.contains id && !ov) = R) := ⟨_, hide rfl⟩
  rw [HR.out]
  go_enter Try.func33, Try.ntmps33
  go_wp2_with fail
  go_loop [12] (fun u => ∃ k : Nat, k ≤ n ∧ u = .int .i64 (k : Int) ∧ Hid (noq (isI id) I k)) (fun u => n - (intOf u).toNat)
  case atStart => exact ⟨0, Nat.zero_le _, rfl, hide (fun _ _ h => by omega)⟩
  case round =>
    obtain ⟨k, hk, rfl, HN⟩ := hrel
    by_cases hlt : k < n
    · have hkl : k < I.length := by rw [Hn.out]; exact hlt
      have hr := get_ok hkl
      have HNX := hide (fun hq => noq_next HN.out hr hq)
      have HME := hide (List.getElem_mem hkl)
      obtain ⟨g1, off, cap1, e, -, -, r0⟩ := int_cell HH.out hr
      simp only [Value.slice.injEq] at e
      obtain ⟨rfl, -, rfl⟩ := e
      generalize I[k] = r at *
      clear hr hkl
      unfold isI at HNX
      by_cases hb : r = id
      · subst hb
        have HC : Hid (I.contains r = true) := hide (List.contains_iff_mem.2 HME.out)
        clear HNX
        go_wp2_with fail
        go_ret
        exact ⟨ret_bool (by rw [← HR.out, HC.out]; simp), rfl⟩
      · have hb2 : (id == r) = false := by rw [beq_eq_false_iff_ne]; exact fun e => hb e.symm
        have hb3 : (r == id) = false := by rw [beq_eq_false_iff_ne]; exact hb
        have HN2 := hide (HNX.out hb2)
        clear HNX
        go_wp2_with fail
        go_round
        case rel => exact ⟨k + 1, by omega, by go_num, HN2⟩
        case measure => simp [intOf]; omega
    · have HC : Hid (I.contains id = false) := hide (by
        rw [Bool.eq_false_iff]
        intro y
        obtain ⟨i, hi, e⟩ := List.getElem_of_mem (List.contains_iff_mem.1 y)
        have := HN.out i _ (by have := Hn.out; omega) (List.getElem?_eq_getElem hi)
        rw [e] at this
        simp [isI] at this)
      go_wp2_with fail
      go_ret
      exact ⟨ret_bool (by rw [← HR.out, HC.out]; rfl), rfl⟩
set_option maxHeartbeats 4000000 in
theorem rhedging_any (h : DPt x p mk ov I B A b vi vb vo w P) (hI : I = ids p.R) (hov : ov = p.R.isEmpty) (hhg : p.hg = if x.tm = true then 0 else x.hg) (hm2 : 0 ≤ p.m2) : Calls Try.prog 39 #[.pointer (some ⟨b, 0, none⟩)] w fun e w' => e = .returned (.bool (nhB p)) ∧ Fr none' w w' := by
  obtain ⟨c0, c1, c2, c3, c4, c5, c6, c7, c8, c9, c10, c11, c12, c13, c14, c15⟩ := h.c
  obtain ⟨a, cap, rfl, hc0, hc1⟩ := h.I.shape
  have hlen : I.length = p.R.length := by rw [hI, ids_len]
  rw [hlen] at c11
  clear h
  have HF := hide (fun n => Fr.drewN none' w n)
  obtain ⟨R, HR⟩ : ∃ R, Hid (nhB p = R) := ⟨_, hide rfl⟩
  rw [HR.out]
  unfold nhB at HR
  by_cases hr : p.R = []
  · have e : p.R.isEmpty = true := by rw [hr]; rfl
    rw [e] at hov HR
    subst hov
    have hR : R = false := by rw [← HR.out]; rfl
    subst hR
    clear hI hr e hhg HR
    go_enter Try.func39, Try.ntmps39
    go_upto_region 1 with fail
    go_quiet (fail)
    go_wp2_with fail
    go_ret
    exact ⟨rfl, HF.out _⟩
  · have e : p.R.isEmpty = false := by rw [List.isEmpty_eq_false_iff]; exact hr
    rw [e] at hov HR
    subst hov
    have hl : 0 < p.R.length := List.length_pos_iff.2 hr
    rw [hhg] at HR
    generalize p.R.length = n at *
    have hl2 : (0 : Int) < (n : Int) := by omega
    have hd0 : decide (0 < n) = true := decide_eq_true hl
    generalize hx2 : x.tm = tm at *
    cases tm with
    | true =>
      have hR : R = false := by rw [← HR.out, if_pos rfl, decide_eq_false (by omega)]; rfl
      subst hR
      clear hI hr e hhg HR
      go_enter Try.func39, Try.ntmps39
      go_upto_region 1 with fail
      go_quiet (fail)
      go_wp2_with fail
      go_ret
      exact ⟨rfl, HF.out _⟩
    | false =>
      rw [if_neg (by decide)] at HR
      by_cases hm : p.m2 < x.hg
      · have hd : decide (p.m2 < x.hg) = true := decide_eq_true hm
        have hR : R = true := by rw [← HR.out, hd]; rfl
        subst hR
        clear hI hr e hhg HR
        go_enter Try.func39, Try.ntmps39
        go_upto_region 1 with fail
        go_quiet (fail)
        go_wp2_with fail
        go_ret
        exact ⟨rfl, HF.out _⟩
      · have hd : decide (p.m2 < x.hg) = false := decide_eq_false hm
        have hR : R = false := by rw [← HR.out, hd]; rfl
        subst hR
        clear hI hr e hhg HR hm
        go_enter Try.func39, Try.ntmps39
        go_upto_region 1 with fail
        go_quiet (fail)
        go_wp2_with fail
        go_ret
        exact ⟨rfl, HF.out _⟩
end
end Go.Proofs.Ytjfpdenakgifgaa
