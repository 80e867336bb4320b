/- A pool: its block, its rows and who waits; what is read of it. -/
import Derived.Test.YtgeneknaekoinaaURw
namespace Go.Proofs.Ytgeneknaekoinaa
open Go.ChangeShapes Go.WideShapes Go.ChangeAt Go.RowKit
set_option linter.unusedVariables false

def latI (t d : Int) : Int := if 4611686018427387904 - t < d then 4611686018427387904 else t + d
theorem later_any (t d : Int) (w : World) (h0 : 0 ≤ t) (h1 : t ≤ 4611686018427387904) (d0 : 0 ≤ d) (d1 : d ≤ 1000000) :
    Calls Try.prog 63 #[.int .i64 t, .int .i64 d] w fun e w' => e = .returned (.int .i64 (latI t d)) ∧ w = w' := by
  unfold latI
  by_cases h : 4611686018427387904 - t < d
  · rw [if_pos h]
    go_enter Try.func63, Try.ntmps63
    go_wp2
    go_ret
    exact ⟨rfl, rfl⟩
  · rw [if_neg h]
    go_enter Try.func63, Try.ntmps63
    go_wp2
    go_ret
    exact ⟨rfl, rfl⟩
theorem add_any (t d : Int) (w : World) (h0 : 0 ≤ t) (h1 : t ≤ 4611686018427387904) (d0 : 0 ≤ d) (d1 : d ≤ 1000000) :
    Calls Try.prog 54 #[.int .i64 t, .int .i64 d] w fun e w' => e = .returned (.tuple #[.int .i64 (latI t d), .int .i64 0]) ∧ w = w' := by
  have HL := hide (later_any t d w h0 h1 d0 d1)
  have hm := mom_yes h0 h1
  clear h0 h1
  go_enter Try.func54, Try.ntmps54
  go_wp2_with (first | (go_at_call 55; refine (isMoment_any _ _).mono ?_; rintro e w' ⟨rfl, rfl⟩) | (go_at_call 63; refine HL.out.mono ?_; rintro e w' ⟨rfl, rfl⟩))
  go_ret2
  exact ⟨rfl, rfl⟩
theorem mom_iff {t : Int} : mom t = true ↔ (0 ≤ t ∧ t ≤ 4611686018427387904) := by simp [mom]
theorem untE_0 (now : Int) : untE 0 now = if mom now then 0 else 1 := by
  unfold untE mom
  simp only [decide_eq_true_eq]
  split <;> split <;> omega
theorem isMom_any (t : Int) (w : World) : Calls Try.prog 34 #[.int .i64 t] w fun e w' => e = .returned (.bool (mom t)) ∧ w = w' := by
  have HU := hide (until_any 0 t w)
  rw [untE_0] at HU
  cases hm : mom t with
  | true =>
    rw [hm, if_pos rfl] at HU
    clear hm
    go_enter Try.func34, Try.ntmps34
    go_wp2_with (go_at_call 56; refine HU.out.mono ?_; rintro e w' ⟨rfl, rfl⟩)
    go_ret
    exact ⟨rfl, rfl⟩
  | false =>
    rw [hm, if_neg (by simp)] at HU
    clear hm
    go_enter Try.func34, Try.ntmps34
    go_wp2_with (go_at_call 56; refine HU.out.mono ?_; rintro e w' ⟨rfl, rfl⟩)
    go_ret
    exact ⟨rfl, rfl⟩

/-- A connection: its number, its state, for whom, born, since when it rests, its turn. -/
structure Rk where
  c : Int
  st : Int
  wh : Int
  bo : Int
  si : Int
  tu : Int
def encR (r : Rk) : List Int := [r.c, r.st, r.wh, r.bo, r.si, r.tu]
theorem encR_len (r : Rk) : (encR r).length = 6 := rfl
/-- A connection as a value. -/
def rkV (r : Rk) : Value := .agg #[.int .i64 r.c, .int .i64 r.st, .int .i64 r.wh, .int .i64 r.bo, .int .i64 r.si, .int .i64 r.tu]
structure Pm where
  cap : Int
  pend : Int
  idle : Int
  life : Int
  asked : Int
  rested : Int
  R : List Rk
  Q : List Int
def plO (p : Pm) (vr vw : Value) : Obj := .cells #[.int .i64 p.cap, .int .i64 p.pend, .int .i64 p.idle, .int .i64 p.life, .int .i64 p.asked, .int .i64 p.rested, vr, vw] 63 (0, 0)
abbrev RR (vr : Value) (R : List Rk) : Thing := RT 80 6 vr R.length (fl encR R)
abbrev RQ (vw : Value) (Q : List Int) : Thing := RT 3 1 vw Q.length Q
def PT (p : Pm) (b : Nat) (vr vw : Value) : Thing := Two (Blk b (plO p vr vw)) (Two (RR vr p.R) (RQ vw p.Q))
instance PT.ob (p : Pm) (b : Nat) (vr vw : Value) : Ob (PT p b vr vw) := Ob.two
def PX (p : Pm) (b : Nat) : Thing := fun w P => ∃ vr vw, PT p b vr vw w P
instance PX.ob (p : Pm) (b : Nat) : Ob (PX p b) := ⟨fun w w' P Q ⟨vr, vw, h⟩ F d => ⟨vr, vw, (PT.ob p b vr vw).fr w w' P Q h F d⟩, fun w P k ⟨vr, vw, h⟩ hk => (PT.ob p b vr vw).lt w P k h hk⟩
theorem Does.px {p : Pm} {b : Nat} {vr vw : Value} {P : Nat → Prop} {w w' : World} (h : Does (PT p b vr vw) P w w') : Does (PX p b) P w w' := by
  obtain ⟨P', h1, h2, h3⟩ := h
  exact ⟨P', ⟨vr, vw, h1⟩, h2, h3⟩
/-- What is read of a pool. -/
structure PV (p : Pm) (b : Nat) (vr vw : Value) (w : World) : Prop where
  B : w.heap[b]? = some (plO p vr vw)
  R : Rw 80 6 w vr p.R.length (fl encR p.R)
  Q : Rw 3 1 w vw p.Q.length p.Q
theorem PT.v {p : Pm} {b : Nat} {vr vw : Value} {w : World} {P : Nat → Prop} (h : PT p b vr vw w P) : PV p b vr vw w := by
  obtain ⟨P1, P2, h1, ⟨P3, P4, h2, h3, -, -⟩, -, -⟩ := h
  exact ⟨h1.1, h2.1, h3.1⟩
section
variable {p : Pm} {b : Nat} {vr vw : Value} {w : World}
theorem PV.fr (h : PV p b vr vw w) {w' : World} (F : Fr none' w w') : PV p b vr vw w' := ⟨F.hd id h.B, h.R.fr F (fun _ _ x => x), h.Q.fr F (fun _ _ x => x)⟩
theorem PV.c (h : PV p b vr vw w) : w.cell? ⟨b, 0, none⟩ = some (.int .i64 p.cap) ∧ w.cell? ⟨b, 1, none⟩ = some (.int .i64 p.pend) ∧ w.cell? ⟨b, 2, none⟩ = some (.int .i64 p.idle) ∧ w.cell? ⟨b, 3, none⟩ = some (.int .i64 p.life) ∧ w.cell? ⟨b, 4, none⟩ = some (.int .i64 p.asked) ∧ w.cell? ⟨b, 5, none⟩ = some (.int .i64 p.rested) ∧ w.cell? ⟨b, 6, none⟩ = some vr ∧ w.cell? ⟨b, 7, none⟩ = some vw :=
  ⟨cell_of h.B 0, cell_of h.B 1, cell_of h.B 2, cell_of h.B 3, cell_of h.B 4, cell_of h.B 5, cell_of h.B 6, cell_of h.B 7⟩
theorem PV.fz (h : PV p b vr vw w) (i : Nat) : w.frozen? ⟨b, i, none⟩ = false := frozen_of h.B i
theorem PV.r (h : PV p b vr vw w) : ∃ a cap, vr = .slice a p.R.length cap ∧ p.R.length ≤ cap ∧ cap ≤ 9223372036854775807 := h.R.shape
theorem PV.q (h : PV p b vr vw w) : ∃ a cap, vw = .slice a p.Q.length cap ∧ p.Q.length ≤ cap ∧ cap ≤ 9223372036854775807 := h.Q.shape
theorem row_cells {w : World} {v : Value} {L : List Rk} (h : Rw 80 6 w v L.length (fl encR L)) {i : Nat} {r : Rk} (hr : L[i]? = some r) : ∃ g off cap, v = .slice (some ⟨g, off, none⟩) L.length cap ∧ L.length ≤ cap ∧ cap ≤ 9223372036854775807 ∧ w.cell? ⟨g, off + i * 6, none⟩ = some (.int .i64 r.c) ∧ w.cell? ⟨g, off + i * 6 + 1, none⟩ = some (.int .i64 r.st) ∧ w.cell? ⟨g, off + i * 6 + 2, none⟩ = some (.int .i64 r.wh) ∧ w.cell? ⟨g, off + i * 6 + 3, none⟩ = some (.int .i64 r.bo) ∧ w.cell? ⟨g, off + i * 6 + 4, none⟩ = some (.int .i64 r.si) ∧ w.cell? ⟨g, off + i * 6 + 5, none⟩ = some (.int .i64 r.tu) ∧ (∀ k, w.frozen? ⟨g, k, none⟩ = false) ∧ g < w.heap.size := by
  have hi : i < L.length := (List.getElem?_eq_some_iff.1 hr).1
  obtain ⟨g, off, cap, e, h1, h2, h3, h4, h5⟩ := h.at hi
  have k : ∀ j, j < 6 → w.cell? ⟨g, off + i * 6 + j, none⟩ = some (.int .i64 ((encR r).getD j 0)) := fun j hj => by
    rw [h3 j hj, fl_at encR_len L i j r hr hj]
  exact ⟨g, off, cap, e, h1, h2, k 0 (by omega), k 1 (by omega), k 2 (by omega), k 3 (by omega), k 4 (by omega), k 5 (by omega), h4, h5⟩
end
/-- Its numbers are such that time goes on within its bounds. -/
structure POk (p : Pm) (K : Int) : Prop where
  cap0 : 1 ≤ p.cap
  cap1 : p.cap ≤ 64
  pend0 : 0 ≤ p.pend
  pend1 : p.pend ≤ 64
  idle0 : 1 ≤ p.idle
  idle1 : p.idle ≤ 1000000
  life0 : 1 ≤ p.life
  life1 : p.life ≤ 1000000
  ask0 : 0 ≤ p.asked
  ask1 : p.asked + (p.Q.length : Int) ≤ K
  res0 : 0 ≤ p.rested
  res1 : p.rested ≤ K
  len : (p.R.length : Int) ≤ p.cap
  wait : (p.Q.length : Int) ≤ p.pend
  rows : ∀ r ∈ p.R, (0 ≤ r.bo ∧ r.bo ≤ 4611686018427387904) ∧ (0 ≤ r.si ∧ r.si ≤ 4611686018427387904) ∧ (0 ≤ r.st ∧ r.st ≤ 2)
def diesI (p : Pm) (r : Rk) : Int := latI r.bo p.life
def endsI (p : Pm) (r : Rk) : Int := min (latI r.si p.idle) (diesI p r)
def goodB (p : Pm) (r : Rk) (now : Int) : Bool := decide (now < endsI p r)
section
variable (p : Pm) (b : Nat) (vr vw : Value) (w : World) (r : Rk) (h : PV p b vr vw w) (l0 : 1 ≤ p.life) (l1 : p.life ≤ 1000000) (i0 : 1 ≤ p.idle) (i1 : p.idle ≤ 1000000) (b0 : 0 ≤ r.bo) (b1 : r.bo ≤ 4611686018427387904) (s0 : 0 ≤ r.si) (s1 : r.si ≤ 4611686018427387904)
def rkO (r : Rk) : Obj := .cells #[.int .i64 r.c, .int .i64 r.st, .int .i64 r.wh, .int .i64 r.bo, .int .i64 r.si, .int .i64 r.tu] 80
theorem rk_cells {w : World} {b : Nat} {r : Rk} (h : w.heap[b]? = some (rkO r)) : w.cell? ⟨b, 0, none⟩ = some (.int .i64 r.c) ∧ w.cell? ⟨b, 1, none⟩ = some (.int .i64 r.st) ∧ w.cell? ⟨b, 2, none⟩ = some (.int .i64 r.wh) ∧ w.cell? ⟨b, 3, none⟩ = some (.int .i64 r.bo) ∧ w.cell? ⟨b, 4, none⟩ = some (.int .i64 r.si) ∧ w.cell? ⟨b, 5, none⟩ = some (.int .i64 r.tu) :=
  ⟨cell_of h 0, cell_of h 1, cell_of h 2, cell_of h 3, cell_of h 4, cell_of h 5⟩
include h l0 l1 b0 b1 in
set_option maxHeartbeats 1000000 in
theorem dies_any : Calls Try.prog 44 #[.pointer (some ⟨b, 0, none⟩), rkV r] w fun e w' => e = .returned (.int .i64 (diesI p r)) ∧ Fr none' w w' := by
  have HA := hide (fun V => (add_any r.bo p.life V b0 b1 (by omega) l1).mono (R' := fun e w' => e = .returned (.tuple #[.int .i64 (latI r.bo p.life), .int .i64 0]) ∧ w' = V) (fun e w' ⟨x, y⟩ => ⟨x, y.symm⟩))
  have HV := hide (h.fr (Fr.alloc none' w (rkO r)))
  have HB : Hid ((w.alloc (rkO r)).heap[w.heap.size]? = some (rkO r)) := hide (hp_new _ _)
  have HF := hide (Fr.alloc none' w (rkO r))
  clear h
  unfold rkV diesI
  unfold rkO at HV HB HF
  go_enter Try.func44, Try.ntmps44
  go_wp2_with fail
  obtain ⟨r0, r1, r2, r3, r4, r5⟩ := rk_cells HB.out
  obtain ⟨c0, c1, c2, c3, c4, c5, c6, c7⟩ := HV.out.c
  clear HV HB
  generalize w.alloc _ = w1 at *
  generalize w.heap.size = g at *
  go_quiet (first | (go_at_call 54; refine Calls.quiet_of_same (HA.out _)))
  go_wp2_with fail
  go_ret
  exact ⟨rfl, HF.out.d _⟩
include h l0 l1 i0 i1 b0 b1 s0 s1 in
set_option maxHeartbeats 1000000 in
theorem ends_any : Calls Try.prog 30 #[.pointer (some ⟨b, 0, none⟩), rkV r] w fun e w' => e = .returned (.int .i64 (endsI p r)) ∧ Fr none' w w' := by
  have HA := hide (fun V => (add_any r.si p.idle V s0 s1 (by omega) i1).mono (R' := fun e w' => e = .returned (.tuple #[.int .i64 (latI r.si p.idle), .int .i64 0]) ∧ w' = V) (fun e w' ⟨x, y⟩ => ⟨x, y.symm⟩))
  have HD := hide (fun V (F : Fr none' w V) => dies_any p b vr vw V r (h.fr F) l0 l1 b0 b1)
  have HV := hide (h.fr (Fr.alloc none' w (rkO r)))
  have HB : Hid ((w.alloc (rkO r)).heap[w.heap.size]? = some (rkO r)) := hide (hp_new _ _)
  have HF := hide (Fr.alloc none' w (rkO r))
  clear h
  unfold endsI
  unfold rkV at HD ⊢
  unfold rkO at HV HB HF
  go_enter Try.func30, Try.ntmps30
  go_wp2_with fail
  obtain ⟨r0, r1, r2, r3, r4, r5⟩ := rk_cells HB.out
  obtain ⟨c0, c1, c2, c3, c4, c5, c6, c7⟩ := HV.out.c
  clear HV HB
  generalize w.alloc _ = w1 at *
  generalize w.heap.size = g at *
  go_quiet (first | (go_at_call 54; refine Calls.quiet_of_same (HA.out _)))
  have HF2 := hide (HF.out.d nq)
  have q0 : (w1.drewN nq).cell? ⟨g, 0, none⟩ = some (.int .i64 r.c) := r0
  have q1 : (w1.drewN nq).cell? ⟨g, 1, none⟩ = some (.int .i64 r.st) := r1
  have q2 : (w1.drewN nq).cell? ⟨g, 2, none⟩ = some (.int .i64 r.wh) := r2
  have q3 : (w1.drewN nq).cell? ⟨g, 3, none⟩ = some (.int .i64 r.bo) := r3
  have q4 : (w1.drewN nq).cell? ⟨g, 4, none⟩ = some (.int .i64 r.si) := r4
  have q5 : (w1.drewN nq).cell? ⟨g, 5, none⟩ = some (.int .i64 r.tu) := r5
  clear HF r0 r1 r2 r3 r4 r5 c0 c1 c2 c3 c4 c5 c6 c7 HA
  generalize w1.drewN nq = w2 at *
  have HD := hide (HD.out w2 HF2.out)
  go_wp2_with fail
  refine HD.out.mono ?_
  rintro e w3 ⟨rfl, F3⟩
  have HF3 := hide (HF2.out.trans F3 (fun _ _ x => x))
  clear F3 HF2 HD q0 q1 q2 q3 q4 q5
  go_wp2_with fail
  all_goals go_ret
  all_goals exact ⟨ret_int (by omega), HF3.out⟩
include h l0 l1 i0 i1 b0 b1 s0 s1 in
set_option maxHeartbeats 1000000 in
theorem good_any (now : Int) : Calls Try.prog 43 #[.pointer (some ⟨b, 0, none⟩), rkV r, .int .i64 now] w fun e w' => e = .returned (.bool (goodB p r now)) ∧ Fr none' w w' := by
  have HD := hide (fun V (F : Fr none' w V) => ends_any p b vr vw V r (h.fr F) l0 l1 i0 i1 b0 b1 s0 s1)
  have HB : Hid ((w.alloc (rkO r)).heap[w.heap.size]? = some (rkO r)) := hide (hp_new _ _)
  have HF := hide (Fr.alloc none' w (rkO r))
  clear h
  obtain ⟨R, HR⟩ : ∃ R, Hid (goodB p r now = R) := ⟨_, hide rfl⟩
  rw [HR.out]
  unfold goodB at HR
  unfold rkV at HD ⊢
  unfold rkO at HB HF
  go_enter Try.func43, Try.ntmps43
  go_upto_region 1 with fail
  obtain ⟨r0, r1, r2, r3, r4, r5⟩ := rk_cells HB.out
  have HD := hide (HD.out _ HF.out)
  clear HB
  generalize w.alloc _ = w1 at *
  generalize w.heap.size = g at *
  go_wp2_with fail
  refine HD.out.mono ?_
  rintro e w3 ⟨rfl, F3⟩
  have HF3 := hide (HF.out.trans F3 (fun _ _ x => x))
  clear F3 HF HD r0 r1 r2 r3 r4 r5
  go_wp2_with fail
  go_ret
  exact ⟨ret_bool HR.out, HF3.out⟩
end
end Go.Proofs.Ytgeneknaekoinaa
