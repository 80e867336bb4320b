/- The document's pool: its block and its rows; what is read of it. -/
import Derived.Test.YtgeneknaekoinaaUDo
namespace Go.Proofs.Ytgeneknaekoinaa
open Go.ChangeShapes Go.WideShapes Go.ChangeAt Go.RowKit
set_option linter.unusedVariables false

/-- The document's connection: its number, its state, for whom, since when it rests, born. -/
structure Cn where
  n : Int
  st : Int
  wh : Int
  si : Int
  bo : Int
def encC (c : Cn) : List Int := [c.n, c.st, c.wh, c.si, c.bo]
theorem encC_len (c : Cn) : (encC c).length = 5 := rfl
def cnV (c : Cn) : Value := .agg #[.int .i64 c.n, .int .i64 c.st, .int .i64 c.wh, .int .i64 c.si, .int .i64 c.bo]
def cnO (c : Cn) : Obj := .cells #[.int .i64 c.n, .int .i64 c.st, .int .i64 c.wh, .int .i64 c.si, .int .i64 c.bo] 84
theorem cn_cells {w : World} {b : Nat} {c : Cn} (h : w.heap[b]? = some (cnO c)) : w.cell? ⟨b, 0, none⟩ = some (.int .i64 c.n) ∧ w.cell? ⟨b, 1, none⟩ = some (.int .i64 c.st) ∧ w.cell? ⟨b, 2, none⟩ = some (.int .i64 c.wh) ∧ w.cell? ⟨b, 3, none⟩ = some (.int .i64 c.si) ∧ w.cell? ⟨b, 4, none⟩ = some (.int .i64 c.bo) :=
  ⟨cell_of h 0, cell_of h 1, cell_of h 2, cell_of h 3, cell_of h 4⟩
structure Rm where
  cap : Int
  pend : Int
  idle : Int
  life : Int
  nx : Int
  L : List Cn
  S : List Int
  Q : List Int
def rO (p : Rm) (vl vs vw : Value) : Obj := .cells #[.int .i64 p.cap, .int .i64 p.pend, .int .i64 p.idle, .int .i64 p.life, .int .i64 p.nx, vl, vs, vw] 43 (0, 0)
abbrev RL (v : Value) (L : List Cn) : Thing := RT 84 5 v L.length (fl encC L)
def QT (p : Rm) (b : Nat) (vl vs vw : Value) : Thing := Two (Blk b (rO p vl vs vw)) (Two (RL vl p.L) (Two (RQ vs p.S) (RQ vw p.Q)))
instance QT.ob (p : Rm) (b : Nat) (vl vs vw : Value) : Ob (QT p b vl vs vw) := Ob.two
def QX (p : Rm) (b : Nat) : Thing := fun w P => ∃ vl vs vw, QT p b vl vs vw w P
instance QX.ob (p : Rm) (b : Nat) : Ob (QX p b) := ⟨fun w w' P Q ⟨vl, vs, vw, h⟩ F d => ⟨vl, vs, vw, (QT.ob p b vl vs vw).fr w w' P Q h F d⟩, fun w P k ⟨vl, vs, vw, h⟩ hk => (QT.ob p b vl vs vw).lt w P k h hk⟩
theorem Does.qx {p : Rm} {b : Nat} {vl vs vw : Value} {P : Nat → Prop} {w w' : World} (h : Does (QT p b vl vs vw) P w w') : Does (QX p b) P w w' := by
  obtain ⟨P', h1, h2, h3⟩ := h
  exact ⟨P', ⟨vl, vs, vw, h1⟩, h2, h3⟩
structure QV (p : Rm) (b : Nat) (vl vs vw : Value) (w : World) : Prop where
  B : w.heap[b]? = some (rO p vl vs vw)
  L : Rw 84 5 w vl p.L.length (fl encC p.L)
  S : Rw 3 1 w vs p.S.length p.S
  Q : Rw 3 1 w vw p.Q.length p.Q
section
variable {p : Rm} {b : Nat} {vl vs vw : Value} {w : World} {P : Nat → Prop}
theorem QT.parts (h : QT p b vl vs vw w P) : QV p b vl vs vw w ∧ (vl.ownBlock ≠ some b) ∧ (vs.ownBlock ≠ some b) ∧ (vw.ownBlock ≠ some b) ∧ (∀ k, vl.ownBlock = some k → vs.ownBlock ≠ some k) ∧ (∀ k, vl.ownBlock = some k → vw.ownBlock ≠ some k) ∧ (∀ k, vs.ownBlock = some k → vw.ownBlock ≠ some k) ∧ ∀ k, P k ↔ (k = b ∨ vl.ownBlock = some k ∨ vs.ownBlock = some k ∨ vw.ownBlock = some k) := by
  obtain ⟨P1, P2, h1, ⟨P3, P4, h2, ⟨P5, P6, h3, h4, h5, h6⟩, h7, h8⟩, h9, h10⟩ := h
  refine ⟨⟨h1.1, h2.1, h3.1, h4.1⟩, fun e => ?_, fun e => ?_, fun e => ?_, fun k hk e => ?_, fun k hk e => ?_, fun k hk e => ?_, fun k => ?_⟩
  · exact h9 b ((h1.2 b).2 rfl) ((h8 b).2 (.inl ((h2.2 b).2 e)))
  · exact h9 b ((h1.2 b).2 rfl) ((h8 b).2 (.inr ((h6 b).2 (.inl ((h3.2 b).2 e)))))
  · exact h9 b ((h1.2 b).2 rfl) ((h8 b).2 (.inr ((h6 b).2 (.inr ((h4.2 b).2 e)))))
  · exact h7 k ((h2.2 k).2 hk) ((h6 k).2 (.inl ((h3.2 k).2 e)))
  · exact h7 k ((h2.2 k).2 hk) ((h6 k).2 (.inr ((h4.2 k).2 e)))
  · exact h5 k ((h3.2 k).2 hk) ((h4.2 k).2 e)
  · rw [h10 k, h8 k, h6 k, h1.2 k, h2.2 k, h3.2 k, h4.2 k]
theorem QT.v (h : QT p b vl vs vw w P) : QV p b vl vs vw w := h.parts.1
theorem QT.mk (h : QV p b vl vs vw w) (n1 : vl.ownBlock ≠ some b) (n2 : vs.ownBlock ≠ some b) (n3 : vw.ownBlock ≠ some b) (n4 : ∀ k, vl.ownBlock = some k → vs.ownBlock ≠ some k) (n5 : ∀ k, vl.ownBlock = some k → vw.ownBlock ≠ some k) (n6 : ∀ k, vs.ownBlock = some k → vw.ownBlock ≠ some k) : QT p b vl vs vw w (fun k => k = b ∨ vl.ownBlock = some k ∨ vs.ownBlock = some k ∨ vw.ownBlock = some k) :=
  ⟨fun k => k = b, fun k => vl.ownBlock = some k ∨ vs.ownBlock = some k ∨ vw.ownBlock = some k, ⟨h.B, fun _ => Iff.rfl⟩, ⟨_, fun k => vs.ownBlock = some k ∨ vw.ownBlock = some k, ⟨h.L, fun _ => Iff.rfl⟩, ⟨_, _, ⟨h.S, fun _ => Iff.rfl⟩, ⟨h.Q, fun _ => Iff.rfl⟩, n6, fun _ => Iff.rfl⟩, fun k hk x => x.elim (n4 k hk) (n5 k hk), fun _ => Iff.rfl⟩, fun k e x => by subst e; exact x.elim n1 (fun y => y.elim n2 n3), fun _ => Iff.rfl⟩
theorem QV.fr (h : QV p b vl vs vw w) {w' : World} (F : Fr none' w w') : QV p b vl vs vw w' := ⟨F.hd id h.B, h.L.fr F (fun _ _ x => x), h.S.fr F (fun _ _ x => x), h.Q.fr F (fun _ _ x => x)⟩
theorem QV.c (h : QV p b vl vs vw w) : w.cell? ⟨b, 0, none⟩ = some (.int .i64 p.cap) ∧ w.cell? ⟨b, 1, none⟩ = some (.int .i64 p.pend) ∧ w.cell? ⟨b, 2, none⟩ = some (.int .i64 p.idle) ∧ w.cell? ⟨b, 3, none⟩ = some (.int .i64 p.life) ∧ w.cell? ⟨b, 4, none⟩ = some (.int .i64 p.nx) ∧ w.cell? ⟨b, 5, none⟩ = some vl ∧ w.cell? ⟨b, 6, none⟩ = some vs ∧ w.cell? ⟨b, 7, none⟩ = some vw :=
  ⟨cell_of h.B 0, cell_of h.B 1, cell_of h.B 2, cell_of h.B 3, cell_of h.B 4, cell_of h.B 5, cell_of h.B 6, cell_of h.B 7⟩
theorem QV.fz (h : QV p b vl vs vw w) (i : Nat) : w.frozen? ⟨b, i, none⟩ = false := frozen_of h.B i
/-- Another list of connections, in blocks of its own. -/
theorem QT.takeL {v' : Value} {L' : List Cn} (h : Two (RL v' L') (QT p b vl vs vw) w P) : Does (QT { p with L := L' } b v' vs vw) P w (w.setCell ⟨b, 5, none⟩ v') := by
  obtain ⟨P1, P2, hv, hp, d1, d2⟩ := h
  obtain ⟨h1, n1, n2, n3, n4, n5, n6, n7⟩ := hp.parts
  have m1 : v'.ownBlock ≠ some b := fun e => d1 b ((hv.2 b).2 e) ((n7 b).2 (.inl rfl))
  refine ⟨_, QT.mk (p := { p with L := L' }) ⟨hp_set h1.B 5 v', hv.1.fr (Fr.set _ _ _ _) (fun k hk e => m1 (by rw [hk, e])), h1.S.fr (Fr.set _ _ _ _) (fun k hk e => n2 (by rw [hk, e])), h1.Q.fr (Fr.set _ _ _ _) (fun k hk e => n3 (by rw [hk, e]))⟩ m1 n2 n3 (fun k hk e => d1 k ((hv.2 k).2 hk) ((n7 k).2 (.inr (.inr (.inl e))))) (fun k hk e => d1 k ((hv.2 k).2 hk) ((n7 k).2 (.inr (.inr (.inr e))))) n6, (Fr.set _ _ _ _).mono (fun k _ e => (d2 k).2 (.inr ((n7 k).2 (.inl e)))), fun k hk => .inl ((d2 k).2 ?_)⟩
  rcases hk with e | e | e | e
  · exact .inr ((n7 k).2 (.inl e))
  · exact .inl ((hv.2 k).2 e)
  · exact .inr ((n7 k).2 (.inr (.inr (.inl e))))
  · exact .inr ((n7 k).2 (.inr (.inr (.inr e))))
theorem QT.takeS {v' : Value} {L' : List Int} (h : Two (RQ v' L') (QT p b vl vs vw) w P) : Does (QT { p with S := L' } b vl v' vw) P w (w.setCell ⟨b, 6, none⟩ v') := by
  obtain ⟨P1, P2, hv, hp, d1, d2⟩ := h
  obtain ⟨h1, n1, n2, n3, n4, n5, n6, n7⟩ := hp.parts
  have m1 : v'.ownBlock ≠ some b := fun e => d1 b ((hv.2 b).2 e) ((n7 b).2 (.inl rfl))
  refine ⟨_, QT.mk (p := { p with S := L' }) ⟨hp_set h1.B 6 v', h1.L.fr (Fr.set _ _ _ _) (fun k hk e => n1 (by rw [hk, e])), hv.1.fr (Fr.set _ _ _ _) (fun k hk e => m1 (by rw [hk, e])), h1.Q.fr (Fr.set _ _ _ _) (fun k hk e => n3 (by rw [hk, e]))⟩ n1 m1 n3 (fun k hk e => d1 k ((hv.2 k).2 e) ((n7 k).2 (.inr (.inl hk)))) n5 (fun k hk e => d1 k ((hv.2 k).2 hk) ((n7 k).2 (.inr (.inr (.inr e))))), (Fr.set _ _ _ _).mono (fun k _ e => (d2 k).2 (.inr ((n7 k).2 (.inl e)))), fun k hk => .inl ((d2 k).2 ?_)⟩
  rcases hk with e | e | e | e
  · exact .inr ((n7 k).2 (.inl e))
  · exact .inr ((n7 k).2 (.inr (.inl e)))
  · exact .inl ((hv.2 k).2 e)
  · exact .inr ((n7 k).2 (.inr (.inr (.inr e))))
theorem QT.takeQ {v' : Value} {L' : List Int} (h : Two (RQ v' L') (QT p b vl vs vw) w P) : Does (QT { p with Q := L' } b vl vs v') P w (w.setCell ⟨b, 7, none⟩ v') := by
  obtain ⟨P1, P2, hv, hp, d1, d2⟩ := h
  obtain ⟨h1, n1, n2, n3, n4, n5, n6, n7⟩ := hp.parts
  have m1 : v'.ownBlock ≠ some b := fun e => d1 b ((hv.2 b).2 e) ((n7 b).2 (.inl rfl))
  refine ⟨_, QT.mk (p := { p with Q := L' }) ⟨hp_set h1.B 7 v', h1.L.fr (Fr.set _ _ _ _) (fun k hk e => n1 (by rw [hk, e])), h1.S.fr (Fr.set _ _ _ _) (fun k hk e => n2 (by rw [hk, e])), hv.1.fr (Fr.set _ _ _ _) (fun k hk e => m1 (by rw [hk, e]))⟩ n1 n2 m1 n4 (fun k hk e => d1 k ((hv.2 k).2 e) ((n7 k).2 (.inr (.inl hk)))) (fun k hk e => d1 k ((hv.2 k).2 e) ((n7 k).2 (.inr (.inr (.inl hk))))), (Fr.set _ _ _ _).mono (fun k _ e => (d2 k).2 (.inr ((n7 k).2 (.inl e)))), fun k hk => .inl ((d2 k).2 ?_)⟩
  rcases hk with e | e | e | e
  · exact .inr ((n7 k).2 (.inl e))
  · exact .inr ((n7 k).2 (.inr (.inl e)))
  · exact .inr ((n7 k).2 (.inr (.inr (.inl e))))
  · exact .inl ((hv.2 k).2 e)
/-- Its lists, grown by append. -/
theorem QT.appL (h : QT p b vl vs vw w P) {w' : World} {v' : Value} {L' : List Cn} (s : Rw 84 5 w' v' L'.length (fl encC L')) (F : Fr (fun k => vl.ownBlock = some k) w w') (o : ∀ k, v'.ownBlock = some k → vl.ownBlock = some k ∨ w.heap.size ≤ k) : Does (QT { p with L := L' } b v' vs vw) P w (w'.setCell ⟨b, 5, none⟩ v') := by
  obtain ⟨h1, n1, n2, n3, n4, n5, n6, n7⟩ := h.parts
  have hb := hp_lt h1.B
  have m1 : v'.ownBlock ≠ some b := fun e => (o b e).elim n1 (fun x => by omega)
  refine ⟨_, QT.mk (p := { p with L := L' }) ⟨hp_set (F.hd n1 h1.B) 5 v', s.fr (Fr.set _ _ _ _) (fun k hk e => m1 (by rw [hk, e])), (h1.S.fr F (fun k hk e => n4 k e hk)).fr (Fr.set _ _ _ _) (fun k hk e => n2 (by rw [hk, e])), (h1.Q.fr F (fun k hk e => n5 k e hk)).fr (Fr.set _ _ _ _) (fun k hk e => n3 (by rw [hk, e]))⟩ m1 n2 n3 (fun k hk e => ?_) (fun k hk e => ?_) n6, (F.mono (fun k _ hk => (n7 k).2 (.inr (.inl hk)))).trans (Fr.set _ _ _ _) (fun k _ e => (n7 k).2 (.inl e)), fun k hk => ?_⟩
  · rcases o k hk with x | x
    · exact n4 k x e
    · have := h1.S.lt e; omega
  · rcases o k hk with x | x
    · exact n5 k x e
    · have := h1.Q.lt e; omega
  · rcases hk with e | e | e | e
    · exact .inl ((n7 k).2 (.inl e))
    · exact (o k e).imp (fun x => (n7 k).2 (.inr (.inl x))) id
    · exact .inl ((n7 k).2 (.inr (.inr (.inl e))))
    · exact .inl ((n7 k).2 (.inr (.inr (.inr e))))
theorem QT.appS (h : QT p b vl vs vw w P) {w' : World} {v' : Value} {L' : List Int} (s : Rw 3 1 w' v' L'.length L') (F : Fr (fun k => vs.ownBlock = some k) w w') (o : ∀ k, v'.ownBlock = some k → vs.ownBlock = some k ∨ w.heap.size ≤ k) : Does (QT { p with S := L' } b vl v' vw) P w (w'.setCell ⟨b, 6, none⟩ v') := by
  obtain ⟨h1, n1, n2, n3, n4, n5, n6, n7⟩ := h.parts
  have hb := hp_lt h1.B
  have m1 : v'.ownBlock ≠ some b := fun e => (o b e).elim n2 (fun x => by omega)
  refine ⟨_, QT.mk (p := { p with S := L' }) ⟨hp_set (F.hd n2 h1.B) 6 v', (h1.L.fr F (fun k hk e => n4 k hk e)).fr (Fr.set _ _ _ _) (fun k hk e => n1 (by rw [hk, e])), s.fr (Fr.set _ _ _ _) (fun k hk e => m1 (by rw [hk, e])), (h1.Q.fr F (fun k hk e => n6 k e hk)).fr (Fr.set _ _ _ _) (fun k hk e => n3 (by rw [hk, e]))⟩ n1 m1 n3 (fun k hk e => ?_) n5 (fun k hk e => ?_), (F.mono (fun k _ hk => (n7 k).2 (.inr (.inr (.inl hk))))).trans (Fr.set _ _ _ _) (fun k _ e => (n7 k).2 (.inl e)), fun k hk => ?_⟩
  · rcases o k e with x | x
    · exact n4 k hk x
    · have := h1.L.lt hk; omega
  · rcases o k hk with x | x
    · exact n6 k x e
    · have := h1.Q.lt e; omega
  · rcases hk with e | e | e | e
    · exact .inl ((n7 k).2 (.inl e))
    · exact .inl ((n7 k).2 (.inr (.inl e)))
    · exact (o k e).imp (fun x => (n7 k).2 (.inr (.inr (.inl x)))) id
    · exact .inl ((n7 k).2 (.inr (.inr (.inr e))))
theorem QT.appQ (h : QT p b vl vs vw w P) {w' : World} {v' : Value} {L' : List Int} (s : Rw 3 1 w' v' L'.length L') (F : Fr (fun k => vw.ownBlock = some k) w w') (o : ∀ k, v'.ownBlock = some k → vw.ownBlock = some k ∨ w.heap.size ≤ k) : Does (QT { p with Q := L' } b vl vs v') P w (w'.setCell ⟨b, 7, none⟩ v') := by
  obtain ⟨h1, n1, n2, n3, n4, n5, n6, n7⟩ := h.parts
  have hb := hp_lt h1.B
  have m1 : v'.ownBlock ≠ some b := fun e => (o b e).elim n3 (fun x => by omega)
  refine ⟨_, QT.mk (p := { p with Q := L' }) ⟨hp_set (F.hd n3 h1.B) 7 v', (h1.L.fr F (fun k hk e => n5 k hk e)).fr (Fr.set _ _ _ _) (fun k hk e => n1 (by rw [hk, e])), (h1.S.fr F (fun k hk e => n6 k hk e)).fr (Fr.set _ _ _ _) (fun k hk e => n2 (by rw [hk, e])), s.fr (Fr.set _ _ _ _) (fun k hk e => m1 (by rw [hk, e]))⟩ n1 n2 m1 n4 (fun k hk e => ?_) (fun k hk e => ?_), (F.mono (fun k _ hk => (n7 k).2 (.inr (.inr (.inr hk))))).trans (Fr.set _ _ _ _) (fun k _ e => (n7 k).2 (.inl e)), fun k hk => ?_⟩
  · rcases o k e with x | x
    · exact n5 k hk x
    · have := h1.L.lt hk; omega
  · rcases o k e with x | x
    · exact n6 k hk x
    · have := h1.S.lt hk; omega
  · rcases hk with e | e | e | e
    · exact .inl ((n7 k).2 (.inl e))
    · exact .inl ((n7 k).2 (.inr (.inl e)))
    · exact .inl ((n7 k).2 (.inr (.inr (.inl e))))
    · exact (o k e).imp (fun x => (n7 k).2 (.inr (.inr (.inr x)))) id
theorem QT.setX (h : QT p b vl vs vw w P) (x : Int) : Does (QT { p with nx := x } b vl vs vw) P w (w.setCell ⟨b, 4, none⟩ (.int .i64 x)) := by
  obtain ⟨h1, n1, n2, n3, n4, n5, n6, n7⟩ := h.parts
  exact ⟨_, QT.mk (p := { p with nx := x }) ⟨hp_set h1.B 4 _, h1.L.fr (Fr.set _ _ _ _) (fun k hk e => n1 (by rw [hk, e])), h1.S.fr (Fr.set _ _ _ _) (fun k hk e => n2 (by rw [hk, e])), h1.Q.fr (Fr.set _ _ _ _) (fun k hk e => n3 (by rw [hk, e]))⟩ n1 n2 n3 n4 n5 n6, (Fr.set _ _ _ _).mono (fun k _ e => (n7 k).2 (.inl e)), fun k hk => .inl ((n7 k).2 hk)⟩
theorem QT.setC {g off n cap : Nat} (h : QT p b (.slice (some ⟨g, off, none⟩) n cap) vs vw w P) (hn : p.L.length = n) {i j : Nat} {r r' : Cn} {x : Int} (hr : p.L[i]? = some r) (hj : j < 5) (he : encC r' = (encC r).set j x) : Does (QT { p with L := p.L.set i r' } b (.slice (some ⟨g, off, none⟩) n cap) vs vw) P w (w.setCell ⟨g, off + i * 5 + j, none⟩ (.int .i64 x)) := by
  obtain ⟨h1, n1, n2, n3, n4, n5, n6, n7⟩ := h.parts
  have hi : i < p.L.length := (List.getElem?_eq_some_iff.1 hr).1
  have h2 := h1.L
  rw [hn] at h2 hi
  have s := h2.set (i * 5 + j) (by omega) x
  rw [fl_set encC_len p.L i j r r' x hr hj he, ← Nat.add_assoc] at s
  have hg : g ≠ b := fun e => n1 (by rw [e]; rfl)
  refine ⟨_, QT.mk (p := { p with L := p.L.set i r' }) ⟨?_, ?_, h1.S.fr (Fr.set _ _ _ _) (fun k hk e => n4 g rfl (by rw [← e]; exact hk)), h1.Q.fr (Fr.set _ _ _ _) (fun k hk e => n5 g rfl (by rw [← e]; exact hk))⟩ n1 n2 n3 n4 n5 n6, (Fr.set _ _ _ _).mono (fun k _ e => (n7 k).2 (.inr (.inl (by rw [e]; rfl)))), fun k hk => .inl ((n7 k).2 hk)⟩
  · rw [hp_set_other _ _ _ _ _ (fun e => hg e.symm)]; exact h1.B
  · rw [List.length_set, hn]; exact s
end
theorem con_cells {w : World} {v : Value} {L : List Cn} (h : Rw 84 5 w v L.length (fl encC L)) {i : Nat} {r : Cn} (hr : L[i]? = some r) : ∃ g off cap, v = .slice (some ⟨g, off, none⟩) L.length cap ∧ L.length ≤ cap ∧ cap ≤ 9223372036854775807 ∧ w.cell? ⟨g, off + i * 5, none⟩ = some (.int .i64 r.n) ∧ w.cell? ⟨g, off + i * 5 + 1, none⟩ = some (.int .i64 r.st) ∧ w.cell? ⟨g, off + i * 5 + 2, none⟩ = some (.int .i64 r.wh) ∧ w.cell? ⟨g, off + i * 5 + 3, none⟩ = some (.int .i64 r.si) ∧ w.cell? ⟨g, off + i * 5 + 4, none⟩ = some (.int .i64 r.bo) ∧ (∀ k, w.frozen? ⟨g, k, none⟩ = false) := by
  have hi : i < L.length := (List.getElem?_eq_some_iff.1 hr).1
  obtain ⟨g, off, cap, e, h1, h2, h3, h4, h5⟩ := h.at hi
  have k : ∀ j, j < 5 → w.cell? ⟨g, off + i * 5 + j, none⟩ = some (.int .i64 ((encC r).getD j 0)) := fun j hj => by
    rw [h3 j hj, fl_at encC_len L i j r hr hj]
  exact ⟨g, off, cap, e, h1, h2, k 0 (by omega), k 1 (by omega), k 2 (by omega), k 3 (by omega), k 4 (by omega), h4⟩
theorem infCon : Inf 40 84 5 40 := inf_of Try.underlying40 (by kernel_rfl)
theorem infRac : Inf 68 64 3 24 := inf_of Try.underlying68 (by kernel_rfl)
theorem rlater_any (t d : Int) (w : World) (h0 : 0 ≤ t) (h1 : t ≤ 4611686018427387904) (d0 : 0 ≤ d) (d1 : d ≤ 1000000) :
    Calls Try.prog 52 #[.int .i64 t, .int .i64 d] w fun e w' => e = .returned (.int .i64 (latI t d)) ∧ w = w' := by
  unfold latI
  have h2 : decide (t + d < t) = false := decide_eq_false (by omega)
  by_cases h : 4611686018427387904 - t < d
  · rw [if_pos h]
    have h3 : decide (4611686018427387904 < t + d) = true := decide_eq_true (by omega)
    go_enter Try.func52, Try.ntmps52
    go_wp2
    go_ret
    exact ⟨rfl, rfl⟩
  · rw [if_neg h]
    have h3 : decide (4611686018427387904 < t + d) = false := decide_eq_false (by omega)
    go_enter Try.func52, Try.ntmps52
    go_wp2
    go_ret
    exact ⟨rfl, rfl⟩
end Go.Proofs.Ytgeneknaekoinaa
