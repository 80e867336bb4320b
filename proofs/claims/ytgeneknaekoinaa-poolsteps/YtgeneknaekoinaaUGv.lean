/- What is done with a pool's blocks. -/
import Derived.Test.YtgeneknaekoinaaULt
namespace Go.Proofs.Ytgeneknaekoinaa
open Go.ChangeShapes Go.WideShapes Go.ChangeAt Go.RowKit
set_option linter.unusedVariables false

theorem Does.right {A B B' : Thing} [Ob A] {P : Nat → Prop} {w w1 w2 : World} (h : Does (Two A B) P w w1) (d : ∀ P2, B w1 P2 → Does B' P2 w1 w2) : Does (Two A B') P w w2 :=
  h.trans (fun _ hT => by obtain ⟨P2, hb, hk⟩ := Two.right hT; exact hk _ _ (d P2 hb))
theorem Does.left {A A' B : Thing} [Ob B] {P : Nat → Prop} {w w1 w2 : World} (h : Does (Two A B) P w w1) (d : ∀ P2, A w1 P2 → Does A' P2 w1 w2) : Does (Two A' B) P w w2 :=
  h.trans (fun _ hT => by obtain ⟨P2, hb, hk⟩ := Two.left hT; exact hk _ _ (d P2 hb))
theorem Does.fst_of {A B : Thing} {P : Nat → Prop} {w w1 : World} (h : Does (Two A B) P w w1) : ∃ P2, A w1 P2 := by
  obtain ⟨_, ⟨P1, _, x, _⟩, _⟩ := h; exact ⟨P1, x⟩
theorem Does.snd_of {A B : Thing} {P : Nat → Prop} {w w1 : World} (h : Does (Two A B) P w w1) : ∃ P2, B w1 P2 := by
  obtain ⟨_, ⟨_, P2, _, x, _⟩, _⟩ := h; exact ⟨P2, x⟩
theorem Does.of {A : Thing} {P : Nat → Prop} {w w1 : World} (h : Does A P w w1) : ∃ P2, A w1 P2 := by
  obtain ⟨P2, x, _⟩ := h; exact ⟨P2, x⟩
theorem Does.snd {A B : Thing} {P : Nat → Prop} {w w' : World} (h : Does (Two A B) P w w') : Does B P w w' := by
  obtain ⟨P', ⟨P1, P2, h1, h2, h3, h4⟩, h5, h6⟩ := h
  exact ⟨P2, h2, h5, fun k hk => h6 k ((h4 k).2 (.inr hk))⟩
/-- A new block beside it. -/
theorem Does.new {A : Thing} [a : Ob A] {P : Nat → Prop} {w w1 : World} (h : Does A P w w1) (o : Obj) : Does (Two (Blk w1.heap.size o) A) P w (w1.alloc o) := by
  obtain ⟨P', h1, h2, h3⟩ := h
  refine ⟨fun k => k = w1.heap.size ∨ P' k, ⟨fun k => k = w1.heap.size, P', ⟨hp_new _ _, fun _ => Iff.rfl⟩, a.fr _ _ _ _ h1 (Fr.alloc none' w1 o) (fun _ _ x => x), fun k hk x => ?_, fun _ => Iff.rfl⟩, h2.trans (Fr.alloc none' w1 o) (fun _ _ x => x.elim), fun k hk => ?_⟩
  · have := a.lt _ _ _ h1 x; omega
  · rcases hk with rfl | hk
    · exact .inr h2.size
    · exact h3 k hk
theorem Blk.set {b : Nat} {cur : Array Value} {t : TypeId} {w : World} {P : Nat → Prop} (h : Blk b (.cells cur t (0, 0)) w P) (i : Nat) (v : Value) : Does (Blk b (.cells (cur.setIfInBounds i v) t (0, 0))) P w (w.setCell ⟨b, i, none⟩ v) :=
  ⟨P, ⟨hp_set h.1 i v, h.2⟩, (Fr.set _ _ _ _).mono (fun k _ e => (h.2 k).2 e), fun _ hk => .inl hk⟩
section
variable {p : Pm} {b : Nat} {vr vw : Value} {w : World} {P : Nat → Prop}
/-- Its parts. -/
theorem PT.parts (h : PT p b vr vw w P) : w.heap[b]? = some (plO p vr vw) ∧ Rw 80 6 w vr p.R.length (fl encR p.R) ∧ Rw 3 1 w vw p.Q.length p.Q ∧ (vr.ownBlock ≠ some b) ∧ (vw.ownBlock ≠ some b) ∧ (∀ k, vr.ownBlock = some k → vw.ownBlock ≠ some k) ∧ ∀ k, P k ↔ (k = b ∨ vr.ownBlock = some k ∨ vw.ownBlock = some k) := by
  obtain ⟨P1, P2, h1, ⟨P3, P4, h2, h3, h4, h5⟩, h6, h7⟩ := h
  refine ⟨h1.1, h2.1, h3.1, fun e => ?_, fun e => ?_, fun k hk e => ?_, fun k => ?_⟩
  · exact h6 b ((h1.2 b).2 rfl) ((h5 b).2 (.inl ((h2.2 b).2 e)))
  · exact h6 b ((h1.2 b).2 rfl) ((h5 b).2 (.inr ((h3.2 b).2 e)))
  · exact h4 k ((h2.2 k).2 hk) ((h3.2 k).2 e)
  · rw [h7 k, h5 k, h1.2 k, h2.2 k, h3.2 k]
theorem PT.mk (h1 : w.heap[b]? = some (plO p vr vw)) (h2 : Rw 80 6 w vr p.R.length (fl encR p.R)) (h3 : Rw 3 1 w vw p.Q.length p.Q) (h4 : vr.ownBlock ≠ some b) (h5 : vw.ownBlock ≠ some b) (h6 : ∀ k, vr.ownBlock = some k → vw.ownBlock ≠ some k) : PT p b vr vw w (fun k => k = b ∨ vr.ownBlock = some k ∨ vw.ownBlock = some k) :=
  ⟨fun k => k = b, fun k => vr.ownBlock = some k ∨ vw.ownBlock = some k, ⟨h1, fun _ => Iff.rfl⟩, ⟨_, _, ⟨h2, fun _ => Iff.rfl⟩, ⟨h3, fun _ => Iff.rfl⟩, h6, fun _ => Iff.rfl⟩, fun k e x => by subst e; exact x.elim h4 h5, fun _ => Iff.rfl⟩
/-- Other rows. -/
theorem PT.setR (h : PT p b vr vw w P) {w' : World} {v' : Value} {L' : List Rk} (s : Rw 80 6 w' v' L'.length (fl encR L')) (F : Fr (fun k => vr.ownBlock = some k) w w') (o : ∀ k, v'.ownBlock = some k → vr.ownBlock = some k ∨ w.heap.size ≤ k) : Does (PT { p with R := L' } b v' vw) P w (w'.setCell ⟨b, 6, none⟩ v') := by
  obtain ⟨h1, h2, h3, h4, h5, h6, h7⟩ := h.parts
  have hb := hp_lt h1
  have k1 : w'.heap[b]? = some (plO p vr vw) := F.hd h4 h1
  have n1 : v'.ownBlock ≠ some b := fun e => (o b e).elim h4 (fun x => by omega)
  refine ⟨_, PT.mk (p := { p with R := L' }) (hp_set k1 6 v') (s.fr (Fr.set _ _ _ _) (fun k hk e => n1 (by rw [hk, e]))) ((h3.fr F (fun k hk e => h6 k e hk)).fr (Fr.set _ _ _ _) (fun k hk e => h5 (by rw [hk, e]))) n1 h5 (fun k hk e => ?_), ?_, fun k hk => ?_⟩
  · rcases o k hk with x | x
    · exact h6 k x e
    · have := h3.lt e; omega
  · exact (F.mono (fun k _ hk => (h7 k).2 (.inr (.inl hk)))).trans (Fr.set _ _ _ _) (fun k _ e => (h7 k).2 (.inl e))
  · rcases hk with e | e | e
    · exact .inl ((h7 k).2 (.inl e))
    · exact (o k e).imp (fun x => (h7 k).2 (.inr (.inl x))) id
    · exact .inl ((h7 k).2 (.inr (.inr e)))
/-- Others who wait. -/
theorem PT.setQ (h : PT p b vr vw w P) {w' : World} {v' : Value} {Q' : List Int} (s : Rw 3 1 w' v' Q'.length Q') (F : Fr (fun k => vw.ownBlock = some k) w w') (o : ∀ k, v'.ownBlock = some k → vw.ownBlock = some k ∨ w.heap.size ≤ k) : Does (PT { p with Q := Q' } b vr v') P w (w'.setCell ⟨b, 7, none⟩ v') := by
  obtain ⟨h1, h2, h3, h4, h5, h6, h7⟩ := h.parts
  have hb := hp_lt h1
  have k1 : w'.heap[b]? = some (plO p vr vw) := F.hd h5 h1
  have n1 : v'.ownBlock ≠ some b := fun e => (o b e).elim h5 (fun x => by omega)
  refine ⟨_, PT.mk (p := { p with Q := Q' }) (hp_set k1 7 v') ((h2.fr F (fun k hk e => h6 k hk e)).fr (Fr.set _ _ _ _) (fun k hk e => h4 (by rw [hk, e]))) (s.fr (Fr.set _ _ _ _) (fun k hk e => n1 (by rw [hk, e]))) h4 n1 (fun k hk e => ?_), ?_, fun k hk => ?_⟩
  · rcases o k e with x | x
    · exact h6 k hk x
    · have := h2.lt hk; omega
  · exact (F.mono (fun k _ hk => (h7 k).2 (.inr (.inr hk)))).trans (Fr.set _ _ _ _) (fun k _ e => (h7 k).2 (.inl e))
  · rcases hk with e | e | e
    · exact .inl ((h7 k).2 (.inl e))
    · exact .inl ((h7 k).2 (.inr (.inl e)))
    · exact (o k e).imp (fun x => (h7 k).2 (.inr (.inr x))) id
theorem PT.setA (h : PT p b vr vw w P) (x : Int) : Does (PT { p with asked := x } b vr vw) P w (w.setCell ⟨b, 4, none⟩ (.int .i64 x)) := by
  obtain ⟨h1, h2, h3, h4, h5, h6, h7⟩ := h.parts
  refine ⟨_, PT.mk (p := { p with asked := x }) (hp_set h1 4 _) (h2.fr (Fr.set _ _ _ _) (fun k hk e => h4 (by rw [hk, e]))) (h3.fr (Fr.set _ _ _ _) (fun k hk e => h5 (by rw [hk, e]))) h4 h5 h6, (Fr.set _ _ _ _).mono (fun k _ e => (h7 k).2 (.inl e)), fun k hk => .inl ((h7 k).2 hk)⟩
theorem PT.setN (h : PT p b vr vw w P) (x : Int) : Does (PT { p with rested := x } b vr vw) P w (w.setCell ⟨b, 5, none⟩ (.int .i64 x)) := by
  obtain ⟨h1, h2, h3, h4, h5, h6, h7⟩ := h.parts
  refine ⟨_, PT.mk (p := { p with rested := x }) (hp_set h1 5 _) (h2.fr (Fr.set _ _ _ _) (fun k hk e => h4 (by rw [hk, e]))) (h3.fr (Fr.set _ _ _ _) (fun k hk e => h5 (by rw [hk, e]))) h4 h5 h6, (Fr.set _ _ _ _).mono (fun k _ e => (h7 k).2 (.inl e)), fun k hk => .inl ((h7 k).2 hk)⟩
/-- One number of a row. -/
theorem PT.setC {g off n cap : Nat} (h : PT p b (.slice (some ⟨g, off, none⟩) n cap) vw w P) (hn : p.R.length = n) {i j : Nat} {r r' : Rk} {x : Int} (hr : p.R[i]? = some r) (hj : j < 6) (he : encR r' = (encR r).set j x) : Does (PT { p with R := p.R.set i r' } b (.slice (some ⟨g, off, none⟩) n cap) vw) P w (w.setCell ⟨g, off + i * 6 + j, none⟩ (.int .i64 x)) := by
  obtain ⟨h1, h2, h3, h4, h5, h6, h7⟩ := h.parts
  have hi : i < p.R.length := (List.getElem?_eq_some_iff.1 hr).1
  rw [hn] at h2 hi
  have hk : i * 6 + j < n * 6 := by omega
  have s := h2.set (i * 6 + j) hk x
  rw [fl_set encR_len p.R i j r r' x hr hj he, ← Nat.add_assoc] at s
  have hg : g ≠ b := fun e => h4 (by rw [e]; rfl)
  have hw : ∀ k, vw.ownBlock = some k → ¬ k = g := fun k hk e => h6 g rfl (by rw [← e]; exact hk)
  refine ⟨_, PT.mk (p := { p with R := p.R.set i r' }) ?_ ?_ (h3.fr (Fr.set _ _ _ _) (fun k hk e => hw k hk e)) h4 h5 h6, (Fr.set _ _ _ _).mono (fun k _ e => (h7 k).2 (.inr (.inl (by rw [e]; rfl)))), fun k hk => .inl ((h7 k).2 hk)⟩
  · rw [hp_set_other _ _ _ _ _ (fun e => hg e.symm)]; exact h1
  · rw [List.length_set, hn]; exact s
end
theorem set_at {L : List Rk} {i : Nat} {r s : Rk} (h : L[i]? = some r) : (L.set i s)[i]? = some s := by
  rw [List.getElem?_set_self (List.getElem?_eq_some_iff.1 h).1]
/-- A whole row put in its place, number by number. -/
def put6 (w : World) (g o : Nat) (s : Rk) : World := (((((w.setCell ⟨g, o, none⟩ (.int .i64 s.c)).setCell ⟨g, o + 1, none⟩ (.int .i64 s.st)).setCell ⟨g, o + 2, none⟩ (.int .i64 s.wh)).setCell ⟨g, o + 3, none⟩ (.int .i64 s.bo)).setCell ⟨g, o + 4, none⟩ (.int .i64 s.si)).setCell ⟨g, o + 5, none⟩ (.int .i64 s.tu)
theorem PT.put {p : Pm} {b : Nat} {vw : Value} {w : World} {P : Nat → Prop} {g off n cap : Nat} (h : PT p b (.slice (some ⟨g, off, none⟩) n cap) vw w P) (hn : p.R.length = n) {i : Nat} {r s : Rk} (hr : p.R[i]? = some r) : Does (PT { p with R := p.R.set i s } b (.slice (some ⟨g, off, none⟩) n cap) vw) P w (put6 w g (off + i * 6) s) := by
  have d0 := h.setC (j := 0) (r' := ⟨s.c, r.st, r.wh, r.bo, r.si, r.tu⟩) (x := s.c) hn hr (by omega) rfl
  have d1 := d0.trans (fun _ y => y.setC (j := 1) (r' := ⟨s.c, s.st, r.wh, r.bo, r.si, r.tu⟩) (x := s.st) (by simpa using hn) (set_at hr) (by omega) rfl)
  have d2 := d1.trans (fun _ y => y.setC (j := 2) (r' := ⟨s.c, s.st, s.wh, r.bo, r.si, r.tu⟩) (x := s.wh) (by simpa using hn) (set_at (set_at hr)) (by omega) rfl)
  have d3 := d2.trans (fun _ y => y.setC (j := 3) (r' := ⟨s.c, s.st, s.wh, s.bo, r.si, r.tu⟩) (x := s.bo) (by simpa using hn) (set_at (set_at (set_at hr))) (by omega) rfl)
  have d4 := d3.trans (fun _ y => y.setC (j := 4) (r' := ⟨s.c, s.st, s.wh, s.bo, s.si, r.tu⟩) (x := s.si) (by simpa using hn) (set_at (set_at (set_at (set_at hr)))) (by omega) rfl)
  have d5 := d4.trans (fun _ y => y.setC (j := 5) (r' := s) (x := s.tu) (by simpa using hn) (set_at (set_at (set_at (set_at (set_at hr))))) (by omega) rfl)
  simp only [List.set_set] at d5
  exact d5
end Go.Proofs.Ytgeneknaekoinaa
