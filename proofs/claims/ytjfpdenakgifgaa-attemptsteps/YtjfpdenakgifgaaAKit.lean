/- What is done with things side by side; rows of acts and of numbers; a request's parts. -/
import Derived.Test.YtjfpdenakgifgaaATk
import Derived.Deep.Upon
namespace Go.Proofs.Ytjfpdenakgifgaa
open Go.ChangeShapes Go.WideShapes Go.ChangeAt Go.RowKit
set_option linter.unusedVariables false

theorem Does.right {A B B' : Thing} [Ob A] {P : Nat → Prop} {w w1 w2 : World} (h : Does (Two A B) P w w1) (d : ∀ P2, B w1 P2 → Does B' P2 w1 w2) : Does (Two A B') P w w2 :=
  h.trans (fun _ hT => by obtain ⟨P2, hb, hk⟩ := Two.right hT; exact hk _ _ (d P2 hb))
theorem Does.left {A A' B : Thing} [Ob B] {P : Nat → Prop} {w w1 w2 : World} (h : Does (Two A B) P w w1) (d : ∀ P2, A w1 P2 → Does A' P2 w1 w2) : Does (Two A' B) P w w2 :=
  h.trans (fun _ hT => by obtain ⟨P2, hb, hk⟩ := Two.left hT; exact hk _ _ (d P2 hb))
theorem Does.fst_of {A B : Thing} {P : Nat → Prop} {w w1 : World} (h : Does (Two A B) P w w1) : ∃ P2, A w1 P2 := by
  obtain ⟨_, ⟨P1, _, x, _⟩, _⟩ := h; exact ⟨P1, x⟩
theorem Does.snd_of {A B : Thing} {P : Nat → Prop} {w w1 : World} (h : Does (Two A B) P w w1) : ∃ P2, B w1 P2 := by
  obtain ⟨_, ⟨_, P2, _, x, _⟩, _⟩ := h; exact ⟨P2, x⟩
theorem Does.of {A : Thing} {P : Nat → Prop} {w w1 : World} (h : Does A P w w1) : ∃ P2, A w1 P2 := by
  obtain ⟨P2, x, _⟩ := h; exact ⟨P2, x⟩
theorem Does.snd {A B : Thing} {P : Nat → Prop} {w w' : World} (h : Does (Two A B) P w w') : Does B P w w' := by
  obtain ⟨P', ⟨P1, P2, h1, h2, h3, h4⟩, h5, h6⟩ := h
  exact ⟨P2, h2, h5, fun k hk => h6 k ((h4 k).2 (.inr hk))⟩
theorem Does.new {A : Thing} [a : Ob A] {P : Nat → Prop} {w w1 : World} (h : Does A P w w1) (o : Obj) : Does (Two (Blk w1.heap.size o) A) P w (w1.alloc o) := by
  obtain ⟨P', h1, h2, h3⟩ := h
  refine ⟨fun k => k = w1.heap.size ∨ P' k, ⟨fun k => k = w1.heap.size, P', ⟨hp_new _ _, fun _ => Iff.rfl⟩, a.fr _ _ _ _ h1 (Fr.alloc none' w1 o) (fun _ _ x => x), fun k hk x => ?_, fun _ => Iff.rfl⟩, h2.trans (Fr.alloc none' w1 o) (fun _ _ x => x.elim), fun k hk => ?_⟩
  · have := a.lt _ _ _ h1 x; omega
  · rcases hk with rfl | hk
    · exact .inr h2.size
    · exact h3 k hk
theorem Blk.set {b : Nat} {cur : Array Value} {t : TypeId} {w : World} {P : Nat → Prop} (h : Blk b (.cells cur t (0, 0)) w P) (i : Nat) (v : Value) : Does (Blk b (.cells (cur.setIfInBounds i v) t (0, 0))) P w (w.setCell ⟨b, i, none⟩ v) :=
  ⟨P, ⟨hp_set h.1 i v, h.2⟩, (Fr.set _ _ _ _).mono (fun k _ e => (h.2 k).2 e), fun _ hk => .inl hk⟩
theorem Does.focR {A B : Thing} [Ob A] {P : Nat → Prop} {w w1 : World} (h : Does (Two A B) P w w1) : ∃ P2, B w1 P2 ∧ ∀ (B' : Thing) (w2 : World), Does B' P2 w1 w2 → Does (Two A B') P w w2 := by
  obtain ⟨P', hT, h2, h3⟩ := h
  obtain ⟨P2, hb, hk⟩ := Two.right hT
  exact ⟨P2, hb, fun B' w2 d => Does.more h2 h3 (hk _ _ d)⟩
theorem Does.focL {A B : Thing} [Ob B] {P : Nat → Prop} {w w1 : World} (h : Does (Two A B) P w w1) : ∃ P2, A w1 P2 ∧ ∀ (A' : Thing) (w2 : World), Does A' P2 w1 w2 → Does (Two A' B) P w w2 := by
  obtain ⟨P', hT, h2, h3⟩ := h
  obtain ⟨P2, hb, hk⟩ := Two.left hT
  exact ⟨P2, hb, fun B' w2 d => Does.more h2 h3 (hk _ _ d)⟩
theorem Does.foc {A : Thing} {P : Nat → Prop} {w w1 : World} (h : Does A P w w1) : ∃ P2, A w1 P2 ∧ ∀ (A' : Thing) (w2 : World), Does A' P2 w1 w2 → Does A' P w w2 := by
  obtain ⟨P', hT, h2, h3⟩ := h
  exact ⟨P', hT, fun B' w2 d => Does.more h2 h3 d⟩
theorem Does.put {A B : Thing} [a : Ob A] {P : Nat → Prop} {w w1 w2 : World} (h : Does A P w w1) (d : Does B none' w1 w2) : Does (Two B A) P w w2 := by
  obtain ⟨P1, h1, h2, h3⟩ := h
  obtain ⟨P', q1, q2, q3⟩ := d
  have q4 : ∀ k, P' k → w1.heap.size ≤ k := fun k hk => (q3 k hk).resolve_left id
  refine ⟨fun k => P' k ∨ P1 k, ⟨P', P1, q1, a.fr _ _ _ _ h1 q2 (fun _ _ x => x), fun k hk x => ?_, fun k => Iff.rfl⟩, h2.trans q2 (fun _ _ x => x.elim), fun k hk => ?_⟩
  · have := a.lt _ _ _ h1 x; have := q4 k hk; omega
  · rcases hk with x | x
    · exact .inr (Nat.le_trans h2.size (q4 k x))
    · exact h3 k x
theorem append_rwv {t T : TypeId} {m bts : Nat} (I : Inf t T m bts) (W : World) (ty : TypeId) (v x : Value) (n k : Nat) (xs ys : List Int) (h : Rw T m W v n xs) (hy : Rw T m W x k ys) (hn : (n + k) * bts ≤ 140737488355328) (hn2 : n + k ≤ 140737488355328) :
    ∃ v' W', (Builtin.append_ #[t, t] ty #[v, x]).run Try.prog W = .ok v' W' ∧ Rw T m W' v' (n + k) (xs ++ ys) ∧ Fr (fun k => v.ownBlock = some k) W W' ∧ ∀ k, v'.ownBlock = some k → v.ownBlock = some k ∨ W.heap.size ≤ k := by
  by_cases hk : 0 < k
  · exact append_rws I W ty v x n k xs ys h (Sc.ofRw I hy) hk hn hn2
  · have k0 : k = 0 := by omega
    subst k0
    have hs := (Sc.ofRw I hy).src
    have hyl := hy.1
    rw [Nat.zero_mul] at hyl
    have e := List.eq_nil_of_length_eq_zero hyl
    subst e
    obtain ⟨i, z, hi, hz, hzs, hs1, hb1⟩ := I.i
    obtain ⟨a, cap, rfl, h0, -⟩ := h.shape
    refine ⟨_, _, run_append_nothing W t t ty T i I.u hi a n cap h0 x (by rw [hs1]; exact hs), ?_, Fr.refl _ _, fun _ hj => .inl hj⟩
    rw [List.append_nil]
    exact h
theorem wpList_append_rwv {t T : TypeId} {m bts : Nat} (I : Inf t T m bts) {ops : Array Oper} {rest : List Oper} {o : Oper} {a : Act} {Q : Exit → Act → World → Prop} (hgd : o.guard = none) (s x : Operand)
    (ho : o.op = .call { callee := .builtin .append, args := #[s, x], argTypes := #[t, t] }) (W : World) (v v2 : Value) (n k : Nat) (xs ys : List Int) (hs : a.eval s = v) (hx : a.eval x = v2)
    (hv : Rw T m W v n xs) (hy : Rw T m W v2 k ys) (hn : (n + k) * bts ≤ 140737488355328) (hn2 : n + k ≤ 140737488355328)
    (h : ∀ v' W', Rw T m W' v' (n + k) (xs ++ ys) → Fr (fun k => v.ownBlock = some k) W W' → (∀ k, v'.ownBlock = some k → v.ownBlock = some k ∨ W.heap.size ≤ k) → wpList Try.prog ops Q rest (a.put o.dst v') W') : wpList Try.prog ops Q (o :: rest) a W := by
  refine wpList_plain hgd fun K hK => ?_
  obtain ⟨v', W', hr, h2, h3, h4⟩ := append_rwv I W o.type v v2 n k xs ys hv hy hn hn2
  unfold Oper.wp execOp
  simp only [ho, resolve, invoke, builtin, Sem.run_bind, Sem.run_pure, Result.andThen_ok, List.map_toArray, List.map_cons, List.map_nil, hs, hx, hr]
  exact hK _ _ (h v' W' h2 h3 h4)
theorem infInt : Inf 45 3 1 8 := inf_of Try.underlying45 (by kernel_rfl)
theorem infAct : Inf 28 53 3 24 := inf_of Try.underlying28 (by kernel_rfl)
theorem infRun : Inf 60 72 2 16 := inf_of Try.underlying60 (by kernel_rfl)
def acV (a : Ac) : Value := .agg #[.int .i64 a.k, .int .i64 a.c, .int .i64 a.w]
def encA (a : Ac) : List Int := [a.k, a.c, a.w]
theorem encA_len (a : Ac) : (encA a).length = 3 := rfl
abbrev RA (v : Value) (A : List Ac) : Thing := RT 53 3 v A.length (fl encA A)
abbrev RI (v : Value) (L : List Int) : Thing := RT 3 1 v L.length L
theorem Does.nilRA {B : Thing} {P : Nat → Prop} {w w1 : World} (h : Does B P w w1) : Does (Two (RA (.slice none 0 0) []) B) P w w1 := by
  obtain ⟨P', h1, h2, h3⟩ := h
  exact ⟨P', ⟨fun _ => False, P', ⟨Rw.nil _ _ _, fun _ => by simp [Value.ownBlock]⟩, h1, fun _ x => x.elim, fun _ => by simp⟩, h2, h3⟩
theorem Does.newRA {B : Thing} [o : Ob B] {P : Nat → Prop} {w w1 : World} (h : Does B P w w1) (a : Ac) : Does (Two (RA (.slice (some ⟨w1.heap.size, 0, none⟩) 1 1) [a]) B) P w (w1.alloc (.cells #[.int .i64 a.k, .int .i64 a.c, .int .i64 a.w] 53)) := by
  obtain ⟨P', h1, h2, h3⟩ := h
  have hr := rw_new infAct w1 (encA a) rfl
  refine ⟨fun k => k = w1.heap.size ∨ P' k, ⟨fun k => k = w1.heap.size, P', ⟨by show Rw _ _ _ _ 1 (fl encA [a]); rw [show fl encA [a] = encA a by simp [fl]]; exact hr, fun k => by simp [Value.ownBlock, eq_comm]⟩, o.fr _ _ _ _ h1 (Fr.alloc none' w1 _) (fun _ _ x => x), fun k hk x => ?_, fun _ => Iff.rfl⟩, h2.trans (Fr.alloc none' w1 _) (fun _ _ x => x.elim), fun k hk => ?_⟩
  · have := o.lt _ _ _ h1 x; omega
  · rcases hk with rfl | hk
    · exact .inr h2.size
    · exact h3 k hk
theorem RA.new (w : World) (a : Ac) : Does (RA (.slice (some ⟨w.heap.size, 0, none⟩) 1 1) [a]) none' w (w.alloc (.cells #[.int .i64 a.k, .int .i64 a.c, .int .i64 a.w] 53)) := by
  have hr := rw_new infAct w (encA a) rfl
  refine ⟨fun k => k = w.heap.size, ⟨by show Rw _ _ _ _ 1 (fl encA [a]); rw [show fl encA [a] = encA a by simp [fl]]; exact hr, fun k => by simp [Value.ownBlock, eq_comm]⟩, Fr.alloc none' w _, fun k hk => .inr (by omega)⟩
theorem RI.new (w : World) (x : Int) : Does (RI (.slice (some ⟨w.heap.size, 0, none⟩) 1 1) [x]) none' w (w.alloc (.cells #[.int .i64 x] 3)) :=
  ⟨fun k => k = w.heap.size, ⟨rw_new infInt w [x] rfl, fun k => by simp [Value.ownBlock, eq_comm]⟩, Fr.alloc none' w _, fun k hk => .inr (by omega)⟩
theorem Does.fr {O : Thing} {P : Nat → Prop} {w w' : World} (h : Does O P w w') : Fr P w w' := by obtain ⟨_, _, h2, _⟩ := h; exact h2
theorem Does.ri {T : TypeId} {m n : Nat} {v : Value} {L : List Int} {P : Nat → Prop} {w w' : World} (h : Does (RT T m v n L) P w w') : Rw T m w' v n L := by obtain ⟨_, h1, _⟩ := h; exact h1.1
def setO (o : Obj) (i : Nat) (v : Value) : Obj := match o with | .cells c t f => .cells (c.setIfInBounds i v) t f | o => o
section
variable {p : Rq} {b : Nat} {vr : Value} {w : World} {P : Nat → Prop}
/-- Its parts. -/
theorem QT.parts (h : QT p b vr w P) : w.heap[b]? = some (rqO p vr) ∧ Rw 72 2 w vr p.R.length (fl encN p.R) ∧ (vr.ownBlock ≠ some b) ∧ ∀ k, P k ↔ (k = b ∨ vr.ownBlock = some k) := by
  obtain ⟨P1, P2, h1, h2, h6, h7⟩ := h
  refine ⟨h1.1, h2.1, fun e => ?_, fun k => ?_⟩
  · exact h6 b ((h1.2 b).2 rfl) ((h2.2 b).2 e)
  · rw [h7 k, h1.2 k, h2.2 k]
theorem QT.mk (h1 : w.heap[b]? = some (rqO p vr)) (h2 : Rw 72 2 w vr p.R.length (fl encN p.R)) (h4 : vr.ownBlock ≠ some b) : QT p b vr w (fun k => k = b ∨ vr.ownBlock = some k) :=
  ⟨fun k => k = b, fun k => vr.ownBlock = some k, ⟨h1, fun _ => Iff.rfl⟩, ⟨h2, fun _ => Iff.rfl⟩, fun k e x => by subst e; exact h4 x, fun _ => Iff.rfl⟩
/-- Other runs. -/
theorem QT.setR (h : QT p b vr w P) {w' : World} {v' : Value} {L' : List Rn} (s : Rw 72 2 w' v' L'.length (fl encN L')) (F : Fr (fun k => vr.ownBlock = some k) w w') (o : ∀ k, v'.ownBlock = some k → vr.ownBlock = some k ∨ w.heap.size ≤ k) : Does (QT { p with R := L' } b v') P w (w'.setCell ⟨b, 11, none⟩ v') := by
  obtain ⟨h1, h2, h4, h7⟩ := h.parts
  have hb := hp_lt h1
  have k1 : w'.heap[b]? = some (rqO p vr) := F.hd h4 h1
  have n1 : v'.ownBlock ≠ some b := fun e => (o b e).elim h4 (fun x => by omega)
  refine ⟨_, QT.mk (p := { p with R := L' }) (hp_set k1 11 v') (s.fr (Fr.set _ _ _ _) (fun k hk e => n1 (by rw [hk, e]))) n1, ?_, fun k hk => ?_⟩
  · exact (F.mono (fun k _ hk => (h7 k).2 (.inr hk))).trans (Fr.set _ _ _ _) (fun k _ e => (h7 k).2 (.inl e))
  · rcases hk with e | e
    · exact .inl ((h7 k).2 (.inl e))
    · exact (o k e).imp (fun x => (h7 k).2 (.inr x)) id
theorem QT.setC (h : QT p b vr w P) {q : Rq} (i : Nat) (v : Value) (hR : q.R = p.R) (he : setO (rqO p vr) i v = rqO q vr) : Does (QT q b vr) P w (w.setCell ⟨b, i, none⟩ v) := by
  obtain ⟨h1, h2, h4, h7⟩ := h.parts
  refine ⟨_, QT.mk (p := q) ?_ ?_ h4, (Fr.set _ _ _ _).mono (fun k _ e => (h7 k).2 (.inl e)), fun k hk => .inl ((h7 k).2 hk)⟩
  · rw [← he]
    exact hp_set h1 i v
  · rw [hR]
    exact h2.fr (Fr.set _ _ _ _) (fun k hk e => h4 (by rw [hk, e]))
end
end Go.Proofs.Ytjfpdenakgifgaa
