/- Things that lie in blocks of their own, beside each other: what is done with one leaves the others as they were. -/
import Derived.Test.YtjfpdenakgifgaaPBase
namespace Go.Proofs.Ytjfpdenakgifgaa
open Go.ChangeShapes Go.WideShapes Go.ChangeAt Go.RowKit

/-- A thing in the world, and the set of the blocks in which it lies. -/
abbrev Thing := World → (Nat → Prop) → Prop
/-- It stays where nothing of its blocks changes, and it lies in blocks that there are. -/
class Ob (O : Thing) : Prop where
  fr : ∀ (w w' : World) (P Q : Nat → Prop), O w P → Fr Q w w' → (∀ k, P k → ¬ Q k) → O w' P
  lt : ∀ (w : World) (P : Nat → Prop) (k : Nat), O w P → P k → k < w.heap.size
/-- It was changed, within its blocks and new ones. -/
def Does (O' : Thing) (P : Nat → Prop) (w w' : World) : Prop := ∃ P', O' w' P' ∧ Fr P w w' ∧ ∀ k, P' k → P k ∨ w.heap.size ≤ k
/-- Two things side by side. -/
def Two (A B : Thing) : Thing := fun w P => ∃ P1 P2, A w P1 ∧ B w P2 ∧ (∀ k, P1 k → ¬ P2 k) ∧ ∀ k, P k ↔ (P1 k ∨ P2 k)
/-- All that there is of the call's own, since a world. -/
def Top (O : Thing) (W w : World) : Prop := ∃ P, O w P ∧ (∀ k, P k → W.heap.size ≤ k) ∧ Fr none' W w

instance Ob.two {A B : Thing} [a : Ob A] [b : Ob B] : Ob (Two A B) := by
  refine ⟨fun w w' P Q h F d => ?_, fun w P k h hk => ?_⟩
  · obtain ⟨P1, P2, h1, h2, h3, h4⟩ := h
    exact ⟨P1, P2, a.fr _ _ _ _ h1 F (fun k hk => d k ((h4 k).2 (.inl hk))), b.fr _ _ _ _ h2 F (fun k hk => d k ((h4 k).2 (.inr hk))), h3, h4⟩
  · obtain ⟨P1, P2, h1, h2, h3, h4⟩ := h
    rcases (h4 k).1 hk with x | x
    · exact a.lt _ _ _ h1 x
    · exact b.lt _ _ _ h2 x
theorem Two.left {A B : Thing} [b : Ob B] {w : World} {P : Nat → Prop} (h : Two A B w P) : ∃ P1, A w P1 ∧ ∀ (A' : Thing) (w' : World), Does A' P1 w w' → Does (Two A' B) P w w' := by
  obtain ⟨P1, P2, h1, h2, h3, h4⟩ := h
  refine ⟨P1, h1, fun A' w' ⟨P', q1, q2, q3⟩ => ⟨fun k => P' k ∨ P2 k, ⟨P', P2, q1, b.fr _ _ _ _ h2 q2 (fun k hk x => h3 k x hk), fun k hk x => ?_, fun k => Iff.rfl⟩, q2.mono (fun i _ hi => (h4 i).2 (.inl hi)), fun k hk => ?_⟩⟩
  · rcases q3 k hk with y | y
    · exact h3 k y x
    · have := b.lt _ _ _ h2 x; omega
  · rcases hk with x | x
    · rcases q3 k x with y | y
      · exact .inl ((h4 k).2 (.inl y))
      · exact .inr y
    · exact .inl ((h4 k).2 (.inr x))
theorem Two.right {A B : Thing} [a : Ob A] {w : World} {P : Nat → Prop} (h : Two A B w P) : ∃ P2, B w P2 ∧ ∀ (B' : Thing) (w' : World), Does B' P2 w w' → Does (Two A B') P w w' := by
  obtain ⟨P1, P2, h1, h2, h3, h4⟩ := h
  refine ⟨P2, h2, fun B' w' ⟨P', q1, q2, q3⟩ => ⟨fun k => P1 k ∨ P' k, ⟨P1, P', a.fr _ _ _ _ h1 q2 (fun k hk x => h3 k hk x), q1, fun k hk x => ?_, fun k => Iff.rfl⟩, q2.mono (fun i _ hi => (h4 i).2 (.inr hi)), fun k hk => ?_⟩⟩
  · rcases q3 k x with y | y
    · exact h3 k hk y
    · have := a.lt _ _ _ h1 hk; omega
  · rcases hk with x | x
    · exact .inl ((h4 k).2 (.inl x))
    · rcases q3 k x with y | y
      · exact .inl ((h4 k).2 (.inr y))
      · exact .inr y
theorem Does.e {O : Thing} [o : Ob O] {P : Nat → Prop} {w w1 w2 : World} (h : Does O P w w1) (F : Fr none' w1 w2) : Does O P w w2 := by
  obtain ⟨P', h1, h2, h3⟩ := h
  exact ⟨P', o.fr _ _ _ _ h1 F (fun _ _ x => x), h2.trans F (fun _ _ x => x.elim), h3⟩
theorem Does.refl {O : Thing} {P : Nat → Prop} {w : World} (h : O w P) : Does O P w w := ⟨P, h, Fr.refl _ _, fun _ hk => .inl hk⟩
theorem Does.still {O : Thing} [Ob O] {P : Nat → Prop} {w w2 : World} (h : O w P) (F : Fr none' w w2) : Does O P w w2 := (Does.refl h).e F
theorem Does.trans {O O' : Thing} {P : Nat → Prop} {w w1 w2 : World} (h : Does O P w w1) (k : ∀ P', O w1 P' → Does O' P' w1 w2) : Does O' P w w2 := by
  obtain ⟨P', h1, h2, h3⟩ := h
  obtain ⟨P'', k1, k2, k3⟩ := k P' h1
  refine ⟨P'', k1, h2.trans k2 (fun i hi hp => (h3 i hp).resolve_right (by omega)), fun j hj => ?_⟩
  rcases k3 j hj with x | x
  · exact h3 j x
  · exact .inr (Nat.le_trans h2.size x)
theorem Does.more {O' : Thing} {P P2 : Nat → Prop} {w w2 w3 : World} (h1 : Fr P w w2) (h2 : ∀ k, P2 k → P k ∨ w.heap.size ≤ k) (h3 : Does O' P2 w2 w3) : Does O' P w w3 := by
  obtain ⟨P3, y1, y2, y3⟩ := h3
  refine ⟨P3, y1, h1.trans y2 (fun i hi hp => (h2 i hp).resolve_right (by omega)), fun k hk => ?_⟩
  rcases y3 k hk with x | x
  · exact h2 k x
  · exact .inr (Nat.le_trans h1.size x)

/-- The row's end. -/
def Nil : Thing := fun _ P => ∀ k, ¬ P k
instance Nil.ob : Ob Nil := ⟨fun _ _ _ _ h _ _ => h, fun _ _ k h hk => (h k hk).elim⟩
theorem Top.nil (W : World) : Top Nil W W := ⟨fun _ => False, fun _ h => h, fun _ h => h.elim, Fr.refl _ _⟩
theorem Top.foc {O : Thing} {W w : World} (h : Top O W w) : ∃ P, O w P ∧ ∀ (O' : Thing) (w' : World), Does O' P w w' → Top O' W w' := by
  obtain ⟨P, h1, h2, h3⟩ := h
  refine ⟨P, h1, fun O' w' ⟨P', q1, q2, q3⟩ => ⟨P', q1, fun k hk => ?_, h3.trans q2 (fun i hi hp => by have := h2 i hp; omega)⟩⟩
  rcases q3 k hk with x | x
  · exact h2 k x
  · have := h3.size; omega
theorem Top.at0 {A X : Thing} [Ob X] {W w : World} (h : Top (Two A X) W w) : ∃ P, A w P ∧ ∀ (A' : Thing) (w' : World), Does A' P w w' → Top (Two A' X) W w' := by
  obtain ⟨P, h1, h2⟩ := h.foc
  obtain ⟨P1, h3, h4⟩ := Two.left h1
  exact ⟨P1, h3, fun A' w' d => h2 _ _ (h4 _ _ d)⟩
theorem Top.tl {A X : Thing} [Ob A] {W w : World} (h : Top (Two A X) W w) : ∃ P, X w P ∧ ∀ (X' : Thing) (w' : World), Does X' P w w' → Top (Two A X') W w' := by
  obtain ⟨P, h1, h2⟩ := h.foc
  obtain ⟨P1, h3, h4⟩ := Two.right h1
  exact ⟨P1, h3, fun A' w' d => h2 _ _ (h4 _ _ d)⟩
theorem Top.at1 {A B X : Thing} [Ob A] [Ob X] {W w : World} (h : Top (Two A (Two B X)) W w) : ∃ P, B w P ∧ ∀ (B' : Thing) (w' : World), Does B' P w w' → Top (Two A (Two B' X)) W w' := by
  obtain ⟨P, h1, h2⟩ := h.tl
  obtain ⟨P1, h3, h4⟩ := Two.left h1
  exact ⟨P1, h3, fun A' w' d => h2 _ _ (h4 _ _ d)⟩
theorem Top.tl2 {A B X : Thing} [Ob A] [Ob B] {W w : World} (h : Top (Two A (Two B X)) W w) : ∃ P, X w P ∧ ∀ (X' : Thing) (w' : World), Does X' P w w' → Top (Two A (Two B X')) W w' := by
  obtain ⟨P, h1, h2⟩ := h.tl
  obtain ⟨P1, h3, h4⟩ := Two.right h1
  exact ⟨P1, h3, fun A' w' d => h2 _ _ (h4 _ _ d)⟩
theorem Top.at2 {A B C X : Thing} [Ob A] [Ob B] [Ob X] {W w : World} (h : Top (Two A (Two B (Two C X))) W w) : ∃ P, C w P ∧ ∀ (C' : Thing) (w' : World), Does C' P w w' → Top (Two A (Two B (Two C' X))) W w' := by
  obtain ⟨P, h1, h2⟩ := h.tl2
  obtain ⟨P1, h3, h4⟩ := Two.left h1
  exact ⟨P1, h3, fun A' w' d => h2 _ _ (h4 _ _ d)⟩
theorem Top.tl3 {A B C X : Thing} [Ob A] [Ob B] [Ob C] {W w : World} (h : Top (Two A (Two B (Two C X))) W w) : ∃ P, X w P ∧ ∀ (X' : Thing) (w' : World), Does X' P w w' → Top (Two A (Two B (Two C X'))) W w' := by
  obtain ⟨P, h1, h2⟩ := h.tl2
  obtain ⟨P1, h3, h4⟩ := Two.right h1
  exact ⟨P1, h3, fun A' w' d => h2 _ _ (h4 _ _ d)⟩
theorem Top.at3 {A B C D X : Thing} [Ob A] [Ob B] [Ob C] [Ob X] {W w : World} (h : Top (Two A (Two B (Two C (Two D X)))) W w) : ∃ P, D w P ∧ ∀ (D' : Thing) (w' : World), Does D' P w w' → Top (Two A (Two B (Two C (Two D' X)))) W w' := by
  obtain ⟨P, h1, h2⟩ := h.tl3
  obtain ⟨P1, h3, h4⟩ := Two.left h1
  exact ⟨P1, h3, fun A' w' d => h2 _ _ (h4 _ _ d)⟩
theorem Top.tl4 {A B C D X : Thing} [Ob A] [Ob B] [Ob C] [Ob D] {W w : World} (h : Top (Two A (Two B (Two C (Two D X)))) W w) : ∃ P, X w P ∧ ∀ (X' : Thing) (w' : World), Does X' P w w' → Top (Two A (Two B (Two C (Two D X')))) W w' := by
  obtain ⟨P, h1, h2⟩ := h.tl3
  obtain ⟨P1, h3, h4⟩ := Two.right h1
  exact ⟨P1, h3, fun A' w' d => h2 _ _ (h4 _ _ d)⟩
theorem Top.at4 {A B C D E X : Thing} [Ob A] [Ob B] [Ob C] [Ob D] [Ob X] {W w : World} (h : Top (Two A (Two B (Two C (Two D (Two E X))))) W w) : ∃ P, E w P ∧ ∀ (E' : Thing) (w' : World), Does E' P w w' → Top (Two A (Two B (Two C (Two D (Two E' X))))) W w' := by
  obtain ⟨P, h1, h2⟩ := h.tl4
  obtain ⟨P1, h3, h4⟩ := Two.left h1
  exact ⟨P1, h3, fun A' w' d => h2 _ _ (h4 _ _ d)⟩
theorem Top.same {O : Thing} [o : Ob O] {W w w' : World} (h : Top O W w) (F : Fr none' w w') : Top O W w' := by
  obtain ⟨P, h1, h2, h3⟩ := h
  exact ⟨P, o.fr _ _ _ _ h1 F (fun _ _ x => x), h2, h3.trans F (fun _ _ x => x)⟩
/-- A new thing ahead of the others; and the first one let go. -/
theorem Top.put {A B : Thing} [a : Ob A] {W w w' : World} (h : Top A W w) (d : Does B none' w w') : Top (Two B A) W w' := by
  obtain ⟨P, h1, h2, h3⟩ := h
  obtain ⟨P', q1, q2, q3⟩ := d
  have q4 : ∀ k, P' k → w.heap.size ≤ k := fun k hk => (q3 k hk).resolve_left id
  refine ⟨fun k => P' k ∨ P k, ⟨P', P, q1, a.fr _ _ _ _ h1 q2 (fun _ _ x => x), fun k hk x => ?_, fun k => Iff.rfl⟩, fun k hk => ?_, h3.trans q2 (fun _ _ x => x)⟩
  · have := a.lt _ _ _ h1 x; have := q4 k hk; omega
  · rcases hk with x | x
    · have := q4 k x; have := h3.size; omega
    · exact h2 k x
theorem Top.drop {A B : Thing} {W w : World} (h : Top (Two B A) W w) : Top A W w := by
  obtain ⟨P, ⟨P1, P2, h1, h2, h3, h4⟩, h5, h6⟩ := h
  exact ⟨P2, h2, fun k hk => h5 k ((h4 k).2 (.inr hk)), h6⟩
theorem Top.fr {O : Thing} {W w : World} (h : Top O W w) : Fr none' W w := by obtain ⟨_, _, _, h3⟩ := h; exact h3
/-- A block that stays as it is. -/
def Blk (b : Nat) (o : Obj) : Thing := fun w P => w.heap[b]? = some o ∧ ∀ k, P k ↔ k = b
instance Blk.ob (b : Nat) (o : Obj) : Ob (Blk b o) := ⟨fun _ _ _ _ h F d => ⟨F.hd (d b ((h.2 b).2 rfl)) h.1, h.2⟩, fun _ _ k h hk => by have := (h.2 k).1 hk; subst this; exact hp_lt h.1⟩
theorem Blk.new (w : World) (o : Obj) : Does (Blk w.heap.size o) none' w (w.alloc o) := ⟨fun k => k = w.heap.size, ⟨hp_new w o, fun _ => Iff.rfl⟩, Fr.alloc _ _ _, fun k hk => .inr (by omega)⟩
theorem Blk.at {b : Nat} {o : Obj} {w : World} {P : Nat → Prop} (h : Blk b o w P) : w.heap[b]? = some o := h.1
/-- A row of numbers that grows by append. -/
def Nums (v : Value) (l : List Int) : Thing := fun w P => w.ownsRow 0 3 1 v l.length (l.map fun x => Value.int .i64 x) ∧ ∀ k, P k ↔ v.ownBlock = some k
instance Nums.ob (v : Value) (l : List Int) : Ob (Nums v l) := by
  refine ⟨fun w w' P Q h F d => ⟨⟨h.1.1, ?_⟩, h.2⟩, fun w P k h hk => (h.1.lt k ((h.2 k).1 hk)).2⟩
  rcases h.1.2 with x | ⟨g, cap, cur, rfl, h1, hg, r⟩
  · exact .inl x
  · exact .inr ⟨g, cap, cur, rfl, h1, F.hd (d g ((h.2 g).2 rfl)) hg, r⟩
theorem Nums.new (w : World) : Does (Nums (.slice none 0 0) []) none' w w := ⟨fun _ => False, ⟨⟨rfl, .inl ⟨rfl, rfl⟩⟩, fun k => by simp [Value.ownBlock]⟩, Fr.refl _ _, fun k hk => hk.elim⟩
theorem Nums.cells {w : World} {P : Nat → Prop} {v : Value} {l : List Int} (h : Nums v l w P) :
    ∃ (a : Option Addr) (cap : Nat), v = .slice a l.length cap ∧ l.length ≤ cap ∧ ∀ i, i < l.length → ∃ g, a = some ⟨g, 0, none⟩ ∧ w.cell? ⟨g, i, none⟩ = some (.int .i64 (l.getD i 0)) := by
  rcases h.1.2 with ⟨rfl, h0⟩ | ⟨g, cap, cur, rfl, h1, hg, h2, _, _, ht⟩
  · exact ⟨none, 0, by rw [h0], by omega, fun i hi => by omega⟩
  · refine ⟨_, _, rfl, h2, fun i hi => ⟨g, rfl, ?_⟩⟩
    rw [Nat.mul_one] at ht
    rw [cell_of hg]
    have e : (cur.toList.take l.length)[i]? = cur[i]? := by rw [List.getElem?_take, if_pos hi]; simp
    rw [← e, ht]
    simp [List.getD, hi]
end Go.Proofs.Ytjfpdenakgifgaa
