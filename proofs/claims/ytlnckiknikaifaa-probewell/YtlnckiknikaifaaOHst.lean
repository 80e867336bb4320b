/- A set of hosts: its block and its rows; what is counted of it. -/
import Derived.Test.YtlnckiknikaifaaPSr
namespace Go.Proofs.Ytlnckiknikaifaa
open Go.ChangeShapes Go.WideShapes Go.ChangeAt Go.RowKit

/-- A host: healthy, ejected, until when, failures in a row, how often ejected. -/
structure HR where
  h : Bool
  e : Bool
  u : Int
  f : Int
  t : Int
/-- As the program keeps it (n = false), as the document does (n = true: sick in place of healthy). -/
def enc (n : Bool) (r : HR) : List Value := [.bool (n ^^ r.h), .bool r.e, .int .i64 r.u, .int .i64 r.f, .int .i64 r.t]
theorem enc_len (n : Bool) (r : HR) : (enc n r).length = 5 := rfl
def flat (n : Bool) (L : List HR) : List Value := L.flatMap (enc n)
theorem flat_len (n : Bool) : ∀ L : List HR, (flat n L).length = L.length * 5
  | [] => rfl
  | a :: r => by
    have := flat_len n r
    unfold flat at this ⊢
    rw [List.flatMap_cons, List.length_append, enc_len, this, List.length_cons]
    omega
theorem flat_at (n : Bool) : ∀ (L : List HR) (i j : Nat) (r : HR), L[i]? = some r → j < 5 → (flat n L)[i * 5 + j]? = (enc n r)[j]?
  | [], i, j, r, h, _ => by simp at h
  | a :: l, 0, j, r, h, hj => by
    simp at h
    subst h
    unfold flat
    rw [List.flatMap_cons, Nat.zero_mul, Nat.zero_add, List.getElem?_append_left (by rw [enc_len]; exact hj)]
  | a :: l, i + 1, j, r, h, hj => by
    rw [List.getElem?_cons_succ] at h
    have := flat_at n l i j r h hj
    unfold flat at this ⊢
    rw [List.flatMap_cons, List.getElem?_append_right (by rw [enc_len]; omega), enc_len, ← this]
    congr 1
    omega
theorem flat_set (n : Bool) : ∀ (L : List HR) (i j : Nat) (r r' : HR) (v : Value), L[i]? = some r → j < 5 → enc n r' = (enc n r).set j v → (flat n L).set (i * 5 + j) v = flat n (L.set i r')
  | [], i, j, r, r', v, h, _, _ => by simp at h
  | a :: l, 0, j, r, r', v, h, hj, he => by
    simp at h
    subst h
    unfold flat
    rw [List.set_cons_zero, List.flatMap_cons, List.flatMap_cons, Nat.zero_mul, Nat.zero_add, List.set_append_left _ _ (by rw [enc_len]; exact hj), he]
  | a :: l, i + 1, j, r, r', v, h, hj, he => by
    rw [List.getElem?_cons_succ] at h
    have := flat_set n l i j r r' v h hj he
    unfold flat at this ⊢
    rw [List.set_cons_succ, List.flatMap_cons, List.flatMap_cons, List.set_append_right _ _ (by rw [enc_len]; omega), enc_len, ← this]
    congr 2
    omega

/-- A set of hosts: its numbers' block b and its rows' block g. -/
structure HsB (T R : TypeId) (n : Bool) (fl bs lo sh la : Int) (L : List HR) (b g : Nat) (w : World) : Prop where
  B : w.heap[b]? = some (.cells #[.int .i64 fl, .int .i64 bs, .int .i64 lo, .int .i64 sh, .int .i64 la, .slice (some ⟨g, 0, none⟩) L.length L.length] T (0, 0))
  G : w.heap[g]? = some (.cells (flat n L).toArray R (0, 0))
  ne : g ≠ b
def HsT (T R : TypeId) (n : Bool) (fl bs lo sh la : Int) (L : List HR) (b g : Nat) : Thing := fun w P => HsB T R n fl bs lo sh la L b g w ∧ ∀ k, P k ↔ (k = b ∨ k = g)
instance HsT.ob (T R : TypeId) (n : Bool) (fl bs lo sh la : Int) (L : List HR) (b g : Nat) : Ob (HsT T R n fl bs lo sh la L b g) := by
  refine ⟨fun w w' P Q h F d => ⟨⟨F.hd (d b ((h.2 b).2 (.inl rfl))) h.1.B, F.hd (d g ((h.2 g).2 (.inr rfl))) h.1.G, h.1.ne⟩, h.2⟩, fun w P k h hk => ?_⟩
  rcases (h.2 k).1 hk with rfl | rfl
  · exact hp_lt h.1.B
  · exact hp_lt h.1.G
section
variable {T R : TypeId} {n : Bool} {fl bs lo sh la : Int} {L : List HR} {b g : Nat} {w : World}
theorem HsB.fr (h : HsB T R n fl bs lo sh la L b g w) {w' : World} (F : Fr none' w w') : HsB T R n fl bs lo sh la L b g w' := ⟨F.hd id h.B, F.hd id h.G, h.ne⟩
theorem HsB.cB (h : HsB T R n fl bs lo sh la L b g w) : w.cell? ⟨b, 0, none⟩ = some (.int .i64 fl) ∧ w.cell? ⟨b, 1, none⟩ = some (.int .i64 bs) ∧ w.cell? ⟨b, 2, none⟩ = some (.int .i64 lo) ∧ w.cell? ⟨b, 3, none⟩ = some (.int .i64 sh) ∧ w.cell? ⟨b, 4, none⟩ = some (.int .i64 la) ∧ w.cell? ⟨b, 5, none⟩ = some (.slice (some ⟨g, 0, none⟩) L.length L.length) ∧ w.frozen? ⟨b, 4, none⟩ = false :=
  ⟨cell_of h.B 0, cell_of h.B 1, cell_of h.B 2, cell_of h.B 3, cell_of h.B 4, cell_of h.B 5, frozen_of h.B 4⟩
theorem HsB.cG (h : HsB T R n fl bs lo sh la L b g w) {i : Nat} {r : HR} (hr : L[i]? = some r) : w.cell? ⟨g, i * 5, none⟩ = some (.bool (n ^^ r.h)) ∧ w.cell? ⟨g, i * 5 + 1, none⟩ = some (.bool r.e) ∧ w.cell? ⟨g, i * 5 + 2, none⟩ = some (.int .i64 r.u) ∧ w.cell? ⟨g, i * 5 + 3, none⟩ = some (.int .i64 r.f) ∧ w.cell? ⟨g, i * 5 + 4, none⟩ = some (.int .i64 r.t) := by
  have k : ∀ j, j < 5 → w.cell? ⟨g, i * 5 + j, none⟩ = (enc n r)[j]? := fun j hj => by
    rw [cell_of h.G, List.getElem?_toArray, flat_at n L i j r hr hj]
  exact ⟨k 0 (by omega), k 1 (by omega), k 2 (by omega), k 3 (by omega), k 4 (by omega)⟩
theorem HsB.fz (h : HsB T R n fl bs lo sh la L b g w) (i : Nat) : w.frozen? ⟨g, i, none⟩ = false := frozen_of h.G i
theorem HsB.setG (h : HsB T R n fl bs lo sh la L b g w) {i j : Nat} {r r' : HR} {v : Value} (hr : L[i]? = some r) (hj : j < 5) (he : enc n r' = (enc n r).set j v) : HsB T R n fl bs lo sh la (L.set i r') b g (w.setCell ⟨g, i * 5 + j, none⟩ v) := by
  refine ⟨?_, ?_, h.ne⟩
  · rw [hp_set_other _ _ _ _ _ (fun e => h.ne e.symm), List.length_set]; exact h.B
  · have := hp_set h.G (i * 5 + j) v
    rw [List.setIfInBounds_toArray, flat_set n L i j r r' v hr hj he] at this
    exact this
theorem HsB.at (h : HsB T R n fl bs lo sh la L b g w) (t : Int) : HsB T R n fl bs lo sh t L b g (w.setCell ⟨b, 4, none⟩ (.int .i64 t)) := by
  refine ⟨hp_set h.B 4 _, ?_, h.ne⟩
  rw [hp_set_other _ _ _ _ _ h.ne]; exact h.G
end
abbrev Hp (fl bs lo sh la : Int) (L : List HR) (b g : Nat) (w : World) : Prop := HsB 46 48 false fl bs lo sh la L b g w

def hasB (n : Nat) (host : Int) : Bool := decide (0 ≤ host ∧ host < (n : Int))
theorem get_take {L : List HR} {i : Nat} (hi : i < L.length) : L[i]? = some L[i] := List.getElem?_eq_getElem hi
/-- How many are ejected. -/
def nE (L : List HR) : Nat := L.countP (fun r => r.e)
theorem nE_take {L : List HR} {i : Nat} (hi : i < L.length) : nE (L.take (i + 1)) = nE (L.take i) + (if L[i].e then 1 else 0) := by
  rw [List.take_add_one, get_take hi]
  unfold nE
  rw [List.countP_append]
  simp [List.countP_cons]
theorem nE_le (L : List HR) : nE L ≤ L.length := List.countP_le_length

/-- Does the share let one more be ejected? -/
def roomB (sh : Int) (L : List HR) : Bool := decide (100 * ((nE L : Int) + 1) ≤ sh * (L.length : Int))
end Go.Proofs.Ytlnckiknikaifaa
