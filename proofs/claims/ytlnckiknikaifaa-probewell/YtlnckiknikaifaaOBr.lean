/- A set of hosts that is brought to a moment. -/
import Derived.Test.YtlnckiknikaifaaOHst
namespace Go.Proofs.Ytlnckiknikaifaa
open Go.ChangeShapes Go.WideShapes Go.ChangeAt Go.RowKit

def bE (now : Int) : Int := if mom now then 0 else 1
theorem mom_iff {t : Int} : mom t = true ↔ (0 ≤ t ∧ t ≤ 4611686018427387904) := by simp [mom]
theorem untE_eq {la now : Int} (h0 : 0 ≤ la) (h1 : la ≤ 4611686018427387904) : untE la now = bE now := by
  unfold untE bE mom
  simp only [decide_eq_true_eq]
  split <;> split <;> omega
/-- The moment to which it is brought. -/
def mx (la now : Int) : Int := if la < now then now else la
/-- Is a host restored? -/
def rst (m : Int) (r : HR) : Bool := r.e && decide (r.u ≤ m)
def brR (m : Int) (r : HR) : HR := if rst m r then ⟨r.h, false, r.u, 0, r.t⟩ else r
def brS (m : Int) (L : List HR) : List HR := L.map (brR m)
/-- The numbers of those among the first k that are as told. -/
def nums (p : HR → Bool) (L : List HR) : Nat → List Int
  | 0 => []
  | k + 1 => nums p L k ++ (match L[k]? with | some r => if p r then [(k : Int)] else [] | none => [])
theorem nums_succ {p : HR → Bool} {L : List HR} {k : Nat} {r : HR} (h : L[k]? = some r) : nums p L (k + 1) = nums p L k ++ (if p r then [(k : Int)] else []) := by
  show nums p L k ++ _ = _
  rw [h]
theorem nums_len (p : HR → Bool) (L : List HR) : ∀ k, (nums p L k).length ≤ k
  | 0 => Nat.le_refl _
  | k + 1 => by
    have := nums_len p L k
    show (nums p L k ++ _).length ≤ _
    rw [List.length_append]
    split
    · split <;> simp <;> omega
    · simp; omega
/-- The rows, the first i of which were looked at. -/
def upd (m : Int) (L : List HR) (i : Nat) : List HR := (L.take i).map (brR m) ++ L.drop i
theorem upd_len (m : Int) (L : List HR) (i : Nat) : (upd m L i).length = L.length := by unfold upd; simp; omega
theorem upd_at {m : Int} {L : List HR} {i : Nat} (h : i < L.length) : (upd m L i)[i]? = some L[i] := by
  unfold upd
  rw [List.getElem?_append_right (by simp; omega)]
  simp [Nat.min_eq_left (Nat.le_of_lt h)]
theorem upd_set {m : Int} {L : List HR} {i : Nat} (h : i < L.length) : (upd m L i).set i (brR m L[i]) = upd m L (i + 1) := by
  unfold upd
  rw [List.set_append_right _ _ (by simp; omega), List.length_map, List.length_take, Nat.min_eq_left (Nat.le_of_lt h), Nat.sub_self, List.drop_eq_getElem_cons h, List.set_cons_zero, List.take_add_one, List.getElem?_eq_getElem h, List.map_append, List.append_assoc]
  rfl
theorem upd_all (m : Int) (L : List HR) : upd m L L.length = brS m L := by unfold upd brS; simp
theorem upd_none (m : Int) (L : List HR) : upd m L 0 = L := by unfold upd; simp

theorem Does.right {A B B' : Thing} [Ob A] {P : Nat → Prop} {w w1 w2 : World} (h : Does (Two A B) P w w1) (d : ∀ P2, B w1 P2 → Does B' P2 w1 w2) : Does (Two A B') P w w2 :=
  h.trans (fun _ hT => by obtain ⟨P2, hb, hk⟩ := Two.right hT; exact hk _ _ (d P2 hb))
theorem Does.left {A A' B : Thing} [Ob B] {P : Nat → Prop} {w w1 w2 : World} (h : Does (Two A B) P w w1) (d : ∀ P2, A w1 P2 → Does A' P2 w1 w2) : Does (Two A' B) P w w2 :=
  h.trans (fun _ hT => by obtain ⟨P2, hb, hk⟩ := Two.left hT; exact hk _ _ (d P2 hb))
theorem Does.fst_of {A B : Thing} {P : Nat → Prop} {w w1 : World} (h : Does (Two A B) P w w1) : ∃ P2, A w1 P2 := by
  obtain ⟨_, ⟨P1, _, x, _⟩, _⟩ := h; exact ⟨P1, x⟩
theorem Does.snd_of {A B : Thing} {P : Nat → Prop} {w w1 : World} (h : Does (Two A B) P w w1) : ∃ P2, B w1 P2 := by
  obtain ⟨_, ⟨_, P2, _, x, _⟩, _⟩ := h; exact ⟨P2, x⟩
theorem Does.nilrow {B : Thing} {P : Nat → Prop} {w w1 : World} (h : Does B P w w1) : Does (Two (Row (.slice none 0 0) []) B) P w w1 := by
  obtain ⟨P', h1, h2, h3⟩ := h
  exact ⟨P', ⟨fun _ => False, P', ⟨.inl ⟨rfl, rfl⟩, fun _ => by simp [Value.ownBlock]⟩, h1, fun _ x => x.elim, fun _ => by simp⟩, h2, h3⟩
theorem HsT.set2 {T R : TypeId} {n : Bool} {fl bs lo sh la : Int} {L : List HR} {b g : Nat} {w : World} {P : Nat → Prop} (h : HsT T R n fl bs lo sh la L b g w P) {i j : Nat} {r r' : HR} {v : Value} (hr : L[i]? = some r) (hj : j < 5) (he : enc n r' = (enc n r).set j v) : Does (HsT T R n fl bs lo sh la (L.set i r') b g) P w (w.setCell ⟨g, i * 5 + j, none⟩ v) :=
  ⟨P, ⟨h.1.setG hr hj he, h.2⟩, (Fr.set _ _ _ _).mono (fun k _ e => (h.2 k).2 (.inr e)), fun _ hk => .inl hk⟩
/-- The program's set. -/
abbrev Hs (fl bs lo sh la : Int) (L : List HR) (b g : Nat) : Thing := HsT 46 48 false fl bs lo sh la L b g

end Go.Proofs.Ytlnckiknikaifaa
