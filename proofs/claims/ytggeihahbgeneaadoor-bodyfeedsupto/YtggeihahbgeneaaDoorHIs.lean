/- The program's texts of a first line: the library's Cut, a target, a status, a reason. -/
import Derived.Test.YtggeihahbgeneaaDoorHCut
import Derived.Deep.Cut
namespace Go.Proofs.YtggeihahbgeneaaDoor
open Go.ChangeShapes Go.WideShapes Go.ChangeAt Go.RowKit

theorem idx_no {c : UInt8} : ∀ {l : List UInt8}, (∀ x ∈ l, x ≠ c) → Lib.index l [c] = -1
  | [], _ => rfl
  | y :: r, h => by
    have hy : y ≠ c := h y List.mem_cons_self
    have ih := idx_no (c := c) (l := r) fun x hx => h x (List.mem_cons_of_mem _ hx)
    unfold Lib.index
    rw [ih]
    simp [List.isPrefixOf, Ne.symm hy]
theorem idx_yes {c : UInt8} {b : List UInt8} : ∀ {a : List UInt8}, (∀ x ∈ a, x ≠ c) → Lib.index (a ++ c :: b) [c] = a.length
  | [], _ => by simp [Lib.index, List.isPrefixOf]
  | y :: r, h => by
    have hy : y ≠ c := h y List.mem_cons_self
    have ih := idx_yes (c := c) (b := b) (a := r) fun x hx => h x (List.mem_cons_of_mem _ hx)
    rw [List.cons_append]
    unfold Lib.index
    rw [ih, if_neg (by simp [List.isPrefixOf, Ne.symm hy]), if_neg (by simp only [beq_iff_eq]; omega), List.length_cons]
    omega
theorem cut_eq (c : UInt8) (l : List UInt8) : Lib.cut l [c] = (cu1 c l, cu2 c l, cu3 c l) := by
  unfold Lib.cut
  rcases cu_form c l with h | ⟨a, b, rfl, h⟩
  · rw [idx_no h, (cu_no h).1, (cu_no h).2.1, (cu_no h).2.2]
    rfl
  · rw [idx_yes h, (cu_yes h).1, (cu_yes h).2.1, (cu_yes h).2.2, if_pos (by omega)]
    simp
/-- The cell of bytealg.MaxLen holds a number. -/
def MX (w : World) : Prop := 1 < w.heap.size ∧ ∃ m : Int, w.cell? ⟨0, 0, none⟩ = some (.int .i64 m)
theorem MX.below {w w' : World} (h : MX w) (b : Below w.heap.size w w') : MX w' := by
  obtain ⟨h0, m, hm⟩ := h
  exact ⟨Nat.lt_of_lt_of_le h0 b.size, m, (b.cell (p := ⟨0, 0, none⟩) (show 0 < _ by omega)).trans hm⟩
theorem pcut_any (s : ByteArray) (c : UInt8) (w : World) (hs : s.size ≤ 65536) (hm : MX w) :
    Calls Tryd.prog 35 #[.string s, .string ⟨#[c]⟩] w fun e w' => e = .returned (.tuple #[.string (k1 c s), .string (k2 c s), .bool (k3 c s)]) ∧ Below w.heap.size w w' := by
  obtain ⟨_, m, hm⟩ := hm
  refine (Tryd.strings_Cut s ⟨#[c]⟩ m w (by omega) hm).mono ?_
  rintro e w' ⟨rfl, n, rfl⟩
  refine ⟨?_, below_drewN w n⟩
  rw [show (ByteArray.mk #[c]).data.toList = [c] from rfl, cut_eq]
  rfl

def tgc (c : UInt8) : Bool := decide (33 ≤ c.toNat) && decide (c.toNat ≤ 126)
def tgtB (l : List UInt8) : Bool := l.all tgc && !l.isEmpty
def statB (l : List UInt8) : Bool := decide (numE 10 l = 0) && (decide (l.length = 3) && (decide (100 ≤ numV 10 l) && decide (numV 10 l ≤ 599)))
theorem rsn_eq (l : List UInt8) : valueB (trimB l) = l.all valc := by
  unfold valueB
  rw [trimB_idem, decide_eq_true rfl, Bool.and_true, trimB_eq]
  have hb : ∀ c, blankc c = true → valc c = true := by
    intro c h
    unfold blankc at h
    unfold valc
    simp only [Bool.or_eq_true, decide_eq_true_eq] at h
    rcases h with h | h <;> simp [h]
  have hd : ∀ l : List UInt8, (l.dropWhile blankc).all valc = l.all valc := by
    intro l
    induction l with
    | nil => rfl
    | cons y r ih =>
      rw [List.dropWhile_cons]
      cases hy : blankc y with
      | true => rw [if_pos rfl, ih, List.all_cons, hb y hy, Bool.true_and]
      | false => rw [if_neg (by simp)]
  unfold ltrim rtrim
  rw [hd, List.all_reverse, hd, List.all_reverse]
end Go.Proofs.YtggeihahbgeneaaDoor
