/- The elements of a name: the program's, the document's. -/
import Derived.Test.YthbhkgdijoiceaaDoorFAll
import Derived.Test.YthbhkgdijoiceaaDoorRLst
import Derived.Test.YthbhkgdijoiceaaDoorAppK
namespace Go.Proofs.YthbhkgdijoiceaaDoor
open Go.ChangeShapes Go.WideShapes Go.ChangeAt Go.RowKit

theorem elem_mem {p x : List UInt8} (h : x ∈ elem p) : x.length ≤ p.length := by
  unfold elem at h
  split at h
  · cases h
  · simp at h; subst h; exact trimB_le p
theorem listB_mem (l : List UInt8) : ∀ x ∈ listB l, x.length ≤ l.length := by
  induction h : l.length using Nat.strongRecOn generalizing l with
  | ind n ih =>
    intro x hx
    by_cases h0 : l = []
    · subst h0; rw [listB_nil] at hx; cases hx
    · have hp : 0 < l.length := List.length_pos_iff.2 h0
      rw [listB_cons h0] at hx
      rcases List.mem_append.1 hx with hx | hx
      · have := elem_mem hx
        rw [List.length_take] at this
        omega
      · have := ih _ (by rw [List.length_drop]; omega) (l.drop (pend false false l + 1)) rfl x hx
        rw [List.length_drop] at this
        omega

/-- A value's elements, in small letters. -/
def smallS (v : ByteArray) : List ByteArray := (listS v.data.toList).map lowS
def itemsV (V : List ByteArray) : List ByteArray := V.flatMap smallS
def itemsS (A : List (ByteArray × ByteArray)) (n : ByteArray) : List ByteArray := itemsV (allS A n)
theorem itemsV_snoc (V : List ByteArray) (k : Nat) (hk : k < V.length) (x : ByteArray) (hx : V[k] = x) : itemsV (V.take (k + 1)) = itemsV (V.take k) ++ smallS x := by
  rw [take_snocF V k hk, hx]
  simp [itemsV]
theorem smallS_len (v : ByteArray) : (smallS v).length ≤ v.size := by
  unfold smallS
  rw [List.length_map, ← size_len]
  exact listS_len _
theorem smallS_mem {v x : ByteArray} (h : x ∈ smallS v) : x.size ≤ v.size := by
  unfold smallS listS at h
  simp only [List.mem_map] at h
  obtain ⟨_, ⟨y, hy, rfl⟩, rfl⟩ := h
  have := listB_mem _ y hy
  rw [size_len] at this
  rw [lowS_size, sS_size]
  exact this
theorem listS_mem {v x : ByteArray} (h : x ∈ listS v.data.toList) : x.size ≤ v.size := by
  unfold listS at h
  simp only [List.mem_map] at h
  obtain ⟨y, hy, rfl⟩ := h
  have := listB_mem _ y hy
  rw [size_len] at this
  rw [sS_size]
  exact this
theorem allS_mem {A : List (ByteArray × ByteArray)} {n x : ByteArray} (hs : Sm A) (h : x ∈ allS A n) : x.size ≤ 1048576 := by
  unfold allS at h
  simp only [List.mem_map, List.mem_filter] at h
  obtain ⟨f, ⟨h1, _⟩, rfl⟩ := h
  exact (hs.2 f h1).2
theorem allS_le {A : List (ByteArray × ByteArray)} {n : ByteArray} (hs : Sm A) : (allS A n).length ≤ 1048576 := by
  unfold allS
  rw [List.length_map]
  exact Nat.le_trans (List.length_filter_le _ _) hs.1
theorem itemsV_len (V : List ByteArray) (hV : ∀ x ∈ V, x.size ≤ 1048576) : (itemsV V).length ≤ V.length * 1048576 := by
  induction V with
  | nil => simp [itemsV]
  | cons a r ih =>
    have h1 := ih (fun x hx => hV x (List.mem_cons_of_mem _ hx))
    have h2 := smallS_len a
    have h3 := hV a (List.mem_cons_self ..)
    simp only [itemsV, List.flatMap_cons, List.length_append, List.length_cons] at h1 ⊢
    omega
theorem itemsV_mem (V : List ByteArray) (hV : ∀ x ∈ V, x.size ≤ 1048576) : ∀ x ∈ itemsV V, x.size ≤ 1048576 := by
  intro x hx
  unfold itemsV at hx
  simp only [List.mem_flatMap] at hx
  obtain ⟨v, hv, hx⟩ := hx
  exact Nat.le_trans (smallS_mem hx) (hV v hv)
end Go.Proofs.YthbhkgdijoiceaaDoor
