/- A text in small letters: the program's and the document's. -/
import Derived.Test.YtggeihahbgeneaaDoorApp
namespace Go.Proofs.YtggeihahbgeneaaDoor
open Go.ChangeShapes Go.WideShapes Go.ChangeAt Go.RowKit

def lowS (s : ByteArray) : ByteArray := ⟨(lowerB s.data.toList).toArray⟩
theorem lowS_size (s : ByteArray) : (lowS s).size = s.size := by
  show (lowerB s.data.toList).length = s.size
  simp [lowerB]
theorem lowS_list (s : ByteArray) : (lowS s).data.toList = lowerB s.data.toList := by simp [lowS]
theorem lowc_up {c : UInt8} (h : 65 ≤ c.toNat) (h2 : c.toNat ≤ 90) : ((lowc c).toNat : Int) = c.toNat + 32 := by
  unfold lowc
  rw [if_pos ⟨h, h2⟩, UInt8.toNat_ofNat']
  omega
theorem lowc_id {c : UInt8} (h : ¬ (65 ≤ c.toNat ∧ c.toNat ≤ 90)) : lowc c = c := by unfold lowc; rw [if_neg h]

/-- Behind k rounds: the first k bytes are small. -/
structure Low (w wr : World) (s : ByteArray) (k : Nat) : Prop where
  blk : ∃ C, wr.heap[w.heap.size]? = some (.cells C 5 (C.size, C.size + 1)) ∧ ∀ j (h : j < s.size), C[j]? = some (.int .u8 ((if j < k then lowc s[j] else s[j]).toNat : Int))
  below : Below w.heap.size w wr
theorem Low.start (w : World) (s : ByteArray) (cap : Nat) : Low w (w.drew.alloc (.cells (bytesRow s cap) 5 ((bytesRow s cap).size, (bytesRow s cap).size + 1))) s 0 := by
  refine ⟨⟨bytesRow s cap, hp_new w.drew _, fun j h => ?_⟩, ((Below.refl _ w).drew).alloc (Nat.le_refl _) _⟩
  rw [bytesRow_at s cap j h, if_neg (by omega)]
  rfl
theorem Low.cell {w wr : World} {s : ByteArray} {k : Nat} (h : Low w wr s k) (hk : k < s.size) : wr.cell? ⟨w.heap.size, k, none⟩ = some (.int .u8 (s[k].toNat : Int)) := by
  obtain ⟨C, h1, h2⟩ := h.blk
  rw [cell_at h1, h2 k hk, if_neg (by omega)]
theorem Low.frozen {w wr : World} {s : ByteArray} {k : Nat} (h : Low w wr s k) (hk : k < s.size) : wr.frozen? ⟨w.heap.size, k, none⟩ = false := by
  obtain ⟨C, h1, h2⟩ := h.blk
  have : k < C.size := by
    have := h2 k hk
    exact (Array.getElem?_eq_some_iff.1 this).1
  rw [frozen_at h1]
  simp; omega
theorem Low.skip {w wr : World} {s : ByteArray} {k : Nat} (h : Low w wr s k) (hk : k < s.size) (hi : lowc s[k] = s[k]) : Low w wr s (k + 1) := by
  obtain ⟨C, h1, h2⟩ := h.blk
  refine ⟨⟨C, h1, fun j hj => ?_⟩, h.below⟩
  rw [h2 j hj]
  by_cases e : j = k
  · subst e
    rw [if_neg (by omega), if_pos (by omega), hi]
  · by_cases e2 : j < k
    · rw [if_pos e2, if_pos (by omega)]
    · rw [if_neg e2, if_neg (by omega)]
theorem Low.step {w wr : World} {s : ByteArray} {k : Nat} (h : Low w wr s k) (hk : k < s.size) {x : Int} (hx : ((lowc s[k]).toNat : Int) = x) : Low w (wr.setCell ⟨w.heap.size, k, none⟩ (.int .u8 x)) s (k + 1) := by
  obtain ⟨C, h1, h2⟩ := h.blk
  have hC : k < C.size := (Array.getElem?_eq_some_iff.1 (h2 k hk)).1
  refine ⟨⟨C.setIfInBounds k (.int .u8 x), ?_, fun j hj => ?_⟩, h.below.setCell (Nat.le_refl _) _⟩
  · have := hp_set h1 k (.int .u8 x)
    rw [this]
    simp
  · rw [Array.getElem?_setIfInBounds]
    by_cases e : k = j
    · subst e
      rw [if_pos rfl, if_pos hC, if_pos (by omega), hx]
    · rw [if_neg e, h2 j hj]
      by_cases e2 : j < k
      · rw [if_pos e2, if_pos (by omega)]
      · rw [if_neg e2, if_neg (by omega)]
theorem Low.text {w wr : World} {s : ByteArray} {k : Nat} (h : Low w wr s k) (hk : s.size ≤ k) (cap : Nat) : (convert 31 9 (.slice (some ⟨w.heap.size, 0, none⟩) s.size cap)).run Tryd.prog wr = .ok (.string (lowS s)) wr := by
  obtain ⟨C, h1, h2⟩ := h.blk
  have hl : s.size = (lowerB s.data.toList).length := by simp [lowerB]
  rw [hl]
  refine run_convert_bytes_back wr 31 9 5 ⟨w.heap.size, 0, none⟩ cap (lowerB s.data.toList) Tryd.underlying31 Tryd.underlying5 Tryd.underlying9 (fun j hj => ?_)
  have e : (⟨w.heap.size, 0, none⟩ : Addr).add j = ⟨w.heap.size, j, none⟩ := by unfold Addr.add; split <;> simp_all
  rw [e, cell_at h1, h2 j (by omega), if_pos (by omega)]
  simp [lowerB]
  rfl

theorem low_snoc (s : ByteArray) (k : Nat) (h : k < s.size) : lowerB (s.data.toList.take (k + 1)) = lowerB (s.data.toList.take k) ++ [lowc s[k]] := by
  rw [take_snoc s k h]; simp [lowerB]
theorem low_len (s : ByteArray) (k : Nat) (h : k ≤ s.size) : (bc (lowerB (s.data.toList.take k))).length = k := by
  simp [bc, lowerB]; omega
theorem str_beq (a b : ByteArray) : (a.toList == b.toList) = decide (a.data.toList = b.data.toList) := by rw [Lib.toList_data, Lib.toList_data, beq_list]
theorem same_eq (a b : ByteArray) : ((lowS a).toList == (lowS b).toList) = sameB a.data.toList b.data.toList := by rw [str_beq, lowS_list, lowS_list]; rfl
end Go.Proofs.YtggeihahbgeneaaDoor
