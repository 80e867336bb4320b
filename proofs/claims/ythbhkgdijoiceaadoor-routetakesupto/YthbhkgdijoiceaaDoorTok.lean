/- Tokens: what the program tells of a text, and what the document's answer does, are one plain function. -/
import Derived.Test.YthbhkgdijoiceaaDoorBase
import Derived.Lib.SlBytesConst
namespace Go.Proofs.YthbhkgdijoiceaaDoor
open Go.ChangeShapes Go.WideShapes Go.ChangeAt Go.RowKit

theorem token_yes {s : ByteArray} {k : Nat} (hk : s.size ≤ k) (h : (s.data.toList.take k).all tokc = true) (h0 : 0 < s.size) : true = tokenB s.data.toList := by
  rw [take_all s k hk] at h
  unfold tokenB
  rw [h, isEmpty_size, decide_eq_false (by omega)]
  rfl
theorem token_empty {s : ByteArray} (h0 : s.size = 0) : false = tokenB s.data.toList := by
  unfold tokenB
  rw [isEmpty_size]
  simp [h0]
theorem token_no {s : ByteArray} {k : Nat} (h : k < s.size) (hp : tokc s[k] = false) : false = tokenB s.data.toList := by
  unfold tokenB
  rw [all_no tokc s k h hp]
  rfl

theorem token_end {s : ByteArray} {k : Nat} (hk : s.size ≤ k) (h : (s.data.toList.take k).all tokc = true) : (!s.toList.isEmpty) = tokenB s.data.toList := by
  rw [take_all s k hk] at h
  unfold tokenB
  rw [h, Lib.toList_data]
  rfl

theorem marks_get : ∀ k : Fin 15, tokMarks[k.val]? = some (tokMarks.getD k.val 0) := by decide
theorem contains_snoc (c : UInt8) (k : Nat) (h : k < 15) : (tokMarks.take (k + 1)).contains c = ((tokMarks.take k).contains c || c == tokMarks.getD k 0) := by
  rw [List.take_add_one, marks_get ⟨k, h⟩]
  rw [Bool.eq_iff_iff]
  simp [List.contains_eq_mem, List.mem_append]
theorem mark_cells : ∀ k : Fin 15, (#[.int .u8 33, .int .u8 35, .int .u8 36, .int .u8 37, .int .u8 38, .int .u8 39, .int .u8 42, .int .u8 43, .int .u8 45, .int .u8 46, .int .u8 94, .int .u8 95, .int .u8 96, .int .u8 124, .int .u8 126] : Array Value)[k.val]? = some (.int .u8 ((tokMarks.getD k.val 0).toNat : Int)) := by
  intro k
  match k with
  | ⟨0, _⟩ => rfl
  | ⟨1, _⟩ => rfl
  | ⟨2, _⟩ => rfl
  | ⟨3, _⟩ => rfl
  | ⟨4, _⟩ => rfl
  | ⟨5, _⟩ => rfl
  | ⟨6, _⟩ => rfl
  | ⟨7, _⟩ => rfl
  | ⟨8, _⟩ => rfl
  | ⟨9, _⟩ => rfl
  | ⟨10, _⟩ => rfl
  | ⟨11, _⟩ => rfl
  | ⟨12, _⟩ => rfl
  | ⟨13, _⟩ => rfl
  | ⟨14, _⟩ => rfl
theorem mark_cell (w : World) (k : Nat) (h : k < 15) : (w.alloc (.cells #[.int .u8 33, .int .u8 35, .int .u8 36, .int .u8 37, .int .u8 38, .int .u8 39, .int .u8 42, .int .u8 43, .int .u8 45, .int .u8 46, .int .u8 94, .int .u8 95, .int .u8 96, .int .u8 124, .int .u8 126] 5 (15, 16))).cell? ⟨w.heap.size, k, none⟩ = some (.int .u8 ((tokMarks.getD k 0).toNat : Int)) := by
  rw [World.cell?_alloc_mark]
  exact mark_cells ⟨k, h⟩
end Go.Proofs.YthbhkgdijoiceaaDoor
