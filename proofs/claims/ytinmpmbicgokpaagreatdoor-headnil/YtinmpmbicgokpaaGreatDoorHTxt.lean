/- A head's text: what the program puts together. -/
import Derived.Test.YtinmpmbicgokpaaGreatDoorHParse
import Derived.Test.YtinmpmbicgokpaaGreatDoorLib
import Derived.Lib.ItoaLen
import Derived.Lib.LaidTab
namespace Go.Proofs
open Go.Shelf
def YtinmpmbicgokpaaGreatDoor.lays166_ren : Go.Shelf.Ren := ⟨fun | 166 => 46 | 240 => 69 | 276 => 83 | n => n, fun | 70 => 96 | 9 => 9 | 0 => 0 | 72 => 98 | 76 => 64 | 37 => 22 | 75 => 63 | 127 => 122 | 164 => 84 | 80 => 101 | 3 => 3 | 4 => 4 | 5 => 5 | 20 => 20 | n => n, fun | n => n⟩
theorem YtinmpmbicgokpaaGreatDoor.lays166 : Go.Proofs.Lays.n166 Tryz.prog YtinmpmbicgokpaaGreatDoor.lays166_ren := {
  mixed := by kernel_rfl
  f166 := Tryz.func46.trans (congrArg some (by kernel_rfl))
  f240 := Tryz.func69.trans (congrArg some (by kernel_rfl))
  f276 := Tryz.func83.trans (congrArg some (by kernel_rfl))
  t0 := Tryz.underlying0
  a0 := Tryz.isAgg0
  z0 := Tryz.sizeOf0
  v0 := Tryz.zeroValue0
  t3 := Tryz.underlying3
  a3 := Tryz.isAgg3
  z3 := Tryz.sizeOf3
  v3 := Tryz.zeroValue3
  t4 := Tryz.underlying4
  a4 := Tryz.isAgg4
  z4 := Tryz.sizeOf4
  v4 := Tryz.zeroValue4
  t9 := Tryz.underlying9
  a9 := Tryz.isAgg9
  z9 := Tryz.sizeOf9
  v9 := Tryz.zeroValue9
  t20 := Tryz.underlying20
  a20 := Tryz.isAgg20
  z20 := Tryz.sizeOf20
  v20 := Tryz.zeroValue20
  t37 := Tryz.underlying22
  a37 := Tryz.isAgg22
  z37 := Tryz.sizeOf22
  v37 := Tryz.zeroValue22
  t70 := Tryz.underlying96
  a70 := Tryz.isAgg96
  z70 := Tryz.sizeOf96
  v70 := Tryz.zeroValue96
  t72 := Tryz.underlying98
  a72 := Tryz.isAgg98
  z72 := Tryz.sizeOf98
  v72 := Tryz.zeroValue98
  t75 := Tryz.underlying63
  a75 := Tryz.isAgg63
  z75 := Tryz.sizeOf63
  v75 := Tryz.zeroValue63
  t164 := Tryz.underlying84
  a164 := Tryz.isAgg84
  z164 := Tryz.sizeOf84
  v164 := Tryz.zeroValue84 }
theorem YtinmpmbicgokpaaGreatDoor.Builder_Extra_166 : Builder.Extra Tryz.prog YtinmpmbicgokpaaGreatDoor.lays166_ren := {
  sizeBuilder := by kernel_rfl
  liesBuilder := by kernel_rfl
  t5 := Tryz.underlying5
  a5 := Tryz.isAgg5
  z5 := Tryz.sizeOf5
  v5 := Tryz.zeroValue5
  infoByte := by kernel_rfl
  cellsByte := by kernel_rfl
  sizeByte := by kernel_rfl
  neB5 := by decide }
end Go.Proofs
namespace Go.Proofs.YtinmpmbicgokpaaGreatDoor
open Go.ChangeShapes Go.WideShapes Go.ChangeAt Go.RowKit

def PT (w : World) : Prop := Lib.TabIs Tryz.prog w "internal/strconv.uint64pow10" .u64 Lib.pow10Tab
theorem gpow : Tryz.prog.globalNamed "internal/strconv.uint64pow10" = some 2 := by kernel_rfl
theorem PT.below {w w' : World} (h : PT w) (hb : Below w.heap.size w w') : PT w' := by
  unfold PT Lib.TabIs World.var? at h ⊢
  rw [gpow] at h ⊢
  simp only [Option.bind_some] at h ⊢
  have hlt : 2 < w.heap.size := by
    rcases Nat.lt_or_ge 2 w.heap.size with h' | h'
    · exact h'
    · rw [Array.getElem?_eq_none h'] at h; cases h
  rw [hb.block 2 hlt]
  exact h
theorem below_grow (w : World) (q : Nat) (os : Array Obj) : Below w.heap.size w (Sort.grow (w.drewN q) os) :=
  ⟨rfl, rfl, rfl, by simp [Sort.grow], fun k hk => by simp [Sort.grow, World.drewN, Array.getElem?_append_left hk]⟩
def itoaS (p : Int) : ByteArray := ⟨(Lib.itoa p).toArray⟩
theorem itoa_any (p : Int) (w : World) (h0 : -9223372036854775808 ≤ p) (h1 : p ≤ 9223372036854775807) (ht : PT w) :
    Calls Tryz.prog 29 #[.int .i64 p] w fun e w' => e = .returned (.string (itoaS p)) ∧ Below w.heap.size w w' := by
  refine (Tryz.strconv_Itoa p h0 h1 w ht).mono ?_
  rintro e w' ⟨rfl, k, os, rfl⟩
  exact ⟨rfl, below_grow w k os⟩
theorem itoaS_size (p : Int) (h0 : -9223372036854775808 ≤ p) (h1 : p ≤ 9223372036854775807) : (itoaS p).size ≤ 21 := by
  rw [← size_len]
  simpa [itoaS] using Lib.itoa_length_le p h0 h1
/-! ### The builder -/
structure Bd (w x : World) (c : Array Value) (l : List UInt8) : Prop where
  one : x.heap[w.heap.size]? = some (.cells c 25)
  bld : Lib.IsBuilderF 98 5 (w.heap.size + 1) (w.heap.size + 1) (Lib.byteCells l) x
  b : Below w.heap.size w x
  lt : w.heap.size + 1 ≤ x.heap.size
theorem Bd.start (w : World) (c : Array Value) : Bd w ((w.alloc (.cells c 25)).alloc (.cells #[.pointer none, .slice none 0 0] 98)) c [] := by
  have e : (w.alloc (.cells c 25)).heap.size = w.heap.size + 1 := by show (w.heap.push _).size = _; simp
  refine ⟨?_, ?_, ?_, ?_⟩
  · rw [Lib.alloc_old _ _ _ (by omega)]; exact hp_new w _
  · have := Lib.IsBuilderF.of (Lib.fresh_isBuilder 98 5 (w.alloc (.cells c 25)))
    rw [e] at this
    exact this
  · exact ((Below.refl _ w).alloc (Nat.le_refl _) _).alloc (by omega) _
  · show _ ≤ (((w.alloc (.cells c 25)).heap).push _).size; rw [Array.size_push, e]; omega
theorem Bd.cell {w x : World} {c : Array Value} {l : List UInt8} (h : Bd w x c l) (i : Nat) : x.cell? ⟨w.heap.size, i, none⟩ = c[i]? := cell_at h.one i
theorem Bd.cl {w x y : World} {c : Array Value} {l : List UInt8} (h : Bd w x c l) (hb : Below x.heap.size x y) : Bd w y c l := by
  refine ⟨(hb.block _ (lt_heap h.one)).trans h.one, ?_, h.b.trans (hb.mono h.b.size), Nat.le_trans h.lt hb.size⟩
  have key : ∀ p, Lib.BuilderAtF 98 5 (w.heap.size + 1) (w.heap.size + 1) p (Lib.byteCells l) x → Lib.BuilderAtF 98 5 (w.heap.size + 1) (w.heap.size + 1) p (Lib.byteCells l) y := by
    rintro p ⟨h1, v, h2, h3, h4⟩
    refine ⟨h1, v, (hb.block _ (lt_heap h2)).trans h2, ?_, h4⟩
    refine ⟨h3.1, ?_⟩
    rcases h3.2 with u | ⟨g, cap, cur, fz, rfl, g1, hg, hc⟩
    · exact .inl u
    · exact .inr ⟨g, cap, cur, fz, rfl, g1, (hb.block _ (lt_heap hg)).trans hg, hc⟩
  rcases h.bld with u | u
  · exact .inl (key _ u)
  · exact .inr (key _ u)
theorem Bd.low {w x : World} {c : Array Value} {l : List UInt8} (h : Bd w x c l) : w.heap.size + 1 < x.heap.size := by
  rcases h.bld with ⟨_, v, h2, _⟩ | ⟨_, v, h2, _⟩ <;> exact lt_heap h2
theorem write_any {w x : World} {c : Array Value} {l : List UInt8} (h : Bd w x c l) (s : ByteArray) (hl : l.length + s.size ≤ 140737488355328) :
    Calls Tryz.prog 46 #[.pointer (some ⟨w.heap.size + 1, 0, none⟩), .string s] x fun e x' => e = .returned (.tuple #[.int .i64 s.size, .nilIface]) ∧ Bd w x' c (l ++ s.data.toList) ∧ Lib.OthersKept 5 (some (w.heap.size + 1)) x x' := by
  refine (Any.Builder_WriteString_k lays166 Builder_Extra_166 (w.heap.size + 1) (w.heap.size + 1) (Lib.byteCells l) s x h.bld (by simpa [Lib.byteCells] using hl) h.lt).mono ?_
  rintro e x' ⟨rfl, hA, hb, hk⟩
  have e2 : Lib.byteCells l ++ Lib.strCells s = Lib.byteCells (l ++ s.data.toList) := by simp [Lib.byteCells, Lib.strCells]
  refine ⟨rfl, ⟨(hb.block _ (by omega)).trans h.one, .inr (e2 ▸ hA), h.b.trans (hb.mono (by omega)), Nat.le_trans h.lt hb.size⟩, hk⟩
theorem string_any {w x : World} {c : Array Value} {l : List UInt8} (h : Bd w x c l) :
    Calls Tryz.prog 49 #[.pointer (some ⟨w.heap.size + 1, 0, none⟩)] x fun e x' => e = .returned (.string ⟨l.toArray⟩) ∧ Below w.heap.size w x' := by
  refine (Any.Builder_String_any_k Tryz.lays169 Tryz.Builder_Extra_169 (w.heap.size + 1) (w.heap.size + 1) l x h.bld h.lt).mono ?_
  rintro e x' ⟨rfl, _, hb, _⟩
  exact ⟨rfl, h.b.trans (hb.mono (by omega))⟩
theorem len_any {w x : World} {c : Array Value} {l : List UInt8} (h : Bd w x c l) :
    Calls Tryz.prog 48 #[.pointer (some ⟨w.heap.size + 1, 0, none⟩)] x fun e x' => e = .returned (.int .i64 l.length) ∧ x = x' := by
  refine (Any.Builder_Len_f Tryz.lays170 (w.heap.size + 1) (w.heap.size + 1) (Lib.byteCells l) x h.bld).mono ?_
  rintro e x' ⟨rfl, rfl⟩
  exact ⟨by simp [Lib.byteCells], rfl⟩
/-- A block of two texts is kept. -/
theorem kept_two {w x x' : World} (h : Lib.OthersKept 5 (some (w.heap.size + 1)) x x') {g : Nat} {a b : ByteArray} (hg : x.heap[g]? = some (.cells #[.string a, .string b] 51)) (hn : w.heap.size + 1 < g) : x'.heap[g]? = some (.cells #[.string a, .string b] 51) :=
  h g _ hg (by simp; omega) (fun c fz e => by simp at e)
end Go.Proofs.YtinmpmbicgokpaaGreatDoor
