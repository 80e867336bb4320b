/- A target's text: what the program puts together. -/
import Derived.Test.YtofifncflchpbaaDoorTRead
import Derived.Test.YtofifncflchpbaaDoorBcl
import Derived.Lib.ItoaLen
import Derived.Lib.LaidTab
import Derived.Deep.RegionWith
namespace Go.Proofs.YtofifncflchpbaaDoor
open Go.ChangeShapes Go.WideShapes Go.ChangeAt Go.RowKit

def PT (w : World) : Prop := Lib.TabIs Tryd.prog w "internal/strconv.uint64pow10" .u64 Lib.pow10Tab
theorem gpow : Tryd.prog.globalNamed "internal/strconv.uint64pow10" = some 1 := by kernel_rfl
theorem PT.below {w w' : World} (h : PT w) (hb : Below w.heap.size w w') : PT w' := by
  unfold PT Lib.TabIs World.var? at h ⊢
  rw [gpow] at h ⊢
  simp only [Option.bind_some] at h ⊢
  have hlt : 1 < w.heap.size := by
    rcases Nat.lt_or_ge 1 w.heap.size with h' | h'
    · exact h'
    · rw [Array.getElem?_eq_none h'] at h; cases h
  rw [hb.block 1 hlt]
  exact h
theorem below_grow (w : World) (q : Nat) (os : Array Obj) : Below w.heap.size w (Sort.grow (w.drewN q) os) :=
  ⟨rfl, rfl, rfl, by simp [Sort.grow], fun k hk => by simp [Sort.grow, World.drewN, Array.getElem?_append_left hk]⟩
def itoaS (p : Int) : ByteArray := ⟨(Lib.itoa p).toArray⟩
theorem itoa_any (p : Int) (w : World) (h0 : -9223372036854775808 ≤ p) (h1 : p ≤ 9223372036854775807) (ht : PT w) :
    Calls Tryd.prog 31 #[.int .i64 p] w fun e w' => e = .returned (.string (itoaS p)) ∧ Below w.heap.size w w' := by
  refine (Tryd.strconv_Itoa p h0 h1 w ht).mono ?_
  rintro e w' ⟨rfl, k, os, rfl⟩
  exact ⟨rfl, below_grow w k os⟩
theorem itoaS_size (p : Int) (h0 : -9223372036854775808 ≤ p) (h1 : p ≤ 9223372036854775807) : (itoaS p).size ≤ 21 := by
  rw [← size_len]
  simpa [itoaS] using Lib.itoa_length_le p h0 h1
def portS (p : Int) : ByteArray := ⟨#[58]⟩ ++ itoaS p
theorem portS_size (p : Int) (h0 : -9223372036854775808 ≤ p) (h1 : p ≤ 9223372036854775807) : (portS p).size ≤ 22 := by
  have := itoaS_size p h0 h1
  unfold portS
  rw [app_size]
  have e : (⟨#[58]⟩ : ByteArray).size = 1 := rfl
  omega
theorem ptext_any (p : Int) (w : World) (h0 : -9223372036854775808 ≤ p) (h1 : p ≤ 9223372036854775807) (ht : PT w) :
    Calls Tryd.prog 48 #[.int .i64 p] w fun e w' => e = .returned (.string (portS p)) ∧ Below w.heap.size w w' := by
  have hz := itoaS_size p h0 h1
  have HI := hide (itoa_any p w h0 h1 ht)
  unfold portS
  generalize itoaS p = s at hz HI ⊢
  clear ht h0 h1
  go_enter Tryd.func48, Tryd.ntmps48
  go_wp2_with (go_at_call 31; refine HI.out.mono ?_; rintro e w1 ⟨rfl, b1⟩)
  go_ret
  exact ⟨rfl, b1⟩
theorem asker_any (f : Int) (w : World) : Calls Tryd.prog 30 #[.int .i64 f] w fun e w' => e = .returned (.string (if f = 3 then ⟨#[67, 79, 78, 78, 69, 67, 84]⟩ else if f = 4 then ⟨#[79, 80, 84, 73, 79, 78, 83]⟩ else ⟨#[71, 69, 84]⟩)) ∧ Below w.heap.size w w' := by
  by_cases h3 : f = 3
  · subst h3
    go_enter Tryd.func30, Tryd.ntmps30
    go_wp2
    go_ret
    exact ⟨rfl, Below.refl _ _⟩
  · by_cases h4 : f = 4
    · subst h4
      go_enter Tryd.func30, Tryd.ntmps30
      go_wp2
      go_ret
      exact ⟨rfl, Below.refl _ _⟩
    · have t3 : (f == 3) = false := beq_eq_false_iff_ne.2 h3
      have t4 : (f == 4) = false := beq_eq_false_iff_ne.2 h4
      rw [if_neg h3, if_neg h4]
      clear h3 h4
      go_enter Tryd.func30, Tryd.ntmps30
      go_wp2
      go_ret
      exact ⟨rfl, Below.refl _ _⟩

/-! ### The builder -/
structure Bd (w x : World) (c : Array Value) (l : List UInt8) : Prop where
  one : x.heap[w.heap.size]? = some (.cells c 23)
  bld : Lib.IsBuilder 69 5 (w.heap.size + 1) (w.heap.size + 1) (Lib.byteCells l) x
  b : Below w.heap.size w x
  lt : w.heap.size + 1 ≤ x.heap.size
theorem Bd.start (w : World) (c : Array Value) : Bd w ((w.alloc (.cells c 23)).alloc (.cells #[.pointer none, .slice none 0 0] 69)) c [] := by
  have e : (w.alloc (.cells c 23)).heap.size = w.heap.size + 1 := by show (w.heap.push _).size = _; simp
  refine ⟨?_, ?_, ?_, ?_⟩
  · rw [Lib.alloc_old _ _ _ (by omega)]; exact hp_new w _
  · have := Lib.fresh_isBuilder 69 5 (w.alloc (.cells c 23))
    rw [e] at this
    exact this
  · exact ((Below.refl _ w).alloc (Nat.le_refl _) _).alloc (by omega) _
  · show _ ≤ (((w.alloc (.cells c 23)).heap).push _).size; rw [Array.size_push, e]; omega
theorem Bd.cell {w x : World} {c : Array Value} {l : List UInt8} (h : Bd w x c l) (i : Nat) : x.cell? ⟨w.heap.size, i, none⟩ = c[i]? := cell_at h.one i
theorem Bd.cl {w x y : World} {c : Array Value} {l : List UInt8} (h : Bd w x c l) (hb : Below x.heap.size x y) : Bd w y c l := by
  refine ⟨(hb.block _ (lt_of_heap h.one)).trans h.one, ?_, h.b.trans (hb.mono h.b.size), Nat.le_trans h.lt hb.size⟩
  have key : ∀ p, Lib.BuilderAt 69 5 (w.heap.size + 1) (w.heap.size + 1) p (Lib.byteCells l) x → Lib.BuilderAt 69 5 (w.heap.size + 1) (w.heap.size + 1) p (Lib.byteCells l) y := by
    rintro p ⟨h1, v, h2, h3, h4⟩
    refine ⟨h1, v, (hb.block _ (lt_of_heap h2)).trans h2, ?_, h4⟩
    refine ⟨h3.1, ?_⟩
    rcases h3.2 with u | ⟨g, cap, cur, rfl, g1, hg, hc, hm, hs, ht⟩
    · exact .inl u
    · exact .inr ⟨g, cap, cur, rfl, g1, (hb.block _ (lt_of_heap hg)).trans hg, hc, hm, hs, ht⟩
  rcases h.bld with u | u
  · exact .inl (key _ u)
  · exact .inr (key _ u)
theorem Bd.drew {w x : World} {c : Array Value} {l : List UInt8} (h : Bd w x c l) : Bd w x.drew c l := h.cl ((Below.refl _ x).drew)
theorem write_any {w x : World} {c : Array Value} {l : List UInt8} (h : Bd w x c l) (s : ByteArray) (hl : l.length + s.size ≤ 140737488355328) :
    Calls Tryd.prog 47 #[.pointer (some ⟨w.heap.size + 1, 0, none⟩), .string s] x fun e x' => e = .returned (.tuple #[.int .i64 s.size, .nilIface]) ∧ Bd w x' c (l ++ s.data.toList) := by
  refine (Any.Builder_WriteString { Tryd.lays156 with } Tryd.Builder_Extra_156 (w.heap.size + 1) (w.heap.size + 1) (Lib.byteCells l) s x h.bld (by simpa [Lib.byteCells] using hl) h.lt).mono ?_
  rintro e x' ⟨rfl, hA, hb⟩
  have e2 : Lib.byteCells l ++ Lib.strCells s = Lib.byteCells (l ++ s.data.toList) := by simp [Lib.byteCells, Lib.strCells]
  refine ⟨rfl, ⟨(hb.block _ (by omega)).trans h.one, .inr (e2 ▸ hA), h.b.trans (hb.mono (by omega)), Nat.le_trans h.lt hb.size⟩⟩
theorem string_any {w x : World} {c : Array Value} {l : List UInt8} (h : Bd w x c l) :
    Calls Tryd.prog 49 #[.pointer (some ⟨w.heap.size + 1, 0, none⟩)] x fun e x' => e = .returned (.string ⟨l.toArray⟩) ∧ Below w.heap.size w x' := by
  refine (Tryd.Builder_String_any (w.heap.size + 1) (w.heap.size + 1) l x h.bld h.lt).mono ?_
  rintro e x' ⟨rfl, hb⟩
  exact ⟨rfl, h.b.trans (hb.mono (by omega))⟩
def askL (q : ByteArray) (a : Bool) : List UInt8 := if a then 63 :: q.data.toList else []
theorem askL_len (q : ByteArray) (a : Bool) : (askL q a).length ≤ q.size + 1 := by
  unfold askL
  split
  · simp
  · simp
set_option maxHeartbeats 1000000 in
theorem text_ast (h pa q : ByteArray) (p : Int) (a : Bool) (w : World) : Calls Tryd.prog 29 #[.agg #[.int .i64 4, .string h, .int .i64 p, .string pa, .string q, .bool a]] w fun e w' => e = .returned (.string ⟨#[42]⟩) ∧ Below w.heap.size w w' := by
  go_enter Tryd.func29, Tryd.ntmps29
  go_upto_region 2 with fail
  have D := hide (Bd.start w #[.int .i64 4, .string h, .int .i64 p, .string pa, .string q, .bool a])
  generalize ((w.alloc (.cells #[.int .i64 4, .string h, .int .i64 p, .string pa, .string q, .bool a] 23)).alloc (.cells #[.pointer none, .slice none 0 0] 69)) = x at D ⊢
  have k0 : x.cell? ⟨w.heap.size, 0, none⟩ = some (.int .i64 4) := D.out.cell 0
  have k1 : x.cell? ⟨w.heap.size, 1, none⟩ = some (.string h) := D.out.cell 1
  have k2 : x.cell? ⟨w.heap.size, 2, none⟩ = some (.int .i64 p) := D.out.cell 2
  have k3 : x.cell? ⟨w.heap.size, 3, none⟩ = some (.string pa) := D.out.cell 3
  have k4 : x.cell? ⟨w.heap.size, 4, none⟩ = some (.string q) := D.out.cell 4
  have k5 : x.cell? ⟨w.heap.size, 5, none⟩ = some (.bool a) := D.out.cell 5
  go_wp2_with fail
  refine (write_any D.out _ (by decide)).mono ?_
  rintro e x1 ⟨rfl, d⟩
  have D' := hide d
  clear d D k0 k1 k2 k3 k4 k5
  have D := D'
  clear D'
  have k0 : x1.cell? ⟨w.heap.size, 0, none⟩ = some (.int .i64 4) := D.out.cell 0
  have k1 : x1.cell? ⟨w.heap.size, 1, none⟩ = some (.string h) := D.out.cell 1
  have k2 : x1.cell? ⟨w.heap.size, 2, none⟩ = some (.int .i64 p) := D.out.cell 2
  have k3 : x1.cell? ⟨w.heap.size, 3, none⟩ = some (.string pa) := D.out.cell 3
  have k4 : x1.cell? ⟨w.heap.size, 4, none⟩ = some (.string q) := D.out.cell 4
  have k5 : x1.cell? ⟨w.heap.size, 5, none⟩ = some (.bool a) := D.out.cell 5
  go_wp2_with fail
  refine (string_any D.out).mono ?_
  rintro e x9 ⟨rfl, b9⟩
  go_wp2
  go_ret
  exact ⟨rfl, b9⟩
set_option maxHeartbeats 1000000 in
theorem text_origin (h pa q : ByteArray) (p : Int) (a : Bool) (w : World) (hp : pa.size ≤ 1048576) (hq : q.size ≤ 1048576) : Calls Tryd.prog 29 #[.agg #[.int .i64 1, .string h, .int .i64 p, .string pa, .string q, .bool a]] w fun e w' => e = .returned (.string ⟨(pa.data.toList ++ askL q a).toArray⟩) ∧ Below w.heap.size w w' := by
  cases a with
  | true =>
    go_enter Tryd.func29, Tryd.ntmps29
    go_upto_region 2 with fail
    have D := hide (Bd.start w #[.int .i64 1, .string h, .int .i64 p, .string pa, .string q, .bool true])
    generalize ((w.alloc (.cells #[.int .i64 1, .string h, .int .i64 p, .string pa, .string q, .bool true] 23)).alloc (.cells #[.pointer none, .slice none 0 0] 69)) = x at D ⊢
    have k0 : x.cell? ⟨w.heap.size, 0, none⟩ = some (.int .i64 1) := D.out.cell 0
    have k1 : x.cell? ⟨w.heap.size, 1, none⟩ = some (.string h) := D.out.cell 1
    have k2 : x.cell? ⟨w.heap.size, 2, none⟩ = some (.int .i64 p) := D.out.cell 2
    have k3 : x.cell? ⟨w.heap.size, 3, none⟩ = some (.string pa) := D.out.cell 3
    have k4 : x.cell? ⟨w.heap.size, 4, none⟩ = some (.string q) := D.out.cell 4
    have k5 : x.cell? ⟨w.heap.size, 5, none⟩ = some (.bool true) := D.out.cell 5
    go_wp2_with fail
    refine (write_any D.out _ (by simp; omega)).mono ?_
    rintro e x1 ⟨rfl, d⟩
    have D' := hide d
    clear d D k0 k1 k2 k3 k4 k5
    have D := D'
    clear D'
    have k0 : x1.cell? ⟨w.heap.size, 0, none⟩ = some (.int .i64 1) := D.out.cell 0
    have k1 : x1.cell? ⟨w.heap.size, 1, none⟩ = some (.string h) := D.out.cell 1
    have k2 : x1.cell? ⟨w.heap.size, 2, none⟩ = some (.int .i64 p) := D.out.cell 2
    have k3 : x1.cell? ⟨w.heap.size, 3, none⟩ = some (.string pa) := D.out.cell 3
    have k4 : x1.cell? ⟨w.heap.size, 4, none⟩ = some (.string q) := D.out.cell 4
    have k5 : x1.cell? ⟨w.heap.size, 5, none⟩ = some (.bool true) := D.out.cell 5
    have hz : (q.size : Int) ≤ 1048576 := by omega
    go_wp2_with fail
    refine (write_any D.out _ (by rw [app_size]; have e1 : (⟨#[63]⟩ : ByteArray).size = 1 := rfl; simp; omega)).mono ?_
    rintro e x2 ⟨rfl, d⟩
    have D' := hide d
    clear d D k0 k1 k2 k3 k4 k5
    have D := D'
    clear D'
    have k0 : x2.cell? ⟨w.heap.size, 0, none⟩ = some (.int .i64 1) := D.out.cell 0
    have k1 : x2.cell? ⟨w.heap.size, 1, none⟩ = some (.string h) := D.out.cell 1
    have k2 : x2.cell? ⟨w.heap.size, 2, none⟩ = some (.int .i64 p) := D.out.cell 2
    have k3 : x2.cell? ⟨w.heap.size, 3, none⟩ = some (.string pa) := D.out.cell 3
    have k4 : x2.cell? ⟨w.heap.size, 4, none⟩ = some (.string q) := D.out.cell 4
    have k5 : x2.cell? ⟨w.heap.size, 5, none⟩ = some (.bool true) := D.out.cell 5
    go_wp2_with fail
    refine (string_any D.out).mono ?_
    rintro e x9 ⟨rfl, b9⟩
    go_wp2
    go_ret
    exact ⟨rfl, b9⟩
  | false =>
    go_enter Tryd.func29, Tryd.ntmps29
    go_upto_region 2 with fail
    have D := hide (Bd.start w #[.int .i64 1, .string h, .int .i64 p, .string pa, .string q, .bool false])
    generalize ((w.alloc (.cells #[.int .i64 1, .string h, .int .i64 p, .string pa, .string q, .bool false] 23)).alloc (.cells #[.pointer none, .slice none 0 0] 69)) = x at D ⊢
    have k0 : x.cell? ⟨w.heap.size, 0, none⟩ = some (.int .i64 1) := D.out.cell 0
    have k1 : x.cell? ⟨w.heap.size, 1, none⟩ = some (.string h) := D.out.cell 1
    have k2 : x.cell? ⟨w.heap.size, 2, none⟩ = some (.int .i64 p) := D.out.cell 2
    have k3 : x.cell? ⟨w.heap.size, 3, none⟩ = some (.string pa) := D.out.cell 3
    have k4 : x.cell? ⟨w.heap.size, 4, none⟩ = some (.string q) := D.out.cell 4
    have k5 : x.cell? ⟨w.heap.size, 5, none⟩ = some (.bool false) := D.out.cell 5
    go_wp2_with fail
    refine (write_any D.out _ (by simp; omega)).mono ?_
    rintro e x1 ⟨rfl, d⟩
    have D' := hide d
    clear d D k0 k1 k2 k3 k4 k5
    have D := D'
    clear D'
    have k0 : x1.cell? ⟨w.heap.size, 0, none⟩ = some (.int .i64 1) := D.out.cell 0
    have k1 : x1.cell? ⟨w.heap.size, 1, none⟩ = some (.string h) := D.out.cell 1
    have k2 : x1.cell? ⟨w.heap.size, 2, none⟩ = some (.int .i64 p) := D.out.cell 2
    have k3 : x1.cell? ⟨w.heap.size, 3, none⟩ = some (.string pa) := D.out.cell 3
    have k4 : x1.cell? ⟨w.heap.size, 4, none⟩ = some (.string q) := D.out.cell 4
    have k5 : x1.cell? ⟨w.heap.size, 5, none⟩ = some (.bool false) := D.out.cell 5
    go_wp2_with fail
    refine (string_any D.out).mono ?_
    rintro e x9 ⟨rfl, b9⟩
    go_wp2
    go_ret
    exact ⟨by simp [askL], b9⟩
theorem ptextB {w x : World} {h pa q : ByteArray} {p f : Int} {a : Bool} {l : List UInt8} (D : Bd w x #[.int .i64 f, .string h, .int .i64 p, .string pa, .string q, .bool a] l) (h0 : -9223372036854775808 ≤ p) (h1 : p ≤ 9223372036854775807) (ht : PT w) :
    Calls Tryd.prog 48 #[.int .i64 p] x fun e x' => e = .returned (.string (portS p)) ∧ x'.cell? ⟨w.heap.size, 1, none⟩ = some (.string h) ∧ Hid (Bd w x' #[.int .i64 f, .string h, .int .i64 p, .string pa, .string q, .bool a] l) := by
  refine (ptext_any p x h0 h1 (ht.below D.b)).mono ?_
  rintro e x' ⟨rfl, b⟩
  exact ⟨rfl, (D.cl b).cell 1, D.cl b⟩
set_option maxHeartbeats 1000000 in
theorem text_auth (h pa q : ByteArray) (p : Int) (a : Bool) (w : World) (hh : h.size ≤ 1048576) (h0 : -9223372036854775808 ≤ p) (h1 : p ≤ 9223372036854775807) (ht : PT w) : Calls Tryd.prog 29 #[.agg #[.int .i64 3, .string h, .int .i64 p, .string pa, .string q, .bool a]] w fun e w' => e = .returned (.string ⟨(h.data.toList ++ (portS p).data.toList).toArray⟩) ∧ Below w.heap.size w w' := by
  have hz := portS_size p h0 h1
  have HT := hide (fun (x : World) (l : List UInt8) (D : Bd w x #[.int .i64 3, .string h, .int .i64 p, .string pa, .string q, .bool a] l) => ptextB D h0 h1 ht)
  clear ht h0 h1
  generalize portS p = po at hz HT ⊢
  go_enter Tryd.func29, Tryd.ntmps29
  go_upto_region 2 with fail
  have D := hide (Bd.start w #[.int .i64 3, .string h, .int .i64 p, .string pa, .string q, .bool a])
  generalize ((w.alloc (.cells #[.int .i64 3, .string h, .int .i64 p, .string pa, .string q, .bool a] 23)).alloc (.cells #[.pointer none, .slice none 0 0] 69)) = x at D ⊢
  have k0 : x.cell? ⟨w.heap.size, 0, none⟩ = some (.int .i64 3) := D.out.cell 0
  have k1 : x.cell? ⟨w.heap.size, 1, none⟩ = some (.string h) := D.out.cell 1
  have k2 : x.cell? ⟨w.heap.size, 2, none⟩ = some (.int .i64 p) := D.out.cell 2
  have hsz := hide (show ([] : List UInt8).length + (h ++ po).size ≤ 140737488355328 by rw [app_size]; simp; omega)
  go_upto_region 8 with fail
  go_region_with (first | (go_at_call 48; refine (HT.out _ [] ?_).mono ?_; (first | exact D.out.drew | exact D.out); rintro e y ⟨rfl, k1y, Dy⟩) | (go_at_call 47; refine (write_any (w := w) (c := #[.int .i64 3, .string h, .int .i64 p, .string pa, .string q, .bool a]) (l := []) ?_ (h ++ po) ?_).mono ?_; exact Dy.out; exact hsz.out; rintro e z ⟨rfl, dz⟩))
  all_goals (rw [List.nil_append, app_list] at dz)
  all_goals (have DZ := hide dz)
  all_goals (clear dz)
  all_goals (go_wp2_with fail)
  all_goals (refine (string_any DZ.out).mono ?_)
  all_goals (rintro e x9 ⟨rfl, b9⟩)
  all_goals (go_wp2)
  all_goals (go_ret)
  all_goals (exact ⟨rfl, b9⟩)
def absL (h : ByteArray) (po : List UInt8) (pa q : ByteArray) (a : Bool) : List UInt8 := ([104, 116, 116, 112, 58, 47, 47] ++ h.data.toList) ++ po ++ pa.data.toList ++ askL q a
set_option maxHeartbeats 1000000 in
theorem text_abs0 (h pa q : ByteArray) (a : Bool) (w : World) (hh : h.size ≤ 1048576) (hp : pa.size ≤ 1048576) (hq : q.size ≤ 1048576) : Calls Tryd.prog 29 #[.agg #[.int .i64 2, .string h, .int .i64 (-1), .string pa, .string q, .bool a]] w fun e w' => e = .returned (.string ⟨(absL h [] pa q a).toArray⟩) ∧ Below w.heap.size w w' := by
  cases a with
  | true =>
    go_enter Tryd.func29, Tryd.ntmps29
    go_upto_region 2 with fail
    have D := hide (Bd.start w #[.int .i64 2, .string h, .int .i64 (-1), .string pa, .string q, .bool true])
    generalize ((w.alloc (.cells #[.int .i64 2, .string h, .int .i64 (-1), .string pa, .string q, .bool true] 23)).alloc (.cells #[.pointer none, .slice none 0 0] 69)) = x at D ⊢
    have k0 : x.cell? ⟨w.heap.size, 0, none⟩ = some (.int .i64 2) := D.out.cell 0
    have k1 : x.cell? ⟨w.heap.size, 1, none⟩ = some (.string h) := D.out.cell 1
    have k2 : x.cell? ⟨w.heap.size, 2, none⟩ = some (.int .i64 (-1)) := D.out.cell 2
    have k3 : x.cell? ⟨w.heap.size, 3, none⟩ = some (.string pa) := D.out.cell 3
    have k4 : x.cell? ⟨w.heap.size, 4, none⟩ = some (.string q) := D.out.cell 4
    have k5 : x.cell? ⟨w.heap.size, 5, none⟩ = some (.bool true) := D.out.cell 5
    go_wp2_with fail
    refine (write_any D.out _ (by rw [app_size]; have e1 : (⟨#[104, 116, 116, 112, 58, 47, 47]⟩ : ByteArray).size = 7 := rfl; simp; omega)).mono ?_
    rintro e x1 ⟨rfl, d⟩
    have D' := hide d
    clear d D k0 k1 k2 k3 k4 k5
    have D := D'
    clear D'
    have k0 : x1.cell? ⟨w.heap.size, 0, none⟩ = some (.int .i64 2) := D.out.cell 0
    have k1 : x1.cell? ⟨w.heap.size, 1, none⟩ = some (.string h) := D.out.cell 1
    have k2 : x1.cell? ⟨w.heap.size, 2, none⟩ = some (.int .i64 (-1)) := D.out.cell 2
    have k3 : x1.cell? ⟨w.heap.size, 3, none⟩ = some (.string pa) := D.out.cell 3
    have k4 : x1.cell? ⟨w.heap.size, 4, none⟩ = some (.string q) := D.out.cell 4
    have k5 : x1.cell? ⟨w.heap.size, 5, none⟩ = some (.bool true) := D.out.cell 5
    go_wp2_with fail
    refine (write_any D.out _ (by simp only [List.nil_append, size_len, app_size]; have e1 : (⟨#[104, 116, 116, 112, 58, 47, 47]⟩ : ByteArray).size = 7 := rfl; omega)).mono ?_
    rintro e x4 ⟨rfl, d⟩
    have D' := hide d
    clear d D k0 k1 k2 k3 k4 k5
    have D := D'
    clear D'
    have k0 : x4.cell? ⟨w.heap.size, 0, none⟩ = some (.int .i64 2) := D.out.cell 0
    have k1 : x4.cell? ⟨w.heap.size, 1, none⟩ = some (.string h) := D.out.cell 1
    have k2 : x4.cell? ⟨w.heap.size, 2, none⟩ = some (.int .i64 (-1)) := D.out.cell 2
    have k3 : x4.cell? ⟨w.heap.size, 3, none⟩ = some (.string pa) := D.out.cell 3
    have k4 : x4.cell? ⟨w.heap.size, 4, none⟩ = some (.string q) := D.out.cell 4
    have k5 : x4.cell? ⟨w.heap.size, 5, none⟩ = some (.bool true) := D.out.cell 5
    go_wp2_with fail
    refine (write_any D.out _ (by simp only [List.length_append, List.nil_append, size_len, app_size]; have e1 : (⟨#[104, 116, 116, 112, 58, 47, 47]⟩ : ByteArray).size = 7 := rfl; have e2 : (⟨#[63]⟩ : ByteArray).size = 1 := rfl; omega)).mono ?_
    rintro e x5 ⟨rfl, d⟩
    have D' := hide d
    clear d D k0 k1 k2 k3 k4 k5
    have D := D'
    clear D'
    have k0 : x5.cell? ⟨w.heap.size, 0, none⟩ = some (.int .i64 2) := D.out.cell 0
    have k1 : x5.cell? ⟨w.heap.size, 1, none⟩ = some (.string h) := D.out.cell 1
    have k2 : x5.cell? ⟨w.heap.size, 2, none⟩ = some (.int .i64 (-1)) := D.out.cell 2
    have k3 : x5.cell? ⟨w.heap.size, 3, none⟩ = some (.string pa) := D.out.cell 3
    have k4 : x5.cell? ⟨w.heap.size, 4, none⟩ = some (.string q) := D.out.cell 4
    have k5 : x5.cell? ⟨w.heap.size, 5, none⟩ = some (.bool true) := D.out.cell 5
    go_wp2_with fail
    refine (string_any D.out).mono ?_
    rintro e x9 ⟨rfl, b9⟩
    go_wp2
    go_ret
    exact ⟨by simp [absL, askL], b9⟩
  | false =>
    go_enter Tryd.func29, Tryd.ntmps29
    go_upto_region 2 with fail
    have D := hide (Bd.start w #[.int .i64 2, .string h, .int .i64 (-1), .string pa, .string q, .bool false])
    generalize ((w.alloc (.cells #[.int .i64 2, .string h, .int .i64 (-1), .string pa, .string q, .bool false] 23)).alloc (.cells #[.pointer none, .slice none 0 0] 69)) = x at D ⊢
    have k0 : x.cell? ⟨w.heap.size, 0, none⟩ = some (.int .i64 2) := D.out.cell 0
    have k1 : x.cell? ⟨w.heap.size, 1, none⟩ = some (.string h) := D.out.cell 1
    have k2 : x.cell? ⟨w.heap.size, 2, none⟩ = some (.int .i64 (-1)) := D.out.cell 2
    have k3 : x.cell? ⟨w.heap.size, 3, none⟩ = some (.string pa) := D.out.cell 3
    have k4 : x.cell? ⟨w.heap.size, 4, none⟩ = some (.string q) := D.out.cell 4
    have k5 : x.cell? ⟨w.heap.size, 5, none⟩ = some (.bool false) := D.out.cell 5
    go_wp2_with fail
    refine (write_any D.out _ (by rw [app_size]; have e1 : (⟨#[104, 116, 116, 112, 58, 47, 47]⟩ : ByteArray).size = 7 := rfl; simp; omega)).mono ?_
    rintro e x1 ⟨rfl, d⟩
    have D' := hide d
    clear d D k0 k1 k2 k3 k4 k5
    have D := D'
    clear D'
    have k0 : x1.cell? ⟨w.heap.size, 0, none⟩ = some (.int .i64 2) := D.out.cell 0
    have k1 : x1.cell? ⟨w.heap.size, 1, none⟩ = some (.string h) := D.out.cell 1
    have k2 : x1.cell? ⟨w.heap.size, 2, none⟩ = some (.int .i64 (-1)) := D.out.cell 2
    have k3 : x1.cell? ⟨w.heap.size, 3, none⟩ = some (.string pa) := D.out.cell 3
    have k4 : x1.cell? ⟨w.heap.size, 4, none⟩ = some (.string q) := D.out.cell 4
    have k5 : x1.cell? ⟨w.heap.size, 5, none⟩ = some (.bool false) := D.out.cell 5
    go_wp2_with fail
    refine (write_any D.out _ (by simp only [List.nil_append, size_len, app_size]; have e1 : (⟨#[104, 116, 116, 112, 58, 47, 47]⟩ : ByteArray).size = 7 := rfl; omega)).mono ?_
    rintro e x4 ⟨rfl, d⟩
    have D' := hide d
    clear d D k0 k1 k2 k3 k4 k5
    have D := D'
    clear D'
    have k0 : x4.cell? ⟨w.heap.size, 0, none⟩ = some (.int .i64 2) := D.out.cell 0
    have k1 : x4.cell? ⟨w.heap.size, 1, none⟩ = some (.string h) := D.out.cell 1
    have k2 : x4.cell? ⟨w.heap.size, 2, none⟩ = some (.int .i64 (-1)) := D.out.cell 2
    have k3 : x4.cell? ⟨w.heap.size, 3, none⟩ = some (.string pa) := D.out.cell 3
    have k4 : x4.cell? ⟨w.heap.size, 4, none⟩ = some (.string q) := D.out.cell 4
    have k5 : x4.cell? ⟨w.heap.size, 5, none⟩ = some (.bool false) := D.out.cell 5
    go_wp2_with fail
    refine (string_any D.out).mono ?_
    rintro e x9 ⟨rfl, b9⟩
    go_wp2
    go_ret
    exact ⟨by simp [absL, askL], b9⟩
set_option maxHeartbeats 1000000 in
theorem text_abs1 (h pa q : ByteArray) (p : Int) (a : Bool) (w : World) (hh : h.size ≤ 1048576) (hp : pa.size ≤ 1048576) (hq : q.size ≤ 1048576) (hne : p ≠ -1) (h0 : -9223372036854775808 ≤ p) (h1 : p ≤ 9223372036854775807) (ht : PT w) : Calls Tryd.prog 29 #[.agg #[.int .i64 2, .string h, .int .i64 p, .string pa, .string q, .bool a]] w fun e w' => e = .returned (.string ⟨(absL h (portS p).data.toList pa q a).toArray⟩) ∧ Below w.heap.size w w' := by
  have hz := portS_size p h0 h1
  have HT := hide (fun (x : World) (l : List UInt8) (D : Bd w x #[.int .i64 2, .string h, .int .i64 p, .string pa, .string q, .bool a] l) => ptextB D h0 h1 ht)
  have hb : (p != -1) = true := bne_iff_ne.2 hne
  clear ht h0 h1 hne
  generalize portS p = po at hz HT ⊢
  cases a with
  | true =>
    go_enter Tryd.func29, Tryd.ntmps29
    go_upto_region 2 with fail
    have D := hide (Bd.start w #[.int .i64 2, .string h, .int .i64 p, .string pa, .string q, .bool true])
    generalize ((w.alloc (.cells #[.int .i64 2, .string h, .int .i64 p, .string pa, .string q, .bool true] 23)).alloc (.cells #[.pointer none, .slice none 0 0] 69)) = x at D ⊢
    have k0 : x.cell? ⟨w.heap.size, 0, none⟩ = some (.int .i64 2) := D.out.cell 0
    have k1 : x.cell? ⟨w.heap.size, 1, none⟩ = some (.string h) := D.out.cell 1
    have k2 : x.cell? ⟨w.heap.size, 2, none⟩ = some (.int .i64 p) := D.out.cell 2
    have k3 : x.cell? ⟨w.heap.size, 3, none⟩ = some (.string pa) := D.out.cell 3
    have k4 : x.cell? ⟨w.heap.size, 4, none⟩ = some (.string q) := D.out.cell 4
    have k5 : x.cell? ⟨w.heap.size, 5, none⟩ = some (.bool true) := D.out.cell 5
    go_wp2_with fail
    refine (write_any D.out _ (by rw [app_size]; have e1 : (⟨#[104, 116, 116, 112, 58, 47, 47]⟩ : ByteArray).size = 7 := rfl; simp; omega)).mono ?_
    rintro e x1 ⟨rfl, d⟩
    have D' := hide d
    clear d D k0 k1 k2 k3 k4 k5
    have D := D'
    clear D'
    have k0 : x1.cell? ⟨w.heap.size, 0, none⟩ = some (.int .i64 2) := D.out.cell 0
    have k1 : x1.cell? ⟨w.heap.size, 1, none⟩ = some (.string h) := D.out.cell 1
    have k2 : x1.cell? ⟨w.heap.size, 2, none⟩ = some (.int .i64 p) := D.out.cell 2
    have k3 : x1.cell? ⟨w.heap.size, 3, none⟩ = some (.string pa) := D.out.cell 3
    have k4 : x1.cell? ⟨w.heap.size, 4, none⟩ = some (.string q) := D.out.cell 4
    have k5 : x1.cell? ⟨w.heap.size, 5, none⟩ = some (.bool true) := D.out.cell 5
    go_wp2_with fail
    refine (HT.out _ _ D.out).mono ?_
    rintro e x2 ⟨rfl, k1y, Dy⟩
    clear D k0 k1 k2 k3 k4 k5 k1y
    have D := Dy
    clear Dy
    have k0 : x2.cell? ⟨w.heap.size, 0, none⟩ = some (.int .i64 2) := D.out.cell 0
    have k1 : x2.cell? ⟨w.heap.size, 1, none⟩ = some (.string h) := D.out.cell 1
    have k2 : x2.cell? ⟨w.heap.size, 2, none⟩ = some (.int .i64 p) := D.out.cell 2
    have k3 : x2.cell? ⟨w.heap.size, 3, none⟩ = some (.string pa) := D.out.cell 3
    have k4 : x2.cell? ⟨w.heap.size, 4, none⟩ = some (.string q) := D.out.cell 4
    have k5 : x2.cell? ⟨w.heap.size, 5, none⟩ = some (.bool true) := D.out.cell 5
    go_wp2_with fail
    refine (write_any D.out _ (by rw [List.nil_append, size_len, app_size]; have e1 : (⟨#[104, 116, 116, 112, 58, 47, 47]⟩ : ByteArray).size = 7 := rfl; omega)).mono ?_
    rintro e x3 ⟨rfl, d⟩
    have D' := hide d
    clear d D k0 k1 k2 k3 k4 k5
    have D := D'
    clear D'
    have k0 : x3.cell? ⟨w.heap.size, 0, none⟩ = some (.int .i64 2) := D.out.cell 0
    have k1 : x3.cell? ⟨w.heap.size, 1, none⟩ = some (.string h) := D.out.cell 1
    have k2 : x3.cell? ⟨w.heap.size, 2, none⟩ = some (.int .i64 p) := D.out.cell 2
    have k3 : x3.cell? ⟨w.heap.size, 3, none⟩ = some (.string pa) := D.out.cell 3
    have k4 : x3.cell? ⟨w.heap.size, 4, none⟩ = some (.string q) := D.out.cell 4
    have k5 : x3.cell? ⟨w.heap.size, 5, none⟩ = some (.bool true) := D.out.cell 5
    go_wp2_with fail
    refine (write_any D.out _ (by simp only [List.length_append, List.nil_append, size_len, app_size]; have e1 : (⟨#[104, 116, 116, 112, 58, 47, 47]⟩ : ByteArray).size = 7 := rfl; omega)).mono ?_
    rintro e x4 ⟨rfl, d⟩
    have D' := hide d
    clear d D k0 k1 k2 k3 k4 k5
    have D := D'
    clear D'
    have k0 : x4.cell? ⟨w.heap.size, 0, none⟩ = some (.int .i64 2) := D.out.cell 0
    have k1 : x4.cell? ⟨w.heap.size, 1, none⟩ = some (.string h) := D.out.cell 1
    have k2 : x4.cell? ⟨w.heap.size, 2, none⟩ = some (.int .i64 p) := D.out.cell 2
    have k3 : x4.cell? ⟨w.heap.size, 3, none⟩ = some (.string pa) := D.out.cell 3
    have k4 : x4.cell? ⟨w.heap.size, 4, none⟩ = some (.string q) := D.out.cell 4
    have k5 : x4.cell? ⟨w.heap.size, 5, none⟩ = some (.bool true) := D.out.cell 5
    go_wp2_with fail
    refine (write_any D.out _ (by simp only [List.length_append, List.nil_append, size_len, app_size]; have e1 : (⟨#[104, 116, 116, 112, 58, 47, 47]⟩ : ByteArray).size = 7 := rfl; have e2 : (⟨#[63]⟩ : ByteArray).size = 1 := rfl; omega)).mono ?_
    rintro e x5 ⟨rfl, d⟩
    have D' := hide d
    clear d D k0 k1 k2 k3 k4 k5
    have D := D'
    clear D'
    have k0 : x5.cell? ⟨w.heap.size, 0, none⟩ = some (.int .i64 2) := D.out.cell 0
    have k1 : x5.cell? ⟨w.heap.size, 1, none⟩ = some (.string h) := D.out.cell 1
    have k2 : x5.cell? ⟨w.heap.size, 2, none⟩ = some (.int .i64 p) := D.out.cell 2
    have k3 : x5.cell? ⟨w.heap.size, 3, none⟩ = some (.string pa) := D.out.cell 3
    have k4 : x5.cell? ⟨w.heap.size, 4, none⟩ = some (.string q) := D.out.cell 4
    have k5 : x5.cell? ⟨w.heap.size, 5, none⟩ = some (.bool true) := D.out.cell 5
    go_wp2_with fail
    refine (string_any D.out).mono ?_
    rintro e x9 ⟨rfl, b9⟩
    go_wp2
    go_ret
    exact ⟨by simp [absL, askL], b9⟩
  | false =>
    go_enter Tryd.func29, Tryd.ntmps29
    go_upto_region 2 with fail
    have D := hide (Bd.start w #[.int .i64 2, .string h, .int .i64 p, .string pa, .string q, .bool false])
    generalize ((w.alloc (.cells #[.int .i64 2, .string h, .int .i64 p, .string pa, .string q, .bool false] 23)).alloc (.cells #[.pointer none, .slice none 0 0] 69)) = x at D ⊢
    have k0 : x.cell? ⟨w.heap.size, 0, none⟩ = some (.int .i64 2) := D.out.cell 0
    have k1 : x.cell? ⟨w.heap.size, 1, none⟩ = some (.string h) := D.out.cell 1
    have k2 : x.cell? ⟨w.heap.size, 2, none⟩ = some (.int .i64 p) := D.out.cell 2
    have k3 : x.cell? ⟨w.heap.size, 3, none⟩ = some (.string pa) := D.out.cell 3
    have k4 : x.cell? ⟨w.heap.size, 4, none⟩ = some (.string q) := D.out.cell 4
    have k5 : x.cell? ⟨w.heap.size, 5, none⟩ = some (.bool false) := D.out.cell 5
    go_wp2_with fail
    refine (write_any D.out _ (by rw [app_size]; have e1 : (⟨#[104, 116, 116, 112, 58, 47, 47]⟩ : ByteArray).size = 7 := rfl; simp; omega)).mono ?_
    rintro e x1 ⟨rfl, d⟩
    have D' := hide d
    clear d D k0 k1 k2 k3 k4 k5
    have D := D'
    clear D'
    have k0 : x1.cell? ⟨w.heap.size, 0, none⟩ = some (.int .i64 2) := D.out.cell 0
    have k1 : x1.cell? ⟨w.heap.size, 1, none⟩ = some (.string h) := D.out.cell 1
    have k2 : x1.cell? ⟨w.heap.size, 2, none⟩ = some (.int .i64 p) := D.out.cell 2
    have k3 : x1.cell? ⟨w.heap.size, 3, none⟩ = some (.string pa) := D.out.cell 3
    have k4 : x1.cell? ⟨w.heap.size, 4, none⟩ = some (.string q) := D.out.cell 4
    have k5 : x1.cell? ⟨w.heap.size, 5, none⟩ = some (.bool false) := D.out.cell 5
    go_wp2_with fail
    refine (HT.out _ _ D.out).mono ?_
    rintro e x2 ⟨rfl, k1y, Dy⟩
    clear D k0 k1 k2 k3 k4 k5 k1y
    have D := Dy
    clear Dy
    have k0 : x2.cell? ⟨w.heap.size, 0, none⟩ = some (.int .i64 2) := D.out.cell 0
    have k1 : x2.cell? ⟨w.heap.size, 1, none⟩ = some (.string h) := D.out.cell 1
    have k2 : x2.cell? ⟨w.heap.size, 2, none⟩ = some (.int .i64 p) := D.out.cell 2
    have k3 : x2.cell? ⟨w.heap.size, 3, none⟩ = some (.string pa) := D.out.cell 3
    have k4 : x2.cell? ⟨w.heap.size, 4, none⟩ = some (.string q) := D.out.cell 4
    have k5 : x2.cell? ⟨w.heap.size, 5, none⟩ = some (.bool false) := D.out.cell 5
    go_wp2_with fail
    refine (write_any D.out _ (by rw [List.nil_append, size_len, app_size]; have e1 : (⟨#[104, 116, 116, 112, 58, 47, 47]⟩ : ByteArray).size = 7 := rfl; omega)).mono ?_
    rintro e x3 ⟨rfl, d⟩
    have D' := hide d
    clear d D k0 k1 k2 k3 k4 k5
    have D := D'
    clear D'
    have k0 : x3.cell? ⟨w.heap.size, 0, none⟩ = some (.int .i64 2) := D.out.cell 0
    have k1 : x3.cell? ⟨w.heap.size, 1, none⟩ = some (.string h) := D.out.cell 1
    have k2 : x3.cell? ⟨w.heap.size, 2, none⟩ = some (.int .i64 p) := D.out.cell 2
    have k3 : x3.cell? ⟨w.heap.size, 3, none⟩ = some (.string pa) := D.out.cell 3
    have k4 : x3.cell? ⟨w.heap.size, 4, none⟩ = some (.string q) := D.out.cell 4
    have k5 : x3.cell? ⟨w.heap.size, 5, none⟩ = some (.bool false) := D.out.cell 5
    go_wp2_with fail
    refine (write_any D.out _ (by simp only [List.length_append, List.nil_append, size_len, app_size]; have e1 : (⟨#[104, 116, 116, 112, 58, 47, 47]⟩ : ByteArray).size = 7 := rfl; omega)).mono ?_
    rintro e x4 ⟨rfl, d⟩
    have D' := hide d
    clear d D k0 k1 k2 k3 k4 k5
    have D := D'
    clear D'
    have k0 : x4.cell? ⟨w.heap.size, 0, none⟩ = some (.int .i64 2) := D.out.cell 0
    have k1 : x4.cell? ⟨w.heap.size, 1, none⟩ = some (.string h) := D.out.cell 1
    have k2 : x4.cell? ⟨w.heap.size, 2, none⟩ = some (.int .i64 p) := D.out.cell 2
    have k3 : x4.cell? ⟨w.heap.size, 3, none⟩ = some (.string pa) := D.out.cell 3
    have k4 : x4.cell? ⟨w.heap.size, 4, none⟩ = some (.string q) := D.out.cell 4
    have k5 : x4.cell? ⟨w.heap.size, 5, none⟩ = some (.bool false) := D.out.cell 5
    go_wp2_with fail
    refine (string_any D.out).mono ?_
    rintro e x9 ⟨rfl, b9⟩
    go_wp2
    go_ret
    exact ⟨by simp [absL, askL], b9⟩
set_option maxHeartbeats 1000000 in
theorem text_none (f p : Int) (h pa q : ByteArray) (a : Bool) (w : World) (h1 : f ≠ 1) (h2 : f ≠ 2) (h3 : f ≠ 3) (h4 : f ≠ 4) : Calls Tryd.prog 29 #[.agg #[.int .i64 f, .string h, .int .i64 p, .string pa, .string q, .bool a]] w fun e w' => e = .returned (.string ⟨#[]⟩) ∧ Below w.heap.size w w' := by
  have t1 : (f == 1) = false := beq_eq_false_iff_ne.2 h1
  have t2 : (f == 2) = false := beq_eq_false_iff_ne.2 h2
  have t3 : (f == 3) = false := beq_eq_false_iff_ne.2 h3
  have t4 : (f == 4) = false := beq_eq_false_iff_ne.2 h4
  clear h1 h2 h3 h4
  go_enter Tryd.func29, Tryd.ntmps29
  go_upto_region 2 with fail
  have D := hide (Bd.start w #[.int .i64 f, .string h, .int .i64 p, .string pa, .string q, .bool a])
  generalize ((w.alloc (.cells #[.int .i64 f, .string h, .int .i64 p, .string pa, .string q, .bool a] 23)).alloc (.cells #[.pointer none, .slice none 0 0] 69)) = x at D ⊢
  have k0 : x.cell? ⟨w.heap.size, 0, none⟩ = some (.int .i64 f) := D.out.cell 0
  have k1 : x.cell? ⟨w.heap.size, 1, none⟩ = some (.string h) := D.out.cell 1
  have k2 : x.cell? ⟨w.heap.size, 2, none⟩ = some (.int .i64 p) := D.out.cell 2
  have k3 : x.cell? ⟨w.heap.size, 3, none⟩ = some (.string pa) := D.out.cell 3
  have k4 : x.cell? ⟨w.heap.size, 4, none⟩ = some (.string q) := D.out.cell 4
  have k5 : x.cell? ⟨w.heap.size, 5, none⟩ = some (.bool a) := D.out.cell 5
  go_wp2_with fail
  refine (string_any D.out).mono ?_
  rintro e x9 ⟨rfl, b9⟩
  go_wp2
  go_ret
  exact ⟨rfl, b9⟩
end Go.Proofs.YtofifncflchpbaaDoor
