/- Which form a target has, and what it tells in it: by the program. -/
import Derived.Test.YtekkhjlipijmcaaGreatDoorTCln
import Derived.Test.YtekkhjlipijmcaaGreatDoorTPart
import Derived.Handy
namespace Go.Proofs.YtekkhjlipijmcaaGreatDoor
open Go.ChangeShapes Go.WideShapes Go.ChangeAt Go.RowKit

def tgV (f : Int) (h : ByteArray) (p : Int) (pa q : ByteArray) (a : Bool) : Value := .agg #[.int .i64 f, .string h, .int .i64 p, .string pa, .string q, .bool a]
def cutP (s : ByteArray) : ByteArray := sS (Lib.cut s.data.toList [63]).1
def cutQ (s : ByteArray) : ByteArray := sS (Lib.cut s.data.toList [63]).2.1
def cutA (s : ByteArray) : Bool := (Lib.cut s.data.toList [63]).2.2
def locB (s : ByteArray) : Bool := holdsB pathMarks (cutP s).data.toList && holdsB queryMarks (cutQ s).data.toList
def qm : ByteArray := ⟨#[63]⟩
theorem cut_size (s : ByteArray) : (cutP s).size ≤ s.size ∧ (cutQ s).size ≤ s.size := by
  have hg := Lib.index_ge s.data.toList [63]
  by_cases hi : Lib.indexB s qm = -1
  · have h := Lib.cutB_miss s qm hi
    have h1 : cutP s = s := h.1
    have h2 : cutQ s = ByteArray.empty := h.2.1
    rw [h1, h2]
    exact ⟨Nat.le_refl _, Nat.zero_le _⟩
  · have hi2 : Lib.index s.data.toList [63] ≠ -1 := hi
    obtain ⟨i, hi'⟩ : ∃ i : Nat, Lib.indexB s qm = i := ⟨(Lib.index s.data.toList [63]).toNat, by
      show Lib.index s.data.toList [63] = _
      omega⟩
    have h := Lib.cutB_hit s qm i hi'
    have h1 : cutP s = s.extract 0 i := h.1
    have h2 : cutQ s = s.extract (i + qm.size) s.size := h.2.1
    rw [h1, h2, ext_size, ext_size]
    omega
theorem cut_at (s : ByteArray) (w : World) (hs : s.size < 4294967281) (h : MX w) :
    Calls Tryz.prog 91 #[.string s, .string qm] w fun e w' => e = .returned (.tuple #[.string (cutP s), .string (cutQ s), .bool (cutA s)]) ∧ Below w.heap.size w w' := by
  obtain ⟨h0, m, hm⟩ := h
  refine (Tryz.strings_Cut s qm m w hs hm).mono ?_
  rintro e w' ⟨rfl, n, rfl⟩
  exact ⟨rfl, below_drewN w n⟩
theorem clone_at (s : ByteArray) (w : World) (hs : s.size ≤ 281474976710656) :
    Calls Tryz.prog 92 #[.string s] w fun e w' => e = .returned (.string s) ∧ Below w.heap.size w w' := by
  have HC := hide (fun w => Tryz.stringslite_Clone s w hs)
  go_enter Tryz.func92, Tryz.ntmps92
  go_wp2_with fail
  refine (HC.out _).mono ?_
  rintro e w1 ⟨rfl, b1⟩
  go_wp2
  go_ret
  exact ⟨rfl, b1⟩
/-- Two blocks of the function's own: what it hands back, and what it works on. -/
structure Two (w x : World) (c0 c1 : Array Value) : Prop where
  h0 : x.heap[w.heap.size]? = some (.cells c0 61)
  h1 : x.heap[w.heap.size + 1]? = some (.cells c1 61)
  b : Below w.heap.size w x
theorem Two.start (w : World) (c0 c1 : Array Value) : Two w ((w.alloc (.cells c0 61)).alloc (.cells c1 61)) c0 c1 := by
  have hsz : (w.alloc (.cells c0 61)).heap.size = w.heap.size + 1 := by simp
  refine ⟨?_, ?_, ((Below.refl _ w).alloc (Nat.le_refl _) _).alloc (by omega) _⟩
  · rw [Below.heap_alloc _ _ _ (by omega)]
    exact hp_new w _
  · rw [← hsz]
    exact hp_new _ _
theorem lt_of_heap {x : World} {b : Nat} {o : Obj} (h : x.heap[b]? = some o) : b < x.heap.size := (Array.getElem?_eq_some_iff.1 h).1
theorem Two.below {w x y : World} {c0 c1 : Array Value} (h : Two w x c0 c1) (hb : Below x.heap.size x y) : Two w y c0 c1 :=
  ⟨(hb.block _ (lt_of_heap h.h0)).trans h.h0, (hb.block _ (lt_of_heap h.h1)).trans h.h1, h.b.trans (hb.mono h.b.size)⟩
theorem Two.set1 {w x : World} {c0 c1 : Array Value} (h : Two w x c0 c1) (i : Nat) (v : Value) : Two w (x.setCell ⟨w.heap.size + 1, i, none⟩ v) c0 (c1.setIfInBounds i v) :=
  ⟨(Below.heap_setCell _ _ _ _ (by simp)).trans h.h0, hp_set h.h1 i v, h.b.setCell (by simp) _⟩
theorem Two.set0 {w x : World} {c0 c1 : Array Value} (h : Two w x c0 c1) (i : Nat) (v : Value) : Two w (x.setCell ⟨w.heap.size, i, none⟩ v) (c0.setIfInBounds i v) c1 :=
  ⟨hp_set h.h0 i v, (Below.heap_setCell _ _ _ _ (by simp)).trans h.h1, h.b.setCell (Nat.le_refl _) _⟩
theorem Two.cell0 {w x : World} {c0 c1 : Array Value} (h : Two w x c0 c1) (i : Nat) : x.cell? ⟨w.heap.size, i, none⟩ = c0[i]? := cell_at h.h0 i
theorem Two.cell1 {w x : World} {c0 c1 : Array Value} (h : Two w x c0 c1) (i : Nat) : x.cell? ⟨w.heap.size + 1, i, none⟩ = c1[i]? := cell_at h.h1 i
theorem Two.fr0 {w x : World} {c0 c1 : Array Value} (h : Two w x c0 c1) (i : Nat) : x.frozen? ⟨w.heap.size, i, none⟩ = false := by rw [frozen_at h.h0]; simp
theorem Two.fr1 {w x : World} {c0 c1 : Array Value} (h : Two w x c0 c1) (i : Nat) : x.frozen? ⟨w.heap.size + 1, i, none⟩ = false := by rw [frozen_at h.h1]; simp
theorem ret_tg {a b : Value} {x : Int} {n : Int} (h : b = a ∧ n = x) : Ending.returned (.tuple #[a, .int .i64 x]) = .returned (.tuple #[b, .int .i64 n]) := by rw [h.1, h.2]
set_option maxHeartbeats 1000000 in
theorem read_origin (s : ByteArray) (w : World) (hs : s.size ≤ 8200) (hm : MX w) :
    Calls Tryz.prog 65 #[.int .i64 1, .string s] w fun e w' => e = .returned (.tuple #[tgV 1 ⟨#[]⟩ (-1) (cutP s) (cutQ s) (cutA s), .int .i64 (if locB s then 0 else 60)]) ∧ Below w.heap.size w w' := by
  have HM := hide hm
  clear hm
  have hz := cut_size s
  have hC := fun w => cut_at s w (by omega)
  have hH1 := fun w => holds_any (cutP s) ⟨#[45, 46, 95, 126, 33, 36, 38, 39, 40, 41, 42, 43, 44, 59, 61, 58, 64, 47]⟩ w
  have hH2 := fun w => holds_any (cutQ s) ⟨#[45, 46, 95, 126, 33, 36, 38, 39, 40, 41, 42, 43, 44, 59, 61, 58, 64, 47, 63]⟩ w
  rw [show (⟨#[45, 46, 95, 126, 33, 36, 38, 39, 40, 41, 42, 43, 44, 59, 61, 58, 64, 47]⟩ : ByteArray).data.toList = pathMarks from rfl] at hH1
  rw [show (⟨#[45, 46, 95, 126, 33, 36, 38, 39, 40, 41, 42, 43, 44, 59, 61, 58, 64, 47, 63]⟩ : ByteArray).data.toList = queryMarks from rfl] at hH2
  unfold locB
  generalize holdsB pathMarks (cutP s).data.toList = b1 at hH1 ⊢
  generalize holdsB queryMarks (cutQ s).data.toList = b2 at hH2 ⊢
  generalize cutP s = pa at hz hC hH1 ⊢
  generalize cutQ s = qu at hz hC hH2 ⊢
  generalize cutA s = ask at hC ⊢
  have hp : pa.size ≤ maxLen := by unfold maxLen; omega
  have hq : qu.size ≤ maxLen := by unfold maxLen; omega
  have HC := hide hC
  have HH1 := hide hH1
  have HH2 := hide hH2
  clear hC hH1 hH2
  go_enter Tryz.func65, Tryz.ntmps65
  go_wp2_with fail
  have T0 := hide (Two.start w #[.int .i64 0, .string ⟨#[]⟩, .int .i64 0, .string ⟨#[]⟩, .string ⟨#[]⟩, .bool false] #[.int .i64 1, .string ⟨#[]⟩, .int .i64 (-1), .string ⟨#[]⟩, .string ⟨#[]⟩, .bool false])
  generalize ((w.alloc (.cells #[.int .i64 0, .string ⟨#[]⟩, .int .i64 0, .string ⟨#[]⟩, .string ⟨#[]⟩, .bool false] 61)).alloc (.cells #[.int .i64 1, .string ⟨#[]⟩, .int .i64 (-1), .string ⟨#[]⟩, .string ⟨#[]⟩, .bool false] 61)) = x at T0 ⊢
  refine (clone_at _ _ (by omega)).mono ?_
  rintro e w1 ⟨rfl, b1'⟩
  have T1 := hide (T0.out.below b1')
  clear b1' T0
  go_wp2_with fail
  refine (HC.out _ (HM.out.below T1.out.b)).mono ?_
  rintro e w2 ⟨rfl, b2'⟩
  have T2 := hide (T1.out.below b2')
  clear b2' T1
  have c3 : w2.cell? ⟨w.heap.size + 1, 3, none⟩ = some (.string ⟨#[]⟩) := T2.out.cell1 3
  have c4 : w2.cell? ⟨w.heap.size + 1, 4, none⟩ = some (.string ⟨#[]⟩) := T2.out.cell1 4
  have c5 : w2.cell? ⟨w.heap.size + 1, 5, none⟩ = some (.bool false) := T2.out.cell1 5
  have f3 := T2.out.fr1 3
  have f4 := T2.out.fr1 4
  have f5 := T2.out.fr1 5
  go_wp2_with fail
  have T3 := hide (((T2.out.set1 3 (.string pa)).set1 4 (.string qu)).set1 5 (.bool ask))
  clear T2 c3 c4 c5 f3 f4 f5
  generalize (((w2.setCell ⟨w.heap.size + 1, 3, none⟩ (.string pa)).setCell ⟨w.heap.size + 1, 4, none⟩ (.string qu)).setCell ⟨w.heap.size + 1, 5, none⟩ (.bool ask)) = w3 at T3 ⊢
  have d0 : w3.cell? ⟨w.heap.size + 1, 0, none⟩ = some (.int .i64 1) := T3.out.cell1 0
  have d1 : w3.cell? ⟨w.heap.size + 1, 1, none⟩ = some (.string ⟨#[]⟩) := T3.out.cell1 1
  have d2 : w3.cell? ⟨w.heap.size + 1, 2, none⟩ = some (.int .i64 (-1)) := T3.out.cell1 2
  have d3 : w3.cell? ⟨w.heap.size + 1, 3, none⟩ = some (.string pa) := T3.out.cell1 3
  have d4 : w3.cell? ⟨w.heap.size + 1, 4, none⟩ = some (.string qu) := T3.out.cell1 4
  have d5 : w3.cell? ⟨w.heap.size + 1, 5, none⟩ = some (.bool ask) := T3.out.cell1 5
  have r0 : w3.cell? ⟨w.heap.size, 0, none⟩ = some (.int .i64 0) := T3.out.cell0 0
  have r1 : w3.cell? ⟨w.heap.size, 1, none⟩ = some (.string ⟨#[]⟩) := T3.out.cell0 1
  have r2 : w3.cell? ⟨w.heap.size, 2, none⟩ = some (.int .i64 0) := T3.out.cell0 2
  have r3 : w3.cell? ⟨w.heap.size, 3, none⟩ = some (.string ⟨#[]⟩) := T3.out.cell0 3
  have r4 : w3.cell? ⟨w.heap.size, 4, none⟩ = some (.string ⟨#[]⟩) := T3.out.cell0 4
  have r5 : w3.cell? ⟨w.heap.size, 5, none⟩ = some (.bool false) := T3.out.cell0 5
  have g0 := T3.out.fr0 0
  have g1 := T3.out.fr0 1
  have g2 := T3.out.fr0 2
  have g3 := T3.out.fr0 3
  have g4 := T3.out.fr0 4
  have g5 := T3.out.fr0 5
  refine (HH1.out _ hp).mono ?_
  rintro e w' ⟨rfl, rfl⟩
  cases b1 with
  | false =>
    go_wp2
    have T4 := hide ((((((T3.out.set0 0 (.int .i64 1)).set0 1 (.string ⟨#[]⟩)).set0 2 (.int .i64 (-1))).set0 3 (.string pa)).set0 4 (.string qu)).set0 5 (.bool ask))
    generalize ((((((w3.setCell ⟨w.heap.size, 0, none⟩ (.int .i64 1)).setCell ⟨w.heap.size, 1, none⟩ (.string ⟨#[]⟩)).setCell ⟨w.heap.size, 2, none⟩ (.int .i64 (-1))).setCell ⟨w.heap.size, 3, none⟩ (.string pa)).setCell ⟨w.heap.size, 4, none⟩ (.string qu)).setCell ⟨w.heap.size, 5, none⟩ (.bool ask)) = w4 at T4 ⊢
    have k0 : w4.cell? ⟨w.heap.size, 0, none⟩ = some (.int .i64 1) := T4.out.cell0 0
    have k1 : w4.cell? ⟨w.heap.size, 1, none⟩ = some (.string ⟨#[]⟩) := T4.out.cell0 1
    have k2 : w4.cell? ⟨w.heap.size, 2, none⟩ = some (.int .i64 (-1)) := T4.out.cell0 2
    have k3 : w4.cell? ⟨w.heap.size, 3, none⟩ = some (.string pa) := T4.out.cell0 3
    have k4 : w4.cell? ⟨w.heap.size, 4, none⟩ = some (.string qu) := T4.out.cell0 4
    have k5 : w4.cell? ⟨w.heap.size, 5, none⟩ = some (.bool ask) := T4.out.cell0 5
    clear d0 d1 d2 d3 d4 d5 r0 r1 r2 r3 r4 r5 g0 g1 g2 g3 g4 g5
    refine bodyPost_ret (v := .tuple #[tgV 1 ⟨#[]⟩ (-1) pa qu ask, .int .i64 60]) (by simp [results, Tryz.results65, go_sem, k0, k1, k2, k3, k4, k5, tgV]) rfl ⟨rfl, T4.out.b⟩
  | true =>
    go_wp2_with fail
    refine (HH2.out _ hq).mono ?_
    rintro e w' ⟨rfl, rfl⟩
    cases b2 with
    | false =>
      go_wp2
      have T4 := hide ((((((T3.out.set0 0 (.int .i64 1)).set0 1 (.string ⟨#[]⟩)).set0 2 (.int .i64 (-1))).set0 3 (.string pa)).set0 4 (.string qu)).set0 5 (.bool ask))
      generalize ((((((w3.setCell ⟨w.heap.size, 0, none⟩ (.int .i64 1)).setCell ⟨w.heap.size, 1, none⟩ (.string ⟨#[]⟩)).setCell ⟨w.heap.size, 2, none⟩ (.int .i64 (-1))).setCell ⟨w.heap.size, 3, none⟩ (.string pa)).setCell ⟨w.heap.size, 4, none⟩ (.string qu)).setCell ⟨w.heap.size, 5, none⟩ (.bool ask)) = w4 at T4 ⊢
      have k0 : w4.cell? ⟨w.heap.size, 0, none⟩ = some (.int .i64 1) := T4.out.cell0 0
      have k1 : w4.cell? ⟨w.heap.size, 1, none⟩ = some (.string ⟨#[]⟩) := T4.out.cell0 1
      have k2 : w4.cell? ⟨w.heap.size, 2, none⟩ = some (.int .i64 (-1)) := T4.out.cell0 2
      have k3 : w4.cell? ⟨w.heap.size, 3, none⟩ = some (.string pa) := T4.out.cell0 3
      have k4 : w4.cell? ⟨w.heap.size, 4, none⟩ = some (.string qu) := T4.out.cell0 4
      have k5 : w4.cell? ⟨w.heap.size, 5, none⟩ = some (.bool ask) := T4.out.cell0 5
      clear d0 d1 d2 d3 d4 d5 r0 r1 r2 r3 r4 r5 g0 g1 g2 g3 g4 g5
      refine bodyPost_ret (v := .tuple #[tgV 1 ⟨#[]⟩ (-1) pa qu ask, .int .i64 60]) (by simp [results, Tryz.results65, go_sem, k0, k1, k2, k3, k4, k5, tgV]) rfl ⟨rfl, T4.out.b⟩
    | true =>
      go_wp2
      have T4 := hide ((((((T3.out.set0 0 (.int .i64 1)).set0 1 (.string ⟨#[]⟩)).set0 2 (.int .i64 (-1))).set0 3 (.string pa)).set0 4 (.string qu)).set0 5 (.bool ask))
      generalize ((((((w3.setCell ⟨w.heap.size, 0, none⟩ (.int .i64 1)).setCell ⟨w.heap.size, 1, none⟩ (.string ⟨#[]⟩)).setCell ⟨w.heap.size, 2, none⟩ (.int .i64 (-1))).setCell ⟨w.heap.size, 3, none⟩ (.string pa)).setCell ⟨w.heap.size, 4, none⟩ (.string qu)).setCell ⟨w.heap.size, 5, none⟩ (.bool ask)) = w4 at T4 ⊢
      have k0 : w4.cell? ⟨w.heap.size, 0, none⟩ = some (.int .i64 1) := T4.out.cell0 0
      have k1 : w4.cell? ⟨w.heap.size, 1, none⟩ = some (.string ⟨#[]⟩) := T4.out.cell0 1
      have k2 : w4.cell? ⟨w.heap.size, 2, none⟩ = some (.int .i64 (-1)) := T4.out.cell0 2
      have k3 : w4.cell? ⟨w.heap.size, 3, none⟩ = some (.string pa) := T4.out.cell0 3
      have k4 : w4.cell? ⟨w.heap.size, 4, none⟩ = some (.string qu) := T4.out.cell0 4
      have k5 : w4.cell? ⟨w.heap.size, 5, none⟩ = some (.bool ask) := T4.out.cell0 5
      clear d0 d1 d2 d3 d4 d5 r0 r1 r2 r3 r4 r5 g0 g1 g2 g3 g4 g5
      refine bodyPost_ret (v := .tuple #[tgV 1 ⟨#[]⟩ (-1) pa qu ask, .int .i64 0]) (by simp [results, Tryz.results65, go_sem, k0, k1, k2, k3, k4, k5, tgV]) rfl ⟨rfl, T4.out.b⟩

end Go.Proofs.YtekkhjlipijmcaaGreatDoor
