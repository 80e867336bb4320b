/- What a score says -/
import Derived.Test.YtenmegclecepcaaOpn
namespace Go.Proofs.Ytenmegclecepcaa
open Go.ChangeShapes Go.WideShapes Go.ChangeAt Go.RowKit
set_option linter.unusedVariables false

set_option maxRecDepth 100000 in
theorem speaks_any (w : World) : Calls Try.prog 14 #[] w fun e w' => e = .returned (.bool true) ∧ Fr none' w w' := by
  have HN := hide (new_any w)
  go_enter Try.func14, Try.ntmps14
  go_wp2_with fail
  refine HN.out.mono ?_
  rintro e w1 ⟨rfl, B1, F1, z1⟩
  have H1 := hide (add_any w1 _ 0 8 B1 (by omega) (by omega) (by decide))
  rw [show nx 0 8 = 8192 by decide] at H1
  have HF1 := hide F1
  clear B1 F1 z1 HN
  go_wp2_with fail
  refine H1.out.mono ?_
  rintro e w2 ⟨rfl, B2, F2⟩
  have H2 := hide (add_any w2 _ 8192 0 B2 (by omega) (by omega) (by decide))
  rw [show nx 8192 0 = 7168 by decide] at H2
  have HF2 := hide (HF1.out.trans F2 (fun i hi e => by omega))
  clear B2 F2 HF1 H1
  go_wp2_with fail
  refine H2.out.mono ?_
  rintro e w3 ⟨rfl, B3, F3⟩
  have H3 := hide (load_any w3 _ 7168 1 B3 (by omega) (by omega))
  rw [show ldN 7168 1 = 16384 by decide, show ldE 1 = 0 by decide] at H3
  have HF3 := hide (HF2.out.trans F3 (fun i hi e => by omega))
  clear B3 F3 HF2 H2
  go_wp2_with (go_at_call 11; refine H3.out.mono ?_; rintro e w' ⟨rfl, rfl⟩)
  go_ret
  exact ⟨rfl, HF3.out⟩

structure S1 (W wr : World) (b : Nat) (m : Int) : Prop where
  B : Sc wr b m
  F : Fr none' W wr
  lo : W.heap.size ≤ b
  m0 : 0 ≤ m
  m1 : m ≤ 1024000000
theorem S1.put {W wr w2 : World} {b : Nat} {m x : Int} (h : S1 W wr b m) (B : Sc w2 b (nx m x)) (F : Fr (fun k => k = b) wr w2) (hx : smp x = true) : S1 W w2 b (nx m x) :=
  ⟨B, h.F.trans F (fun i hi e => by have := h.lo; omega), h.lo, (nx_le h.m0 h.m1 hx).1, (nx_le h.m0 h.m1 hx).2⟩

/-- What the loops know of what came in. -/
abbrev In (W : World) (ad : Option Addr) (len : Nat) : Prop := ∀ i, i < len → ∃ b off, ∃ (x0 : Int), ad = some ⟨b, off, none⟩ ∧ (W.cell? ⟨b, off + i, none⟩ = some (.int .i64 x0)) ∧ b < W.heap.size ∧ (-9223372036854775808 ≤ x0 ∧ x0 ≤ 9223372036854775807)

end Go.Proofs.Ytenmegclecepcaa
