/- The document's Parse: authorities. -/
import Derived.Test.YtekkhjlipijmcaaGreatDoorTSame
import Derived.Test.YtekkhjlipijmcaaGreatDoorTTaken
namespace Go.Proofs.YtekkhjlipijmcaaGreatDoor
open Go.ChangeShapes Go.WideShapes Go.ChangeAt Go.RowKit

def RParses (m s : ByteArray) (t : Value) (re : Int) : Prop := ∀ w : World, Calls Tryz.prog 37 #[.string m, .string s] w fun e w' => e = .returned (.tuple #[t, .int .i64 re]) ∧ Below w.heap.size w w'
theorem portV_ge (d : List UInt8) (h : portV d ≠ -1) : 0 ≤ portV d := by have := portV_le d; omega
set_option maxHeartbeats 2000000 in
theorem rpar_auth (m s : ByteArray) (hs : s.size ≤ 8192) (hm : m.data.toList = connectL) :
    ∃ (re : Int), RParses m s (if re = 0 then tgV 3 (rhostS s) (rhostP s.data.toList) ⟨#[]⟩ ⟨#[]⟩ false else tgZ) re ∧ (re = 0 ↔ rhostE s.data.toList = 0 ∧ 0 ≤ rhostP s.data.toList) := by
  have tm : (m.toList == [67, 79, 78, 78, 69, 67, 84]) = true := by rw [str_eq]; exact decide_eq_true hm
  have hH := fun w => rhost_any s w (by omega)
  generalize rhostS s = hn at hH ⊢
  generalize rhostP s.data.toList = hp at hH ⊢
  generalize rhostE s.data.toList = he at hH ⊢
  have HH := hide hH
  clear hH hm
  by_cases h0 : he = 0
  · subst h0
    by_cases h1 : hp < 0
    · refine ⟨62, fun w => ?_, by omega⟩
      rw [if_neg (by decide)]
      unfold tgZ tgV
      go_enter Tryz.func37, Tryz.ntmps37
      go_wp2_with fail
      have T0 := hide (One.start w #[.int .i64 0, .string ⟨#[]⟩, .int .i64 0, .string ⟨#[]⟩, .string ⟨#[]⟩, .bool false])
      generalize (w.alloc (.cells #[.int .i64 0, .string ⟨#[]⟩, .int .i64 0, .string ⟨#[]⟩, .string ⟨#[]⟩, .bool false] 61)) = x at T0 ⊢
      refine (HH.out _).mono ?_
      rintro e w1 ⟨rfl, b1⟩
      have T1 := hide (T0.out.below b1)
      clear b1 T0
      have r0 : w1.cell? ⟨w.heap.size, 0, none⟩ = some (.int .i64 0) := T1.out.cell0 0
      have r1 : w1.cell? ⟨w.heap.size, 1, none⟩ = some (.string ⟨#[]⟩) := T1.out.cell0 1
      have r2 : w1.cell? ⟨w.heap.size, 2, none⟩ = some (.int .i64 0) := T1.out.cell0 2
      have r3 : w1.cell? ⟨w.heap.size, 3, none⟩ = some (.string ⟨#[]⟩) := T1.out.cell0 3
      have r4 : w1.cell? ⟨w.heap.size, 4, none⟩ = some (.string ⟨#[]⟩) := T1.out.cell0 4
      have r5 : w1.cell? ⟨w.heap.size, 5, none⟩ = some (.bool false) := T1.out.cell0 5
      have g0 := T1.out.fr0 0
      have g1 := T1.out.fr0 1
      have g2 := T1.out.fr0 2
      have g3 := T1.out.fr0 3
      have g4 := T1.out.fr0 4
      have g5 := T1.out.fr0 5
      go_wp2
      have T9 := hide ((((((T1.out.set0 0 (.int .i64 0)).set0 1 (.string ⟨#[]⟩)).set0 2 (.int .i64 0)).set0 3 (.string ⟨#[]⟩)).set0 4 (.string ⟨#[]⟩)).set0 5 (.bool false))
      generalize ((((((w1.setCell ⟨w.heap.size, 0, none⟩ (.int .i64 0)).setCell ⟨w.heap.size, 1, none⟩ (.string ⟨#[]⟩)).setCell ⟨w.heap.size, 2, none⟩ (.int .i64 0)).setCell ⟨w.heap.size, 3, none⟩ (.string ⟨#[]⟩)).setCell ⟨w.heap.size, 4, none⟩ (.string ⟨#[]⟩)).setCell ⟨w.heap.size, 5, none⟩ (.bool false)) = w9 at T9 ⊢
      have k0 : w9.cell? ⟨w.heap.size, 0, none⟩ = some (.int .i64 0) := T9.out.cell0 0
      have k1 : w9.cell? ⟨w.heap.size, 1, none⟩ = some (.string ⟨#[]⟩) := T9.out.cell0 1
      have k2 : w9.cell? ⟨w.heap.size, 2, none⟩ = some (.int .i64 0) := T9.out.cell0 2
      have k3 : w9.cell? ⟨w.heap.size, 3, none⟩ = some (.string ⟨#[]⟩) := T9.out.cell0 3
      have k4 : w9.cell? ⟨w.heap.size, 4, none⟩ = some (.string ⟨#[]⟩) := T9.out.cell0 4
      have k5 : w9.cell? ⟨w.heap.size, 5, none⟩ = some (.bool false) := T9.out.cell0 5
      exact bodyPost_ret (v := .tuple #[.agg #[.int .i64 0, .string ⟨#[]⟩, .int .i64 0, .string ⟨#[]⟩, .string ⟨#[]⟩, .bool false], .int .i64 62]) (by simp [results, Tryz.results37, go_sem, k0, k1, k2, k3, k4, k5]) rfl ⟨rfl, T9.out.b⟩
    · refine ⟨0, fun w => ?_, by omega⟩
      rw [if_pos rfl]
      unfold tgV
      go_enter Tryz.func37, Tryz.ntmps37
      go_wp2_with fail
      have T0 := hide (One.start w #[.int .i64 0, .string ⟨#[]⟩, .int .i64 0, .string ⟨#[]⟩, .string ⟨#[]⟩, .bool false])
      generalize (w.alloc (.cells #[.int .i64 0, .string ⟨#[]⟩, .int .i64 0, .string ⟨#[]⟩, .string ⟨#[]⟩, .bool false] 61)) = x at T0 ⊢
      refine (HH.out _).mono ?_
      rintro e w1 ⟨rfl, b1⟩
      have T1 := hide (T0.out.below b1)
      clear b1 T0
      have r0 : w1.cell? ⟨w.heap.size, 0, none⟩ = some (.int .i64 0) := T1.out.cell0 0
      have r1 : w1.cell? ⟨w.heap.size, 1, none⟩ = some (.string ⟨#[]⟩) := T1.out.cell0 1
      have r2 : w1.cell? ⟨w.heap.size, 2, none⟩ = some (.int .i64 0) := T1.out.cell0 2
      have r3 : w1.cell? ⟨w.heap.size, 3, none⟩ = some (.string ⟨#[]⟩) := T1.out.cell0 3
      have r4 : w1.cell? ⟨w.heap.size, 4, none⟩ = some (.string ⟨#[]⟩) := T1.out.cell0 4
      have r5 : w1.cell? ⟨w.heap.size, 5, none⟩ = some (.bool false) := T1.out.cell0 5
      have g0 := T1.out.fr0 0
      have g1 := T1.out.fr0 1
      have g2 := T1.out.fr0 2
      have g3 := T1.out.fr0 3
      have g4 := T1.out.fr0 4
      have g5 := T1.out.fr0 5
      go_wp2
      have T9 := hide ((((((T1.out.set0 0 (.int .i64 3)).set0 1 (.string hn)).set0 2 (.int .i64 hp)).set0 3 (.string ⟨#[]⟩)).set0 4 (.string ⟨#[]⟩)).set0 5 (.bool false))
      generalize ((((((w1.setCell ⟨w.heap.size, 0, none⟩ (.int .i64 3)).setCell ⟨w.heap.size, 1, none⟩ (.string hn)).setCell ⟨w.heap.size, 2, none⟩ (.int .i64 hp)).setCell ⟨w.heap.size, 3, none⟩ (.string ⟨#[]⟩)).setCell ⟨w.heap.size, 4, none⟩ (.string ⟨#[]⟩)).setCell ⟨w.heap.size, 5, none⟩ (.bool false)) = w9 at T9 ⊢
      have k0 : w9.cell? ⟨w.heap.size, 0, none⟩ = some (.int .i64 3) := T9.out.cell0 0
      have k1 : w9.cell? ⟨w.heap.size, 1, none⟩ = some (.string hn) := T9.out.cell0 1
      have k2 : w9.cell? ⟨w.heap.size, 2, none⟩ = some (.int .i64 hp) := T9.out.cell0 2
      have k3 : w9.cell? ⟨w.heap.size, 3, none⟩ = some (.string ⟨#[]⟩) := T9.out.cell0 3
      have k4 : w9.cell? ⟨w.heap.size, 4, none⟩ = some (.string ⟨#[]⟩) := T9.out.cell0 4
      have k5 : w9.cell? ⟨w.heap.size, 5, none⟩ = some (.bool false) := T9.out.cell0 5
      exact bodyPost_ret (v := .tuple #[.agg #[.int .i64 3, .string hn, .int .i64 hp, .string ⟨#[]⟩, .string ⟨#[]⟩, .bool false], .int .i64 0]) (by simp [results, Tryz.results37, go_sem, k0, k1, k2, k3, k4, k5]) rfl ⟨rfl, T9.out.b⟩
  · refine ⟨he, fun w => ?_, by omega⟩
    rw [if_neg (by omega)]
    unfold tgZ tgV
    have t0 : ((he : Int) == 0) = false := beq_eq_false_iff_ne.2 (by omega)
    have t1 : ((he : Int) != 0) = true := by rw [bne_iff_ne]; omega
    go_enter Tryz.func37, Tryz.ntmps37
    go_wp2_with fail
    have T0 := hide (One.start w #[.int .i64 0, .string ⟨#[]⟩, .int .i64 0, .string ⟨#[]⟩, .string ⟨#[]⟩, .bool false])
    generalize (w.alloc (.cells #[.int .i64 0, .string ⟨#[]⟩, .int .i64 0, .string ⟨#[]⟩, .string ⟨#[]⟩, .bool false] 61)) = x at T0 ⊢
    refine (HH.out _).mono ?_
    rintro e w1 ⟨rfl, b1⟩
    have T1 := hide (T0.out.below b1)
    clear b1 T0
    have r0 : w1.cell? ⟨w.heap.size, 0, none⟩ = some (.int .i64 0) := T1.out.cell0 0
    have r1 : w1.cell? ⟨w.heap.size, 1, none⟩ = some (.string ⟨#[]⟩) := T1.out.cell0 1
    have r2 : w1.cell? ⟨w.heap.size, 2, none⟩ = some (.int .i64 0) := T1.out.cell0 2
    have r3 : w1.cell? ⟨w.heap.size, 3, none⟩ = some (.string ⟨#[]⟩) := T1.out.cell0 3
    have r4 : w1.cell? ⟨w.heap.size, 4, none⟩ = some (.string ⟨#[]⟩) := T1.out.cell0 4
    have r5 : w1.cell? ⟨w.heap.size, 5, none⟩ = some (.bool false) := T1.out.cell0 5
    have g0 := T1.out.fr0 0
    have g1 := T1.out.fr0 1
    have g2 := T1.out.fr0 2
    have g3 := T1.out.fr0 3
    have g4 := T1.out.fr0 4
    have g5 := T1.out.fr0 5
    go_wp2
    have T9 := hide ((((((T1.out.set0 0 (.int .i64 0)).set0 1 (.string ⟨#[]⟩)).set0 2 (.int .i64 0)).set0 3 (.string ⟨#[]⟩)).set0 4 (.string ⟨#[]⟩)).set0 5 (.bool false))
    generalize ((((((w1.setCell ⟨w.heap.size, 0, none⟩ (.int .i64 0)).setCell ⟨w.heap.size, 1, none⟩ (.string ⟨#[]⟩)).setCell ⟨w.heap.size, 2, none⟩ (.int .i64 0)).setCell ⟨w.heap.size, 3, none⟩ (.string ⟨#[]⟩)).setCell ⟨w.heap.size, 4, none⟩ (.string ⟨#[]⟩)).setCell ⟨w.heap.size, 5, none⟩ (.bool false)) = w9 at T9 ⊢
    have k0 : w9.cell? ⟨w.heap.size, 0, none⟩ = some (.int .i64 0) := T9.out.cell0 0
    have k1 : w9.cell? ⟨w.heap.size, 1, none⟩ = some (.string ⟨#[]⟩) := T9.out.cell0 1
    have k2 : w9.cell? ⟨w.heap.size, 2, none⟩ = some (.int .i64 0) := T9.out.cell0 2
    have k3 : w9.cell? ⟨w.heap.size, 3, none⟩ = some (.string ⟨#[]⟩) := T9.out.cell0 3
    have k4 : w9.cell? ⟨w.heap.size, 4, none⟩ = some (.string ⟨#[]⟩) := T9.out.cell0 4
    have k5 : w9.cell? ⟨w.heap.size, 5, none⟩ = some (.bool false) := T9.out.cell0 5
    exact bodyPost_ret (v := .tuple #[.agg #[.int .i64 0, .string ⟨#[]⟩, .int .i64 0, .string ⟨#[]⟩, .string ⟨#[]⟩, .bool false], .int .i64 he]) (by simp [results, Tryz.results37, go_sem, k0, k1, k2, k3, k4, k5]) rfl ⟨rfl, T9.out.b⟩
end Go.Proofs.YtekkhjlipijmcaaGreatDoor
