/- What a target tells in its other forms: by the program. -/
import Derived.Test.YtekkhjlipijmcaaGreatDoorTRead
namespace Go.Proofs.YtekkhjlipijmcaaGreatDoor
open Go.ChangeShapes Go.WideShapes Go.ChangeAt Go.RowKit

set_option maxHeartbeats 1000000 in
theorem read_ast (s : ByteArray) (w : World) :
    Calls Tryz.prog 65 #[.int .i64 4, .string s] w fun e w' => e = .returned (.tuple #[tgV 4 ⟨#[]⟩ (-1) ⟨#[]⟩ ⟨#[]⟩ false, .int .i64 0]) ∧ Below w.heap.size w w' := by
  go_enter Tryz.func65, Tryz.ntmps65
  go_wp2
  have T4 := hide (Two.start w #[.int .i64 4, .string ⟨#[]⟩, .int .i64 (-1), .string ⟨#[]⟩, .string ⟨#[]⟩, .bool false] #[.int .i64 4, .string ⟨#[]⟩, .int .i64 (-1), .string ⟨#[]⟩, .string ⟨#[]⟩, .bool false])
  generalize ((w.alloc (.cells #[.int .i64 4, .string ⟨#[]⟩, .int .i64 (-1), .string ⟨#[]⟩, .string ⟨#[]⟩, .bool false] 61)).alloc (.cells #[.int .i64 4, .string ⟨#[]⟩, .int .i64 (-1), .string ⟨#[]⟩, .string ⟨#[]⟩, .bool false] 61)) = w4 at T4 ⊢
  have k0 : w4.cell? ⟨w.heap.size, 0, none⟩ = some (.int .i64 4) := T4.out.cell0 0
  have k1 : w4.cell? ⟨w.heap.size, 1, none⟩ = some (.string ⟨#[]⟩) := T4.out.cell0 1
  have k2 : w4.cell? ⟨w.heap.size, 2, none⟩ = some (.int .i64 (-1)) := T4.out.cell0 2
  have k3 : w4.cell? ⟨w.heap.size, 3, none⟩ = some (.string ⟨#[]⟩) := T4.out.cell0 3
  have k4 : w4.cell? ⟨w.heap.size, 4, none⟩ = some (.string ⟨#[]⟩) := T4.out.cell0 4
  have k5 : w4.cell? ⟨w.heap.size, 5, none⟩ = some (.bool false) := T4.out.cell0 5
  exact bodyPost_ret (v := .tuple #[tgV 4 ⟨#[]⟩ (-1) ⟨#[]⟩ ⟨#[]⟩ false, .int .i64 0]) (by simp [results, Tryz.results65, go_sem, k0, k1, k2, k3, k4, k5, tgV]) rfl ⟨rfl, T4.out.b⟩

set_option maxHeartbeats 1000000 in
theorem read_none (s : ByteArray) (w : World) :
    Calls Tryz.prog 65 #[.int .i64 0, .string s] w fun e w' => e = .returned (.tuple #[tgV 0 ⟨#[]⟩ (-1) ⟨#[]⟩ ⟨#[]⟩ false, .int .i64 60]) ∧ Below w.heap.size w w' := by
  go_enter Tryz.func65, Tryz.ntmps65
  go_wp2
  have T4 := hide (Two.start w #[.int .i64 0, .string ⟨#[]⟩, .int .i64 (-1), .string ⟨#[]⟩, .string ⟨#[]⟩, .bool false] #[.int .i64 0, .string ⟨#[]⟩, .int .i64 (-1), .string ⟨#[]⟩, .string ⟨#[]⟩, .bool false])
  generalize ((w.alloc (.cells #[.int .i64 0, .string ⟨#[]⟩, .int .i64 (-1), .string ⟨#[]⟩, .string ⟨#[]⟩, .bool false] 61)).alloc (.cells #[.int .i64 0, .string ⟨#[]⟩, .int .i64 (-1), .string ⟨#[]⟩, .string ⟨#[]⟩, .bool false] 61)) = w4 at T4 ⊢
  have k0 : w4.cell? ⟨w.heap.size, 0, none⟩ = some (.int .i64 0) := T4.out.cell0 0
  have k1 : w4.cell? ⟨w.heap.size, 1, none⟩ = some (.string ⟨#[]⟩) := T4.out.cell0 1
  have k2 : w4.cell? ⟨w.heap.size, 2, none⟩ = some (.int .i64 (-1)) := T4.out.cell0 2
  have k3 : w4.cell? ⟨w.heap.size, 3, none⟩ = some (.string ⟨#[]⟩) := T4.out.cell0 3
  have k4 : w4.cell? ⟨w.heap.size, 4, none⟩ = some (.string ⟨#[]⟩) := T4.out.cell0 4
  have k5 : w4.cell? ⟨w.heap.size, 5, none⟩ = some (.bool false) := T4.out.cell0 5
  exact bodyPost_ret (v := .tuple #[tgV 0 ⟨#[]⟩ (-1) ⟨#[]⟩ ⟨#[]⟩ false, .int .i64 60]) (by simp [results, Tryz.results65, go_sem, k0, k1, k2, k3, k4, k5, tgV]) rfl ⟨rfl, T4.out.b⟩

def autE (l : List UInt8) : Int := if hostE l = 0 then (if hostP l = -1 then 62 else 0) else hostE l
set_option maxHeartbeats 1000000 in
theorem read_auth (s : ByteArray) (w : World) (hs : s.size ≤ 8200) :
    Calls Tryz.prog 65 #[.int .i64 3, .string s] w fun e w' => e = .returned (.tuple #[tgV 3 (hostS s) (hostP s.data.toList) ⟨#[]⟩ ⟨#[]⟩ false, .int .i64 (autE s.data.toList)]) ∧ Below w.heap.size w w' := by
  have hH := fun w => host_any s w (by omega)
  unfold autE
  generalize hostS s = hn at hH ⊢
  generalize hostP s.data.toList = hp at hH ⊢
  generalize hostE s.data.toList = he at hH ⊢
  have HH := hide hH
  clear hH
  go_enter Tryz.func65, Tryz.ntmps65
  go_wp2_with fail
  have T0 := hide (Two.start w #[.int .i64 0, .string ⟨#[]⟩, .int .i64 0, .string ⟨#[]⟩, .string ⟨#[]⟩, .bool false] #[.int .i64 3, .string ⟨#[]⟩, .int .i64 (-1), .string ⟨#[]⟩, .string ⟨#[]⟩, .bool false])
  generalize ((w.alloc (.cells #[.int .i64 0, .string ⟨#[]⟩, .int .i64 0, .string ⟨#[]⟩, .string ⟨#[]⟩, .bool false] 61)).alloc (.cells #[.int .i64 3, .string ⟨#[]⟩, .int .i64 (-1), .string ⟨#[]⟩, .string ⟨#[]⟩, .bool false] 61)) = x at T0 ⊢
  refine (HH.out _).mono ?_
  rintro e w2 ⟨rfl, b2'⟩
  have T2 := hide (T0.out.below b2')
  clear b2' T0
  have f1 := T2.out.fr1 1
  have f2 := T2.out.fr1 2
  have T3 := hide ((T2.out.set1 1 (.string hn)).set1 2 (.int .i64 hp))
  have d0 : w2.cell? ⟨w.heap.size + 1, 0, none⟩ = some (.int .i64 3) := T2.out.cell1 0
  have d1 : w2.cell? ⟨w.heap.size + 1, 1, none⟩ = some (.string ⟨#[]⟩) := T2.out.cell1 1
  have d2 : w2.cell? ⟨w.heap.size + 1, 2, none⟩ = some (.int .i64 (-1)) := T2.out.cell1 2
  have d3 : w2.cell? ⟨w.heap.size + 1, 3, none⟩ = some (.string ⟨#[]⟩) := T2.out.cell1 3
  have d4 : w2.cell? ⟨w.heap.size + 1, 4, none⟩ = some (.string ⟨#[]⟩) := T2.out.cell1 4
  have d5 : w2.cell? ⟨w.heap.size + 1, 5, none⟩ = some (.bool false) := T2.out.cell1 5
  have r0 : w2.cell? ⟨w.heap.size, 0, none⟩ = some (.int .i64 0) := T2.out.cell0 0
  have r1 : w2.cell? ⟨w.heap.size, 1, none⟩ = some (.string ⟨#[]⟩) := T2.out.cell0 1
  have r2 : w2.cell? ⟨w.heap.size, 2, none⟩ = some (.int .i64 0) := T2.out.cell0 2
  have r3 : w2.cell? ⟨w.heap.size, 3, none⟩ = some (.string ⟨#[]⟩) := T2.out.cell0 3
  have r4 : w2.cell? ⟨w.heap.size, 4, none⟩ = some (.string ⟨#[]⟩) := T2.out.cell0 4
  have r5 : w2.cell? ⟨w.heap.size, 5, none⟩ = some (.bool false) := T2.out.cell0 5
  have g0 := T2.out.fr0 0
  have g1 := T2.out.fr0 1
  have g2 := T2.out.fr0 2
  have g3 := T2.out.fr0 3
  have g4 := T2.out.fr0 4
  have g5 := T2.out.fr0 5
  by_cases h0 : he = 0
  · have t0 : ((he : Int) == 0) = true := beq_iff_eq.2 (by omega)
    by_cases h1 : hp = -1
    · have t1 : (hp == -1) = true := beq_iff_eq.2 h1
      subst h0 h1
      clear t0 t1
      go_wp2
      have T4 := hide ((((((T3.out.set0 0 (.int .i64 3)).set0 1 (.string hn)).set0 2 (.int .i64 (-1))).set0 3 (.string ⟨#[]⟩)).set0 4 (.string ⟨#[]⟩)).set0 5 (.bool false))
      generalize ((((((((w2.setCell ⟨w.heap.size + 1, 1, none⟩ (.string hn)).setCell ⟨w.heap.size + 1, 2, none⟩ (.int .i64 (-1))).setCell ⟨w.heap.size, 0, none⟩ (.int .i64 3)).setCell ⟨w.heap.size, 1, none⟩ (.string hn)).setCell ⟨w.heap.size, 2, none⟩ (.int .i64 (-1))).setCell ⟨w.heap.size, 3, none⟩ (.string ⟨#[]⟩)).setCell ⟨w.heap.size, 4, none⟩ (.string ⟨#[]⟩)).setCell ⟨w.heap.size, 5, none⟩ (.bool false)) = w4 at T4 ⊢
      have k0 : w4.cell? ⟨w.heap.size, 0, none⟩ = some (.int .i64 3) := T4.out.cell0 0
      have k1 : w4.cell? ⟨w.heap.size, 1, none⟩ = some (.string hn) := T4.out.cell0 1
      have k2 : w4.cell? ⟨w.heap.size, 2, none⟩ = some (.int .i64 (-1)) := T4.out.cell0 2
      have k3 : w4.cell? ⟨w.heap.size, 3, none⟩ = some (.string ⟨#[]⟩) := T4.out.cell0 3
      have k4 : w4.cell? ⟨w.heap.size, 4, none⟩ = some (.string ⟨#[]⟩) := T4.out.cell0 4
      have k5 : w4.cell? ⟨w.heap.size, 5, none⟩ = some (.bool false) := T4.out.cell0 5
      clear d0 d1 d2 d3 d4 d5 r0 r1 r2 r3 r4 r5 g0 g1 g2 g3 g4 g5
      refine bodyPost_ret (v := .tuple #[tgV 3 hn (-1) ⟨#[]⟩ ⟨#[]⟩ false, .int .i64 62]) (by simp [results, Tryz.results65, go_sem, k0, k1, k2, k3, k4, k5, tgV]) rfl ⟨ret_tg ⟨rfl, by first | rfl | simp⟩, T4.out.b⟩
    · have t1 : (hp == -1) = false := beq_eq_false_iff_ne.2 h1
      have H1 := hide h1
      subst h0
      clear h1 t0
      go_wp2
      have T4 := hide ((((((T3.out.set0 0 (.int .i64 3)).set0 1 (.string hn)).set0 2 (.int .i64 hp)).set0 3 (.string ⟨#[]⟩)).set0 4 (.string ⟨#[]⟩)).set0 5 (.bool false))
      generalize ((((((((w2.setCell ⟨w.heap.size + 1, 1, none⟩ (.string hn)).setCell ⟨w.heap.size + 1, 2, none⟩ (.int .i64 hp)).setCell ⟨w.heap.size, 0, none⟩ (.int .i64 3)).setCell ⟨w.heap.size, 1, none⟩ (.string hn)).setCell ⟨w.heap.size, 2, none⟩ (.int .i64 hp)).setCell ⟨w.heap.size, 3, none⟩ (.string ⟨#[]⟩)).setCell ⟨w.heap.size, 4, none⟩ (.string ⟨#[]⟩)).setCell ⟨w.heap.size, 5, none⟩ (.bool false)) = w4 at T4 ⊢
      have k0 : w4.cell? ⟨w.heap.size, 0, none⟩ = some (.int .i64 3) := T4.out.cell0 0
      have k1 : w4.cell? ⟨w.heap.size, 1, none⟩ = some (.string hn) := T4.out.cell0 1
      have k2 : w4.cell? ⟨w.heap.size, 2, none⟩ = some (.int .i64 hp) := T4.out.cell0 2
      have k3 : w4.cell? ⟨w.heap.size, 3, none⟩ = some (.string ⟨#[]⟩) := T4.out.cell0 3
      have k4 : w4.cell? ⟨w.heap.size, 4, none⟩ = some (.string ⟨#[]⟩) := T4.out.cell0 4
      have k5 : w4.cell? ⟨w.heap.size, 5, none⟩ = some (.bool false) := T4.out.cell0 5
      clear d0 d1 d2 d3 d4 d5 r0 r1 r2 r3 r4 r5 g0 g1 g2 g3 g4 g5
      refine bodyPost_ret (v := .tuple #[tgV 3 hn hp ⟨#[]⟩ ⟨#[]⟩ false, .int .i64 0]) (by simp [results, Tryz.results65, go_sem, k0, k1, k2, k3, k4, k5, tgV]) rfl ⟨ret_tg ⟨rfl, by first | rfl | (rw [if_neg H1.out]) | (rw [if_pos rfl, if_neg H1.out])⟩, T4.out.b⟩
  · have t0 : ((he : Int) == 0) = false := beq_eq_false_iff_ne.2 (by omega)
    have H0 := hide h0
    clear h0
    go_wp2
    have T4 := hide ((((((T3.out.set0 0 (.int .i64 3)).set0 1 (.string hn)).set0 2 (.int .i64 hp)).set0 3 (.string ⟨#[]⟩)).set0 4 (.string ⟨#[]⟩)).set0 5 (.bool false))
    generalize ((((((((w2.setCell ⟨w.heap.size + 1, 1, none⟩ (.string hn)).setCell ⟨w.heap.size + 1, 2, none⟩ (.int .i64 hp)).setCell ⟨w.heap.size, 0, none⟩ (.int .i64 3)).setCell ⟨w.heap.size, 1, none⟩ (.string hn)).setCell ⟨w.heap.size, 2, none⟩ (.int .i64 hp)).setCell ⟨w.heap.size, 3, none⟩ (.string ⟨#[]⟩)).setCell ⟨w.heap.size, 4, none⟩ (.string ⟨#[]⟩)).setCell ⟨w.heap.size, 5, none⟩ (.bool false)) = w4 at T4 ⊢
    have k0 : w4.cell? ⟨w.heap.size, 0, none⟩ = some (.int .i64 3) := T4.out.cell0 0
    have k1 : w4.cell? ⟨w.heap.size, 1, none⟩ = some (.string hn) := T4.out.cell0 1
    have k2 : w4.cell? ⟨w.heap.size, 2, none⟩ = some (.int .i64 hp) := T4.out.cell0 2
    have k3 : w4.cell? ⟨w.heap.size, 3, none⟩ = some (.string ⟨#[]⟩) := T4.out.cell0 3
    have k4 : w4.cell? ⟨w.heap.size, 4, none⟩ = some (.string ⟨#[]⟩) := T4.out.cell0 4
    have k5 : w4.cell? ⟨w.heap.size, 5, none⟩ = some (.bool false) := T4.out.cell0 5
    clear d0 d1 d2 d3 d4 d5 r0 r1 r2 r3 r4 r5 g0 g1 g2 g3 g4 g5
    refine bodyPost_ret (v := .tuple #[tgV 3 hn hp ⟨#[]⟩ ⟨#[]⟩ false, .int .i64 he]) (by simp [results, Tryz.results65, go_sem, k0, k1, k2, k3, k4, k5, tgV]) rfl ⟨ret_tg ⟨rfl, by first | rfl | (rw [if_neg H0.out])⟩, T4.out.b⟩
end Go.Proofs.YtekkhjlipijmcaaGreatDoor
