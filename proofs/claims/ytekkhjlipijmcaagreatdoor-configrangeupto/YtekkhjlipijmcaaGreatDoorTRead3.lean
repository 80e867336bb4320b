/- What a target tells in the absolute form: by the program. -/
import Derived.Test.YtekkhjlipijmcaaGreatDoorTRead2
import Derived.Test.YtekkhjlipijmcaaGreatDoorTAny2
namespace Go.Proofs.YtekkhjlipijmcaaGreatDoor
open Go.ChangeShapes Go.WideShapes Go.ChangeAt Go.RowKit

def absT (s : ByteArray) : ByteArray := s.extract 7 s.size
def absH (s : ByteArray) : ByteArray := (absT s).extract 0 (endN (absT s).data.toList)
def absR (s : ByteArray) : ByteArray := rootS ((absT s).extract (endN (absT s).data.toList) (absT s).size)

set_option maxHeartbeats 2000000 in
theorem read_abs_bad (s : ByteArray) (w : World) (hs : s.size ≤ 8192) (h7 : 7 ≤ s.size) (hbad : hostE (absH s).data.toList ≠ 0) :
    Calls Tryz.prog 65 #[.int .i64 2, .string s] w fun e w' => e = .returned (.tuple #[tgV 2 (hostS (absH s)) (hostP (absH s).data.toList) ⟨#[]⟩ ⟨#[]⟩ false, .int .i64 (hostE (absH s).data.toList : Nat)]) ∧ Below w.heap.size w w' := by
  have hT : (absT s).size = s.size - 7 := by unfold absT; rw [ext_size]; omega
  have hE := fun w => hostend_any (absT s) w (by omega)
  have hH := fun w => host_any (absH s) w (by have : (absH s).size ≤ (absT s).size := (by unfold absH; rw [ext_size]; omega); omega)
  have hle := endN_le (absT s).data.toList
  rw [size_len] at hle
  generalize hostS (absH s) = hn at hH ⊢
  generalize hostP (absH s).data.toList = hp at hH ⊢
  generalize hostE (absH s).data.toList = he at hH hbad ⊢
  unfold absH at hH
  generalize endN (absT s).data.toList = n at hH hE hle 
  have HE := hide hE
  have HH := hide hH
  clear hE hH
  have eT : s.extract 7 s.size = absT s := rfl
  have hnT : ((n : Nat) : Int) ≤ ((absT s).size : Int) := by omega
  have hT8 : (absT s).size ≤ 8192 := by omega
  clear hT
  go_enter Tryz.func65, Tryz.ntmps65
  go_wp2_with fail
  have T0 := hide (Two.start w #[.int .i64 0, .string ⟨#[]⟩, .int .i64 0, .string ⟨#[]⟩, .string ⟨#[]⟩, .bool false] #[.int .i64 2, .string ⟨#[]⟩, .int .i64 (-1), .string ⟨#[]⟩, .string ⟨#[]⟩, .bool false])
  generalize ((w.alloc (.cells #[.int .i64 0, .string ⟨#[]⟩, .int .i64 0, .string ⟨#[]⟩, .string ⟨#[]⟩, .bool false] 61)).alloc (.cells #[.int .i64 2, .string ⟨#[]⟩, .int .i64 (-1), .string ⟨#[]⟩, .string ⟨#[]⟩, .bool false] 61)) = x at T0 ⊢
  clear eT
  generalize absT s = T at *
  refine (HE.out _).mono ?_
  rintro e w1 ⟨rfl, b1'⟩
  have T1 := hide (T0.out.below b1')
  clear b1' T0
  go_wp2_with fail
  refine (HH.out _).mono ?_
  rintro e w2 ⟨rfl, b2'⟩
  have T2 := hide (T1.out.below b2')
  clear b2' T1
  have f1 := T2.out.fr1 1
  have f2 := T2.out.fr1 2
  have tE : ((he : Int) != 0) = true := by rw [bne_iff_ne]; omega
  clear hbad
  have d0 : w2.cell? ⟨w.heap.size + 1, 0, none⟩ = some (.int .i64 2) := T2.out.cell1 0
  have d1 : w2.cell? ⟨w.heap.size + 1, 1, none⟩ = some (.string ⟨#[]⟩) := T2.out.cell1 1
  have d2 : w2.cell? ⟨w.heap.size + 1, 2, none⟩ = some (.int .i64 (-1)) := T2.out.cell1 2
  have d3 : w2.cell? ⟨w.heap.size + 1, 3, none⟩ = some (.string ⟨#[]⟩) := T2.out.cell1 3
  have d4 : w2.cell? ⟨w.heap.size + 1, 4, none⟩ = some (.string ⟨#[]⟩) := T2.out.cell1 4
  have d5 : w2.cell? ⟨w.heap.size + 1, 5, none⟩ = some (.bool false) := T2.out.cell1 5
  have r0 : w2.cell? ⟨w.heap.size, 0, none⟩ = some (.int .i64 0) := T2.out.cell0 0
  have r1 : w2.cell? ⟨w.heap.size, 1, none⟩ = some (.string ⟨#[]⟩) := T2.out.cell0 1
  have r2 : w2.cell? ⟨w.heap.size, 2, none⟩ = some (.int .i64 0) := T2.out.cell0 2
  have r3 : w2.cell? ⟨w.heap.size, 3, none⟩ = some (.string ⟨#[]⟩) := T2.out.cell0 3
  have r4 : w2.cell? ⟨w.heap.size, 4, none⟩ = some (.string ⟨#[]⟩) := T2.out.cell0 4
  have r5 : w2.cell? ⟨w.heap.size, 5, none⟩ = some (.bool false) := T2.out.cell0 5
  have g0 := T2.out.fr0 0
  have g1 := T2.out.fr0 1
  have g2 := T2.out.fr0 2
  have g3 := T2.out.fr0 3
  have g4 := T2.out.fr0 4
  have g5 := T2.out.fr0 5
  have T3 := hide ((T2.out.set1 1 (.string hn)).set1 2 (.int .i64 hp))
  go_wp2
  have T4 := hide ((((((T3.out.set0 0 (.int .i64 2)).set0 1 (.string hn)).set0 2 (.int .i64 hp)).set0 3 (.string ⟨#[]⟩)).set0 4 (.string ⟨#[]⟩)).set0 5 (.bool false))
  generalize ((((((((w2.setCell ⟨w.heap.size + 1, 1, none⟩ (.string hn)).setCell ⟨w.heap.size + 1, 2, none⟩ (.int .i64 hp)).setCell ⟨w.heap.size, 0, none⟩ (.int .i64 2)).setCell ⟨w.heap.size, 1, none⟩ (.string hn)).setCell ⟨w.heap.size, 2, none⟩ (.int .i64 hp)).setCell ⟨w.heap.size, 3, none⟩ (.string ⟨#[]⟩)).setCell ⟨w.heap.size, 4, none⟩ (.string ⟨#[]⟩)).setCell ⟨w.heap.size, 5, none⟩ (.bool false)) = w4 at T4 ⊢
  have k0 : w4.cell? ⟨w.heap.size, 0, none⟩ = some (.int .i64 2) := T4.out.cell0 0
  have k1 : w4.cell? ⟨w.heap.size, 1, none⟩ = some (.string hn) := T4.out.cell0 1
  have k2 : w4.cell? ⟨w.heap.size, 2, none⟩ = some (.int .i64 hp) := T4.out.cell0 2
  have k3 : w4.cell? ⟨w.heap.size, 3, none⟩ = some (.string ⟨#[]⟩) := T4.out.cell0 3
  have k4 : w4.cell? ⟨w.heap.size, 4, none⟩ = some (.string ⟨#[]⟩) := T4.out.cell0 4
  have k5 : w4.cell? ⟨w.heap.size, 5, none⟩ = some (.bool false) := T4.out.cell0 5
  clear d0 d1 d2 d3 d4 d5 r0 r1 r2 r3 r4 r5 g0 g1 g2 g3 g4 g5
  refine bodyPost_ret (v := .tuple #[tgV 2 hn hp ⟨#[]⟩ ⟨#[]⟩ false, .int .i64 he]) (by simp [results, Tryz.results65, go_sem, k0, k1, k2, k3, k4, k5, tgV]) rfl ⟨rfl, T4.out.b⟩
set_option maxHeartbeats 2000000 in
theorem read_abs_ok (s : ByteArray) (w : World) (hs : s.size ≤ 8192) (h7 : 7 ≤ s.size) (hm : MX w) (hbad : hostE (absH s).data.toList = 0) :
    Calls Tryz.prog 65 #[.int .i64 2, .string s] w fun e w' => e = .returned (.tuple #[tgV 2 (hostS (absH s)) (hostP (absH s).data.toList) (cutP (absR s)) (cutQ (absR s)) (cutA (absR s)), .int .i64 (if locB (absR s) then 0 else 60)]) ∧ Below w.heap.size w w' := by
  have HM := hide hm
  clear hm
  have hzr : (absR s).size ≤ 8193 := by
    have h1 := root_size ((absT s).extract (endN (absT s).data.toList) (absT s).size)
    have h2 : ((absT s).extract (endN (absT s).data.toList) (absT s).size).size ≤ (absT s).size := by rw [ext_size]; omega
    have h3 : (absT s).size = s.size - 7 := by unfold absT; rw [ext_size]; omega
    show (rootS _).size ≤ _
    omega
  have hz := cut_size (absR s)
  have hC := fun w => cut_at (absR s) w (by omega)
  have hH1 := fun w => holds_any (cutP (absR s)) ⟨#[45, 46, 95, 126, 33, 36, 38, 39, 40, 41, 42, 43, 44, 59, 61, 58, 64, 47]⟩ w
  have hH2 := fun w => holds_any (cutQ (absR s)) ⟨#[45, 46, 95, 126, 33, 36, 38, 39, 40, 41, 42, 43, 44, 59, 61, 58, 64, 47, 63]⟩ w
  rw [show (⟨#[45, 46, 95, 126, 33, 36, 38, 39, 40, 41, 42, 43, 44, 59, 61, 58, 64, 47]⟩ : ByteArray).data.toList = pathMarks from rfl] at hH1
  rw [show (⟨#[45, 46, 95, 126, 33, 36, 38, 39, 40, 41, 42, 43, 44, 59, 61, 58, 64, 47, 63]⟩ : ByteArray).data.toList = queryMarks from rfl] at hH2
  unfold locB
  generalize holdsB pathMarks (cutP (absR s)).data.toList = b1 at hH1 ⊢
  generalize holdsB queryMarks (cutQ (absR s)).data.toList = b2 at hH2 ⊢
  generalize cutP (absR s) = pa at hz hC hH1 ⊢
  generalize cutQ (absR s) = qu at hz hC hH2 ⊢
  generalize cutA (absR s) = ask at hC ⊢
  have hRo := fun w => rooted_any ((absT s).extract (endN (absT s).data.toList) (absT s).size) w
  rw [show rootS ((absT s).extract (endN (absT s).data.toList) (absT s).size) = absR s from rfl] at hRo
  generalize absR s = R at hz hC hRo hzr
  have hp' : pa.size ≤ maxLen := by unfold maxLen; omega
  have hq' : qu.size ≤ maxLen := by unfold maxLen; omega
  have HC := hide hC
  have HH1 := hide hH1
  have HH2 := hide hH2
  clear hC hH1 hH2
  have hT : (absT s).size = s.size - 7 := by unfold absT; rw [ext_size]; omega
  have hE := fun w => hostend_any (absT s) w (by omega)
  have hH := fun w => host_any (absH s) w (by have : (absH s).size ≤ (absT s).size := (by unfold absH; rw [ext_size]; omega); omega)
  have hle := endN_le (absT s).data.toList
  rw [size_len] at hle
  generalize hostS (absH s) = hn at hH ⊢
  generalize hostP (absH s).data.toList = hp at hH ⊢
  generalize hostE (absH s).data.toList = he at hH hbad ⊢
  unfold absH at hH
  generalize endN (absT s).data.toList = n at hH hE hle hRo
  have HE := hide hE
  have HH := hide hH
  have HRo := hide hRo
  clear hE hH hRo
  have eT : s.extract 7 s.size = absT s := rfl
  have hzt : ((absT s).extract n (absT s).size).size ≤ 8200 := by rw [ext_size]; omega
  have hnT : ((n : Nat) : Int) ≤ ((absT s).size : Int) := by omega
  have hT8 : (absT s).size ≤ 8192 := by omega
  clear hT
  go_enter Tryz.func65, Tryz.ntmps65
  go_wp2_with fail
  have T0 := hide (Two.start w #[.int .i64 0, .string ⟨#[]⟩, .int .i64 0, .string ⟨#[]⟩, .string ⟨#[]⟩, .bool false] #[.int .i64 2, .string ⟨#[]⟩, .int .i64 (-1), .string ⟨#[]⟩, .string ⟨#[]⟩, .bool false])
  generalize ((w.alloc (.cells #[.int .i64 0, .string ⟨#[]⟩, .int .i64 0, .string ⟨#[]⟩, .string ⟨#[]⟩, .bool false] 61)).alloc (.cells #[.int .i64 2, .string ⟨#[]⟩, .int .i64 (-1), .string ⟨#[]⟩, .string ⟨#[]⟩, .bool false] 61)) = x at T0 ⊢
  clear eT
  generalize absT s = T at *
  refine (HE.out _).mono ?_
  rintro e w1 ⟨rfl, b1'⟩
  have T1 := hide (T0.out.below b1')
  clear b1' T0
  go_wp2_with fail
  refine (HH.out _).mono ?_
  rintro e w2 ⟨rfl, b2'⟩
  have T2 := hide (T1.out.below b2')
  clear b2' T1
  have f1 := T2.out.fr1 1
  have f2 := T2.out.fr1 2
  subst hbad
  have d0 : w2.cell? ⟨w.heap.size + 1, 0, none⟩ = some (.int .i64 2) := T2.out.cell1 0
  have d1 : w2.cell? ⟨w.heap.size + 1, 1, none⟩ = some (.string ⟨#[]⟩) := T2.out.cell1 1
  have d2 : w2.cell? ⟨w.heap.size + 1, 2, none⟩ = some (.int .i64 (-1)) := T2.out.cell1 2
  have d3 : w2.cell? ⟨w.heap.size + 1, 3, none⟩ = some (.string ⟨#[]⟩) := T2.out.cell1 3
  have d4 : w2.cell? ⟨w.heap.size + 1, 4, none⟩ = some (.string ⟨#[]⟩) := T2.out.cell1 4
  have d5 : w2.cell? ⟨w.heap.size + 1, 5, none⟩ = some (.bool false) := T2.out.cell1 5
  go_wp2_with fail
  have T3 := hide ((T2.out.set1 1 (.string hn)).set1 2 (.int .i64 hp))
  clear T2 f1 f2 d0 d1 d2 d3 d4 d5
  generalize ((w2.setCell ⟨w.heap.size + 1, 1, none⟩ (.string hn)).setCell ⟨w.heap.size + 1, 2, none⟩ (.int .i64 hp)) = w3 at T3 ⊢
  refine (HRo.out _ hzt).mono ?_
  rintro e w' ⟨rfl, rfl⟩
  go_wp2_with fail
  refine (clone_at _ _ (by omega)).mono ?_
  rintro e w4 ⟨rfl, b4⟩
  have T4 := hide (T3.out.below b4)
  clear b4 T3
  go_wp2_with fail
  refine (HC.out _ (HM.out.below T4.out.b)).mono ?_
  rintro e w5 ⟨rfl, b5⟩
  have T5 := hide (T4.out.below b5)
  clear b5 T4
  have c3 : w5.cell? ⟨w.heap.size + 1, 3, none⟩ = some (.string ⟨#[]⟩) := T5.out.cell1 3
  have c4 : w5.cell? ⟨w.heap.size + 1, 4, none⟩ = some (.string ⟨#[]⟩) := T5.out.cell1 4
  have c5 : w5.cell? ⟨w.heap.size + 1, 5, none⟩ = some (.bool false) := T5.out.cell1 5
  have f3 := T5.out.fr1 3
  have f4 := T5.out.fr1 4
  have f5 := T5.out.fr1 5
  go_wp2_with fail
  have T6 := hide (((T5.out.set1 3 (.string pa)).set1 4 (.string qu)).set1 5 (.bool ask))
  clear T5 c3 c4 c5 f3 f4 f5
  generalize (((w5.setCell ⟨w.heap.size + 1, 3, none⟩ (.string pa)).setCell ⟨w.heap.size + 1, 4, none⟩ (.string qu)).setCell ⟨w.heap.size + 1, 5, none⟩ (.bool ask)) = w6 at T6 ⊢
  have d0 : w6.cell? ⟨w.heap.size + 1, 0, none⟩ = some (.int .i64 2) := T6.out.cell1 0
  have d1 : w6.cell? ⟨w.heap.size + 1, 1, none⟩ = some (.string hn) := T6.out.cell1 1
  have d2 : w6.cell? ⟨w.heap.size + 1, 2, none⟩ = some (.int .i64 hp) := T6.out.cell1 2
  have d3 : w6.cell? ⟨w.heap.size + 1, 3, none⟩ = some (.string pa) := T6.out.cell1 3
  have d4 : w6.cell? ⟨w.heap.size + 1, 4, none⟩ = some (.string qu) := T6.out.cell1 4
  have d5 : w6.cell? ⟨w.heap.size + 1, 5, none⟩ = some (.bool ask) := T6.out.cell1 5
  have r0 : w6.cell? ⟨w.heap.size, 0, none⟩ = some (.int .i64 0) := T6.out.cell0 0
  have r1 : w6.cell? ⟨w.heap.size, 1, none⟩ = some (.string ⟨#[]⟩) := T6.out.cell0 1
  have r2 : w6.cell? ⟨w.heap.size, 2, none⟩ = some (.int .i64 0) := T6.out.cell0 2
  have r3 : w6.cell? ⟨w.heap.size, 3, none⟩ = some (.string ⟨#[]⟩) := T6.out.cell0 3
  have r4 : w6.cell? ⟨w.heap.size, 4, none⟩ = some (.string ⟨#[]⟩) := T6.out.cell0 4
  have r5 : w6.cell? ⟨w.heap.size, 5, none⟩ = some (.bool false) := T6.out.cell0 5
  have g0 := T6.out.fr0 0
  have g1 := T6.out.fr0 1
  have g2 := T6.out.fr0 2
  have g3 := T6.out.fr0 3
  have g4 := T6.out.fr0 4
  have g5 := T6.out.fr0 5
  refine (HH1.out _ hp').mono ?_
  rintro e w' ⟨rfl, rfl⟩
  cases b1 with
  | false =>
    go_wp2
    have T9 := hide ((((((T6.out.set0 0 (.int .i64 2)).set0 1 (.string hn)).set0 2 (.int .i64 hp)).set0 3 (.string pa)).set0 4 (.string qu)).set0 5 (.bool ask))
    generalize ((((((w6.setCell ⟨w.heap.size, 0, none⟩ (.int .i64 2)).setCell ⟨w.heap.size, 1, none⟩ (.string hn)).setCell ⟨w.heap.size, 2, none⟩ (.int .i64 hp)).setCell ⟨w.heap.size, 3, none⟩ (.string pa)).setCell ⟨w.heap.size, 4, none⟩ (.string qu)).setCell ⟨w.heap.size, 5, none⟩ (.bool ask)) = w9 at T9 ⊢
    have k0 : w9.cell? ⟨w.heap.size, 0, none⟩ = some (.int .i64 2) := T9.out.cell0 0
    have k1 : w9.cell? ⟨w.heap.size, 1, none⟩ = some (.string hn) := T9.out.cell0 1
    have k2 : w9.cell? ⟨w.heap.size, 2, none⟩ = some (.int .i64 hp) := T9.out.cell0 2
    have k3 : w9.cell? ⟨w.heap.size, 3, none⟩ = some (.string pa) := T9.out.cell0 3
    have k4 : w9.cell? ⟨w.heap.size, 4, none⟩ = some (.string qu) := T9.out.cell0 4
    have k5 : w9.cell? ⟨w.heap.size, 5, none⟩ = some (.bool ask) := T9.out.cell0 5
    clear d0 d1 d2 d3 d4 d5 r0 r1 r2 r3 r4 r5 g0 g1 g2 g3 g4 g5
    refine bodyPost_ret (v := .tuple #[tgV 2 hn hp pa qu ask, .int .i64 60]) (by simp [results, Tryz.results65, go_sem, k0, k1, k2, k3, k4, k5, tgV]) rfl ⟨rfl, T9.out.b⟩
  | true =>
    go_wp2_with fail
    refine (HH2.out _ hq').mono ?_
    rintro e w' ⟨rfl, rfl⟩
    cases b2 with
    | false =>
      go_wp2
      have T9 := hide ((((((T6.out.set0 0 (.int .i64 2)).set0 1 (.string hn)).set0 2 (.int .i64 hp)).set0 3 (.string pa)).set0 4 (.string qu)).set0 5 (.bool ask))
      generalize ((((((w6.setCell ⟨w.heap.size, 0, none⟩ (.int .i64 2)).setCell ⟨w.heap.size, 1, none⟩ (.string hn)).setCell ⟨w.heap.size, 2, none⟩ (.int .i64 hp)).setCell ⟨w.heap.size, 3, none⟩ (.string pa)).setCell ⟨w.heap.size, 4, none⟩ (.string qu)).setCell ⟨w.heap.size, 5, none⟩ (.bool ask)) = w9 at T9 ⊢
      have k0 : w9.cell? ⟨w.heap.size, 0, none⟩ = some (.int .i64 2) := T9.out.cell0 0
      have k1 : w9.cell? ⟨w.heap.size, 1, none⟩ = some (.string hn) := T9.out.cell0 1
      have k2 : w9.cell? ⟨w.heap.size, 2, none⟩ = some (.int .i64 hp) := T9.out.cell0 2
      have k3 : w9.cell? ⟨w.heap.size, 3, none⟩ = some (.string pa) := T9.out.cell0 3
      have k4 : w9.cell? ⟨w.heap.size, 4, none⟩ = some (.string qu) := T9.out.cell0 4
      have k5 : w9.cell? ⟨w.heap.size, 5, none⟩ = some (.bool ask) := T9.out.cell0 5
      clear d0 d1 d2 d3 d4 d5 r0 r1 r2 r3 r4 r5 g0 g1 g2 g3 g4 g5
      refine bodyPost_ret (v := .tuple #[tgV 2 hn hp pa qu ask, .int .i64 60]) (by simp [results, Tryz.results65, go_sem, k0, k1, k2, k3, k4, k5, tgV]) rfl ⟨rfl, T9.out.b⟩
    | true =>
      go_wp2
      have T9 := hide ((((((T6.out.set0 0 (.int .i64 2)).set0 1 (.string hn)).set0 2 (.int .i64 hp)).set0 3 (.string pa)).set0 4 (.string qu)).set0 5 (.bool ask))
      generalize ((((((w6.setCell ⟨w.heap.size, 0, none⟩ (.int .i64 2)).setCell ⟨w.heap.size, 1, none⟩ (.string hn)).setCell ⟨w.heap.size, 2, none⟩ (.int .i64 hp)).setCell ⟨w.heap.size, 3, none⟩ (.string pa)).setCell ⟨w.heap.size, 4, none⟩ (.string qu)).setCell ⟨w.heap.size, 5, none⟩ (.bool ask)) = w9 at T9 ⊢
      have k0 : w9.cell? ⟨w.heap.size, 0, none⟩ = some (.int .i64 2) := T9.out.cell0 0
      have k1 : w9.cell? ⟨w.heap.size, 1, none⟩ = some (.string hn) := T9.out.cell0 1
      have k2 : w9.cell? ⟨w.heap.size, 2, none⟩ = some (.int .i64 hp) := T9.out.cell0 2
      have k3 : w9.cell? ⟨w.heap.size, 3, none⟩ = some (.string pa) := T9.out.cell0 3
      have k4 : w9.cell? ⟨w.heap.size, 4, none⟩ = some (.string qu) := T9.out.cell0 4
      have k5 : w9.cell? ⟨w.heap.size, 5, none⟩ = some (.bool ask) := T9.out.cell0 5
      clear d0 d1 d2 d3 d4 d5 r0 r1 r2 r3 r4 r5 g0 g1 g2 g3 g4 g5
      refine bodyPost_ret (v := .tuple #[tgV 2 hn hp pa qu ask, .int .i64 0]) (by simp [results, Tryz.results65, go_sem, k0, k1, k2, k3, k4, k5, tgV]) rfl ⟨rfl, T9.out.b⟩
end Go.Proofs.YtekkhjlipijmcaaGreatDoor
