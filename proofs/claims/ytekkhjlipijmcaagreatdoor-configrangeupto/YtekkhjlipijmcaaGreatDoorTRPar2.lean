/- The document's Parse: what is too long, the asterisk, what has no form. -/
import Derived.Test.YtekkhjlipijmcaaGreatDoorTRPar
namespace Go.Proofs.YtekkhjlipijmcaaGreatDoor
open Go.ChangeShapes Go.WideShapes Go.ChangeAt Go.RowKit

set_option maxHeartbeats 1000000 in
theorem rpar_long (m s : ByteArray) (hs : 8192 < s.size) : RParses m s tgZ 2 := by
  intro w
  unfold tgZ tgV
  go_enter Tryz.func37, Tryz.ntmps37
  go_wp2
  have T9 := hide (One.start w #[.int .i64 0, .string ⟨#[]⟩, .int .i64 0, .string ⟨#[]⟩, .string ⟨#[]⟩, .bool false])
  generalize (w.alloc (.cells #[.int .i64 0, .string ⟨#[]⟩, .int .i64 0, .string ⟨#[]⟩, .string ⟨#[]⟩, .bool false] 61)) = w9 at T9 ⊢
  have k0 : w9.cell? ⟨w.heap.size, 0, none⟩ = some (.int .i64 0) := T9.out.cell0 0
  have k1 : w9.cell? ⟨w.heap.size, 1, none⟩ = some (.string ⟨#[]⟩) := T9.out.cell0 1
  have k2 : w9.cell? ⟨w.heap.size, 2, none⟩ = some (.int .i64 0) := T9.out.cell0 2
  have k3 : w9.cell? ⟨w.heap.size, 3, none⟩ = some (.string ⟨#[]⟩) := T9.out.cell0 3
  have k4 : w9.cell? ⟨w.heap.size, 4, none⟩ = some (.string ⟨#[]⟩) := T9.out.cell0 4
  have k5 : w9.cell? ⟨w.heap.size, 5, none⟩ = some (.bool false) := T9.out.cell0 5
  exact bodyPost_ret (v := .tuple #[.agg #[.int .i64 0, .string ⟨#[]⟩, .int .i64 0, .string ⟨#[]⟩, .string ⟨#[]⟩, .bool false], .int .i64 2]) (by simp [results, Tryz.results37, go_sem, k0, k1, k2, k3, k4, k5]) rfl ⟨rfl, T9.out.b⟩
/-- The tests on the method. -/
def NotC (m : ByteArray) : Prop := (m.toList == [67, 79, 78, 78, 69, 67, 84]) = false
theorem notC {m : ByteArray} (h : m.data.toList ≠ connectL) : NotC m := by unfold NotC; rw [str_eq]; exact decide_eq_false h
set_option maxHeartbeats 1000000 in
theorem rpar_ast (m s : ByteArray) (hm : m.data.toList = optionsL) (hl : s.data.toList = [42]) : RParses m s (tgV 4 ⟨#[]⟩ (-1) ⟨#[]⟩ ⟨#[]⟩ false) 0 := by
  intro w
  have hs : s.size ≤ 8192 := by rw [← size_len, hl]; decide
  have t1 : (m.toList == [67, 79, 78, 78, 69, 67, 84]) = false := by rw [str_eq]; exact decide_eq_false (by rw [hm]; decide)
  have t2 : (m.toList == [79, 80, 84, 73, 79, 78, 83]) = true := by rw [str_eq]; exact decide_eq_true hm
  have t3 : (s.toList == [42]) = true := by rw [str_eq]; exact decide_eq_true hl
  clear hm hl
  unfold tgV
  go_enter Tryz.func37, Tryz.ntmps37
  go_wp2
  have T9 := hide (One.start w #[.int .i64 4, .string ⟨#[]⟩, .int .i64 (-1), .string ⟨#[]⟩, .string ⟨#[]⟩, .bool false])
  generalize (w.alloc (.cells #[.int .i64 4, .string ⟨#[]⟩, .int .i64 (-1), .string ⟨#[]⟩, .string ⟨#[]⟩, .bool false] 61)) = w9 at T9 ⊢
  have k0 : w9.cell? ⟨w.heap.size, 0, none⟩ = some (.int .i64 4) := T9.out.cell0 0
  have k1 : w9.cell? ⟨w.heap.size, 1, none⟩ = some (.string ⟨#[]⟩) := T9.out.cell0 1
  have k2 : w9.cell? ⟨w.heap.size, 2, none⟩ = some (.int .i64 (-1)) := T9.out.cell0 2
  have k3 : w9.cell? ⟨w.heap.size, 3, none⟩ = some (.string ⟨#[]⟩) := T9.out.cell0 3
  have k4 : w9.cell? ⟨w.heap.size, 4, none⟩ = some (.string ⟨#[]⟩) := T9.out.cell0 4
  have k5 : w9.cell? ⟨w.heap.size, 5, none⟩ = some (.bool false) := T9.out.cell0 5
  exact bodyPost_ret (v := .tuple #[.agg #[.int .i64 4, .string ⟨#[]⟩, .int .i64 (-1), .string ⟨#[]⟩, .string ⟨#[]⟩, .bool false], .int .i64 0]) (by simp [results, Tryz.results37, go_sem, k0, k1, k2, k3, k4, k5]) rfl ⟨rfl, T9.out.b⟩
theorem http_low : lowerB httpL = httpL := by decide
theorem low_http (s : ByteArray) : ((lowS (s.extract 0 7)).toList != [104, 116, 116, 112, 58, 47, 47]) = !sameB (s.data.toList.take 7) httpL := by
  unfold sameB
  rw [http_low, bne, str_eq, lowS_list, ext_take]
  rfl
set_option maxHeartbeats 2000000 in
theorem rpar_none (m s : ByteArray) (hs : s.size ≤ 8192) (hm : m.data.toList ≠ connectL) (ho : ¬ (m.data.toList = optionsL ∧ s.data.toList = [42])) (hh : s.data.toList.head? ≠ some 47) (h7 : ¬ (7 ≤ s.size ∧ sameB (s.data.toList.take 7) httpL = true)) : RParses m s tgZ 60 := by
  intro w
  have t1 : (m.toList == [67, 79, 78, 78, 69, 67, 84]) = false := notC hm
  have t23 : ((s.toList == [42]) = false) ∨ ((s.toList == [42]) = true ∧ (m.toList == [79, 80, 84, 73, 79, 78, 83]) = false) := by
    rw [str_eq, str_eq]
    by_cases h3 : s.data.toList = [42]
    · exact .inr ⟨decide_eq_true h3, decide_eq_false fun h4 => ho ⟨h4, h3⟩⟩
    · exact .inl (decide_eq_false h3)
  have t47 : ¬ 0 < s.size ∨ ∃ h : 0 < s.size, (((s[0].toNat : Int)) == 47) = false := by
    by_cases h0 : 0 < s.size
    · refine .inr ⟨h0, beq_eq_false_iff_ne.2 fun e => hh ?_⟩
      rw [head_list s h0]
      have : s[0] = 47 := byte_is (n := 47) (by omega) (by decide)
      rw [this]; rfl
    · exact .inl h0
  have hlow := low_http s
  have HL7 := hide (fun (h : 7 ≤ s.size) w => rlower_any (s.extract 0 7) w (by rw [ext_size]; omega))
  clear hm ho hh
  unfold tgZ tgV
  by_cases h7s : 7 ≤ s.size
  · have h7i : ¬ (s.size : Int) < 7 := by omega
    have hb : sameB (s.data.toList.take 7) httpL = false := by rw [Bool.eq_false_iff]; exact fun e => h7 ⟨h7s, e⟩
    rw [hb] at hlow
    have HL := hide (HL7.out h7s)
    clear HL7 h7 hb
    have hlow2 : ((lowS (s.extract 0 7)).toList != [104, 116, 116, 112, 58, 47, 47]) = true := hlow
    have hlow3 : ((lowS (s.extract 0 7)).toList == [104, 116, 116, 112, 58, 47, 47]) = false := by
      rw [bne] at hlow2
      simpa using hlow2
    clear hlow hlow2
    generalize lowS (s.extract 0 7) = low at *
    rcases t47 with t47 | ⟨h0, t47⟩
    · omega
    · have h0i : (0 : Int) < (s.size : Int) := by omega
      rcases t23 with t2 | ⟨t2, t3⟩
      · skip
        go_enter Tryz.func37, Tryz.ntmps37
        go_wp2_with fail
        have T0 := hide (One.start w #[.int .i64 0, .string ⟨#[]⟩, .int .i64 0, .string ⟨#[]⟩, .string ⟨#[]⟩, .bool false])
        generalize (w.alloc (.cells #[.int .i64 0, .string ⟨#[]⟩, .int .i64 0, .string ⟨#[]⟩, .string ⟨#[]⟩, .bool false] 61)) = x at T0 ⊢
        refine (HL.out _).mono ?_
        rintro e w1 ⟨rfl, b1⟩
        have T1 := hide (T0.out.below b1)
        clear b1 T0
        have r0 : w1.cell? ⟨w.heap.size, 0, none⟩ = some (.int .i64 0) := T1.out.cell0 0
        have r1 : w1.cell? ⟨w.heap.size, 1, none⟩ = some (.string ⟨#[]⟩) := T1.out.cell0 1
        have r2 : w1.cell? ⟨w.heap.size, 2, none⟩ = some (.int .i64 0) := T1.out.cell0 2
        have r3 : w1.cell? ⟨w.heap.size, 3, none⟩ = some (.string ⟨#[]⟩) := T1.out.cell0 3
        have r4 : w1.cell? ⟨w.heap.size, 4, none⟩ = some (.string ⟨#[]⟩) := T1.out.cell0 4
        have r5 : w1.cell? ⟨w.heap.size, 5, none⟩ = some (.bool false) := T1.out.cell0 5
        have g0 := T1.out.fr0 0
        have g1 := T1.out.fr0 1
        have g2 := T1.out.fr0 2
        have g3 := T1.out.fr0 3
        have g4 := T1.out.fr0 4
        have g5 := T1.out.fr0 5
        go_wp2
        have T9 := hide ((((((T1.out.set0 0 (.int .i64 0)).set0 1 (.string ⟨#[]⟩)).set0 2 (.int .i64 0)).set0 3 (.string ⟨#[]⟩)).set0 4 (.string ⟨#[]⟩)).set0 5 (.bool false))
        generalize ((((((w1.setCell ⟨w.heap.size, 0, none⟩ (.int .i64 0)).setCell ⟨w.heap.size, 1, none⟩ (.string ⟨#[]⟩)).setCell ⟨w.heap.size, 2, none⟩ (.int .i64 0)).setCell ⟨w.heap.size, 3, none⟩ (.string ⟨#[]⟩)).setCell ⟨w.heap.size, 4, none⟩ (.string ⟨#[]⟩)).setCell ⟨w.heap.size, 5, none⟩ (.bool false)) = w9 at T9 ⊢
        have k0 : w9.cell? ⟨w.heap.size, 0, none⟩ = some (.int .i64 0) := T9.out.cell0 0
        have k1 : w9.cell? ⟨w.heap.size, 1, none⟩ = some (.string ⟨#[]⟩) := T9.out.cell0 1
        have k2 : w9.cell? ⟨w.heap.size, 2, none⟩ = some (.int .i64 0) := T9.out.cell0 2
        have k3 : w9.cell? ⟨w.heap.size, 3, none⟩ = some (.string ⟨#[]⟩) := T9.out.cell0 3
        have k4 : w9.cell? ⟨w.heap.size, 4, none⟩ = some (.string ⟨#[]⟩) := T9.out.cell0 4
        have k5 : w9.cell? ⟨w.heap.size, 5, none⟩ = some (.bool false) := T9.out.cell0 5
        exact bodyPost_ret (v := .tuple #[.agg #[.int .i64 0, .string ⟨#[]⟩, .int .i64 0, .string ⟨#[]⟩, .string ⟨#[]⟩, .bool false], .int .i64 60]) (by simp [results, Tryz.results37, go_sem, k0, k1, k2, k3, k4, k5]) rfl ⟨rfl, T9.out.b⟩
      · skip
        go_enter Tryz.func37, Tryz.ntmps37
        go_wp2_with fail
        have T0 := hide (One.start w #[.int .i64 0, .string ⟨#[]⟩, .int .i64 0, .string ⟨#[]⟩, .string ⟨#[]⟩, .bool false])
        generalize (w.alloc (.cells #[.int .i64 0, .string ⟨#[]⟩, .int .i64 0, .string ⟨#[]⟩, .string ⟨#[]⟩, .bool false] 61)) = x at T0 ⊢
        refine (HL.out _).mono ?_
        rintro e w1 ⟨rfl, b1⟩
        have T1 := hide (T0.out.below b1)
        clear b1 T0
        have r0 : w1.cell? ⟨w.heap.size, 0, none⟩ = some (.int .i64 0) := T1.out.cell0 0
        have r1 : w1.cell? ⟨w.heap.size, 1, none⟩ = some (.string ⟨#[]⟩) := T1.out.cell0 1
        have r2 : w1.cell? ⟨w.heap.size, 2, none⟩ = some (.int .i64 0) := T1.out.cell0 2
        have r3 : w1.cell? ⟨w.heap.size, 3, none⟩ = some (.string ⟨#[]⟩) := T1.out.cell0 3
        have r4 : w1.cell? ⟨w.heap.size, 4, none⟩ = some (.string ⟨#[]⟩) := T1.out.cell0 4
        have r5 : w1.cell? ⟨w.heap.size, 5, none⟩ = some (.bool false) := T1.out.cell0 5
        have g0 := T1.out.fr0 0
        have g1 := T1.out.fr0 1
        have g2 := T1.out.fr0 2
        have g3 := T1.out.fr0 3
        have g4 := T1.out.fr0 4
        have g5 := T1.out.fr0 5
        go_wp2
        have T9 := hide ((((((T1.out.set0 0 (.int .i64 0)).set0 1 (.string ⟨#[]⟩)).set0 2 (.int .i64 0)).set0 3 (.string ⟨#[]⟩)).set0 4 (.string ⟨#[]⟩)).set0 5 (.bool false))
        generalize ((((((w1.setCell ⟨w.heap.size, 0, none⟩ (.int .i64 0)).setCell ⟨w.heap.size, 1, none⟩ (.string ⟨#[]⟩)).setCell ⟨w.heap.size, 2, none⟩ (.int .i64 0)).setCell ⟨w.heap.size, 3, none⟩ (.string ⟨#[]⟩)).setCell ⟨w.heap.size, 4, none⟩ (.string ⟨#[]⟩)).setCell ⟨w.heap.size, 5, none⟩ (.bool false)) = w9 at T9 ⊢
        have k0 : w9.cell? ⟨w.heap.size, 0, none⟩ = some (.int .i64 0) := T9.out.cell0 0
        have k1 : w9.cell? ⟨w.heap.size, 1, none⟩ = some (.string ⟨#[]⟩) := T9.out.cell0 1
        have k2 : w9.cell? ⟨w.heap.size, 2, none⟩ = some (.int .i64 0) := T9.out.cell0 2
        have k3 : w9.cell? ⟨w.heap.size, 3, none⟩ = some (.string ⟨#[]⟩) := T9.out.cell0 3
        have k4 : w9.cell? ⟨w.heap.size, 4, none⟩ = some (.string ⟨#[]⟩) := T9.out.cell0 4
        have k5 : w9.cell? ⟨w.heap.size, 5, none⟩ = some (.bool false) := T9.out.cell0 5
        exact bodyPost_ret (v := .tuple #[.agg #[.int .i64 0, .string ⟨#[]⟩, .int .i64 0, .string ⟨#[]⟩, .string ⟨#[]⟩, .bool false], .int .i64 60]) (by simp [results, Tryz.results37, go_sem, k0, k1, k2, k3, k4, k5]) rfl ⟨rfl, T9.out.b⟩
  · have h7i : (s.size : Int) < 7 := by omega
    clear HL7 hlow h7
    rcases t47 with t47 | ⟨h0, t47⟩
    · have h0i : ¬ (0 : Int) < (s.size : Int) := by omega
      rcases t23 with t2 | ⟨t2, t3⟩
      · skip
        go_enter Tryz.func37, Tryz.ntmps37
        go_wp2
        have T9 := hide (One.start w #[.int .i64 0, .string ⟨#[]⟩, .int .i64 0, .string ⟨#[]⟩, .string ⟨#[]⟩, .bool false])
        generalize (w.alloc (.cells #[.int .i64 0, .string ⟨#[]⟩, .int .i64 0, .string ⟨#[]⟩, .string ⟨#[]⟩, .bool false] 61)) = w9 at T9 ⊢
        have k0 : w9.cell? ⟨w.heap.size, 0, none⟩ = some (.int .i64 0) := T9.out.cell0 0
        have k1 : w9.cell? ⟨w.heap.size, 1, none⟩ = some (.string ⟨#[]⟩) := T9.out.cell0 1
        have k2 : w9.cell? ⟨w.heap.size, 2, none⟩ = some (.int .i64 0) := T9.out.cell0 2
        have k3 : w9.cell? ⟨w.heap.size, 3, none⟩ = some (.string ⟨#[]⟩) := T9.out.cell0 3
        have k4 : w9.cell? ⟨w.heap.size, 4, none⟩ = some (.string ⟨#[]⟩) := T9.out.cell0 4
        have k5 : w9.cell? ⟨w.heap.size, 5, none⟩ = some (.bool false) := T9.out.cell0 5
        exact bodyPost_ret (v := .tuple #[.agg #[.int .i64 0, .string ⟨#[]⟩, .int .i64 0, .string ⟨#[]⟩, .string ⟨#[]⟩, .bool false], .int .i64 60]) (by simp [results, Tryz.results37, go_sem, k0, k1, k2, k3, k4, k5]) rfl ⟨rfl, T9.out.b⟩
      · skip
        go_enter Tryz.func37, Tryz.ntmps37
        go_wp2
        have T9 := hide (One.start w #[.int .i64 0, .string ⟨#[]⟩, .int .i64 0, .string ⟨#[]⟩, .string ⟨#[]⟩, .bool false])
        generalize (w.alloc (.cells #[.int .i64 0, .string ⟨#[]⟩, .int .i64 0, .string ⟨#[]⟩, .string ⟨#[]⟩, .bool false] 61)) = w9 at T9 ⊢
        have k0 : w9.cell? ⟨w.heap.size, 0, none⟩ = some (.int .i64 0) := T9.out.cell0 0
        have k1 : w9.cell? ⟨w.heap.size, 1, none⟩ = some (.string ⟨#[]⟩) := T9.out.cell0 1
        have k2 : w9.cell? ⟨w.heap.size, 2, none⟩ = some (.int .i64 0) := T9.out.cell0 2
        have k3 : w9.cell? ⟨w.heap.size, 3, none⟩ = some (.string ⟨#[]⟩) := T9.out.cell0 3
        have k4 : w9.cell? ⟨w.heap.size, 4, none⟩ = some (.string ⟨#[]⟩) := T9.out.cell0 4
        have k5 : w9.cell? ⟨w.heap.size, 5, none⟩ = some (.bool false) := T9.out.cell0 5
        exact bodyPost_ret (v := .tuple #[.agg #[.int .i64 0, .string ⟨#[]⟩, .int .i64 0, .string ⟨#[]⟩, .string ⟨#[]⟩, .bool false], .int .i64 60]) (by simp [results, Tryz.results37, go_sem, k0, k1, k2, k3, k4, k5]) rfl ⟨rfl, T9.out.b⟩
    · have h0i : (0 : Int) < (s.size : Int) := by omega
      rcases t23 with t2 | ⟨t2, t3⟩
      · skip
        go_enter Tryz.func37, Tryz.ntmps37
        go_wp2
        have T9 := hide (One.start w #[.int .i64 0, .string ⟨#[]⟩, .int .i64 0, .string ⟨#[]⟩, .string ⟨#[]⟩, .bool false])
        generalize (w.alloc (.cells #[.int .i64 0, .string ⟨#[]⟩, .int .i64 0, .string ⟨#[]⟩, .string ⟨#[]⟩, .bool false] 61)) = w9 at T9 ⊢
        have k0 : w9.cell? ⟨w.heap.size, 0, none⟩ = some (.int .i64 0) := T9.out.cell0 0
        have k1 : w9.cell? ⟨w.heap.size, 1, none⟩ = some (.string ⟨#[]⟩) := T9.out.cell0 1
        have k2 : w9.cell? ⟨w.heap.size, 2, none⟩ = some (.int .i64 0) := T9.out.cell0 2
        have k3 : w9.cell? ⟨w.heap.size, 3, none⟩ = some (.string ⟨#[]⟩) := T9.out.cell0 3
        have k4 : w9.cell? ⟨w.heap.size, 4, none⟩ = some (.string ⟨#[]⟩) := T9.out.cell0 4
        have k5 : w9.cell? ⟨w.heap.size, 5, none⟩ = some (.bool false) := T9.out.cell0 5
        exact bodyPost_ret (v := .tuple #[.agg #[.int .i64 0, .string ⟨#[]⟩, .int .i64 0, .string ⟨#[]⟩, .string ⟨#[]⟩, .bool false], .int .i64 60]) (by simp [results, Tryz.results37, go_sem, k0, k1, k2, k3, k4, k5]) rfl ⟨rfl, T9.out.b⟩
      · skip
        go_enter Tryz.func37, Tryz.ntmps37
        go_wp2
        have T9 := hide (One.start w #[.int .i64 0, .string ⟨#[]⟩, .int .i64 0, .string ⟨#[]⟩, .string ⟨#[]⟩, .bool false])
        generalize (w.alloc (.cells #[.int .i64 0, .string ⟨#[]⟩, .int .i64 0, .string ⟨#[]⟩, .string ⟨#[]⟩, .bool false] 61)) = w9 at T9 ⊢
        have k0 : w9.cell? ⟨w.heap.size, 0, none⟩ = some (.int .i64 0) := T9.out.cell0 0
        have k1 : w9.cell? ⟨w.heap.size, 1, none⟩ = some (.string ⟨#[]⟩) := T9.out.cell0 1
        have k2 : w9.cell? ⟨w.heap.size, 2, none⟩ = some (.int .i64 0) := T9.out.cell0 2
        have k3 : w9.cell? ⟨w.heap.size, 3, none⟩ = some (.string ⟨#[]⟩) := T9.out.cell0 3
        have k4 : w9.cell? ⟨w.heap.size, 4, none⟩ = some (.string ⟨#[]⟩) := T9.out.cell0 4
        have k5 : w9.cell? ⟨w.heap.size, 5, none⟩ = some (.bool false) := T9.out.cell0 5
        exact bodyPost_ret (v := .tuple #[.agg #[.int .i64 0, .string ⟨#[]⟩, .int .i64 0, .string ⟨#[]⟩, .string ⟨#[]⟩, .bool false], .int .i64 60]) (by simp [results, Tryz.results37, go_sem, k0, k1, k2, k3, k4, k5]) rfl ⟨rfl, T9.out.b⟩
end Go.Proofs.YtekkhjlipijmcaaGreatDoor
