/- The document's Parse: paths. -/
import Derived.Test.YtekkhjlipijmcaaGreatDoorTRPar2
import Derived.Test.YtekkhjlipijmcaaGreatDoorTLoc
namespace Go.Proofs.YtekkhjlipijmcaaGreatDoor
open Go.ChangeShapes Go.WideShapes Go.ChangeAt Go.RowKit

set_option maxHeartbeats 2000000 in
theorem rpar_origin (m s : ByteArray) (hs : s.size ≤ 8192) (hm : m.data.toList ≠ connectL) (hh : s.data.toList.head? = some 47) : RParses m s (if locB s = true then tgV 1 ⟨#[]⟩ (-1) (cutP s) (cutQ s) (cutA s) else tgZ) (if locB s then 0 else 60) := by
  intro w
  have h0 : 0 < s.size := by
    rw [← size_len]
    cases e : s.data.toList with
    | nil => rw [e] at hh; cases hh
    | cons _ _ => simp
  have hd : s[0] = 47 := by rw [head_list s h0] at hh; simpa using hh
  have t1 : (m.toList == [67, 79, 78, 78, 69, 67, 84]) = false := notC hm
  have t2 : (s.toList == [42]) = false := by rw [str_eq]; exact decide_eq_false (fun e => by rw [e] at hh; simp at hh)
  have t47 : (((s[0].toNat : Int)) == 47) = true := by rw [hd]; rfl
  have h0i : (0 : Int) < (s.size : Int) := by omega
  have hLo := fun w => rlocal_any 1 ⟨#[]⟩ (-1) s w (by omega) h0 hd
  have hlow : 7 ≤ s.size → ((lowS (s.extract 0 7)).toList == [104, 116, 116, 112, 58, 47, 47]) = false := fun h7 => by
    rw [str_eq, lowS_list, ext_take]
    refine decide_eq_false fun e => ?_
    have e2 := congrArg List.head? e
    rw [show s.data.toList.take 7 = s[0] :: (s.data.toList.drop 1).take 6 by rw [head_list s h0]; simp, hd] at e2
    exact absurd e2 (by simp [lowerB]; decide)
  have HL7 := hide (fun (h : 7 ≤ s.size) w => rlower_any (s.extract 0 7) w (by rw [ext_size]; omega))
  clear hm hh hd
  generalize locB s = lb at *
  generalize cutP s = pa at *
  generalize cutQ s = qu at *
  generalize cutA s = ak at *
  unfold tgV at hLo
  have HLo := hide hLo
  clear hLo
  unfold tgZ tgV
  go_enter Tryz.func37, Tryz.ntmps37
  go_wp2_with fail
  have T0 := hide (One.start w #[.int .i64 0, .string ⟨#[]⟩, .int .i64 0, .string ⟨#[]⟩, .string ⟨#[]⟩, .bool false])
  generalize (w.alloc (.cells #[.int .i64 0, .string ⟨#[]⟩, .int .i64 0, .string ⟨#[]⟩, .string ⟨#[]⟩, .bool false] 61)) = x at T0 ⊢
  refine (HLo.out _).mono ?_
  rintro e w1 ⟨rfl, b1⟩
  have T1 := hide (T0.out.below b1)
  clear b1 T0
  go_upto_region 14 with fail
  have T3 := hide (T1.out.below ((Below.refl _ w1).alloc (Nat.le_refl _) (.cells #[.int .i64 1, .string ⟨#[]⟩, .int .i64 (-1), .string pa, .string qu, .bool ak] 61)))
  have HD := hide (hp_new w1 (.cells #[.int .i64 1, .string ⟨#[]⟩, .int .i64 (-1), .string pa, .string qu, .bool ak] 61))
  generalize w1.alloc (.cells #[.int .i64 1, .string ⟨#[]⟩, .int .i64 (-1), .string pa, .string qu, .bool ak] 61) = w3 at T3 HD ⊢
  generalize w1.heap.size = b at HD ⊢
  clear T1
  have d0 : w3.cell? ⟨b, 0, none⟩ = some (.int .i64 1) := cell_at HD.out 0
  have d1 : w3.cell? ⟨b, 1, none⟩ = some (.string ⟨#[]⟩) := cell_at HD.out 1
  have d2 : w3.cell? ⟨b, 2, none⟩ = some (.int .i64 (-1)) := cell_at HD.out 2
  have d3 : w3.cell? ⟨b, 3, none⟩ = some (.string pa) := cell_at HD.out 3
  have d4 : w3.cell? ⟨b, 4, none⟩ = some (.string qu) := cell_at HD.out 4
  have d5 : w3.cell? ⟨b, 5, none⟩ = some (.bool ak) := cell_at HD.out 5
  have r0 : w3.cell? ⟨w.heap.size, 0, none⟩ = some (.int .i64 0) := T3.out.cell0 0
  have r1 : w3.cell? ⟨w.heap.size, 1, none⟩ = some (.string ⟨#[]⟩) := T3.out.cell0 1
  have r2 : w3.cell? ⟨w.heap.size, 2, none⟩ = some (.int .i64 0) := T3.out.cell0 2
  have r3 : w3.cell? ⟨w.heap.size, 3, none⟩ = some (.string ⟨#[]⟩) := T3.out.cell0 3
  have r4 : w3.cell? ⟨w.heap.size, 4, none⟩ = some (.string ⟨#[]⟩) := T3.out.cell0 4
  have r5 : w3.cell? ⟨w.heap.size, 5, none⟩ = some (.bool false) := T3.out.cell0 5
  have g0 := T3.out.fr0 0
  have g1 := T3.out.fr0 1
  have g2 := T3.out.fr0 2
  have g3 := T3.out.fr0 3
  have g4 := T3.out.fr0 4
  have g5 := T3.out.fr0 5
  cases lb with
  | true =>
    go_wp2
    have T9 := hide ((((((T3.out.set0 0 (.int .i64 1)).set0 1 (.string ⟨#[]⟩)).set0 2 (.int .i64 (-1))).set0 3 (.string pa)).set0 4 (.string qu)).set0 5 (.bool ak))
    generalize ((((((w3.setCell ⟨w.heap.size, 0, none⟩ (.int .i64 1)).setCell ⟨w.heap.size, 1, none⟩ (.string ⟨#[]⟩)).setCell ⟨w.heap.size, 2, none⟩ (.int .i64 (-1))).setCell ⟨w.heap.size, 3, none⟩ (.string pa)).setCell ⟨w.heap.size, 4, none⟩ (.string qu)).setCell ⟨w.heap.size, 5, none⟩ (.bool ak)) = w9 at T9 ⊢
    have k0 : w9.cell? ⟨w.heap.size, 0, none⟩ = some (.int .i64 1) := T9.out.cell0 0
    have k1 : w9.cell? ⟨w.heap.size, 1, none⟩ = some (.string ⟨#[]⟩) := T9.out.cell0 1
    have k2 : w9.cell? ⟨w.heap.size, 2, none⟩ = some (.int .i64 (-1)) := T9.out.cell0 2
    have k3 : w9.cell? ⟨w.heap.size, 3, none⟩ = some (.string pa) := T9.out.cell0 3
    have k4 : w9.cell? ⟨w.heap.size, 4, none⟩ = some (.string qu) := T9.out.cell0 4
    have k5 : w9.cell? ⟨w.heap.size, 5, none⟩ = some (.bool ak) := T9.out.cell0 5
    exact bodyPost_ret (v := .tuple #[.agg #[.int .i64 1, .string ⟨#[]⟩, .int .i64 (-1), .string pa, .string qu, .bool ak], .int .i64 0]) (by simp [results, Tryz.results37, go_sem, k0, k1, k2, k3, k4, k5]) rfl ⟨rfl, T9.out.b⟩
  | false =>
    by_cases h7 : 7 ≤ s.size
    · have h7i : ¬ (s.size : Int) < 7 := by omega
      have HL := hide (HL7.out h7)
      have hlo := hlow h7
      clear HL7 hlow d0 d1 d2 d3 d4 d5 r0 r1 r2 r3 r4 r5 g0 g1 g2 g3 g4 g5
      generalize lowS (s.extract 0 7) = low at *
      go_wp2_with fail
      refine (HL.out _).mono ?_
      rintro e w5 ⟨rfl, b5⟩
      have T5 := hide (T3.out.below b5)
      clear b5 T3
      have r0 : w5.cell? ⟨w.heap.size, 0, none⟩ = some (.int .i64 0) := T5.out.cell0 0
      have r1 : w5.cell? ⟨w.heap.size, 1, none⟩ = some (.string ⟨#[]⟩) := T5.out.cell0 1
      have r2 : w5.cell? ⟨w.heap.size, 2, none⟩ = some (.int .i64 0) := T5.out.cell0 2
      have r3 : w5.cell? ⟨w.heap.size, 3, none⟩ = some (.string ⟨#[]⟩) := T5.out.cell0 3
      have r4 : w5.cell? ⟨w.heap.size, 4, none⟩ = some (.string ⟨#[]⟩) := T5.out.cell0 4
      have r5 : w5.cell? ⟨w.heap.size, 5, none⟩ = some (.bool false) := T5.out.cell0 5
      have g0 := T5.out.fr0 0
      have g1 := T5.out.fr0 1
      have g2 := T5.out.fr0 2
      have g3 := T5.out.fr0 3
      have g4 := T5.out.fr0 4
      have g5 := T5.out.fr0 5
      go_wp2
      have T9 := hide ((((((T5.out.set0 0 (.int .i64 0)).set0 1 (.string ⟨#[]⟩)).set0 2 (.int .i64 0)).set0 3 (.string ⟨#[]⟩)).set0 4 (.string ⟨#[]⟩)).set0 5 (.bool false))
      generalize ((((((w5.setCell ⟨w.heap.size, 0, none⟩ (.int .i64 0)).setCell ⟨w.heap.size, 1, none⟩ (.string ⟨#[]⟩)).setCell ⟨w.heap.size, 2, none⟩ (.int .i64 0)).setCell ⟨w.heap.size, 3, none⟩ (.string ⟨#[]⟩)).setCell ⟨w.heap.size, 4, none⟩ (.string ⟨#[]⟩)).setCell ⟨w.heap.size, 5, none⟩ (.bool false)) = w9 at T9 ⊢
      have k0 : w9.cell? ⟨w.heap.size, 0, none⟩ = some (.int .i64 0) := T9.out.cell0 0
      have k1 : w9.cell? ⟨w.heap.size, 1, none⟩ = some (.string ⟨#[]⟩) := T9.out.cell0 1
      have k2 : w9.cell? ⟨w.heap.size, 2, none⟩ = some (.int .i64 0) := T9.out.cell0 2
      have k3 : w9.cell? ⟨w.heap.size, 3, none⟩ = some (.string ⟨#[]⟩) := T9.out.cell0 3
      have k4 : w9.cell? ⟨w.heap.size, 4, none⟩ = some (.string ⟨#[]⟩) := T9.out.cell0 4
      have k5 : w9.cell? ⟨w.heap.size, 5, none⟩ = some (.bool false) := T9.out.cell0 5
      exact bodyPost_ret (v := .tuple #[.agg #[.int .i64 0, .string ⟨#[]⟩, .int .i64 0, .string ⟨#[]⟩, .string ⟨#[]⟩, .bool false], .int .i64 60]) (by simp [results, Tryz.results37, go_sem, k0, k1, k2, k3, k4, k5]) rfl ⟨rfl, T9.out.b⟩
    · have h7i : (s.size : Int) < 7 := by omega
      clear HL7 hlow
      go_wp2
      have T9 := hide ((((((T3.out.set0 0 (.int .i64 0)).set0 1 (.string ⟨#[]⟩)).set0 2 (.int .i64 0)).set0 3 (.string ⟨#[]⟩)).set0 4 (.string ⟨#[]⟩)).set0 5 (.bool false))
      generalize ((((((w3.setCell ⟨w.heap.size, 0, none⟩ (.int .i64 0)).setCell ⟨w.heap.size, 1, none⟩ (.string ⟨#[]⟩)).setCell ⟨w.heap.size, 2, none⟩ (.int .i64 0)).setCell ⟨w.heap.size, 3, none⟩ (.string ⟨#[]⟩)).setCell ⟨w.heap.size, 4, none⟩ (.string ⟨#[]⟩)).setCell ⟨w.heap.size, 5, none⟩ (.bool false)) = w9 at T9 ⊢
      have k0 : w9.cell? ⟨w.heap.size, 0, none⟩ = some (.int .i64 0) := T9.out.cell0 0
      have k1 : w9.cell? ⟨w.heap.size, 1, none⟩ = some (.string ⟨#[]⟩) := T9.out.cell0 1
      have k2 : w9.cell? ⟨w.heap.size, 2, none⟩ = some (.int .i64 0) := T9.out.cell0 2
      have k3 : w9.cell? ⟨w.heap.size, 3, none⟩ = some (.string ⟨#[]⟩) := T9.out.cell0 3
      have k4 : w9.cell? ⟨w.heap.size, 4, none⟩ = some (.string ⟨#[]⟩) := T9.out.cell0 4
      have k5 : w9.cell? ⟨w.heap.size, 5, none⟩ = some (.bool false) := T9.out.cell0 5
      exact bodyPost_ret (v := .tuple #[.agg #[.int .i64 0, .string ⟨#[]⟩, .int .i64 0, .string ⟨#[]⟩, .string ⟨#[]⟩, .bool false], .int .i64 60]) (by simp [results, Tryz.results37, go_sem, k0, k1, k2, k3, k4, k5]) rfl ⟨rfl, T9.out.b⟩
end Go.Proofs.YtekkhjlipijmcaaGreatDoor
