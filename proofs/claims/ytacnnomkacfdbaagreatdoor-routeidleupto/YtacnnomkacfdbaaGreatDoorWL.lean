/- WL: TRPar TRPar2 TRPar3 TRPar4. -/
import Derived.Test.YtacnnomkacfdbaaGreatDoorWJ
import Derived.Test.YtacnnomkacfdbaaGreatDoorWD
import Derived.Test.YtacnnomkacfdbaaGreatDoorWK
/- The document's Parse: authorities. -/
namespace Go.Proofs.YtacnnomkacfdbaaGreatDoor
open Go.ChangeShapes Go.WideShapes Go.ChangeAt Go.RowKit

def RParses (m s : ByteArray) (t : Value) (re : Int) : Prop := ∀ w : World, Calls Tryz.prog 69 #[.string m, .string s] w fun e w' => e = .returned (.tuple #[t, .int .i64 re]) ∧ Below w.heap.size w w'
theorem portV_ge (d : List UInt8) (h : portV d ≠ -1) : 0 ≤ portV d := by have := portV_le d; omega
set_option maxHeartbeats 2000000 in
theorem rpar_auth (m s : ByteArray) (hs : s.size ≤ 8192) (hm : m.data.toList = connectL) :
    ∃ (re : Int), RParses m s (if re = 0 then tgV 3 (rhostS s) (rhostP s.data.toList) ⟨#[]⟩ ⟨#[]⟩ false else tgZ) re ∧ (re = 0 ↔ rhostE s.data.toList = 0 ∧ 0 ≤ rhostP s.data.toList) := by
  have tm : (m.toList == [67, 79, 78, 78, 69, 67, 84]) = true := by rw [str_eq]; exact decide_eq_true hm
  have hH := fun w => rhost_any s w (by omega)
  generalize rhostS s = hn at hH ⊢
  generalize rhostP s.data.toList = hp at hH ⊢
  generalize rhostE s.data.toList = he at hH ⊢
  have HH := hide hH
  clear hH hm
  by_cases h0 : he = 0
  · subst h0
    by_cases h1 : hp < 0
    · refine ⟨62, fun w => ?_, by omega⟩
      rw [if_neg (by decide)]
      unfold tgZ tgV
      go_enter Tryz.func69, Tryz.ntmps69
      go_wp2_with fail
      have T0 := hide (One.start w #[.int .i64 0, .string ⟨#[]⟩, .int .i64 0, .string ⟨#[]⟩, .string ⟨#[]⟩, .bool false])
      generalize (w.alloc (.cells #[.int .i64 0, .string ⟨#[]⟩, .int .i64 0, .string ⟨#[]⟩, .string ⟨#[]⟩, .bool false] 53)) = x at T0 ⊢
      refine (HH.out _).mono ?_
      rintro e w1 ⟨rfl, b1⟩
      have T1 := hide (T0.out.below b1)
      clear b1 T0
      have r0 : w1.cell? ⟨w.heap.size, 0, none⟩ = some (.int .i64 0) := T1.out.cell0 0
      have r1 : w1.cell? ⟨w.heap.size, 1, none⟩ = some (.string ⟨#[]⟩) := T1.out.cell0 1
      have r2 : w1.cell? ⟨w.heap.size, 2, none⟩ = some (.int .i64 0) := T1.out.cell0 2
      have r3 : w1.cell? ⟨w.heap.size, 3, none⟩ = some (.string ⟨#[]⟩) := T1.out.cell0 3
      have r4 : w1.cell? ⟨w.heap.size, 4, none⟩ = some (.string ⟨#[]⟩) := T1.out.cell0 4
      have r5 : w1.cell? ⟨w.heap.size, 5, none⟩ = some (.bool false) := T1.out.cell0 5
      have g0 := T1.out.fr0 0
      have g1 := T1.out.fr0 1
      have g2 := T1.out.fr0 2
      have g3 := T1.out.fr0 3
      have g4 := T1.out.fr0 4
      have g5 := T1.out.fr0 5
      go_wp2
      have T9 := hide ((((((T1.out.set0 0 (.int .i64 0)).set0 1 (.string ⟨#[]⟩)).set0 2 (.int .i64 0)).set0 3 (.string ⟨#[]⟩)).set0 4 (.string ⟨#[]⟩)).set0 5 (.bool false))
      generalize ((((((w1.setCell ⟨w.heap.size, 0, none⟩ (.int .i64 0)).setCell ⟨w.heap.size, 1, none⟩ (.string ⟨#[]⟩)).setCell ⟨w.heap.size, 2, none⟩ (.int .i64 0)).setCell ⟨w.heap.size, 3, none⟩ (.string ⟨#[]⟩)).setCell ⟨w.heap.size, 4, none⟩ (.string ⟨#[]⟩)).setCell ⟨w.heap.size, 5, none⟩ (.bool false)) = w9 at T9 ⊢
      have k0 : w9.cell? ⟨w.heap.size, 0, none⟩ = some (.int .i64 0) := T9.out.cell0 0
      have k1 : w9.cell? ⟨w.heap.size, 1, none⟩ = some (.string ⟨#[]⟩) := T9.out.cell0 1
      have k2 : w9.cell? ⟨w.heap.size, 2, none⟩ = some (.int .i64 0) := T9.out.cell0 2
      have k3 : w9.cell? ⟨w.heap.size, 3, none⟩ = some (.string ⟨#[]⟩) := T9.out.cell0 3
      have k4 : w9.cell? ⟨w.heap.size, 4, none⟩ = some (.string ⟨#[]⟩) := T9.out.cell0 4
      have k5 : w9.cell? ⟨w.heap.size, 5, none⟩ = some (.bool false) := T9.out.cell0 5
      exact bodyPost_ret (v := .tuple #[.agg #[.int .i64 0, .string ⟨#[]⟩, .int .i64 0, .string ⟨#[]⟩, .string ⟨#[]⟩, .bool false], .int .i64 62]) (by simp [results, Tryz.results69, go_sem, k0, k1, k2, k3, k4, k5]) rfl ⟨rfl, T9.out.b⟩
    · refine ⟨0, fun w => ?_, by omega⟩
      rw [if_pos rfl]
      unfold tgV
      go_enter Tryz.func69, Tryz.ntmps69
      go_wp2_with fail
      have T0 := hide (One.start w #[.int .i64 0, .string ⟨#[]⟩, .int .i64 0, .string ⟨#[]⟩, .string ⟨#[]⟩, .bool false])
      generalize (w.alloc (.cells #[.int .i64 0, .string ⟨#[]⟩, .int .i64 0, .string ⟨#[]⟩, .string ⟨#[]⟩, .bool false] 53)) = x at T0 ⊢
      refine (HH.out _).mono ?_
      rintro e w1 ⟨rfl, b1⟩
      have T1 := hide (T0.out.below b1)
      clear b1 T0
      have r0 : w1.cell? ⟨w.heap.size, 0, none⟩ = some (.int .i64 0) := T1.out.cell0 0
      have r1 : w1.cell? ⟨w.heap.size, 1, none⟩ = some (.string ⟨#[]⟩) := T1.out.cell0 1
      have r2 : w1.cell? ⟨w.heap.size, 2, none⟩ = some (.int .i64 0) := T1.out.cell0 2
      have r3 : w1.cell? ⟨w.heap.size, 3, none⟩ = some (.string ⟨#[]⟩) := T1.out.cell0 3
      have r4 : w1.cell? ⟨w.heap.size, 4, none⟩ = some (.string ⟨#[]⟩) := T1.out.cell0 4
      have r5 : w1.cell? ⟨w.heap.size, 5, none⟩ = some (.bool false) := T1.out.cell0 5
      have g0 := T1.out.fr0 0
      have g1 := T1.out.fr0 1
      have g2 := T1.out.fr0 2
      have g3 := T1.out.fr0 3
      have g4 := T1.out.fr0 4
      have g5 := T1.out.fr0 5
      go_wp2
      have T9 := hide ((((((T1.out.set0 0 (.int .i64 3)).set0 1 (.string hn)).set0 2 (.int .i64 hp)).set0 3 (.string ⟨#[]⟩)).set0 4 (.string ⟨#[]⟩)).set0 5 (.bool false))
      generalize ((((((w1.setCell ⟨w.heap.size, 0, none⟩ (.int .i64 3)).setCell ⟨w.heap.size, 1, none⟩ (.string hn)).setCell ⟨w.heap.size, 2, none⟩ (.int .i64 hp)).setCell ⟨w.heap.size, 3, none⟩ (.string ⟨#[]⟩)).setCell ⟨w.heap.size, 4, none⟩ (.string ⟨#[]⟩)).setCell ⟨w.heap.size, 5, none⟩ (.bool false)) = w9 at T9 ⊢
      have k0 : w9.cell? ⟨w.heap.size, 0, none⟩ = some (.int .i64 3) := T9.out.cell0 0
      have k1 : w9.cell? ⟨w.heap.size, 1, none⟩ = some (.string hn) := T9.out.cell0 1
      have k2 : w9.cell? ⟨w.heap.size, 2, none⟩ = some (.int .i64 hp) := T9.out.cell0 2
      have k3 : w9.cell? ⟨w.heap.size, 3, none⟩ = some (.string ⟨#[]⟩) := T9.out.cell0 3
      have k4 : w9.cell? ⟨w.heap.size, 4, none⟩ = some (.string ⟨#[]⟩) := T9.out.cell0 4
      have k5 : w9.cell? ⟨w.heap.size, 5, none⟩ = some (.bool false) := T9.out.cell0 5
      exact bodyPost_ret (v := .tuple #[.agg #[.int .i64 3, .string hn, .int .i64 hp, .string ⟨#[]⟩, .string ⟨#[]⟩, .bool false], .int .i64 0]) (by simp [results, Tryz.results69, go_sem, k0, k1, k2, k3, k4, k5]) rfl ⟨rfl, T9.out.b⟩
  · refine ⟨he, fun w => ?_, by omega⟩
    rw [if_neg (by omega)]
    unfold tgZ tgV
    have t0 : ((he : Int) == 0) = false := beq_eq_false_iff_ne.2 (by omega)
    have t1 : ((he : Int) != 0) = true := by rw [bne_iff_ne]; omega
    go_enter Tryz.func69, Tryz.ntmps69
    go_wp2_with fail
    have T0 := hide (One.start w #[.int .i64 0, .string ⟨#[]⟩, .int .i64 0, .string ⟨#[]⟩, .string ⟨#[]⟩, .bool false])
    generalize (w.alloc (.cells #[.int .i64 0, .string ⟨#[]⟩, .int .i64 0, .string ⟨#[]⟩, .string ⟨#[]⟩, .bool false] 53)) = x at T0 ⊢
    refine (HH.out _).mono ?_
    rintro e w1 ⟨rfl, b1⟩
    have T1 := hide (T0.out.below b1)
    clear b1 T0
    have r0 : w1.cell? ⟨w.heap.size, 0, none⟩ = some (.int .i64 0) := T1.out.cell0 0
    have r1 : w1.cell? ⟨w.heap.size, 1, none⟩ = some (.string ⟨#[]⟩) := T1.out.cell0 1
    have r2 : w1.cell? ⟨w.heap.size, 2, none⟩ = some (.int .i64 0) := T1.out.cell0 2
    have r3 : w1.cell? ⟨w.heap.size, 3, none⟩ = some (.string ⟨#[]⟩) := T1.out.cell0 3
    have r4 : w1.cell? ⟨w.heap.size, 4, none⟩ = some (.string ⟨#[]⟩) := T1.out.cell0 4
    have r5 : w1.cell? ⟨w.heap.size, 5, none⟩ = some (.bool false) := T1.out.cell0 5
    have g0 := T1.out.fr0 0
    have g1 := T1.out.fr0 1
    have g2 := T1.out.fr0 2
    have g3 := T1.out.fr0 3
    have g4 := T1.out.fr0 4
    have g5 := T1.out.fr0 5
    go_wp2
    have T9 := hide ((((((T1.out.set0 0 (.int .i64 0)).set0 1 (.string ⟨#[]⟩)).set0 2 (.int .i64 0)).set0 3 (.string ⟨#[]⟩)).set0 4 (.string ⟨#[]⟩)).set0 5 (.bool false))
    generalize ((((((w1.setCell ⟨w.heap.size, 0, none⟩ (.int .i64 0)).setCell ⟨w.heap.size, 1, none⟩ (.string ⟨#[]⟩)).setCell ⟨w.heap.size, 2, none⟩ (.int .i64 0)).setCell ⟨w.heap.size, 3, none⟩ (.string ⟨#[]⟩)).setCell ⟨w.heap.size, 4, none⟩ (.string ⟨#[]⟩)).setCell ⟨w.heap.size, 5, none⟩ (.bool false)) = w9 at T9 ⊢
    have k0 : w9.cell? ⟨w.heap.size, 0, none⟩ = some (.int .i64 0) := T9.out.cell0 0
    have k1 : w9.cell? ⟨w.heap.size, 1, none⟩ = some (.string ⟨#[]⟩) := T9.out.cell0 1
    have k2 : w9.cell? ⟨w.heap.size, 2, none⟩ = some (.int .i64 0) := T9.out.cell0 2
    have k3 : w9.cell? ⟨w.heap.size, 3, none⟩ = some (.string ⟨#[]⟩) := T9.out.cell0 3
    have k4 : w9.cell? ⟨w.heap.size, 4, none⟩ = some (.string ⟨#[]⟩) := T9.out.cell0 4
    have k5 : w9.cell? ⟨w.heap.size, 5, none⟩ = some (.bool false) := T9.out.cell0 5
    exact bodyPost_ret (v := .tuple #[.agg #[.int .i64 0, .string ⟨#[]⟩, .int .i64 0, .string ⟨#[]⟩, .string ⟨#[]⟩, .bool false], .int .i64 he]) (by simp [results, Tryz.results69, go_sem, k0, k1, k2, k3, k4, k5]) rfl ⟨rfl, T9.out.b⟩
end Go.Proofs.YtacnnomkacfdbaaGreatDoor
/- The document's Parse: what is too long, the asterisk, what has no form. -/
namespace Go.Proofs.YtacnnomkacfdbaaGreatDoor
open Go.ChangeShapes Go.WideShapes Go.ChangeAt Go.RowKit

set_option maxHeartbeats 1000000 in
theorem rpar_long (m s : ByteArray) (hs : 8192 < s.size) : RParses m s tgZ 2 := by
  intro w
  unfold tgZ tgV
  go_enter Tryz.func69, Tryz.ntmps69
  go_wp2
  have T9 := hide (One.start w #[.int .i64 0, .string ⟨#[]⟩, .int .i64 0, .string ⟨#[]⟩, .string ⟨#[]⟩, .bool false])
  generalize (w.alloc (.cells #[.int .i64 0, .string ⟨#[]⟩, .int .i64 0, .string ⟨#[]⟩, .string ⟨#[]⟩, .bool false] 53)) = w9 at T9 ⊢
  have k0 : w9.cell? ⟨w.heap.size, 0, none⟩ = some (.int .i64 0) := T9.out.cell0 0
  have k1 : w9.cell? ⟨w.heap.size, 1, none⟩ = some (.string ⟨#[]⟩) := T9.out.cell0 1
  have k2 : w9.cell? ⟨w.heap.size, 2, none⟩ = some (.int .i64 0) := T9.out.cell0 2
  have k3 : w9.cell? ⟨w.heap.size, 3, none⟩ = some (.string ⟨#[]⟩) := T9.out.cell0 3
  have k4 : w9.cell? ⟨w.heap.size, 4, none⟩ = some (.string ⟨#[]⟩) := T9.out.cell0 4
  have k5 : w9.cell? ⟨w.heap.size, 5, none⟩ = some (.bool false) := T9.out.cell0 5
  exact bodyPost_ret (v := .tuple #[.agg #[.int .i64 0, .string ⟨#[]⟩, .int .i64 0, .string ⟨#[]⟩, .string ⟨#[]⟩, .bool false], .int .i64 2]) (by simp [results, Tryz.results69, go_sem, k0, k1, k2, k3, k4, k5]) rfl ⟨rfl, T9.out.b⟩
/-- The tests on the method. -/
def NotC (m : ByteArray) : Prop := (m.toList == [67, 79, 78, 78, 69, 67, 84]) = false
theorem notC {m : ByteArray} (h : m.data.toList ≠ connectL) : NotC m := by unfold NotC; rw [str_eq]; exact decide_eq_false h
set_option maxHeartbeats 1000000 in
theorem rpar_ast (m s : ByteArray) (hm : m.data.toList = optionsL) (hl : s.data.toList = [42]) : RParses m s (tgV 4 ⟨#[]⟩ (-1) ⟨#[]⟩ ⟨#[]⟩ false) 0 := by
  intro w
  have hs : s.size ≤ 8192 := by rw [← size_len, hl]; decide
  have t1 : (m.toList == [67, 79, 78, 78, 69, 67, 84]) = false := by rw [str_eq]; exact decide_eq_false (by rw [hm]; decide)
  have t2 : (m.toList == [79, 80, 84, 73, 79, 78, 83]) = true := by rw [str_eq]; exact decide_eq_true hm
  have t3 : (s.toList == [42]) = true := by rw [str_eq]; exact decide_eq_true hl
  clear hm hl
  unfold tgV
  go_enter Tryz.func69, Tryz.ntmps69
  go_wp2
  have T9 := hide (One.start w #[.int .i64 4, .string ⟨#[]⟩, .int .i64 (-1), .string ⟨#[]⟩, .string ⟨#[]⟩, .bool false])
  generalize (w.alloc (.cells #[.int .i64 4, .string ⟨#[]⟩, .int .i64 (-1), .string ⟨#[]⟩, .string ⟨#[]⟩, .bool false] 53)) = w9 at T9 ⊢
  have k0 : w9.cell? ⟨w.heap.size, 0, none⟩ = some (.int .i64 4) := T9.out.cell0 0
  have k1 : w9.cell? ⟨w.heap.size, 1, none⟩ = some (.string ⟨#[]⟩) := T9.out.cell0 1
  have k2 : w9.cell? ⟨w.heap.size, 2, none⟩ = some (.int .i64 (-1)) := T9.out.cell0 2
  have k3 : w9.cell? ⟨w.heap.size, 3, none⟩ = some (.string ⟨#[]⟩) := T9.out.cell0 3
  have k4 : w9.cell? ⟨w.heap.size, 4, none⟩ = some (.string ⟨#[]⟩) := T9.out.cell0 4
  have k5 : w9.cell? ⟨w.heap.size, 5, none⟩ = some (.bool false) := T9.out.cell0 5
  exact bodyPost_ret (v := .tuple #[.agg #[.int .i64 4, .string ⟨#[]⟩, .int .i64 (-1), .string ⟨#[]⟩, .string ⟨#[]⟩, .bool false], .int .i64 0]) (by simp [results, Tryz.results69, go_sem, k0, k1, k2, k3, k4, k5]) rfl ⟨rfl, T9.out.b⟩
theorem http_low : lowerB httpL = httpL := by decide
theorem low_http (s : ByteArray) : ((lowS (s.extract 0 7)).toList != [104, 116, 116, 112, 58, 47, 47]) = !sameB (s.data.toList.take 7) httpL := by
  unfold sameB
  rw [http_low, bne, str_eq, lowS_list, ext_take]
  rfl
set_option maxHeartbeats 2000000 in
theorem rpar_none (m s : ByteArray) (hs : s.size ≤ 8192) (hm : m.data.toList ≠ connectL) (ho : ¬ (m.data.toList = optionsL ∧ s.data.toList = [42])) (hh : s.data.toList.head? ≠ some 47) (h7 : ¬ (7 ≤ s.size ∧ sameB (s.data.toList.take 7) httpL = true)) : RParses m s tgZ 60 := by
  intro w
  have t1 : (m.toList == [67, 79, 78, 78, 69, 67, 84]) = false := notC hm
  have t23 : ((s.toList == [42]) = false) ∨ ((s.toList == [42]) = true ∧ (m.toList == [79, 80, 84, 73, 79, 78, 83]) = false) := by
    rw [str_eq, str_eq]
    by_cases h3 : s.data.toList = [42]
    · exact .inr ⟨decide_eq_true h3, decide_eq_false fun h4 => ho ⟨h4, h3⟩⟩
    · exact .inl (decide_eq_false h3)
  have t47 : ¬ 0 < s.size ∨ ∃ h : 0 < s.size, (((s[0].toNat : Int)) == 47) = false := by
    by_cases h0 : 0 < s.size
    · refine .inr ⟨h0, beq_eq_false_iff_ne.2 fun e => hh ?_⟩
      rw [head_list s h0]
      have : s[0] = 47 := byte_is (n := 47) (by omega) (by decide)
      rw [this]; rfl
    · exact .inl h0
  have hlow := low_http s
  have HL7 := hide (fun (h : 7 ≤ s.size) w => rlower_any (s.extract 0 7) w (by rw [ext_size]; omega))
  clear hm ho hh
  unfold tgZ tgV
  by_cases h7s : 7 ≤ s.size
  · have h7i : ¬ (s.size : Int) < 7 := by omega
    have hb : sameB (s.data.toList.take 7) httpL = false := by rw [Bool.eq_false_iff]; exact fun e => h7 ⟨h7s, e⟩
    rw [hb] at hlow
    have HL := hide (HL7.out h7s)
    clear HL7 h7 hb
    have hlow2 : ((lowS (s.extract 0 7)).toList != [104, 116, 116, 112, 58, 47, 47]) = true := hlow
    have hlow3 : ((lowS (s.extract 0 7)).toList == [104, 116, 116, 112, 58, 47, 47]) = false := by
      rw [bne] at hlow2
      simpa using hlow2
    clear hlow hlow2
    generalize lowS (s.extract 0 7) = low at *
    rcases t47 with t47 | ⟨h0, t47⟩
    · omega
    · have h0i : (0 : Int) < (s.size : Int) := by omega
      rcases t23 with t2 | ⟨t2, t3⟩
      · skip
        go_enter Tryz.func69, Tryz.ntmps69
        go_wp2_with fail
        have T0 := hide (One.start w #[.int .i64 0, .string ⟨#[]⟩, .int .i64 0, .string ⟨#[]⟩, .string ⟨#[]⟩, .bool false])
        generalize (w.alloc (.cells #[.int .i64 0, .string ⟨#[]⟩, .int .i64 0, .string ⟨#[]⟩, .string ⟨#[]⟩, .bool false] 53)) = x at T0 ⊢
        refine (HL.out _).mono ?_
        rintro e w1 ⟨rfl, b1⟩
        have T1 := hide (T0.out.below b1)
        clear b1 T0
        have r0 : w1.cell? ⟨w.heap.size, 0, none⟩ = some (.int .i64 0) := T1.out.cell0 0
        have r1 : w1.cell? ⟨w.heap.size, 1, none⟩ = some (.string ⟨#[]⟩) := T1.out.cell0 1
        have r2 : w1.cell? ⟨w.heap.size, 2, none⟩ = some (.int .i64 0) := T1.out.cell0 2
        have r3 : w1.cell? ⟨w.heap.size, 3, none⟩ = some (.string ⟨#[]⟩) := T1.out.cell0 3
        have r4 : w1.cell? ⟨w.heap.size, 4, none⟩ = some (.string ⟨#[]⟩) := T1.out.cell0 4
        have r5 : w1.cell? ⟨w.heap.size, 5, none⟩ = some (.bool false) := T1.out.cell0 5
        have g0 := T1.out.fr0 0
        have g1 := T1.out.fr0 1
        have g2 := T1.out.fr0 2
        have g3 := T1.out.fr0 3
        have g4 := T1.out.fr0 4
        have g5 := T1.out.fr0 5
        go_wp2
        have T9 := hide ((((((T1.out.set0 0 (.int .i64 0)).set0 1 (.string ⟨#[]⟩)).set0 2 (.int .i64 0)).set0 3 (.string ⟨#[]⟩)).set0 4 (.string ⟨#[]⟩)).set0 5 (.bool false))
        generalize ((((((w1.setCell ⟨w.heap.size, 0, none⟩ (.int .i64 0)).setCell ⟨w.heap.size, 1, none⟩ (.string ⟨#[]⟩)).setCell ⟨w.heap.size, 2, none⟩ (.int .i64 0)).setCell ⟨w.heap.size, 3, none⟩ (.string ⟨#[]⟩)).setCell ⟨w.heap.size, 4, none⟩ (.string ⟨#[]⟩)).setCell ⟨w.heap.size, 5, none⟩ (.bool false)) = w9 at T9 ⊢
        have k0 : w9.cell? ⟨w.heap.size, 0, none⟩ = some (.int .i64 0) := T9.out.cell0 0
        have k1 : w9.cell? ⟨w.heap.size, 1, none⟩ = some (.string ⟨#[]⟩) := T9.out.cell0 1
        have k2 : w9.cell? ⟨w.heap.size, 2, none⟩ = some (.int .i64 0) := T9.out.cell0 2
        have k3 : w9.cell? ⟨w.heap.size, 3, none⟩ = some (.string ⟨#[]⟩) := T9.out.cell0 3
        have k4 : w9.cell? ⟨w.heap.size, 4, none⟩ = some (.string ⟨#[]⟩) := T9.out.cell0 4
        have k5 : w9.cell? ⟨w.heap.size, 5, none⟩ = some (.bool false) := T9.out.cell0 5
        exact bodyPost_ret (v := .tuple #[.agg #[.int .i64 0, .string ⟨#[]⟩, .int .i64 0, .string ⟨#[]⟩, .string ⟨#[]⟩, .bool false], .int .i64 60]) (by simp [results, Tryz.results69, go_sem, k0, k1, k2, k3, k4, k5]) rfl ⟨rfl, T9.out.b⟩
      · skip
        go_enter Tryz.func69, Tryz.ntmps69
        go_wp2_with fail
        have T0 := hide (One.start w #[.int .i64 0, .string ⟨#[]⟩, .int .i64 0, .string ⟨#[]⟩, .string ⟨#[]⟩, .bool false])
        generalize (w.alloc (.cells #[.int .i64 0, .string ⟨#[]⟩, .int .i64 0, .string ⟨#[]⟩, .string ⟨#[]⟩, .bool false] 53)) = x at T0 ⊢
        refine (HL.out _).mono ?_
        rintro e w1 ⟨rfl, b1⟩
        have T1 := hide (T0.out.below b1)
        clear b1 T0
        have r0 : w1.cell? ⟨w.heap.size, 0, none⟩ = some (.int .i64 0) := T1.out.cell0 0
        have r1 : w1.cell? ⟨w.heap.size, 1, none⟩ = some (.string ⟨#[]⟩) := T1.out.cell0 1
        have r2 : w1.cell? ⟨w.heap.size, 2, none⟩ = some (.int .i64 0) := T1.out.cell0 2
        have r3 : w1.cell? ⟨w.heap.size, 3, none⟩ = some (.string ⟨#[]⟩) := T1.out.cell0 3
        have r4 : w1.cell? ⟨w.heap.size, 4, none⟩ = some (.string ⟨#[]⟩) := T1.out.cell0 4
        have r5 : w1.cell? ⟨w.heap.size, 5, none⟩ = some (.bool false) := T1.out.cell0 5
        have g0 := T1.out.fr0 0
        have g1 := T1.out.fr0 1
        have g2 := T1.out.fr0 2
        have g3 := T1.out.fr0 3
        have g4 := T1.out.fr0 4
        have g5 := T1.out.fr0 5
        go_wp2
        have T9 := hide ((((((T1.out.set0 0 (.int .i64 0)).set0 1 (.string ⟨#[]⟩)).set0 2 (.int .i64 0)).set0 3 (.string ⟨#[]⟩)).set0 4 (.string ⟨#[]⟩)).set0 5 (.bool false))
        generalize ((((((w1.setCell ⟨w.heap.size, 0, none⟩ (.int .i64 0)).setCell ⟨w.heap.size, 1, none⟩ (.string ⟨#[]⟩)).setCell ⟨w.heap.size, 2, none⟩ (.int .i64 0)).setCell ⟨w.heap.size, 3, none⟩ (.string ⟨#[]⟩)).setCell ⟨w.heap.size, 4, none⟩ (.string ⟨#[]⟩)).setCell ⟨w.heap.size, 5, none⟩ (.bool false)) = w9 at T9 ⊢
        have k0 : w9.cell? ⟨w.heap.size, 0, none⟩ = some (.int .i64 0) := T9.out.cell0 0
        have k1 : w9.cell? ⟨w.heap.size, 1, none⟩ = some (.string ⟨#[]⟩) := T9.out.cell0 1
        have k2 : w9.cell? ⟨w.heap.size, 2, none⟩ = some (.int .i64 0) := T9.out.cell0 2
        have k3 : w9.cell? ⟨w.heap.size, 3, none⟩ = some (.string ⟨#[]⟩) := T9.out.cell0 3
        have k4 : w9.cell? ⟨w.heap.size, 4, none⟩ = some (.string ⟨#[]⟩) := T9.out.cell0 4
        have k5 : w9.cell? ⟨w.heap.size, 5, none⟩ = some (.bool false) := T9.out.cell0 5
        exact bodyPost_ret (v := .tuple #[.agg #[.int .i64 0, .string ⟨#[]⟩, .int .i64 0, .string ⟨#[]⟩, .string ⟨#[]⟩, .bool false], .int .i64 60]) (by simp [results, Tryz.results69, go_sem, k0, k1, k2, k3, k4, k5]) rfl ⟨rfl, T9.out.b⟩
  · have h7i : (s.size : Int) < 7 := by omega
    clear HL7 hlow h7
    rcases t47 with t47 | ⟨h0, t47⟩
    · have h0i : ¬ (0 : Int) < (s.size : Int) := by omega
      rcases t23 with t2 | ⟨t2, t3⟩
      · skip
        go_enter Tryz.func69, Tryz.ntmps69
        go_wp2
        have T9 := hide (One.start w #[.int .i64 0, .string ⟨#[]⟩, .int .i64 0, .string ⟨#[]⟩, .string ⟨#[]⟩, .bool false])
        generalize (w.alloc (.cells #[.int .i64 0, .string ⟨#[]⟩, .int .i64 0, .string ⟨#[]⟩, .string ⟨#[]⟩, .bool false] 53)) = w9 at T9 ⊢
        have k0 : w9.cell? ⟨w.heap.size, 0, none⟩ = some (.int .i64 0) := T9.out.cell0 0
        have k1 : w9.cell? ⟨w.heap.size, 1, none⟩ = some (.string ⟨#[]⟩) := T9.out.cell0 1
        have k2 : w9.cell? ⟨w.heap.size, 2, none⟩ = some (.int .i64 0) := T9.out.cell0 2
        have k3 : w9.cell? ⟨w.heap.size, 3, none⟩ = some (.string ⟨#[]⟩) := T9.out.cell0 3
        have k4 : w9.cell? ⟨w.heap.size, 4, none⟩ = some (.string ⟨#[]⟩) := T9.out.cell0 4
        have k5 : w9.cell? ⟨w.heap.size, 5, none⟩ = some (.bool false) := T9.out.cell0 5
        exact bodyPost_ret (v := .tuple #[.agg #[.int .i64 0, .string ⟨#[]⟩, .int .i64 0, .string ⟨#[]⟩, .string ⟨#[]⟩, .bool false], .int .i64 60]) (by simp [results, Tryz.results69, go_sem, k0, k1, k2, k3, k4, k5]) rfl ⟨rfl, T9.out.b⟩
      · skip
        go_enter Tryz.func69, Tryz.ntmps69
        go_wp2
        have T9 := hide (One.start w #[.int .i64 0, .string ⟨#[]⟩, .int .i64 0, .string ⟨#[]⟩, .string ⟨#[]⟩, .bool false])
        generalize (w.alloc (.cells #[.int .i64 0, .string ⟨#[]⟩, .int .i64 0, .string ⟨#[]⟩, .string ⟨#[]⟩, .bool false] 53)) = w9 at T9 ⊢
        have k0 : w9.cell? ⟨w.heap.size, 0, none⟩ = some (.int .i64 0) := T9.out.cell0 0
        have k1 : w9.cell? ⟨w.heap.size, 1, none⟩ = some (.string ⟨#[]⟩) := T9.out.cell0 1
        have k2 : w9.cell? ⟨w.heap.size, 2, none⟩ = some (.int .i64 0) := T9.out.cell0 2
        have k3 : w9.cell? ⟨w.heap.size, 3, none⟩ = some (.string ⟨#[]⟩) := T9.out.cell0 3
        have k4 : w9.cell? ⟨w.heap.size, 4, none⟩ = some (.string ⟨#[]⟩) := T9.out.cell0 4
        have k5 : w9.cell? ⟨w.heap.size, 5, none⟩ = some (.bool false) := T9.out.cell0 5
        exact bodyPost_ret (v := .tuple #[.agg #[.int .i64 0, .string ⟨#[]⟩, .int .i64 0, .string ⟨#[]⟩, .string ⟨#[]⟩, .bool false], .int .i64 60]) (by simp [results, Tryz.results69, go_sem, k0, k1, k2, k3, k4, k5]) rfl ⟨rfl, T9.out.b⟩
    · have h0i : (0 : Int) < (s.size : Int) := by omega
      rcases t23 with t2 | ⟨t2, t3⟩
      · skip
        go_enter Tryz.func69, Tryz.ntmps69
        go_wp2
        have T9 := hide (One.start w #[.int .i64 0, .string ⟨#[]⟩, .int .i64 0, .string ⟨#[]⟩, .string ⟨#[]⟩, .bool false])
        generalize (w.alloc (.cells #[.int .i64 0, .string ⟨#[]⟩, .int .i64 0, .string ⟨#[]⟩, .string ⟨#[]⟩, .bool false] 53)) = w9 at T9 ⊢
        have k0 : w9.cell? ⟨w.heap.size, 0, none⟩ = some (.int .i64 0) := T9.out.cell0 0
        have k1 : w9.cell? ⟨w.heap.size, 1, none⟩ = some (.string ⟨#[]⟩) := T9.out.cell0 1
        have k2 : w9.cell? ⟨w.heap.size, 2, none⟩ = some (.int .i64 0) := T9.out.cell0 2
        have k3 : w9.cell? ⟨w.heap.size, 3, none⟩ = some (.string ⟨#[]⟩) := T9.out.cell0 3
        have k4 : w9.cell? ⟨w.heap.size, 4, none⟩ = some (.string ⟨#[]⟩) := T9.out.cell0 4
        have k5 : w9.cell? ⟨w.heap.size, 5, none⟩ = some (.bool false) := T9.out.cell0 5
        exact bodyPost_ret (v := .tuple #[.agg #[.int .i64 0, .string ⟨#[]⟩, .int .i64 0, .string ⟨#[]⟩, .string ⟨#[]⟩, .bool false], .int .i64 60]) (by simp [results, Tryz.results69, go_sem, k0, k1, k2, k3, k4, k5]) rfl ⟨rfl, T9.out.b⟩
      · skip
        go_enter Tryz.func69, Tryz.ntmps69
        go_wp2
        have T9 := hide (One.start w #[.int .i64 0, .string ⟨#[]⟩, .int .i64 0, .string ⟨#[]⟩, .string ⟨#[]⟩, .bool false])
        generalize (w.alloc (.cells #[.int .i64 0, .string ⟨#[]⟩, .int .i64 0, .string ⟨#[]⟩, .string ⟨#[]⟩, .bool false] 53)) = w9 at T9 ⊢
        have k0 : w9.cell? ⟨w.heap.size, 0, none⟩ = some (.int .i64 0) := T9.out.cell0 0
        have k1 : w9.cell? ⟨w.heap.size, 1, none⟩ = some (.string ⟨#[]⟩) := T9.out.cell0 1
        have k2 : w9.cell? ⟨w.heap.size, 2, none⟩ = some (.int .i64 0) := T9.out.cell0 2
        have k3 : w9.cell? ⟨w.heap.size, 3, none⟩ = some (.string ⟨#[]⟩) := T9.out.cell0 3
        have k4 : w9.cell? ⟨w.heap.size, 4, none⟩ = some (.string ⟨#[]⟩) := T9.out.cell0 4
        have k5 : w9.cell? ⟨w.heap.size, 5, none⟩ = some (.bool false) := T9.out.cell0 5
        exact bodyPost_ret (v := .tuple #[.agg #[.int .i64 0, .string ⟨#[]⟩, .int .i64 0, .string ⟨#[]⟩, .string ⟨#[]⟩, .bool false], .int .i64 60]) (by simp [results, Tryz.results69, go_sem, k0, k1, k2, k3, k4, k5]) rfl ⟨rfl, T9.out.b⟩
end Go.Proofs.YtacnnomkacfdbaaGreatDoor
/- The document's Parse: paths. -/
namespace Go.Proofs.YtacnnomkacfdbaaGreatDoor
open Go.ChangeShapes Go.WideShapes Go.ChangeAt Go.RowKit

set_option maxHeartbeats 2000000 in
theorem rpar_origin (m s : ByteArray) (hs : s.size ≤ 8192) (hm : m.data.toList ≠ connectL) (hh : s.data.toList.head? = some 47) : RParses m s (if locB s = true then tgV 1 ⟨#[]⟩ (-1) (cutP s) (cutQ s) (cutA s) else tgZ) (if locB s then 0 else 60) := by
  intro w
  have h0 : 0 < s.size := by
    rw [← size_len]
    cases e : s.data.toList with
    | nil => rw [e] at hh; cases hh
    | cons _ _ => simp
  have hd : s[0] = 47 := by rw [head_list s h0] at hh; simpa using hh
  have t1 : (m.toList == [67, 79, 78, 78, 69, 67, 84]) = false := notC hm
  have t2 : (s.toList == [42]) = false := by rw [str_eq]; exact decide_eq_false (fun e => by rw [e] at hh; simp at hh)
  have t47 : (((s[0].toNat : Int)) == 47) = true := by rw [hd]; rfl
  have h0i : (0 : Int) < (s.size : Int) := by omega
  have hLo := fun w => rlocal_any 1 ⟨#[]⟩ (-1) s w (by omega) h0 hd
  have hlow : 7 ≤ s.size → ((lowS (s.extract 0 7)).toList == [104, 116, 116, 112, 58, 47, 47]) = false := fun h7 => by
    rw [str_eq, lowS_list, ext_take]
    refine decide_eq_false fun e => ?_
    have e2 := congrArg List.head? e
    rw [show s.data.toList.take 7 = s[0] :: (s.data.toList.drop 1).take 6 by rw [head_list s h0]; simp, hd] at e2
    exact absurd e2 (by simp [lowerB]; decide)
  have HL7 := hide (fun (h : 7 ≤ s.size) w => rlower_any (s.extract 0 7) w (by rw [ext_size]; omega))
  clear hm hh hd
  generalize locB s = lb at *
  generalize cutP s = pa at *
  generalize cutQ s = qu at *
  generalize cutA s = ak at *
  unfold tgV at hLo
  have HLo := hide hLo
  clear hLo
  unfold tgZ tgV
  go_enter Tryz.func69, Tryz.ntmps69
  go_wp2_with fail
  have T0 := hide (One.start w #[.int .i64 0, .string ⟨#[]⟩, .int .i64 0, .string ⟨#[]⟩, .string ⟨#[]⟩, .bool false])
  generalize (w.alloc (.cells #[.int .i64 0, .string ⟨#[]⟩, .int .i64 0, .string ⟨#[]⟩, .string ⟨#[]⟩, .bool false] 53)) = x at T0 ⊢
  refine (HLo.out _).mono ?_
  rintro e w1 ⟨rfl, b1⟩
  have T1 := hide (T0.out.below b1)
  clear b1 T0
  go_upto_region 14 with fail
  have T3 := hide (T1.out.below ((Below.refl _ w1).alloc (Nat.le_refl _) (.cells #[.int .i64 1, .string ⟨#[]⟩, .int .i64 (-1), .string pa, .string qu, .bool ak] 53)))
  have HD := hide (hp_new w1 (.cells #[.int .i64 1, .string ⟨#[]⟩, .int .i64 (-1), .string pa, .string qu, .bool ak] 53))
  generalize w1.alloc (.cells #[.int .i64 1, .string ⟨#[]⟩, .int .i64 (-1), .string pa, .string qu, .bool ak] 53) = w3 at T3 HD ⊢
  generalize w1.heap.size = b at HD ⊢
  clear T1
  have d0 : w3.cell? ⟨b, 0, none⟩ = some (.int .i64 1) := cell_at HD.out 0
  have d1 : w3.cell? ⟨b, 1, none⟩ = some (.string ⟨#[]⟩) := cell_at HD.out 1
  have d2 : w3.cell? ⟨b, 2, none⟩ = some (.int .i64 (-1)) := cell_at HD.out 2
  have d3 : w3.cell? ⟨b, 3, none⟩ = some (.string pa) := cell_at HD.out 3
  have d4 : w3.cell? ⟨b, 4, none⟩ = some (.string qu) := cell_at HD.out 4
  have d5 : w3.cell? ⟨b, 5, none⟩ = some (.bool ak) := cell_at HD.out 5
  have r0 : w3.cell? ⟨w.heap.size, 0, none⟩ = some (.int .i64 0) := T3.out.cell0 0
  have r1 : w3.cell? ⟨w.heap.size, 1, none⟩ = some (.string ⟨#[]⟩) := T3.out.cell0 1
  have r2 : w3.cell? ⟨w.heap.size, 2, none⟩ = some (.int .i64 0) := T3.out.cell0 2
  have r3 : w3.cell? ⟨w.heap.size, 3, none⟩ = some (.string ⟨#[]⟩) := T3.out.cell0 3
  have r4 : w3.cell? ⟨w.heap.size, 4, none⟩ = some (.string ⟨#[]⟩) := T3.out.cell0 4
  have r5 : w3.cell? ⟨w.heap.size, 5, none⟩ = some (.bool false) := T3.out.cell0 5
  have g0 := T3.out.fr0 0
  have g1 := T3.out.fr0 1
  have g2 := T3.out.fr0 2
  have g3 := T3.out.fr0 3
  have g4 := T3.out.fr0 4
  have g5 := T3.out.fr0 5
  cases lb with
  | true =>
    go_wp2
    have T9 := hide ((((((T3.out.set0 0 (.int .i64 1)).set0 1 (.string ⟨#[]⟩)).set0 2 (.int .i64 (-1))).set0 3 (.string pa)).set0 4 (.string qu)).set0 5 (.bool ak))
    generalize ((((((w3.setCell ⟨w.heap.size, 0, none⟩ (.int .i64 1)).setCell ⟨w.heap.size, 1, none⟩ (.string ⟨#[]⟩)).setCell ⟨w.heap.size, 2, none⟩ (.int .i64 (-1))).setCell ⟨w.heap.size, 3, none⟩ (.string pa)).setCell ⟨w.heap.size, 4, none⟩ (.string qu)).setCell ⟨w.heap.size, 5, none⟩ (.bool ak)) = w9 at T9 ⊢
    have k0 : w9.cell? ⟨w.heap.size, 0, none⟩ = some (.int .i64 1) := T9.out.cell0 0
    have k1 : w9.cell? ⟨w.heap.size, 1, none⟩ = some (.string ⟨#[]⟩) := T9.out.cell0 1
    have k2 : w9.cell? ⟨w.heap.size, 2, none⟩ = some (.int .i64 (-1)) := T9.out.cell0 2
    have k3 : w9.cell? ⟨w.heap.size, 3, none⟩ = some (.string pa) := T9.out.cell0 3
    have k4 : w9.cell? ⟨w.heap.size, 4, none⟩ = some (.string qu) := T9.out.cell0 4
    have k5 : w9.cell? ⟨w.heap.size, 5, none⟩ = some (.bool ak) := T9.out.cell0 5
    exact bodyPost_ret (v := .tuple #[.agg #[.int .i64 1, .string ⟨#[]⟩, .int .i64 (-1), .string pa, .string qu, .bool ak], .int .i64 0]) (by simp [results, Tryz.results69, go_sem, k0, k1, k2, k3, k4, k5]) rfl ⟨rfl, T9.out.b⟩
  | false =>
    by_cases h7 : 7 ≤ s.size
    · have h7i : ¬ (s.size : Int) < 7 := by omega
      have HL := hide (HL7.out h7)
      have hlo := hlow h7
      clear HL7 hlow d0 d1 d2 d3 d4 d5 r0 r1 r2 r3 r4 r5 g0 g1 g2 g3 g4 g5
      generalize lowS (s.extract 0 7) = low at *
      go_wp2_with fail
      refine (HL.out _).mono ?_
      rintro e w5 ⟨rfl, b5⟩
      have T5 := hide (T3.out.below b5)
      clear b5 T3
      have r0 : w5.cell? ⟨w.heap.size, 0, none⟩ = some (.int .i64 0) := T5.out.cell0 0
      have r1 : w5.cell? ⟨w.heap.size, 1, none⟩ = some (.string ⟨#[]⟩) := T5.out.cell0 1
      have r2 : w5.cell? ⟨w.heap.size, 2, none⟩ = some (.int .i64 0) := T5.out.cell0 2
      have r3 : w5.cell? ⟨w.heap.size, 3, none⟩ = some (.string ⟨#[]⟩) := T5.out.cell0 3
      have r4 : w5.cell? ⟨w.heap.size, 4, none⟩ = some (.string ⟨#[]⟩) := T5.out.cell0 4
      have r5 : w5.cell? ⟨w.heap.size, 5, none⟩ = some (.bool false) := T5.out.cell0 5
      have g0 := T5.out.fr0 0
      have g1 := T5.out.fr0 1
      have g2 := T5.out.fr0 2
      have g3 := T5.out.fr0 3
      have g4 := T5.out.fr0 4
      have g5 := T5.out.fr0 5
      go_wp2
      have T9 := hide ((((((T5.out.set0 0 (.int .i64 0)).set0 1 (.string ⟨#[]⟩)).set0 2 (.int .i64 0)).set0 3 (.string ⟨#[]⟩)).set0 4 (.string ⟨#[]⟩)).set0 5 (.bool false))
      generalize ((((((w5.setCell ⟨w.heap.size, 0, none⟩ (.int .i64 0)).setCell ⟨w.heap.size, 1, none⟩ (.string ⟨#[]⟩)).setCell ⟨w.heap.size, 2, none⟩ (.int .i64 0)).setCell ⟨w.heap.size, 3, none⟩ (.string ⟨#[]⟩)).setCell ⟨w.heap.size, 4, none⟩ (.string ⟨#[]⟩)).setCell ⟨w.heap.size, 5, none⟩ (.bool false)) = w9 at T9 ⊢
      have k0 : w9.cell? ⟨w.heap.size, 0, none⟩ = some (.int .i64 0) := T9.out.cell0 0
      have k1 : w9.cell? ⟨w.heap.size, 1, none⟩ = some (.string ⟨#[]⟩) := T9.out.cell0 1
      have k2 : w9.cell? ⟨w.heap.size, 2, none⟩ = some (.int .i64 0) := T9.out.cell0 2
      have k3 : w9.cell? ⟨w.heap.size, 3, none⟩ = some (.string ⟨#[]⟩) := T9.out.cell0 3
      have k4 : w9.cell? ⟨w.heap.size, 4, none⟩ = some (.string ⟨#[]⟩) := T9.out.cell0 4
      have k5 : w9.cell? ⟨w.heap.size, 5, none⟩ = some (.bool false) := T9.out.cell0 5
      exact bodyPost_ret (v := .tuple #[.agg #[.int .i64 0, .string ⟨#[]⟩, .int .i64 0, .string ⟨#[]⟩, .string ⟨#[]⟩, .bool false], .int .i64 60]) (by simp [results, Tryz.results69, go_sem, k0, k1, k2, k3, k4, k5]) rfl ⟨rfl, T9.out.b⟩
    · have h7i : (s.size : Int) < 7 := by omega
      clear HL7 hlow
      go_wp2
      have T9 := hide ((((((T3.out.set0 0 (.int .i64 0)).set0 1 (.string ⟨#[]⟩)).set0 2 (.int .i64 0)).set0 3 (.string ⟨#[]⟩)).set0 4 (.string ⟨#[]⟩)).set0 5 (.bool false))
      generalize ((((((w3.setCell ⟨w.heap.size, 0, none⟩ (.int .i64 0)).setCell ⟨w.heap.size, 1, none⟩ (.string ⟨#[]⟩)).setCell ⟨w.heap.size, 2, none⟩ (.int .i64 0)).setCell ⟨w.heap.size, 3, none⟩ (.string ⟨#[]⟩)).setCell ⟨w.heap.size, 4, none⟩ (.string ⟨#[]⟩)).setCell ⟨w.heap.size, 5, none⟩ (.bool false)) = w9 at T9 ⊢
      have k0 : w9.cell? ⟨w.heap.size, 0, none⟩ = some (.int .i64 0) := T9.out.cell0 0
      have k1 : w9.cell? ⟨w.heap.size, 1, none⟩ = some (.string ⟨#[]⟩) := T9.out.cell0 1
      have k2 : w9.cell? ⟨w.heap.size, 2, none⟩ = some (.int .i64 0) := T9.out.cell0 2
      have k3 : w9.cell? ⟨w.heap.size, 3, none⟩ = some (.string ⟨#[]⟩) := T9.out.cell0 3
      have k4 : w9.cell? ⟨w.heap.size, 4, none⟩ = some (.string ⟨#[]⟩) := T9.out.cell0 4
      have k5 : w9.cell? ⟨w.heap.size, 5, none⟩ = some (.bool false) := T9.out.cell0 5
      exact bodyPost_ret (v := .tuple #[.agg #[.int .i64 0, .string ⟨#[]⟩, .int .i64 0, .string ⟨#[]⟩, .string ⟨#[]⟩, .bool false], .int .i64 60]) (by simp [results, Tryz.results69, go_sem, k0, k1, k2, k3, k4, k5]) rfl ⟨rfl, T9.out.b⟩
end Go.Proofs.YtacnnomkacfdbaaGreatDoor
/- The document's Parse: the absolute form. -/
namespace Go.Proofs.YtacnnomkacfdbaaGreatDoor
open Go.ChangeShapes Go.WideShapes Go.ChangeAt Go.RowKit

theorem tail_at (s : ByteArray) (k : Nat) (h7 : 7 ≤ k) (h : k < s.size) : (absT s).data.toList[k - 7]? = some s[k] := by
  unfold absT
  rw [ext_drop, List.getElem?_drop, show 7 + (k - 7) = k by omega, List.getElem?_eq_getElem (by rw [size_len]; exact h)]
  rfl
theorem end_hit {s : ByteArray} {k : Nat} (h7 : 7 ≤ k) (h : k < s.size) (hn : Lib.NoAny (absT s).data.toList mk2 (k - 7)) (hc : mk2.contains s[k] = true) : k = 7 + endN (absT s).data.toList := by
  have := Lib.indexAny_hit hn (tail_at s k h7 h) hc
  unfold endN endI
  rw [this, if_pos (by omega)]
  omega
theorem end_none {s : ByteArray} (h7 : 7 ≤ s.size) (hn : Lib.NoAny (absT s).data.toList mk2 (s.size - 7)) : s.size = 7 + endN (absT s).data.toList := by
  have hl : (absT s).data.toList.length = s.size - 7 := by rw [size_len]; unfold absT; rw [ext_size]; omega
  have := Lib.indexAny_none (s := (absT s).data.toList) (chars := mk2) (by rw [hl]; exact hn)
  unfold endN endI
  rw [this, if_neg (by omega), hl]
  omega
theorem ext_abs (s : ByteArray) : s.extract 7 (7 + endN (absT s).data.toList) = absH s ∧ s.extract (7 + endN (absT s).data.toList) s.size = (absT s).extract (endN (absT s).data.toList) (absT s).size := by
  constructor
  · apply bytes_ext
    unfold absH absT
    rw [ext_list, ext_take, ext_drop]
    congr 1
    omega
  · apply bytes_ext
    rw [ext_drop, ext_drop]
    unfold absT
    rw [ext_drop, List.drop_drop]

set_option maxHeartbeats 4000000 in
theorem rpar_abs_bad (m s : ByteArray) (hs : s.size ≤ 8192) (hm : m.data.toList ≠ connectL) (hh : s.data.toList.head? ≠ some 47) (h7 : 7 ≤ s.size) (hl : sameB (s.data.toList.take 7) httpL = true) (hbad : rhostE (absH s).data.toList ≠ 0) : RParses m s tgZ (rhostE (absH s).data.toList : Nat) := by
  intro w
  have h0 : 0 < s.size := by omega
  have h0i : (0 : Int) < (s.size : Int) := by omega
  have h7i : ¬ (s.size : Int) < 7 := by omega
  have t1 : (m.toList == [67, 79, 78, 78, 69, 67, 84]) = false := notC hm
  have t2 : (s.toList == [42]) = false := by rw [str_eq]; exact decide_eq_false (fun e => by have := congrArg List.length e; rw [size_len] at this; simp at this; omega)
  have t47 : (((s[0].toNat : Int)) == 47) = false := by
    refine beq_eq_false_iff_ne.2 fun e => hh ?_
    rw [head_list s h0]
    have : s[0] = 47 := byte_is (n := 47) (by omega) (by decide)
    rw [this]; rfl
  have hlow : ((lowS (s.extract 0 7)).toList == [104, 116, 116, 112, 58, 47, 47]) = true := by
    have := low_http s
    rw [hl, bne] at this
    simpa using this
  have HL := hide (fun w => rlower_any (s.extract 0 7) w (by rw [ext_size]; omega))
  have hA := ext_abs s
  have hle := endN_le (absT s).data.toList
  have hT : (absT s).size = s.size - 7 := by unfold absT; rw [ext_size]; omega
  rw [size_len, hT] at hle
  have hH := fun w => rhost_any (absH s) w (by have : (absH s).size ≤ (absT s).size := (by unfold absH; rw [ext_size]; omega); omega)
  have HEH := hide (fun k => @end_hit s k)
  have HEN := hide (@end_none s h7)
  generalize endN (absT s).data.toList = n at *
  have E1 := hA.1
  generalize rhostS (absH s) = hn at *
  generalize rhostP (absH s).data.toList = hp at *
  generalize rhostE (absH s).data.toList = he at *
  have HH := hide hH
  have tE : ((he : Int) != 0) = true := by rw [bne_iff_ne]; omega
  clear hm hh hl hT hH hA hbad
  generalize lowS (s.extract 0 7) = low at *
  unfold tgZ tgV
  go_enter Tryz.func69, Tryz.ntmps69
  go_wp2_with fail
  have T0 := hide (One.start w #[.int .i64 0, .string ⟨#[]⟩, .int .i64 0, .string ⟨#[]⟩, .string ⟨#[]⟩, .bool false])
  generalize (w.alloc (.cells #[.int .i64 0, .string ⟨#[]⟩, .int .i64 0, .string ⟨#[]⟩, .string ⟨#[]⟩, .bool false] 53)) = x at T0 ⊢
  refine (HL.out _).mono ?_
  rintro e w1 ⟨rfl, b1⟩
  have T1 := hide (T0.out.below b1)
  clear b1 T0
  go_wp2
  go_loop [11] (fun i => ∃ k : Nat, 7 ≤ k ∧ k ≤ s.size ∧ i = .int .i64 k ∧ Hid (Lib.NoAny (absT s).data.toList mk2 (k - 7))) (fun i => s.size - (intOf i).toNat)
  case atStart => exact ⟨7, Nat.le_refl _, h7, rfl, hide (Lib.NoAny.zero _ _)⟩
  case round =>
    obtain ⟨k, hk7, hk, rfl, H⟩ := hrel
    have hk7i : (7 : Int) ≤ (k : Int) := by omega
    have hki : (k : Int) ≤ (s.size : Int) := by omega
    by_cases hlt : k < s.size
    · have hb := byte_lt s[k]
      by_cases h47 : s[k].toNat = 47
      · have t : (((s[k].toNat : Int)) != 47) = false := by rw [bne_eq_false_iff_eq]; omega
        have hkn : k = 7 + n := HEH.out k hk7 hlt H.out (by rw [show s[k] = 47 from byte_is (n := 47) h47 (by decide)]; rfl)
        clear h47
        have EK : s.extract 7 k = absH s := by rw [hkn]; exact E1
        clear HEH HEN E1 H hkn
        generalize absH s = ah at *
        go_wp2_with fail
        refine (HH.out _).mono ?_
        rintro e w2 ⟨rfl, b2⟩
        have T2 := hide (T1.out.below b2)
        clear b2 T1
        have r0 : w2.cell? ⟨w.heap.size, 0, none⟩ = some (.int .i64 0) := T2.out.cell0 0
        have r1 : w2.cell? ⟨w.heap.size, 1, none⟩ = some (.string ⟨#[]⟩) := T2.out.cell0 1
        have r2 : w2.cell? ⟨w.heap.size, 2, none⟩ = some (.int .i64 0) := T2.out.cell0 2
        have r3 : w2.cell? ⟨w.heap.size, 3, none⟩ = some (.string ⟨#[]⟩) := T2.out.cell0 3
        have r4 : w2.cell? ⟨w.heap.size, 4, none⟩ = some (.string ⟨#[]⟩) := T2.out.cell0 4
        have r5 : w2.cell? ⟨w.heap.size, 5, none⟩ = some (.bool false) := T2.out.cell0 5
        have g0 := T2.out.fr0 0
        have g1 := T2.out.fr0 1
        have g2 := T2.out.fr0 2
        have g3 := T2.out.fr0 3
        have g4 := T2.out.fr0 4
        have g5 := T2.out.fr0 5
        go_wp2
        have T9 := hide ((((((T2.out.set0 0 (.int .i64 0)).set0 1 (.string ⟨#[]⟩)).set0 2 (.int .i64 0)).set0 3 (.string ⟨#[]⟩)).set0 4 (.string ⟨#[]⟩)).set0 5 (.bool false))
        generalize ((((((w2.setCell ⟨w.heap.size, 0, none⟩ (.int .i64 0)).setCell ⟨w.heap.size, 1, none⟩ (.string ⟨#[]⟩)).setCell ⟨w.heap.size, 2, none⟩ (.int .i64 0)).setCell ⟨w.heap.size, 3, none⟩ (.string ⟨#[]⟩)).setCell ⟨w.heap.size, 4, none⟩ (.string ⟨#[]⟩)).setCell ⟨w.heap.size, 5, none⟩ (.bool false)) = w9 at T9 ⊢
        have k0 : w9.cell? ⟨w.heap.size, 0, none⟩ = some (.int .i64 0) := T9.out.cell0 0
        have k1 : w9.cell? ⟨w.heap.size, 1, none⟩ = some (.string ⟨#[]⟩) := T9.out.cell0 1
        have k2 : w9.cell? ⟨w.heap.size, 2, none⟩ = some (.int .i64 0) := T9.out.cell0 2
        have k3 : w9.cell? ⟨w.heap.size, 3, none⟩ = some (.string ⟨#[]⟩) := T9.out.cell0 3
        have k4 : w9.cell? ⟨w.heap.size, 4, none⟩ = some (.string ⟨#[]⟩) := T9.out.cell0 4
        have k5 : w9.cell? ⟨w.heap.size, 5, none⟩ = some (.bool false) := T9.out.cell0 5
        exact bodyPost_ret (v := .tuple #[.agg #[.int .i64 0, .string ⟨#[]⟩, .int .i64 0, .string ⟨#[]⟩, .string ⟨#[]⟩, .bool false], .int .i64 he]) (by simp [results, Tryz.results69, go_sem, k0, k1, k2, k3, k4, k5]) rfl ⟨rfl, T9.out.b⟩
      · have t : (((s[k].toNat : Int)) != 47) = true := by rw [bne_iff_ne]; omega
        by_cases h63 : s[k].toNat = 63
        · have t' : (((s[k].toNat : Int)) != 63) = false := by rw [bne_eq_false_iff_eq]; omega
          have hkn : k = 7 + n := HEH.out k hk7 hlt H.out (by rw [show s[k] = 63 from byte_is (n := 63) h63 (by decide)]; rfl)
          clear h47 h63
          have EK : s.extract 7 k = absH s := by rw [hkn]; exact E1
          clear HEH HEN E1 H hkn
          generalize absH s = ah at *
          go_wp2_with fail
          refine (HH.out _).mono ?_
          rintro e w2 ⟨rfl, b2⟩
          have T2 := hide (T1.out.below b2)
          clear b2 T1
          have r0 : w2.cell? ⟨w.heap.size, 0, none⟩ = some (.int .i64 0) := T2.out.cell0 0
          have r1 : w2.cell? ⟨w.heap.size, 1, none⟩ = some (.string ⟨#[]⟩) := T2.out.cell0 1
          have r2 : w2.cell? ⟨w.heap.size, 2, none⟩ = some (.int .i64 0) := T2.out.cell0 2
          have r3 : w2.cell? ⟨w.heap.size, 3, none⟩ = some (.string ⟨#[]⟩) := T2.out.cell0 3
          have r4 : w2.cell? ⟨w.heap.size, 4, none⟩ = some (.string ⟨#[]⟩) := T2.out.cell0 4
          have r5 : w2.cell? ⟨w.heap.size, 5, none⟩ = some (.bool false) := T2.out.cell0 5
          have g0 := T2.out.fr0 0
          have g1 := T2.out.fr0 1
          have g2 := T2.out.fr0 2
          have g3 := T2.out.fr0 3
          have g4 := T2.out.fr0 4
          have g5 := T2.out.fr0 5
          go_wp2
          have T9 := hide ((((((T2.out.set0 0 (.int .i64 0)).set0 1 (.string ⟨#[]⟩)).set0 2 (.int .i64 0)).set0 3 (.string ⟨#[]⟩)).set0 4 (.string ⟨#[]⟩)).set0 5 (.bool false))
          generalize ((((((w2.setCell ⟨w.heap.size, 0, none⟩ (.int .i64 0)).setCell ⟨w.heap.size, 1, none⟩ (.string ⟨#[]⟩)).setCell ⟨w.heap.size, 2, none⟩ (.int .i64 0)).setCell ⟨w.heap.size, 3, none⟩ (.string ⟨#[]⟩)).setCell ⟨w.heap.size, 4, none⟩ (.string ⟨#[]⟩)).setCell ⟨w.heap.size, 5, none⟩ (.bool false)) = w9 at T9 ⊢
          have k0 : w9.cell? ⟨w.heap.size, 0, none⟩ = some (.int .i64 0) := T9.out.cell0 0
          have k1 : w9.cell? ⟨w.heap.size, 1, none⟩ = some (.string ⟨#[]⟩) := T9.out.cell0 1
          have k2 : w9.cell? ⟨w.heap.size, 2, none⟩ = some (.int .i64 0) := T9.out.cell0 2
          have k3 : w9.cell? ⟨w.heap.size, 3, none⟩ = some (.string ⟨#[]⟩) := T9.out.cell0 3
          have k4 : w9.cell? ⟨w.heap.size, 4, none⟩ = some (.string ⟨#[]⟩) := T9.out.cell0 4
          have k5 : w9.cell? ⟨w.heap.size, 5, none⟩ = some (.bool false) := T9.out.cell0 5
          exact bodyPost_ret (v := .tuple #[.agg #[.int .i64 0, .string ⟨#[]⟩, .int .i64 0, .string ⟨#[]⟩, .string ⟨#[]⟩, .bool false], .int .i64 he]) (by simp [results, Tryz.results69, go_sem, k0, k1, k2, k3, k4, k5]) rfl ⟨rfl, T9.out.b⟩
        · have t' : (((s[k].toNat : Int)) != 63) = true := by rw [bne_iff_ne]; omega
          have HN : Hid (Lib.NoAny (absT s).data.toList mk2 (k + 1 - 7)) := hide (by
            rw [show k + 1 - 7 = (k - 7) + 1 by omega]
            refine H.out.succ (tail_at s k hk7 hlt) ?_
            simp only [mk2, List.contains_cons, List.contains_nil, Bool.or_false, Bool.or_eq_false_iff]
            exact ⟨beq_eq_false_iff_ne.2 (byte_ne (n := 47) h47 (by decide)), beq_eq_false_iff_ne.2 (byte_ne (n := 63) h63 (by decide))⟩)
          clear h47 h63
          go_wp2
          exact ⟨⟨k + 1, by omega, by omega, by go_num, HN⟩, by simp [intOf]; omega⟩
    · have hkn : k = 7 + n := by have e : k = s.size := (by omega); rw [e] at H ⊢; exact HEN.out H.out
      have EK : s.extract 7 k = absH s := by rw [hkn]; exact E1
      clear HEH HEN E1 H hkn
      generalize absH s = ah at *
      go_wp2_with fail
      refine (HH.out _).mono ?_
      rintro e w2 ⟨rfl, b2⟩
      have T2 := hide (T1.out.below b2)
      clear b2 T1
      have r0 : w2.cell? ⟨w.heap.size, 0, none⟩ = some (.int .i64 0) := T2.out.cell0 0
      have r1 : w2.cell? ⟨w.heap.size, 1, none⟩ = some (.string ⟨#[]⟩) := T2.out.cell0 1
      have r2 : w2.cell? ⟨w.heap.size, 2, none⟩ = some (.int .i64 0) := T2.out.cell0 2
      have r3 : w2.cell? ⟨w.heap.size, 3, none⟩ = some (.string ⟨#[]⟩) := T2.out.cell0 3
      have r4 : w2.cell? ⟨w.heap.size, 4, none⟩ = some (.string ⟨#[]⟩) := T2.out.cell0 4
      have r5 : w2.cell? ⟨w.heap.size, 5, none⟩ = some (.bool false) := T2.out.cell0 5
      have g0 := T2.out.fr0 0
      have g1 := T2.out.fr0 1
      have g2 := T2.out.fr0 2
      have g3 := T2.out.fr0 3
      have g4 := T2.out.fr0 4
      have g5 := T2.out.fr0 5
      go_wp2
      have T9 := hide ((((((T2.out.set0 0 (.int .i64 0)).set0 1 (.string ⟨#[]⟩)).set0 2 (.int .i64 0)).set0 3 (.string ⟨#[]⟩)).set0 4 (.string ⟨#[]⟩)).set0 5 (.bool false))
      generalize ((((((w2.setCell ⟨w.heap.size, 0, none⟩ (.int .i64 0)).setCell ⟨w.heap.size, 1, none⟩ (.string ⟨#[]⟩)).setCell ⟨w.heap.size, 2, none⟩ (.int .i64 0)).setCell ⟨w.heap.size, 3, none⟩ (.string ⟨#[]⟩)).setCell ⟨w.heap.size, 4, none⟩ (.string ⟨#[]⟩)).setCell ⟨w.heap.size, 5, none⟩ (.bool false)) = w9 at T9 ⊢
      have k0 : w9.cell? ⟨w.heap.size, 0, none⟩ = some (.int .i64 0) := T9.out.cell0 0
      have k1 : w9.cell? ⟨w.heap.size, 1, none⟩ = some (.string ⟨#[]⟩) := T9.out.cell0 1
      have k2 : w9.cell? ⟨w.heap.size, 2, none⟩ = some (.int .i64 0) := T9.out.cell0 2
      have k3 : w9.cell? ⟨w.heap.size, 3, none⟩ = some (.string ⟨#[]⟩) := T9.out.cell0 3
      have k4 : w9.cell? ⟨w.heap.size, 4, none⟩ = some (.string ⟨#[]⟩) := T9.out.cell0 4
      have k5 : w9.cell? ⟨w.heap.size, 5, none⟩ = some (.bool false) := T9.out.cell0 5
      exact bodyPost_ret (v := .tuple #[.agg #[.int .i64 0, .string ⟨#[]⟩, .int .i64 0, .string ⟨#[]⟩, .string ⟨#[]⟩, .bool false], .int .i64 he]) (by simp [results, Tryz.results69, go_sem, k0, k1, k2, k3, k4, k5]) rfl ⟨rfl, T9.out.b⟩
end Go.Proofs.YtacnnomkacfdbaaGreatDoor
