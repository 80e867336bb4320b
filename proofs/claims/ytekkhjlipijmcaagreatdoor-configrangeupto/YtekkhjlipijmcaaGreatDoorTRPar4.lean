/- The document's Parse: the absolute form. -/
import Derived.Test.YtekkhjlipijmcaaGreatDoorTRPar3
namespace Go.Proofs.YtekkhjlipijmcaaGreatDoor
open Go.ChangeShapes Go.WideShapes Go.ChangeAt Go.RowKit

theorem tail_at (s : ByteArray) (k : Nat) (h7 : 7 ≤ k) (h : k < s.size) : (absT s).data.toList[k - 7]? = some s[k] := by
  unfold absT
  rw [ext_drop, List.getElem?_drop, show 7 + (k - 7) = k by omega, List.getElem?_eq_getElem (by rw [size_len]; exact h)]
  rfl
theorem end_hit {s : ByteArray} {k : Nat} (h7 : 7 ≤ k) (h : k < s.size) (hn : Lib.NoAny (absT s).data.toList mk2 (k - 7)) (hc : mk2.contains s[k] = true) : k = 7 + endN (absT s).data.toList := by
  have := Lib.indexAny_hit hn (tail_at s k h7 h) hc
  unfold endN endI
  rw [this, if_pos (by omega)]
  omega
theorem end_none {s : ByteArray} (h7 : 7 ≤ s.size) (hn : Lib.NoAny (absT s).data.toList mk2 (s.size - 7)) : s.size = 7 + endN (absT s).data.toList := by
  have hl : (absT s).data.toList.length = s.size - 7 := by rw [size_len]; unfold absT; rw [ext_size]; omega
  have := Lib.indexAny_none (s := (absT s).data.toList) (chars := mk2) (by rw [hl]; exact hn)
  unfold endN endI
  rw [this, if_neg (by omega), hl]
  omega
theorem ext_abs (s : ByteArray) : s.extract 7 (7 + endN (absT s).data.toList) = absH s ∧ s.extract (7 + endN (absT s).data.toList) s.size = (absT s).extract (endN (absT s).data.toList) (absT s).size := by
  constructor
  · apply bytes_ext
    unfold absH absT
    rw [ext_list, ext_take, ext_drop]
    congr 1
    omega
  · apply bytes_ext
    rw [ext_drop, ext_drop]
    unfold absT
    rw [ext_drop, List.drop_drop]

set_option maxHeartbeats 4000000 in
theorem rpar_abs_bad (m s : ByteArray) (hs : s.size ≤ 8192) (hm : m.data.toList ≠ connectL) (hh : s.data.toList.head? ≠ some 47) (h7 : 7 ≤ s.size) (hl : sameB (s.data.toList.take 7) httpL = true) (hbad : rhostE (absH s).data.toList ≠ 0) : RParses m s tgZ (rhostE (absH s).data.toList : Nat) := by
  intro w
  have h0 : 0 < s.size := by omega
  have h0i : (0 : Int) < (s.size : Int) := by omega
  have h7i : ¬ (s.size : Int) < 7 := by omega
  have t1 : (m.toList == [67, 79, 78, 78, 69, 67, 84]) = false := notC hm
  have t2 : (s.toList == [42]) = false := by rw [str_eq]; exact decide_eq_false (fun e => by have := congrArg List.length e; rw [size_len] at this; simp at this; omega)
  have t47 : (((s[0].toNat : Int)) == 47) = false := by
    refine beq_eq_false_iff_ne.2 fun e => hh ?_
    rw [head_list s h0]
    have : s[0] = 47 := byte_is (n := 47) (by omega) (by decide)
    rw [this]; rfl
  have hlow : ((lowS (s.extract 0 7)).toList == [104, 116, 116, 112, 58, 47, 47]) = true := by
    have := low_http s
    rw [hl, bne] at this
    simpa using this
  have HL := hide (fun w => rlower_any (s.extract 0 7) w (by rw [ext_size]; omega))
  have hA := ext_abs s
  have hle := endN_le (absT s).data.toList
  have hT : (absT s).size = s.size - 7 := by unfold absT; rw [ext_size]; omega
  rw [size_len, hT] at hle
  have hH := fun w => rhost_any (absH s) w (by have : (absH s).size ≤ (absT s).size := (by unfold absH; rw [ext_size]; omega); omega)
  have HEH := hide (fun k => @end_hit s k)
  have HEN := hide (@end_none s h7)
  generalize endN (absT s).data.toList = n at *
  have E1 := hA.1
  generalize rhostS (absH s) = hn at *
  generalize rhostP (absH s).data.toList = hp at *
  generalize rhostE (absH s).data.toList = he at *
  have HH := hide hH
  have tE : ((he : Int) != 0) = true := by rw [bne_iff_ne]; omega
  clear hm hh hl hT hH hA hbad
  generalize lowS (s.extract 0 7) = low at *
  unfold tgZ tgV
  go_enter Tryz.func37, Tryz.ntmps37
  go_wp2_with fail
  have T0 := hide (One.start w #[.int .i64 0, .string ⟨#[]⟩, .int .i64 0, .string ⟨#[]⟩, .string ⟨#[]⟩, .bool false])
  generalize (w.alloc (.cells #[.int .i64 0, .string ⟨#[]⟩, .int .i64 0, .string ⟨#[]⟩, .string ⟨#[]⟩, .bool false] 61)) = x at T0 ⊢
  refine (HL.out _).mono ?_
  rintro e w1 ⟨rfl, b1⟩
  have T1 := hide (T0.out.below b1)
  clear b1 T0
  go_wp2
  go_loop [11] (fun i => ∃ k : Nat, 7 ≤ k ∧ k ≤ s.size ∧ i = .int .i64 k ∧ Hid (Lib.NoAny (absT s).data.toList mk2 (k - 7))) (fun i => s.size - (intOf i).toNat)
  case atStart => exact ⟨7, Nat.le_refl _, h7, rfl, hide (Lib.NoAny.zero _ _)⟩
  case round =>
    obtain ⟨k, hk7, hk, rfl, H⟩ := hrel
    have hk7i : (7 : Int) ≤ (k : Int) := by omega
    have hki : (k : Int) ≤ (s.size : Int) := by omega
    by_cases hlt : k < s.size
    · have hb := byte_lt s[k]
      by_cases h47 : s[k].toNat = 47
      · have t : (((s[k].toNat : Int)) != 47) = false := by rw [bne_eq_false_iff_eq]; omega
        have hkn : k = 7 + n := HEH.out k hk7 hlt H.out (by rw [show s[k] = 47 from byte_is (n := 47) h47 (by decide)]; rfl)
        clear h47
        have EK : s.extract 7 k = absH s := by rw [hkn]; exact E1
        clear HEH HEN E1 H hkn
        generalize absH s = ah at *
        go_wp2_with fail
        refine (HH.out _).mono ?_
        rintro e w2 ⟨rfl, b2⟩
        have T2 := hide (T1.out.below b2)
        clear b2 T1
        have r0 : w2.cell? ⟨w.heap.size, 0, none⟩ = some (.int .i64 0) := T2.out.cell0 0
        have r1 : w2.cell? ⟨w.heap.size, 1, none⟩ = some (.string ⟨#[]⟩) := T2.out.cell0 1
        have r2 : w2.cell? ⟨w.heap.size, 2, none⟩ = some (.int .i64 0) := T2.out.cell0 2
        have r3 : w2.cell? ⟨w.heap.size, 3, none⟩ = some (.string ⟨#[]⟩) := T2.out.cell0 3
        have r4 : w2.cell? ⟨w.heap.size, 4, none⟩ = some (.string ⟨#[]⟩) := T2.out.cell0 4
        have r5 : w2.cell? ⟨w.heap.size, 5, none⟩ = some (.bool false) := T2.out.cell0 5
        have g0 := T2.out.fr0 0
        have g1 := T2.out.fr0 1
        have g2 := T2.out.fr0 2
        have g3 := T2.out.fr0 3
        have g4 := T2.out.fr0 4
        have g5 := T2.out.fr0 5
        go_wp2
        have T9 := hide ((((((T2.out.set0 0 (.int .i64 0)).set0 1 (.string ⟨#[]⟩)).set0 2 (.int .i64 0)).set0 3 (.string ⟨#[]⟩)).set0 4 (.string ⟨#[]⟩)).set0 5 (.bool false))
        generalize ((((((w2.setCell ⟨w.heap.size, 0, none⟩ (.int .i64 0)).setCell ⟨w.heap.size, 1, none⟩ (.string ⟨#[]⟩)).setCell ⟨w.heap.size, 2, none⟩ (.int .i64 0)).setCell ⟨w.heap.size, 3, none⟩ (.string ⟨#[]⟩)).setCell ⟨w.heap.size, 4, none⟩ (.string ⟨#[]⟩)).setCell ⟨w.heap.size, 5, none⟩ (.bool false)) = w9 at T9 ⊢
        have k0 : w9.cell? ⟨w.heap.size, 0, none⟩ = some (.int .i64 0) := T9.out.cell0 0
        have k1 : w9.cell? ⟨w.heap.size, 1, none⟩ = some (.string ⟨#[]⟩) := T9.out.cell0 1
        have k2 : w9.cell? ⟨w.heap.size, 2, none⟩ = some (.int .i64 0) := T9.out.cell0 2
        have k3 : w9.cell? ⟨w.heap.size, 3, none⟩ = some (.string ⟨#[]⟩) := T9.out.cell0 3
        have k4 : w9.cell? ⟨w.heap.size, 4, none⟩ = some (.string ⟨#[]⟩) := T9.out.cell0 4
        have k5 : w9.cell? ⟨w.heap.size, 5, none⟩ = some (.bool false) := T9.out.cell0 5
        exact bodyPost_ret (v := .tuple #[.agg #[.int .i64 0, .string ⟨#[]⟩, .int .i64 0, .string ⟨#[]⟩, .string ⟨#[]⟩, .bool false], .int .i64 he]) (by simp [results, Tryz.results37, go_sem, k0, k1, k2, k3, k4, k5]) rfl ⟨rfl, T9.out.b⟩
      · have t : (((s[k].toNat : Int)) != 47) = true := by rw [bne_iff_ne]; omega
        by_cases h63 : s[k].toNat = 63
        · have t' : (((s[k].toNat : Int)) != 63) = false := by rw [bne_eq_false_iff_eq]; omega
          have hkn : k = 7 + n := HEH.out k hk7 hlt H.out (by rw [show s[k] = 63 from byte_is (n := 63) h63 (by decide)]; rfl)
          clear h47 h63
          have EK : s.extract 7 k = absH s := by rw [hkn]; exact E1
          clear HEH HEN E1 H hkn
          generalize absH s = ah at *
          go_wp2_with fail
          refine (HH.out _).mono ?_
          rintro e w2 ⟨rfl, b2⟩
          have T2 := hide (T1.out.below b2)
          clear b2 T1
          have r0 : w2.cell? ⟨w.heap.size, 0, none⟩ = some (.int .i64 0) := T2.out.cell0 0
          have r1 : w2.cell? ⟨w.heap.size, 1, none⟩ = some (.string ⟨#[]⟩) := T2.out.cell0 1
          have r2 : w2.cell? ⟨w.heap.size, 2, none⟩ = some (.int .i64 0) := T2.out.cell0 2
          have r3 : w2.cell? ⟨w.heap.size, 3, none⟩ = some (.string ⟨#[]⟩) := T2.out.cell0 3
          have r4 : w2.cell? ⟨w.heap.size, 4, none⟩ = some (.string ⟨#[]⟩) := T2.out.cell0 4
          have r5 : w2.cell? ⟨w.heap.size, 5, none⟩ = some (.bool false) := T2.out.cell0 5
          have g0 := T2.out.fr0 0
          have g1 := T2.out.fr0 1
          have g2 := T2.out.fr0 2
          have g3 := T2.out.fr0 3
          have g4 := T2.out.fr0 4
          have g5 := T2.out.fr0 5
          go_wp2
          have T9 := hide ((((((T2.out.set0 0 (.int .i64 0)).set0 1 (.string ⟨#[]⟩)).set0 2 (.int .i64 0)).set0 3 (.string ⟨#[]⟩)).set0 4 (.string ⟨#[]⟩)).set0 5 (.bool false))
          generalize ((((((w2.setCell ⟨w.heap.size, 0, none⟩ (.int .i64 0)).setCell ⟨w.heap.size, 1, none⟩ (.string ⟨#[]⟩)).setCell ⟨w.heap.size, 2, none⟩ (.int .i64 0)).setCell ⟨w.heap.size, 3, none⟩ (.string ⟨#[]⟩)).setCell ⟨w.heap.size, 4, none⟩ (.string ⟨#[]⟩)).setCell ⟨w.heap.size, 5, none⟩ (.bool false)) = w9 at T9 ⊢
          have k0 : w9.cell? ⟨w.heap.size, 0, none⟩ = some (.int .i64 0) := T9.out.cell0 0
          have k1 : w9.cell? ⟨w.heap.size, 1, none⟩ = some (.string ⟨#[]⟩) := T9.out.cell0 1
          have k2 : w9.cell? ⟨w.heap.size, 2, none⟩ = some (.int .i64 0) := T9.out.cell0 2
          have k3 : w9.cell? ⟨w.heap.size, 3, none⟩ = some (.string ⟨#[]⟩) := T9.out.cell0 3
          have k4 : w9.cell? ⟨w.heap.size, 4, none⟩ = some (.string ⟨#[]⟩) := T9.out.cell0 4
          have k5 : w9.cell? ⟨w.heap.size, 5, none⟩ = some (.bool false) := T9.out.cell0 5
          exact bodyPost_ret (v := .tuple #[.agg #[.int .i64 0, .string ⟨#[]⟩, .int .i64 0, .string ⟨#[]⟩, .string ⟨#[]⟩, .bool false], .int .i64 he]) (by simp [results, Tryz.results37, go_sem, k0, k1, k2, k3, k4, k5]) rfl ⟨rfl, T9.out.b⟩
        · have t' : (((s[k].toNat : Int)) != 63) = true := by rw [bne_iff_ne]; omega
          have HN : Hid (Lib.NoAny (absT s).data.toList mk2 (k + 1 - 7)) := hide (by
            rw [show k + 1 - 7 = (k - 7) + 1 by omega]
            refine H.out.succ (tail_at s k hk7 hlt) ?_
            simp only [mk2, List.contains_cons, List.contains_nil, Bool.or_false, Bool.or_eq_false_iff]
            exact ⟨beq_eq_false_iff_ne.2 (byte_ne (n := 47) h47 (by decide)), beq_eq_false_iff_ne.2 (byte_ne (n := 63) h63 (by decide))⟩)
          clear h47 h63
          go_wp2
          exact ⟨⟨k + 1, by omega, by omega, by go_num, HN⟩, by simp [intOf]; omega⟩
    · have hkn : k = 7 + n := by have e : k = s.size := (by omega); rw [e] at H ⊢; exact HEN.out H.out
      have EK : s.extract 7 k = absH s := by rw [hkn]; exact E1
      clear HEH HEN E1 H hkn
      generalize absH s = ah at *
      go_wp2_with fail
      refine (HH.out _).mono ?_
      rintro e w2 ⟨rfl, b2⟩
      have T2 := hide (T1.out.below b2)
      clear b2 T1
      have r0 : w2.cell? ⟨w.heap.size, 0, none⟩ = some (.int .i64 0) := T2.out.cell0 0
      have r1 : w2.cell? ⟨w.heap.size, 1, none⟩ = some (.string ⟨#[]⟩) := T2.out.cell0 1
      have r2 : w2.cell? ⟨w.heap.size, 2, none⟩ = some (.int .i64 0) := T2.out.cell0 2
      have r3 : w2.cell? ⟨w.heap.size, 3, none⟩ = some (.string ⟨#[]⟩) := T2.out.cell0 3
      have r4 : w2.cell? ⟨w.heap.size, 4, none⟩ = some (.string ⟨#[]⟩) := T2.out.cell0 4
      have r5 : w2.cell? ⟨w.heap.size, 5, none⟩ = some (.bool false) := T2.out.cell0 5
      have g0 := T2.out.fr0 0
      have g1 := T2.out.fr0 1
      have g2 := T2.out.fr0 2
      have g3 := T2.out.fr0 3
      have g4 := T2.out.fr0 4
      have g5 := T2.out.fr0 5
      go_wp2
      have T9 := hide ((((((T2.out.set0 0 (.int .i64 0)).set0 1 (.string ⟨#[]⟩)).set0 2 (.int .i64 0)).set0 3 (.string ⟨#[]⟩)).set0 4 (.string ⟨#[]⟩)).set0 5 (.bool false))
      generalize ((((((w2.setCell ⟨w.heap.size, 0, none⟩ (.int .i64 0)).setCell ⟨w.heap.size, 1, none⟩ (.string ⟨#[]⟩)).setCell ⟨w.heap.size, 2, none⟩ (.int .i64 0)).setCell ⟨w.heap.size, 3, none⟩ (.string ⟨#[]⟩)).setCell ⟨w.heap.size, 4, none⟩ (.string ⟨#[]⟩)).setCell ⟨w.heap.size, 5, none⟩ (.bool false)) = w9 at T9 ⊢
      have k0 : w9.cell? ⟨w.heap.size, 0, none⟩ = some (.int .i64 0) := T9.out.cell0 0
      have k1 : w9.cell? ⟨w.heap.size, 1, none⟩ = some (.string ⟨#[]⟩) := T9.out.cell0 1
      have k2 : w9.cell? ⟨w.heap.size, 2, none⟩ = some (.int .i64 0) := T9.out.cell0 2
      have k3 : w9.cell? ⟨w.heap.size, 3, none⟩ = some (.string ⟨#[]⟩) := T9.out.cell0 3
      have k4 : w9.cell? ⟨w.heap.size, 4, none⟩ = some (.string ⟨#[]⟩) := T9.out.cell0 4
      have k5 : w9.cell? ⟨w.heap.size, 5, none⟩ = some (.bool false) := T9.out.cell0 5
      exact bodyPost_ret (v := .tuple #[.agg #[.int .i64 0, .string ⟨#[]⟩, .int .i64 0, .string ⟨#[]⟩, .string ⟨#[]⟩, .bool false], .int .i64 he]) (by simp [results, Tryz.results37, go_sem, k0, k1, k2, k3, k4, k5]) rfl ⟨rfl, T9.out.b⟩
end Go.Proofs.YtekkhjlipijmcaaGreatDoor
