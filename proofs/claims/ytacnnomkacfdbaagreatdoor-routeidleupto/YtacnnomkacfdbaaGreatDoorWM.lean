/- WM: TRPar5 TRAll. -/
import Derived.Test.YtacnnomkacfdbaaGreatDoorWL
/- The document's Parse: the absolute form, with a host. -/
namespace Go.Proofs.YtacnnomkacfdbaaGreatDoor
open Go.ChangeShapes Go.WideShapes Go.ChangeAt Go.RowKit

theorem root_pos (r : ByteArray) : 0 < (rootS r).size := by
  unfold rootS
  split
  · rename_i h
    rw [← size_len]
    cases e : r.data.toList with
    | nil => rw [e] at h; cases h
    | cons _ _ => simp
  · rw [app_size, show slash.size = 1 from rfl]; omega
theorem root_list (r : ByteArray) : (rootS r).data.toList.head? = some 47 := by
  unfold rootS
  split
  · assumption
  · rw [app_list, slash_list]; rfl
theorem root_head (r : ByteArray) : (rootS r)[0]'(root_pos r) = 47 := by
  have h := root_list r
  rw [head_list _ (root_pos r)] at h
  simpa using h
/-- What stands behind the host, as the document's Parse looks at it. -/
theorem root_tests (r : ByteArray) : (r.toList.isEmpty = true ∧ (⟨#[47]⟩ : ByteArray) ++ r = rootS r) ∨ (∃ h : 0 < r.size, r.toList.isEmpty = false ∧ (((r[0].toNat : Int)) != 47) = true ∧ (⟨#[47]⟩ : ByteArray) ++ r = rootS r) ∨ (∃ h : 0 < r.size, r.toList.isEmpty = false ∧ (((r[0].toNat : Int)) != 47) = false ∧ r = rootS r) := by
  rw [Lib.toList_data, isEmpty_size]
  by_cases h : 0 < r.size
  · right
    by_cases hc : r[0] = 47
    · right
      refine ⟨h, decide_eq_false (by omega), by rw [hc]; rfl, ?_⟩
      unfold rootS
      rw [if_pos (by rw [head_list r h, hc]; rfl)]
    · left
      refine ⟨h, decide_eq_false (by omega), by rw [bne_iff_ne]; exact fun e => hc (byte_is (n := 47) (by omega) (by decide)), ?_⟩
      unfold rootS
      rw [if_neg (by rw [head_list r h]; simpa using hc)]
      rfl
  · left
    refine ⟨decide_eq_true (by omega), ?_⟩
    unfold rootS
    rw [if_neg (by rw [nil_list r h]; simp)]
    rfl

set_option maxHeartbeats 8000000 in
theorem rpar_abs_ok (m s : ByteArray) (hs : s.size ≤ 8192) (hm : m.data.toList ≠ connectL) (hh : s.data.toList.head? ≠ some 47) (h7 : 7 ≤ s.size) (hl : sameB (s.data.toList.take 7) httpL = true) (hbad : rhostE (absH s).data.toList = 0) :
    RParses m s (if locB (absR s) = true then tgV 2 (rhostS (absH s)) (rhostP (absH s).data.toList) (cutP (absR s)) (cutQ (absR s)) (cutA (absR s)) else tgZ) (if locB (absR s) then 0 else 60) := by
  intro w
  have h0 : 0 < s.size := by omega
  have h0i : (0 : Int) < (s.size : Int) := by omega
  have h7i : ¬ (s.size : Int) < 7 := by omega
  have t1 : (m.toList == [67, 79, 78, 78, 69, 67, 84]) = false := notC hm
  have t2 : (s.toList == [42]) = false := by rw [str_eq]; exact decide_eq_false (fun e => by have := congrArg List.length e; rw [size_len] at this; simp at this; omega)
  have t47 : (((s[0].toNat : Int)) == 47) = false := by
    refine beq_eq_false_iff_ne.2 fun e => hh ?_
    rw [head_list s h0]
    have : s[0] = 47 := byte_is (n := 47) (by omega) (by decide)
    rw [this]; rfl
  have hlow : ((lowS (s.extract 0 7)).toList == [104, 116, 116, 112, 58, 47, 47]) = true := by
    have := low_http s
    rw [hl, bne] at this
    simpa using this
  have HL := hide (fun w => rlower_any (s.extract 0 7) w (by rw [ext_size]; omega))
  have hA := ext_abs s
  have hle := endN_le (absT s).data.toList
  have hT : (absT s).size = s.size - 7 := by unfold absT; rw [ext_size]; omega
  rw [size_len, hT] at hle
  have hH := fun w => rhost_any (absH s) w (by have : (absH s).size ≤ (absT s).size := (by unfold absH; rw [ext_size]; omega); omega)
  have HEH := hide (fun k => @end_hit s k)
  have HEN := hide (@end_none s h7)
  have hRz : (absR s).size ≤ 8200 := by
    have h1 := root_size ((absT s).extract (endN (absT s).data.toList) (absT s).size)
    have h2 : ((absT s).extract (endN (absT s).data.toList) (absT s).size).size ≤ (absT s).size := by rw [ext_size]; omega
    show (rootS _).size ≤ _
    omega
  have hR0 : 0 < (absR s).size := root_pos _
  have hRd : (absR s)[0] = 47 := root_head _
  have HLo := hide (fun h p w => rlocal_any 2 h p (absR s) w hRz hR0 hRd)
  have eR : absR s = rootS ((absT s).extract (endN (absT s).data.toList) (absT s).size) := rfl
  have hR0z : ((absT s).extract (endN (absT s).data.toList) (absT s).size).size ≤ 8192 := by rw [ext_size]; omega
  generalize endN (absT s).data.toList = n at *
  clear hRd hR0 hRz
  have E1 := hA.1
  generalize rhostS (absH s) = hn at *
  generalize rhostP (absH s).data.toList = hp at *
  generalize rhostE (absH s).data.toList = he at *
  have HH := hide hH
  subst hbad
  have E2 := hA.2
  clear hm hh hl hT hH hA
  generalize lowS (s.extract 0 7) = low at *
  generalize locB (absR s) = lb at *
  generalize cutP (absR s) = pa at *
  generalize cutQ (absR s) = qu at *
  generalize cutA (absR s) = ak at *
  unfold tgZ tgV
  unfold tgV at HLo
  generalize (absT s).extract n (absT s).size = R0 at *
  generalize absR s = R at *
  go_enter Tryz.func69, Tryz.ntmps69
  go_wp2_with fail
  have T0 := hide (One.start w #[.int .i64 0, .string ⟨#[]⟩, .int .i64 0, .string ⟨#[]⟩, .string ⟨#[]⟩, .bool false])
  generalize (w.alloc (.cells #[.int .i64 0, .string ⟨#[]⟩, .int .i64 0, .string ⟨#[]⟩, .string ⟨#[]⟩, .bool false] 53)) = x at T0 ⊢
  refine (HL.out _).mono ?_
  rintro e w1 ⟨rfl, b1⟩
  have T1 := hide (T0.out.below b1)
  clear b1 T0
  go_wp2
  have hrt := root_tests R0
  rw [← eR] at hrt
  clear eR
  go_loop [11] (fun i => ∃ k : Nat, 7 ≤ k ∧ k ≤ s.size ∧ i = .int .i64 k ∧ Hid (Lib.NoAny (absT s).data.toList mk2 (k - 7))) (fun i => s.size - (intOf i).toNat)
  case atStart => exact ⟨7, Nat.le_refl _, h7, rfl, hide (Lib.NoAny.zero _ _)⟩
  case round =>
    obtain ⟨k, hk7, hk, rfl, H⟩ := hrel
    have hk7i : (7 : Int) ≤ (k : Int) := by omega
    have hki : (k : Int) ≤ (s.size : Int) := by omega
    by_cases hlt : k < s.size
    · have hb := byte_lt s[k]
      by_cases h47 : s[k].toNat = 47
      · have t : (((s[k].toNat : Int)) != 47) = false := by rw [bne_eq_false_iff_eq]; omega
        have hkn : k = 7 + n := HEH.out k hk7 hlt H.out (by rw [show s[k] = 47 from byte_is (n := 47) h47 (by decide)]; rfl)
        clear h47
        have EK : s.extract 7 k = absH s := by rw [hkn]; exact E1
        have EK2 : s.extract k s.size = R0 := by rw [hkn]; exact E2
        clear HEH HEN E1 E2 H hkn
        generalize absH s = ah at *
        go_wp2_with fail
        refine (HH.out _).mono ?_
        rintro e w2 ⟨rfl, b2⟩
        have T2 := hide (T1.out.below b2)
        clear b2 T1
        rcases hrt with ⟨q1, q2⟩ | ⟨q0, q1, q2, q3⟩ | ⟨q0, q1, q2, q3⟩
        · go_wp2_with fail
          refine (HLo.out hn hp _).mono ?_
          rintro e w8 ⟨rfl, b8⟩
          have T8 := hide (T2.out.below b8)
          clear b8 T2
          go_upto_region 28 with fail
          have T3 := hide (T8.out.below ((Below.refl _ w8).alloc (Nat.le_refl _) (.cells #[.int .i64 2, .string hn, .int .i64 hp, .string pa, .string qu, .bool ak] 53)))
          have HD := hide (hp_new w8 (.cells #[.int .i64 2, .string hn, .int .i64 hp, .string pa, .string qu, .bool ak] 53))
          generalize w8.alloc (.cells #[.int .i64 2, .string hn, .int .i64 hp, .string pa, .string qu, .bool ak] 53) = w3 at T3 HD ⊢
          generalize w8.heap.size = b at HD ⊢
          clear T8
          have d0 : w3.cell? ⟨b, 0, none⟩ = some (.int .i64 2) := cell_at HD.out 0
          have d1 : w3.cell? ⟨b, 1, none⟩ = some (.string hn) := cell_at HD.out 1
          have d2 : w3.cell? ⟨b, 2, none⟩ = some (.int .i64 hp) := cell_at HD.out 2
          have d3 : w3.cell? ⟨b, 3, none⟩ = some (.string pa) := cell_at HD.out 3
          have d4 : w3.cell? ⟨b, 4, none⟩ = some (.string qu) := cell_at HD.out 4
          have d5 : w3.cell? ⟨b, 5, none⟩ = some (.bool ak) := cell_at HD.out 5
          have r0 : w3.cell? ⟨w.heap.size, 0, none⟩ = some (.int .i64 0) := T3.out.cell0 0
          have r1 : w3.cell? ⟨w.heap.size, 1, none⟩ = some (.string ⟨#[]⟩) := T3.out.cell0 1
          have r2 : w3.cell? ⟨w.heap.size, 2, none⟩ = some (.int .i64 0) := T3.out.cell0 2
          have r3 : w3.cell? ⟨w.heap.size, 3, none⟩ = some (.string ⟨#[]⟩) := T3.out.cell0 3
          have r4 : w3.cell? ⟨w.heap.size, 4, none⟩ = some (.string ⟨#[]⟩) := T3.out.cell0 4
          have r5 : w3.cell? ⟨w.heap.size, 5, none⟩ = some (.bool false) := T3.out.cell0 5
          have g0 := T3.out.fr0 0
          have g1 := T3.out.fr0 1
          have g2 := T3.out.fr0 2
          have g3 := T3.out.fr0 3
          have g4 := T3.out.fr0 4
          have g5 := T3.out.fr0 5
          cases lb with
          | true =>
            go_wp2
            have T9 := hide ((((((T3.out.set0 0 (.int .i64 2)).set0 1 (.string hn)).set0 2 (.int .i64 hp)).set0 3 (.string pa)).set0 4 (.string qu)).set0 5 (.bool ak))
            generalize ((((((w3.setCell ⟨w.heap.size, 0, none⟩ (.int .i64 2)).setCell ⟨w.heap.size, 1, none⟩ (.string hn)).setCell ⟨w.heap.size, 2, none⟩ (.int .i64 hp)).setCell ⟨w.heap.size, 3, none⟩ (.string pa)).setCell ⟨w.heap.size, 4, none⟩ (.string qu)).setCell ⟨w.heap.size, 5, none⟩ (.bool ak)) = w9 at T9 ⊢
            have k0 : w9.cell? ⟨w.heap.size, 0, none⟩ = some (.int .i64 2) := T9.out.cell0 0
            have k1 : w9.cell? ⟨w.heap.size, 1, none⟩ = some (.string hn) := T9.out.cell0 1
            have k2 : w9.cell? ⟨w.heap.size, 2, none⟩ = some (.int .i64 hp) := T9.out.cell0 2
            have k3 : w9.cell? ⟨w.heap.size, 3, none⟩ = some (.string pa) := T9.out.cell0 3
            have k4 : w9.cell? ⟨w.heap.size, 4, none⟩ = some (.string qu) := T9.out.cell0 4
            have k5 : w9.cell? ⟨w.heap.size, 5, none⟩ = some (.bool ak) := T9.out.cell0 5
            exact bodyPost_ret (v := .tuple #[.agg #[.int .i64 2, .string hn, .int .i64 hp, .string pa, .string qu, .bool ak], .int .i64 0]) (by simp [results, Tryz.results69, go_sem, k0, k1, k2, k3, k4, k5]) rfl ⟨rfl, T9.out.b⟩
          | false =>
            go_wp2
            have T9 := hide ((((((T3.out.set0 0 (.int .i64 0)).set0 1 (.string ⟨#[]⟩)).set0 2 (.int .i64 0)).set0 3 (.string ⟨#[]⟩)).set0 4 (.string ⟨#[]⟩)).set0 5 (.bool false))
            generalize ((((((w3.setCell ⟨w.heap.size, 0, none⟩ (.int .i64 0)).setCell ⟨w.heap.size, 1, none⟩ (.string ⟨#[]⟩)).setCell ⟨w.heap.size, 2, none⟩ (.int .i64 0)).setCell ⟨w.heap.size, 3, none⟩ (.string ⟨#[]⟩)).setCell ⟨w.heap.size, 4, none⟩ (.string ⟨#[]⟩)).setCell ⟨w.heap.size, 5, none⟩ (.bool false)) = w9 at T9 ⊢
            have k0 : w9.cell? ⟨w.heap.size, 0, none⟩ = some (.int .i64 0) := T9.out.cell0 0
            have k1 : w9.cell? ⟨w.heap.size, 1, none⟩ = some (.string ⟨#[]⟩) := T9.out.cell0 1
            have k2 : w9.cell? ⟨w.heap.size, 2, none⟩ = some (.int .i64 0) := T9.out.cell0 2
            have k3 : w9.cell? ⟨w.heap.size, 3, none⟩ = some (.string ⟨#[]⟩) := T9.out.cell0 3
            have k4 : w9.cell? ⟨w.heap.size, 4, none⟩ = some (.string ⟨#[]⟩) := T9.out.cell0 4
            have k5 : w9.cell? ⟨w.heap.size, 5, none⟩ = some (.bool false) := T9.out.cell0 5
            exact bodyPost_ret (v := .tuple #[.agg #[.int .i64 0, .string ⟨#[]⟩, .int .i64 0, .string ⟨#[]⟩, .string ⟨#[]⟩, .bool false], .int .i64 60]) (by simp [results, Tryz.results69, go_sem, k0, k1, k2, k3, k4, k5]) rfl ⟨rfl, T9.out.b⟩
        · go_wp2_with fail
          refine (HLo.out hn hp _).mono ?_
          rintro e w8 ⟨rfl, b8⟩
          have T8 := hide (T2.out.below b8)
          clear b8 T2
          go_upto_region 28 with fail
          have T3 := hide (T8.out.below ((Below.refl _ w8).alloc (Nat.le_refl _) (.cells #[.int .i64 2, .string hn, .int .i64 hp, .string pa, .string qu, .bool ak] 53)))
          have HD := hide (hp_new w8 (.cells #[.int .i64 2, .string hn, .int .i64 hp, .string pa, .string qu, .bool ak] 53))
          generalize w8.alloc (.cells #[.int .i64 2, .string hn, .int .i64 hp, .string pa, .string qu, .bool ak] 53) = w3 at T3 HD ⊢
          generalize w8.heap.size = b at HD ⊢
          clear T8
          have d0 : w3.cell? ⟨b, 0, none⟩ = some (.int .i64 2) := cell_at HD.out 0
          have d1 : w3.cell? ⟨b, 1, none⟩ = some (.string hn) := cell_at HD.out 1
          have d2 : w3.cell? ⟨b, 2, none⟩ = some (.int .i64 hp) := cell_at HD.out 2
          have d3 : w3.cell? ⟨b, 3, none⟩ = some (.string pa) := cell_at HD.out 3
          have d4 : w3.cell? ⟨b, 4, none⟩ = some (.string qu) := cell_at HD.out 4
          have d5 : w3.cell? ⟨b, 5, none⟩ = some (.bool ak) := cell_at HD.out 5
          have r0 : w3.cell? ⟨w.heap.size, 0, none⟩ = some (.int .i64 0) := T3.out.cell0 0
          have r1 : w3.cell? ⟨w.heap.size, 1, none⟩ = some (.string ⟨#[]⟩) := T3.out.cell0 1
          have r2 : w3.cell? ⟨w.heap.size, 2, none⟩ = some (.int .i64 0) := T3.out.cell0 2
          have r3 : w3.cell? ⟨w.heap.size, 3, none⟩ = some (.string ⟨#[]⟩) := T3.out.cell0 3
          have r4 : w3.cell? ⟨w.heap.size, 4, none⟩ = some (.string ⟨#[]⟩) := T3.out.cell0 4
          have r5 : w3.cell? ⟨w.heap.size, 5, none⟩ = some (.bool false) := T3.out.cell0 5
          have g0 := T3.out.fr0 0
          have g1 := T3.out.fr0 1
          have g2 := T3.out.fr0 2
          have g3 := T3.out.fr0 3
          have g4 := T3.out.fr0 4
          have g5 := T3.out.fr0 5
          cases lb with
          | true =>
            go_wp2
            have T9 := hide ((((((T3.out.set0 0 (.int .i64 2)).set0 1 (.string hn)).set0 2 (.int .i64 hp)).set0 3 (.string pa)).set0 4 (.string qu)).set0 5 (.bool ak))
            generalize ((((((w3.setCell ⟨w.heap.size, 0, none⟩ (.int .i64 2)).setCell ⟨w.heap.size, 1, none⟩ (.string hn)).setCell ⟨w.heap.size, 2, none⟩ (.int .i64 hp)).setCell ⟨w.heap.size, 3, none⟩ (.string pa)).setCell ⟨w.heap.size, 4, none⟩ (.string qu)).setCell ⟨w.heap.size, 5, none⟩ (.bool ak)) = w9 at T9 ⊢
            have k0 : w9.cell? ⟨w.heap.size, 0, none⟩ = some (.int .i64 2) := T9.out.cell0 0
            have k1 : w9.cell? ⟨w.heap.size, 1, none⟩ = some (.string hn) := T9.out.cell0 1
            have k2 : w9.cell? ⟨w.heap.size, 2, none⟩ = some (.int .i64 hp) := T9.out.cell0 2
            have k3 : w9.cell? ⟨w.heap.size, 3, none⟩ = some (.string pa) := T9.out.cell0 3
            have k4 : w9.cell? ⟨w.heap.size, 4, none⟩ = some (.string qu) := T9.out.cell0 4
            have k5 : w9.cell? ⟨w.heap.size, 5, none⟩ = some (.bool ak) := T9.out.cell0 5
            exact bodyPost_ret (v := .tuple #[.agg #[.int .i64 2, .string hn, .int .i64 hp, .string pa, .string qu, .bool ak], .int .i64 0]) (by simp [results, Tryz.results69, go_sem, k0, k1, k2, k3, k4, k5]) rfl ⟨rfl, T9.out.b⟩
          | false =>
            go_wp2
            have T9 := hide ((((((T3.out.set0 0 (.int .i64 0)).set0 1 (.string ⟨#[]⟩)).set0 2 (.int .i64 0)).set0 3 (.string ⟨#[]⟩)).set0 4 (.string ⟨#[]⟩)).set0 5 (.bool false))
            generalize ((((((w3.setCell ⟨w.heap.size, 0, none⟩ (.int .i64 0)).setCell ⟨w.heap.size, 1, none⟩ (.string ⟨#[]⟩)).setCell ⟨w.heap.size, 2, none⟩ (.int .i64 0)).setCell ⟨w.heap.size, 3, none⟩ (.string ⟨#[]⟩)).setCell ⟨w.heap.size, 4, none⟩ (.string ⟨#[]⟩)).setCell ⟨w.heap.size, 5, none⟩ (.bool false)) = w9 at T9 ⊢
            have k0 : w9.cell? ⟨w.heap.size, 0, none⟩ = some (.int .i64 0) := T9.out.cell0 0
            have k1 : w9.cell? ⟨w.heap.size, 1, none⟩ = some (.string ⟨#[]⟩) := T9.out.cell0 1
            have k2 : w9.cell? ⟨w.heap.size, 2, none⟩ = some (.int .i64 0) := T9.out.cell0 2
            have k3 : w9.cell? ⟨w.heap.size, 3, none⟩ = some (.string ⟨#[]⟩) := T9.out.cell0 3
            have k4 : w9.cell? ⟨w.heap.size, 4, none⟩ = some (.string ⟨#[]⟩) := T9.out.cell0 4
            have k5 : w9.cell? ⟨w.heap.size, 5, none⟩ = some (.bool false) := T9.out.cell0 5
            exact bodyPost_ret (v := .tuple #[.agg #[.int .i64 0, .string ⟨#[]⟩, .int .i64 0, .string ⟨#[]⟩, .string ⟨#[]⟩, .bool false], .int .i64 60]) (by simp [results, Tryz.results69, go_sem, k0, k1, k2, k3, k4, k5]) rfl ⟨rfl, T9.out.b⟩
        · subst q3
          go_wp2_with fail
          refine (HLo.out hn hp _).mono ?_
          rintro e w8 ⟨rfl, b8⟩
          have T8 := hide (T2.out.below b8)
          clear b8 T2
          go_upto_region 28 with fail
          have T3 := hide (T8.out.below ((Below.refl _ w8).alloc (Nat.le_refl _) (.cells #[.int .i64 2, .string hn, .int .i64 hp, .string pa, .string qu, .bool ak] 53)))
          have HD := hide (hp_new w8 (.cells #[.int .i64 2, .string hn, .int .i64 hp, .string pa, .string qu, .bool ak] 53))
          generalize w8.alloc (.cells #[.int .i64 2, .string hn, .int .i64 hp, .string pa, .string qu, .bool ak] 53) = w3 at T3 HD ⊢
          generalize w8.heap.size = b at HD ⊢
          clear T8
          have d0 : w3.cell? ⟨b, 0, none⟩ = some (.int .i64 2) := cell_at HD.out 0
          have d1 : w3.cell? ⟨b, 1, none⟩ = some (.string hn) := cell_at HD.out 1
          have d2 : w3.cell? ⟨b, 2, none⟩ = some (.int .i64 hp) := cell_at HD.out 2
          have d3 : w3.cell? ⟨b, 3, none⟩ = some (.string pa) := cell_at HD.out 3
          have d4 : w3.cell? ⟨b, 4, none⟩ = some (.string qu) := cell_at HD.out 4
          have d5 : w3.cell? ⟨b, 5, none⟩ = some (.bool ak) := cell_at HD.out 5
          have r0 : w3.cell? ⟨w.heap.size, 0, none⟩ = some (.int .i64 0) := T3.out.cell0 0
          have r1 : w3.cell? ⟨w.heap.size, 1, none⟩ = some (.string ⟨#[]⟩) := T3.out.cell0 1
          have r2 : w3.cell? ⟨w.heap.size, 2, none⟩ = some (.int .i64 0) := T3.out.cell0 2
          have r3 : w3.cell? ⟨w.heap.size, 3, none⟩ = some (.string ⟨#[]⟩) := T3.out.cell0 3
          have r4 : w3.cell? ⟨w.heap.size, 4, none⟩ = some (.string ⟨#[]⟩) := T3.out.cell0 4
          have r5 : w3.cell? ⟨w.heap.size, 5, none⟩ = some (.bool false) := T3.out.cell0 5
          have g0 := T3.out.fr0 0
          have g1 := T3.out.fr0 1
          have g2 := T3.out.fr0 2
          have g3 := T3.out.fr0 3
          have g4 := T3.out.fr0 4
          have g5 := T3.out.fr0 5
          cases lb with
          | true =>
            go_wp2
            have T9 := hide ((((((T3.out.set0 0 (.int .i64 2)).set0 1 (.string hn)).set0 2 (.int .i64 hp)).set0 3 (.string pa)).set0 4 (.string qu)).set0 5 (.bool ak))
            generalize ((((((w3.setCell ⟨w.heap.size, 0, none⟩ (.int .i64 2)).setCell ⟨w.heap.size, 1, none⟩ (.string hn)).setCell ⟨w.heap.size, 2, none⟩ (.int .i64 hp)).setCell ⟨w.heap.size, 3, none⟩ (.string pa)).setCell ⟨w.heap.size, 4, none⟩ (.string qu)).setCell ⟨w.heap.size, 5, none⟩ (.bool ak)) = w9 at T9 ⊢
            have k0 : w9.cell? ⟨w.heap.size, 0, none⟩ = some (.int .i64 2) := T9.out.cell0 0
            have k1 : w9.cell? ⟨w.heap.size, 1, none⟩ = some (.string hn) := T9.out.cell0 1
            have k2 : w9.cell? ⟨w.heap.size, 2, none⟩ = some (.int .i64 hp) := T9.out.cell0 2
            have k3 : w9.cell? ⟨w.heap.size, 3, none⟩ = some (.string pa) := T9.out.cell0 3
            have k4 : w9.cell? ⟨w.heap.size, 4, none⟩ = some (.string qu) := T9.out.cell0 4
            have k5 : w9.cell? ⟨w.heap.size, 5, none⟩ = some (.bool ak) := T9.out.cell0 5
            exact bodyPost_ret (v := .tuple #[.agg #[.int .i64 2, .string hn, .int .i64 hp, .string pa, .string qu, .bool ak], .int .i64 0]) (by simp [results, Tryz.results69, go_sem, k0, k1, k2, k3, k4, k5]) rfl ⟨rfl, T9.out.b⟩
          | false =>
            go_wp2
            have T9 := hide ((((((T3.out.set0 0 (.int .i64 0)).set0 1 (.string ⟨#[]⟩)).set0 2 (.int .i64 0)).set0 3 (.string ⟨#[]⟩)).set0 4 (.string ⟨#[]⟩)).set0 5 (.bool false))
            generalize ((((((w3.setCell ⟨w.heap.size, 0, none⟩ (.int .i64 0)).setCell ⟨w.heap.size, 1, none⟩ (.string ⟨#[]⟩)).setCell ⟨w.heap.size, 2, none⟩ (.int .i64 0)).setCell ⟨w.heap.size, 3, none⟩ (.string ⟨#[]⟩)).setCell ⟨w.heap.size, 4, none⟩ (.string ⟨#[]⟩)).setCell ⟨w.heap.size, 5, none⟩ (.bool false)) = w9 at T9 ⊢
            have k0 : w9.cell? ⟨w.heap.size, 0, none⟩ = some (.int .i64 0) := T9.out.cell0 0
            have k1 : w9.cell? ⟨w.heap.size, 1, none⟩ = some (.string ⟨#[]⟩) := T9.out.cell0 1
            have k2 : w9.cell? ⟨w.heap.size, 2, none⟩ = some (.int .i64 0) := T9.out.cell0 2
            have k3 : w9.cell? ⟨w.heap.size, 3, none⟩ = some (.string ⟨#[]⟩) := T9.out.cell0 3
            have k4 : w9.cell? ⟨w.heap.size, 4, none⟩ = some (.string ⟨#[]⟩) := T9.out.cell0 4
            have k5 : w9.cell? ⟨w.heap.size, 5, none⟩ = some (.bool false) := T9.out.cell0 5
            exact bodyPost_ret (v := .tuple #[.agg #[.int .i64 0, .string ⟨#[]⟩, .int .i64 0, .string ⟨#[]⟩, .string ⟨#[]⟩, .bool false], .int .i64 60]) (by simp [results, Tryz.results69, go_sem, k0, k1, k2, k3, k4, k5]) rfl ⟨rfl, T9.out.b⟩
      · have t : (((s[k].toNat : Int)) != 47) = true := by rw [bne_iff_ne]; omega
        by_cases h63 : s[k].toNat = 63
        · have t' : (((s[k].toNat : Int)) != 63) = false := by rw [bne_eq_false_iff_eq]; omega
          have hkn : k = 7 + n := HEH.out k hk7 hlt H.out (by rw [show s[k] = 63 from byte_is (n := 63) h63 (by decide)]; rfl)
          clear h47 h63
          have EK : s.extract 7 k = absH s := by rw [hkn]; exact E1
          have EK2 : s.extract k s.size = R0 := by rw [hkn]; exact E2
          clear HEH HEN E1 E2 H hkn
          generalize absH s = ah at *
          go_wp2_with fail
          refine (HH.out _).mono ?_
          rintro e w2 ⟨rfl, b2⟩
          have T2 := hide (T1.out.below b2)
          clear b2 T1
          rcases hrt with ⟨q1, q2⟩ | ⟨q0, q1, q2, q3⟩ | ⟨q0, q1, q2, q3⟩
          · go_wp2_with fail
            refine (HLo.out hn hp _).mono ?_
            rintro e w8 ⟨rfl, b8⟩
            have T8 := hide (T2.out.below b8)
            clear b8 T2
            go_upto_region 28 with fail
            have T3 := hide (T8.out.below ((Below.refl _ w8).alloc (Nat.le_refl _) (.cells #[.int .i64 2, .string hn, .int .i64 hp, .string pa, .string qu, .bool ak] 53)))
            have HD := hide (hp_new w8 (.cells #[.int .i64 2, .string hn, .int .i64 hp, .string pa, .string qu, .bool ak] 53))
            generalize w8.alloc (.cells #[.int .i64 2, .string hn, .int .i64 hp, .string pa, .string qu, .bool ak] 53) = w3 at T3 HD ⊢
            generalize w8.heap.size = b at HD ⊢
            clear T8
            have d0 : w3.cell? ⟨b, 0, none⟩ = some (.int .i64 2) := cell_at HD.out 0
            have d1 : w3.cell? ⟨b, 1, none⟩ = some (.string hn) := cell_at HD.out 1
            have d2 : w3.cell? ⟨b, 2, none⟩ = some (.int .i64 hp) := cell_at HD.out 2
            have d3 : w3.cell? ⟨b, 3, none⟩ = some (.string pa) := cell_at HD.out 3
            have d4 : w3.cell? ⟨b, 4, none⟩ = some (.string qu) := cell_at HD.out 4
            have d5 : w3.cell? ⟨b, 5, none⟩ = some (.bool ak) := cell_at HD.out 5
            have r0 : w3.cell? ⟨w.heap.size, 0, none⟩ = some (.int .i64 0) := T3.out.cell0 0
            have r1 : w3.cell? ⟨w.heap.size, 1, none⟩ = some (.string ⟨#[]⟩) := T3.out.cell0 1
            have r2 : w3.cell? ⟨w.heap.size, 2, none⟩ = some (.int .i64 0) := T3.out.cell0 2
            have r3 : w3.cell? ⟨w.heap.size, 3, none⟩ = some (.string ⟨#[]⟩) := T3.out.cell0 3
            have r4 : w3.cell? ⟨w.heap.size, 4, none⟩ = some (.string ⟨#[]⟩) := T3.out.cell0 4
            have r5 : w3.cell? ⟨w.heap.size, 5, none⟩ = some (.bool false) := T3.out.cell0 5
            have g0 := T3.out.fr0 0
            have g1 := T3.out.fr0 1
            have g2 := T3.out.fr0 2
            have g3 := T3.out.fr0 3
            have g4 := T3.out.fr0 4
            have g5 := T3.out.fr0 5
            cases lb with
            | true =>
              go_wp2
              have T9 := hide ((((((T3.out.set0 0 (.int .i64 2)).set0 1 (.string hn)).set0 2 (.int .i64 hp)).set0 3 (.string pa)).set0 4 (.string qu)).set0 5 (.bool ak))
              generalize ((((((w3.setCell ⟨w.heap.size, 0, none⟩ (.int .i64 2)).setCell ⟨w.heap.size, 1, none⟩ (.string hn)).setCell ⟨w.heap.size, 2, none⟩ (.int .i64 hp)).setCell ⟨w.heap.size, 3, none⟩ (.string pa)).setCell ⟨w.heap.size, 4, none⟩ (.string qu)).setCell ⟨w.heap.size, 5, none⟩ (.bool ak)) = w9 at T9 ⊢
              have k0 : w9.cell? ⟨w.heap.size, 0, none⟩ = some (.int .i64 2) := T9.out.cell0 0
              have k1 : w9.cell? ⟨w.heap.size, 1, none⟩ = some (.string hn) := T9.out.cell0 1
              have k2 : w9.cell? ⟨w.heap.size, 2, none⟩ = some (.int .i64 hp) := T9.out.cell0 2
              have k3 : w9.cell? ⟨w.heap.size, 3, none⟩ = some (.string pa) := T9.out.cell0 3
              have k4 : w9.cell? ⟨w.heap.size, 4, none⟩ = some (.string qu) := T9.out.cell0 4
              have k5 : w9.cell? ⟨w.heap.size, 5, none⟩ = some (.bool ak) := T9.out.cell0 5
              exact bodyPost_ret (v := .tuple #[.agg #[.int .i64 2, .string hn, .int .i64 hp, .string pa, .string qu, .bool ak], .int .i64 0]) (by simp [results, Tryz.results69, go_sem, k0, k1, k2, k3, k4, k5]) rfl ⟨rfl, T9.out.b⟩
            | false =>
              go_wp2
              have T9 := hide ((((((T3.out.set0 0 (.int .i64 0)).set0 1 (.string ⟨#[]⟩)).set0 2 (.int .i64 0)).set0 3 (.string ⟨#[]⟩)).set0 4 (.string ⟨#[]⟩)).set0 5 (.bool false))
              generalize ((((((w3.setCell ⟨w.heap.size, 0, none⟩ (.int .i64 0)).setCell ⟨w.heap.size, 1, none⟩ (.string ⟨#[]⟩)).setCell ⟨w.heap.size, 2, none⟩ (.int .i64 0)).setCell ⟨w.heap.size, 3, none⟩ (.string ⟨#[]⟩)).setCell ⟨w.heap.size, 4, none⟩ (.string ⟨#[]⟩)).setCell ⟨w.heap.size, 5, none⟩ (.bool false)) = w9 at T9 ⊢
              have k0 : w9.cell? ⟨w.heap.size, 0, none⟩ = some (.int .i64 0) := T9.out.cell0 0
              have k1 : w9.cell? ⟨w.heap.size, 1, none⟩ = some (.string ⟨#[]⟩) := T9.out.cell0 1
              have k2 : w9.cell? ⟨w.heap.size, 2, none⟩ = some (.int .i64 0) := T9.out.cell0 2
              have k3 : w9.cell? ⟨w.heap.size, 3, none⟩ = some (.string ⟨#[]⟩) := T9.out.cell0 3
              have k4 : w9.cell? ⟨w.heap.size, 4, none⟩ = some (.string ⟨#[]⟩) := T9.out.cell0 4
              have k5 : w9.cell? ⟨w.heap.size, 5, none⟩ = some (.bool false) := T9.out.cell0 5
              exact bodyPost_ret (v := .tuple #[.agg #[.int .i64 0, .string ⟨#[]⟩, .int .i64 0, .string ⟨#[]⟩, .string ⟨#[]⟩, .bool false], .int .i64 60]) (by simp [results, Tryz.results69, go_sem, k0, k1, k2, k3, k4, k5]) rfl ⟨rfl, T9.out.b⟩
          · go_wp2_with fail
            refine (HLo.out hn hp _).mono ?_
            rintro e w8 ⟨rfl, b8⟩
            have T8 := hide (T2.out.below b8)
            clear b8 T2
            go_upto_region 28 with fail
            have T3 := hide (T8.out.below ((Below.refl _ w8).alloc (Nat.le_refl _) (.cells #[.int .i64 2, .string hn, .int .i64 hp, .string pa, .string qu, .bool ak] 53)))
            have HD := hide (hp_new w8 (.cells #[.int .i64 2, .string hn, .int .i64 hp, .string pa, .string qu, .bool ak] 53))
            generalize w8.alloc (.cells #[.int .i64 2, .string hn, .int .i64 hp, .string pa, .string qu, .bool ak] 53) = w3 at T3 HD ⊢
            generalize w8.heap.size = b at HD ⊢
            clear T8
            have d0 : w3.cell? ⟨b, 0, none⟩ = some (.int .i64 2) := cell_at HD.out 0
            have d1 : w3.cell? ⟨b, 1, none⟩ = some (.string hn) := cell_at HD.out 1
            have d2 : w3.cell? ⟨b, 2, none⟩ = some (.int .i64 hp) := cell_at HD.out 2
            have d3 : w3.cell? ⟨b, 3, none⟩ = some (.string pa) := cell_at HD.out 3
            have d4 : w3.cell? ⟨b, 4, none⟩ = some (.string qu) := cell_at HD.out 4
            have d5 : w3.cell? ⟨b, 5, none⟩ = some (.bool ak) := cell_at HD.out 5
            have r0 : w3.cell? ⟨w.heap.size, 0, none⟩ = some (.int .i64 0) := T3.out.cell0 0
            have r1 : w3.cell? ⟨w.heap.size, 1, none⟩ = some (.string ⟨#[]⟩) := T3.out.cell0 1
            have r2 : w3.cell? ⟨w.heap.size, 2, none⟩ = some (.int .i64 0) := T3.out.cell0 2
            have r3 : w3.cell? ⟨w.heap.size, 3, none⟩ = some (.string ⟨#[]⟩) := T3.out.cell0 3
            have r4 : w3.cell? ⟨w.heap.size, 4, none⟩ = some (.string ⟨#[]⟩) := T3.out.cell0 4
            have r5 : w3.cell? ⟨w.heap.size, 5, none⟩ = some (.bool false) := T3.out.cell0 5
            have g0 := T3.out.fr0 0
            have g1 := T3.out.fr0 1
            have g2 := T3.out.fr0 2
            have g3 := T3.out.fr0 3
            have g4 := T3.out.fr0 4
            have g5 := T3.out.fr0 5
            cases lb with
            | true =>
              go_wp2
              have T9 := hide ((((((T3.out.set0 0 (.int .i64 2)).set0 1 (.string hn)).set0 2 (.int .i64 hp)).set0 3 (.string pa)).set0 4 (.string qu)).set0 5 (.bool ak))
              generalize ((((((w3.setCell ⟨w.heap.size, 0, none⟩ (.int .i64 2)).setCell ⟨w.heap.size, 1, none⟩ (.string hn)).setCell ⟨w.heap.size, 2, none⟩ (.int .i64 hp)).setCell ⟨w.heap.size, 3, none⟩ (.string pa)).setCell ⟨w.heap.size, 4, none⟩ (.string qu)).setCell ⟨w.heap.size, 5, none⟩ (.bool ak)) = w9 at T9 ⊢
              have k0 : w9.cell? ⟨w.heap.size, 0, none⟩ = some (.int .i64 2) := T9.out.cell0 0
              have k1 : w9.cell? ⟨w.heap.size, 1, none⟩ = some (.string hn) := T9.out.cell0 1
              have k2 : w9.cell? ⟨w.heap.size, 2, none⟩ = some (.int .i64 hp) := T9.out.cell0 2
              have k3 : w9.cell? ⟨w.heap.size, 3, none⟩ = some (.string pa) := T9.out.cell0 3
              have k4 : w9.cell? ⟨w.heap.size, 4, none⟩ = some (.string qu) := T9.out.cell0 4
              have k5 : w9.cell? ⟨w.heap.size, 5, none⟩ = some (.bool ak) := T9.out.cell0 5
              exact bodyPost_ret (v := .tuple #[.agg #[.int .i64 2, .string hn, .int .i64 hp, .string pa, .string qu, .bool ak], .int .i64 0]) (by simp [results, Tryz.results69, go_sem, k0, k1, k2, k3, k4, k5]) rfl ⟨rfl, T9.out.b⟩
            | false =>
              go_wp2
              have T9 := hide ((((((T3.out.set0 0 (.int .i64 0)).set0 1 (.string ⟨#[]⟩)).set0 2 (.int .i64 0)).set0 3 (.string ⟨#[]⟩)).set0 4 (.string ⟨#[]⟩)).set0 5 (.bool false))
              generalize ((((((w3.setCell ⟨w.heap.size, 0, none⟩ (.int .i64 0)).setCell ⟨w.heap.size, 1, none⟩ (.string ⟨#[]⟩)).setCell ⟨w.heap.size, 2, none⟩ (.int .i64 0)).setCell ⟨w.heap.size, 3, none⟩ (.string ⟨#[]⟩)).setCell ⟨w.heap.size, 4, none⟩ (.string ⟨#[]⟩)).setCell ⟨w.heap.size, 5, none⟩ (.bool false)) = w9 at T9 ⊢
              have k0 : w9.cell? ⟨w.heap.size, 0, none⟩ = some (.int .i64 0) := T9.out.cell0 0
              have k1 : w9.cell? ⟨w.heap.size, 1, none⟩ = some (.string ⟨#[]⟩) := T9.out.cell0 1
              have k2 : w9.cell? ⟨w.heap.size, 2, none⟩ = some (.int .i64 0) := T9.out.cell0 2
              have k3 : w9.cell? ⟨w.heap.size, 3, none⟩ = some (.string ⟨#[]⟩) := T9.out.cell0 3
              have k4 : w9.cell? ⟨w.heap.size, 4, none⟩ = some (.string ⟨#[]⟩) := T9.out.cell0 4
              have k5 : w9.cell? ⟨w.heap.size, 5, none⟩ = some (.bool false) := T9.out.cell0 5
              exact bodyPost_ret (v := .tuple #[.agg #[.int .i64 0, .string ⟨#[]⟩, .int .i64 0, .string ⟨#[]⟩, .string ⟨#[]⟩, .bool false], .int .i64 60]) (by simp [results, Tryz.results69, go_sem, k0, k1, k2, k3, k4, k5]) rfl ⟨rfl, T9.out.b⟩
          · subst q3
            go_wp2_with fail
            refine (HLo.out hn hp _).mono ?_
            rintro e w8 ⟨rfl, b8⟩
            have T8 := hide (T2.out.below b8)
            clear b8 T2
            go_upto_region 28 with fail
            have T3 := hide (T8.out.below ((Below.refl _ w8).alloc (Nat.le_refl _) (.cells #[.int .i64 2, .string hn, .int .i64 hp, .string pa, .string qu, .bool ak] 53)))
            have HD := hide (hp_new w8 (.cells #[.int .i64 2, .string hn, .int .i64 hp, .string pa, .string qu, .bool ak] 53))
            generalize w8.alloc (.cells #[.int .i64 2, .string hn, .int .i64 hp, .string pa, .string qu, .bool ak] 53) = w3 at T3 HD ⊢
            generalize w8.heap.size = b at HD ⊢
            clear T8
            have d0 : w3.cell? ⟨b, 0, none⟩ = some (.int .i64 2) := cell_at HD.out 0
            have d1 : w3.cell? ⟨b, 1, none⟩ = some (.string hn) := cell_at HD.out 1
            have d2 : w3.cell? ⟨b, 2, none⟩ = some (.int .i64 hp) := cell_at HD.out 2
            have d3 : w3.cell? ⟨b, 3, none⟩ = some (.string pa) := cell_at HD.out 3
            have d4 : w3.cell? ⟨b, 4, none⟩ = some (.string qu) := cell_at HD.out 4
            have d5 : w3.cell? ⟨b, 5, none⟩ = some (.bool ak) := cell_at HD.out 5
            have r0 : w3.cell? ⟨w.heap.size, 0, none⟩ = some (.int .i64 0) := T3.out.cell0 0
            have r1 : w3.cell? ⟨w.heap.size, 1, none⟩ = some (.string ⟨#[]⟩) := T3.out.cell0 1
            have r2 : w3.cell? ⟨w.heap.size, 2, none⟩ = some (.int .i64 0) := T3.out.cell0 2
            have r3 : w3.cell? ⟨w.heap.size, 3, none⟩ = some (.string ⟨#[]⟩) := T3.out.cell0 3
            have r4 : w3.cell? ⟨w.heap.size, 4, none⟩ = some (.string ⟨#[]⟩) := T3.out.cell0 4
            have r5 : w3.cell? ⟨w.heap.size, 5, none⟩ = some (.bool false) := T3.out.cell0 5
            have g0 := T3.out.fr0 0
            have g1 := T3.out.fr0 1
            have g2 := T3.out.fr0 2
            have g3 := T3.out.fr0 3
            have g4 := T3.out.fr0 4
            have g5 := T3.out.fr0 5
            cases lb with
            | true =>
              go_wp2
              have T9 := hide ((((((T3.out.set0 0 (.int .i64 2)).set0 1 (.string hn)).set0 2 (.int .i64 hp)).set0 3 (.string pa)).set0 4 (.string qu)).set0 5 (.bool ak))
              generalize ((((((w3.setCell ⟨w.heap.size, 0, none⟩ (.int .i64 2)).setCell ⟨w.heap.size, 1, none⟩ (.string hn)).setCell ⟨w.heap.size, 2, none⟩ (.int .i64 hp)).setCell ⟨w.heap.size, 3, none⟩ (.string pa)).setCell ⟨w.heap.size, 4, none⟩ (.string qu)).setCell ⟨w.heap.size, 5, none⟩ (.bool ak)) = w9 at T9 ⊢
              have k0 : w9.cell? ⟨w.heap.size, 0, none⟩ = some (.int .i64 2) := T9.out.cell0 0
              have k1 : w9.cell? ⟨w.heap.size, 1, none⟩ = some (.string hn) := T9.out.cell0 1
              have k2 : w9.cell? ⟨w.heap.size, 2, none⟩ = some (.int .i64 hp) := T9.out.cell0 2
              have k3 : w9.cell? ⟨w.heap.size, 3, none⟩ = some (.string pa) := T9.out.cell0 3
              have k4 : w9.cell? ⟨w.heap.size, 4, none⟩ = some (.string qu) := T9.out.cell0 4
              have k5 : w9.cell? ⟨w.heap.size, 5, none⟩ = some (.bool ak) := T9.out.cell0 5
              exact bodyPost_ret (v := .tuple #[.agg #[.int .i64 2, .string hn, .int .i64 hp, .string pa, .string qu, .bool ak], .int .i64 0]) (by simp [results, Tryz.results69, go_sem, k0, k1, k2, k3, k4, k5]) rfl ⟨rfl, T9.out.b⟩
            | false =>
              go_wp2
              have T9 := hide ((((((T3.out.set0 0 (.int .i64 0)).set0 1 (.string ⟨#[]⟩)).set0 2 (.int .i64 0)).set0 3 (.string ⟨#[]⟩)).set0 4 (.string ⟨#[]⟩)).set0 5 (.bool false))
              generalize ((((((w3.setCell ⟨w.heap.size, 0, none⟩ (.int .i64 0)).setCell ⟨w.heap.size, 1, none⟩ (.string ⟨#[]⟩)).setCell ⟨w.heap.size, 2, none⟩ (.int .i64 0)).setCell ⟨w.heap.size, 3, none⟩ (.string ⟨#[]⟩)).setCell ⟨w.heap.size, 4, none⟩ (.string ⟨#[]⟩)).setCell ⟨w.heap.size, 5, none⟩ (.bool false)) = w9 at T9 ⊢
              have k0 : w9.cell? ⟨w.heap.size, 0, none⟩ = some (.int .i64 0) := T9.out.cell0 0
              have k1 : w9.cell? ⟨w.heap.size, 1, none⟩ = some (.string ⟨#[]⟩) := T9.out.cell0 1
              have k2 : w9.cell? ⟨w.heap.size, 2, none⟩ = some (.int .i64 0) := T9.out.cell0 2
              have k3 : w9.cell? ⟨w.heap.size, 3, none⟩ = some (.string ⟨#[]⟩) := T9.out.cell0 3
              have k4 : w9.cell? ⟨w.heap.size, 4, none⟩ = some (.string ⟨#[]⟩) := T9.out.cell0 4
              have k5 : w9.cell? ⟨w.heap.size, 5, none⟩ = some (.bool false) := T9.out.cell0 5
              exact bodyPost_ret (v := .tuple #[.agg #[.int .i64 0, .string ⟨#[]⟩, .int .i64 0, .string ⟨#[]⟩, .string ⟨#[]⟩, .bool false], .int .i64 60]) (by simp [results, Tryz.results69, go_sem, k0, k1, k2, k3, k4, k5]) rfl ⟨rfl, T9.out.b⟩
        · have t' : (((s[k].toNat : Int)) != 63) = true := by rw [bne_iff_ne]; omega
          have HN : Hid (Lib.NoAny (absT s).data.toList mk2 (k + 1 - 7)) := hide (by
            rw [show k + 1 - 7 = (k - 7) + 1 by omega]
            refine H.out.succ (tail_at s k hk7 hlt) ?_
            simp only [mk2, List.contains_cons, List.contains_nil, Bool.or_false, Bool.or_eq_false_iff]
            exact ⟨beq_eq_false_iff_ne.2 (byte_ne (n := 47) h47 (by decide)), beq_eq_false_iff_ne.2 (byte_ne (n := 63) h63 (by decide))⟩)
          clear h47 h63
          go_wp2
          exact ⟨⟨k + 1, by omega, by omega, by go_num, HN⟩, by simp [intOf]; omega⟩
    · have hkn : k = 7 + n := by have e : k = s.size := (by omega); rw [e] at H ⊢; exact HEN.out H.out
      have EK : s.extract 7 k = absH s := by rw [hkn]; exact E1
      have EK2 : s.extract k s.size = R0 := by rw [hkn]; exact E2
      clear HEH HEN E1 E2 H hkn
      generalize absH s = ah at *
      go_wp2_with fail
      refine (HH.out _).mono ?_
      rintro e w2 ⟨rfl, b2⟩
      have T2 := hide (T1.out.below b2)
      clear b2 T1
      rcases hrt with ⟨q1, q2⟩ | ⟨q0, q1, q2, q3⟩ | ⟨q0, q1, q2, q3⟩
      · go_wp2_with fail
        refine (HLo.out hn hp _).mono ?_
        rintro e w8 ⟨rfl, b8⟩
        have T8 := hide (T2.out.below b8)
        clear b8 T2
        go_upto_region 28 with fail
        have T3 := hide (T8.out.below ((Below.refl _ w8).alloc (Nat.le_refl _) (.cells #[.int .i64 2, .string hn, .int .i64 hp, .string pa, .string qu, .bool ak] 53)))
        have HD := hide (hp_new w8 (.cells #[.int .i64 2, .string hn, .int .i64 hp, .string pa, .string qu, .bool ak] 53))
        generalize w8.alloc (.cells #[.int .i64 2, .string hn, .int .i64 hp, .string pa, .string qu, .bool ak] 53) = w3 at T3 HD ⊢
        generalize w8.heap.size = b at HD ⊢
        clear T8
        have d0 : w3.cell? ⟨b, 0, none⟩ = some (.int .i64 2) := cell_at HD.out 0
        have d1 : w3.cell? ⟨b, 1, none⟩ = some (.string hn) := cell_at HD.out 1
        have d2 : w3.cell? ⟨b, 2, none⟩ = some (.int .i64 hp) := cell_at HD.out 2
        have d3 : w3.cell? ⟨b, 3, none⟩ = some (.string pa) := cell_at HD.out 3
        have d4 : w3.cell? ⟨b, 4, none⟩ = some (.string qu) := cell_at HD.out 4
        have d5 : w3.cell? ⟨b, 5, none⟩ = some (.bool ak) := cell_at HD.out 5
        have r0 : w3.cell? ⟨w.heap.size, 0, none⟩ = some (.int .i64 0) := T3.out.cell0 0
        have r1 : w3.cell? ⟨w.heap.size, 1, none⟩ = some (.string ⟨#[]⟩) := T3.out.cell0 1
        have r2 : w3.cell? ⟨w.heap.size, 2, none⟩ = some (.int .i64 0) := T3.out.cell0 2
        have r3 : w3.cell? ⟨w.heap.size, 3, none⟩ = some (.string ⟨#[]⟩) := T3.out.cell0 3
        have r4 : w3.cell? ⟨w.heap.size, 4, none⟩ = some (.string ⟨#[]⟩) := T3.out.cell0 4
        have r5 : w3.cell? ⟨w.heap.size, 5, none⟩ = some (.bool false) := T3.out.cell0 5
        have g0 := T3.out.fr0 0
        have g1 := T3.out.fr0 1
        have g2 := T3.out.fr0 2
        have g3 := T3.out.fr0 3
        have g4 := T3.out.fr0 4
        have g5 := T3.out.fr0 5
        cases lb with
        | true =>
          go_wp2
          have T9 := hide ((((((T3.out.set0 0 (.int .i64 2)).set0 1 (.string hn)).set0 2 (.int .i64 hp)).set0 3 (.string pa)).set0 4 (.string qu)).set0 5 (.bool ak))
          generalize ((((((w3.setCell ⟨w.heap.size, 0, none⟩ (.int .i64 2)).setCell ⟨w.heap.size, 1, none⟩ (.string hn)).setCell ⟨w.heap.size, 2, none⟩ (.int .i64 hp)).setCell ⟨w.heap.size, 3, none⟩ (.string pa)).setCell ⟨w.heap.size, 4, none⟩ (.string qu)).setCell ⟨w.heap.size, 5, none⟩ (.bool ak)) = w9 at T9 ⊢
          have k0 : w9.cell? ⟨w.heap.size, 0, none⟩ = some (.int .i64 2) := T9.out.cell0 0
          have k1 : w9.cell? ⟨w.heap.size, 1, none⟩ = some (.string hn) := T9.out.cell0 1
          have k2 : w9.cell? ⟨w.heap.size, 2, none⟩ = some (.int .i64 hp) := T9.out.cell0 2
          have k3 : w9.cell? ⟨w.heap.size, 3, none⟩ = some (.string pa) := T9.out.cell0 3
          have k4 : w9.cell? ⟨w.heap.size, 4, none⟩ = some (.string qu) := T9.out.cell0 4
          have k5 : w9.cell? ⟨w.heap.size, 5, none⟩ = some (.bool ak) := T9.out.cell0 5
          exact bodyPost_ret (v := .tuple #[.agg #[.int .i64 2, .string hn, .int .i64 hp, .string pa, .string qu, .bool ak], .int .i64 0]) (by simp [results, Tryz.results69, go_sem, k0, k1, k2, k3, k4, k5]) rfl ⟨rfl, T9.out.b⟩
        | false =>
          go_wp2
          have T9 := hide ((((((T3.out.set0 0 (.int .i64 0)).set0 1 (.string ⟨#[]⟩)).set0 2 (.int .i64 0)).set0 3 (.string ⟨#[]⟩)).set0 4 (.string ⟨#[]⟩)).set0 5 (.bool false))
          generalize ((((((w3.setCell ⟨w.heap.size, 0, none⟩ (.int .i64 0)).setCell ⟨w.heap.size, 1, none⟩ (.string ⟨#[]⟩)).setCell ⟨w.heap.size, 2, none⟩ (.int .i64 0)).setCell ⟨w.heap.size, 3, none⟩ (.string ⟨#[]⟩)).setCell ⟨w.heap.size, 4, none⟩ (.string ⟨#[]⟩)).setCell ⟨w.heap.size, 5, none⟩ (.bool false)) = w9 at T9 ⊢
          have k0 : w9.cell? ⟨w.heap.size, 0, none⟩ = some (.int .i64 0) := T9.out.cell0 0
          have k1 : w9.cell? ⟨w.heap.size, 1, none⟩ = some (.string ⟨#[]⟩) := T9.out.cell0 1
          have k2 : w9.cell? ⟨w.heap.size, 2, none⟩ = some (.int .i64 0) := T9.out.cell0 2
          have k3 : w9.cell? ⟨w.heap.size, 3, none⟩ = some (.string ⟨#[]⟩) := T9.out.cell0 3
          have k4 : w9.cell? ⟨w.heap.size, 4, none⟩ = some (.string ⟨#[]⟩) := T9.out.cell0 4
          have k5 : w9.cell? ⟨w.heap.size, 5, none⟩ = some (.bool false) := T9.out.cell0 5
          exact bodyPost_ret (v := .tuple #[.agg #[.int .i64 0, .string ⟨#[]⟩, .int .i64 0, .string ⟨#[]⟩, .string ⟨#[]⟩, .bool false], .int .i64 60]) (by simp [results, Tryz.results69, go_sem, k0, k1, k2, k3, k4, k5]) rfl ⟨rfl, T9.out.b⟩
      · go_wp2_with fail
        refine (HLo.out hn hp _).mono ?_
        rintro e w8 ⟨rfl, b8⟩
        have T8 := hide (T2.out.below b8)
        clear b8 T2
        go_upto_region 28 with fail
        have T3 := hide (T8.out.below ((Below.refl _ w8).alloc (Nat.le_refl _) (.cells #[.int .i64 2, .string hn, .int .i64 hp, .string pa, .string qu, .bool ak] 53)))
        have HD := hide (hp_new w8 (.cells #[.int .i64 2, .string hn, .int .i64 hp, .string pa, .string qu, .bool ak] 53))
        generalize w8.alloc (.cells #[.int .i64 2, .string hn, .int .i64 hp, .string pa, .string qu, .bool ak] 53) = w3 at T3 HD ⊢
        generalize w8.heap.size = b at HD ⊢
        clear T8
        have d0 : w3.cell? ⟨b, 0, none⟩ = some (.int .i64 2) := cell_at HD.out 0
        have d1 : w3.cell? ⟨b, 1, none⟩ = some (.string hn) := cell_at HD.out 1
        have d2 : w3.cell? ⟨b, 2, none⟩ = some (.int .i64 hp) := cell_at HD.out 2
        have d3 : w3.cell? ⟨b, 3, none⟩ = some (.string pa) := cell_at HD.out 3
        have d4 : w3.cell? ⟨b, 4, none⟩ = some (.string qu) := cell_at HD.out 4
        have d5 : w3.cell? ⟨b, 5, none⟩ = some (.bool ak) := cell_at HD.out 5
        have r0 : w3.cell? ⟨w.heap.size, 0, none⟩ = some (.int .i64 0) := T3.out.cell0 0
        have r1 : w3.cell? ⟨w.heap.size, 1, none⟩ = some (.string ⟨#[]⟩) := T3.out.cell0 1
        have r2 : w3.cell? ⟨w.heap.size, 2, none⟩ = some (.int .i64 0) := T3.out.cell0 2
        have r3 : w3.cell? ⟨w.heap.size, 3, none⟩ = some (.string ⟨#[]⟩) := T3.out.cell0 3
        have r4 : w3.cell? ⟨w.heap.size, 4, none⟩ = some (.string ⟨#[]⟩) := T3.out.cell0 4
        have r5 : w3.cell? ⟨w.heap.size, 5, none⟩ = some (.bool false) := T3.out.cell0 5
        have g0 := T3.out.fr0 0
        have g1 := T3.out.fr0 1
        have g2 := T3.out.fr0 2
        have g3 := T3.out.fr0 3
        have g4 := T3.out.fr0 4
        have g5 := T3.out.fr0 5
        cases lb with
        | true =>
          go_wp2
          have T9 := hide ((((((T3.out.set0 0 (.int .i64 2)).set0 1 (.string hn)).set0 2 (.int .i64 hp)).set0 3 (.string pa)).set0 4 (.string qu)).set0 5 (.bool ak))
          generalize ((((((w3.setCell ⟨w.heap.size, 0, none⟩ (.int .i64 2)).setCell ⟨w.heap.size, 1, none⟩ (.string hn)).setCell ⟨w.heap.size, 2, none⟩ (.int .i64 hp)).setCell ⟨w.heap.size, 3, none⟩ (.string pa)).setCell ⟨w.heap.size, 4, none⟩ (.string qu)).setCell ⟨w.heap.size, 5, none⟩ (.bool ak)) = w9 at T9 ⊢
          have k0 : w9.cell? ⟨w.heap.size, 0, none⟩ = some (.int .i64 2) := T9.out.cell0 0
          have k1 : w9.cell? ⟨w.heap.size, 1, none⟩ = some (.string hn) := T9.out.cell0 1
          have k2 : w9.cell? ⟨w.heap.size, 2, none⟩ = some (.int .i64 hp) := T9.out.cell0 2
          have k3 : w9.cell? ⟨w.heap.size, 3, none⟩ = some (.string pa) := T9.out.cell0 3
          have k4 : w9.cell? ⟨w.heap.size, 4, none⟩ = some (.string qu) := T9.out.cell0 4
          have k5 : w9.cell? ⟨w.heap.size, 5, none⟩ = some (.bool ak) := T9.out.cell0 5
          exact bodyPost_ret (v := .tuple #[.agg #[.int .i64 2, .string hn, .int .i64 hp, .string pa, .string qu, .bool ak], .int .i64 0]) (by simp [results, Tryz.results69, go_sem, k0, k1, k2, k3, k4, k5]) rfl ⟨rfl, T9.out.b⟩
        | false =>
          go_wp2
          have T9 := hide ((((((T3.out.set0 0 (.int .i64 0)).set0 1 (.string ⟨#[]⟩)).set0 2 (.int .i64 0)).set0 3 (.string ⟨#[]⟩)).set0 4 (.string ⟨#[]⟩)).set0 5 (.bool false))
          generalize ((((((w3.setCell ⟨w.heap.size, 0, none⟩ (.int .i64 0)).setCell ⟨w.heap.size, 1, none⟩ (.string ⟨#[]⟩)).setCell ⟨w.heap.size, 2, none⟩ (.int .i64 0)).setCell ⟨w.heap.size, 3, none⟩ (.string ⟨#[]⟩)).setCell ⟨w.heap.size, 4, none⟩ (.string ⟨#[]⟩)).setCell ⟨w.heap.size, 5, none⟩ (.bool false)) = w9 at T9 ⊢
          have k0 : w9.cell? ⟨w.heap.size, 0, none⟩ = some (.int .i64 0) := T9.out.cell0 0
          have k1 : w9.cell? ⟨w.heap.size, 1, none⟩ = some (.string ⟨#[]⟩) := T9.out.cell0 1
          have k2 : w9.cell? ⟨w.heap.size, 2, none⟩ = some (.int .i64 0) := T9.out.cell0 2
          have k3 : w9.cell? ⟨w.heap.size, 3, none⟩ = some (.string ⟨#[]⟩) := T9.out.cell0 3
          have k4 : w9.cell? ⟨w.heap.size, 4, none⟩ = some (.string ⟨#[]⟩) := T9.out.cell0 4
          have k5 : w9.cell? ⟨w.heap.size, 5, none⟩ = some (.bool false) := T9.out.cell0 5
          exact bodyPost_ret (v := .tuple #[.agg #[.int .i64 0, .string ⟨#[]⟩, .int .i64 0, .string ⟨#[]⟩, .string ⟨#[]⟩, .bool false], .int .i64 60]) (by simp [results, Tryz.results69, go_sem, k0, k1, k2, k3, k4, k5]) rfl ⟨rfl, T9.out.b⟩
      · subst q3
        go_wp2_with fail
        refine (HLo.out hn hp _).mono ?_
        rintro e w8 ⟨rfl, b8⟩
        have T8 := hide (T2.out.below b8)
        clear b8 T2
        go_upto_region 28 with fail
        have T3 := hide (T8.out.below ((Below.refl _ w8).alloc (Nat.le_refl _) (.cells #[.int .i64 2, .string hn, .int .i64 hp, .string pa, .string qu, .bool ak] 53)))
        have HD := hide (hp_new w8 (.cells #[.int .i64 2, .string hn, .int .i64 hp, .string pa, .string qu, .bool ak] 53))
        generalize w8.alloc (.cells #[.int .i64 2, .string hn, .int .i64 hp, .string pa, .string qu, .bool ak] 53) = w3 at T3 HD ⊢
        generalize w8.heap.size = b at HD ⊢
        clear T8
        have d0 : w3.cell? ⟨b, 0, none⟩ = some (.int .i64 2) := cell_at HD.out 0
        have d1 : w3.cell? ⟨b, 1, none⟩ = some (.string hn) := cell_at HD.out 1
        have d2 : w3.cell? ⟨b, 2, none⟩ = some (.int .i64 hp) := cell_at HD.out 2
        have d3 : w3.cell? ⟨b, 3, none⟩ = some (.string pa) := cell_at HD.out 3
        have d4 : w3.cell? ⟨b, 4, none⟩ = some (.string qu) := cell_at HD.out 4
        have d5 : w3.cell? ⟨b, 5, none⟩ = some (.bool ak) := cell_at HD.out 5
        have r0 : w3.cell? ⟨w.heap.size, 0, none⟩ = some (.int .i64 0) := T3.out.cell0 0
        have r1 : w3.cell? ⟨w.heap.size, 1, none⟩ = some (.string ⟨#[]⟩) := T3.out.cell0 1
        have r2 : w3.cell? ⟨w.heap.size, 2, none⟩ = some (.int .i64 0) := T3.out.cell0 2
        have r3 : w3.cell? ⟨w.heap.size, 3, none⟩ = some (.string ⟨#[]⟩) := T3.out.cell0 3
        have r4 : w3.cell? ⟨w.heap.size, 4, none⟩ = some (.string ⟨#[]⟩) := T3.out.cell0 4
        have r5 : w3.cell? ⟨w.heap.size, 5, none⟩ = some (.bool false) := T3.out.cell0 5
        have g0 := T3.out.fr0 0
        have g1 := T3.out.fr0 1
        have g2 := T3.out.fr0 2
        have g3 := T3.out.fr0 3
        have g4 := T3.out.fr0 4
        have g5 := T3.out.fr0 5
        cases lb with
        | true =>
          go_wp2
          have T9 := hide ((((((T3.out.set0 0 (.int .i64 2)).set0 1 (.string hn)).set0 2 (.int .i64 hp)).set0 3 (.string pa)).set0 4 (.string qu)).set0 5 (.bool ak))
          generalize ((((((w3.setCell ⟨w.heap.size, 0, none⟩ (.int .i64 2)).setCell ⟨w.heap.size, 1, none⟩ (.string hn)).setCell ⟨w.heap.size, 2, none⟩ (.int .i64 hp)).setCell ⟨w.heap.size, 3, none⟩ (.string pa)).setCell ⟨w.heap.size, 4, none⟩ (.string qu)).setCell ⟨w.heap.size, 5, none⟩ (.bool ak)) = w9 at T9 ⊢
          have k0 : w9.cell? ⟨w.heap.size, 0, none⟩ = some (.int .i64 2) := T9.out.cell0 0
          have k1 : w9.cell? ⟨w.heap.size, 1, none⟩ = some (.string hn) := T9.out.cell0 1
          have k2 : w9.cell? ⟨w.heap.size, 2, none⟩ = some (.int .i64 hp) := T9.out.cell0 2
          have k3 : w9.cell? ⟨w.heap.size, 3, none⟩ = some (.string pa) := T9.out.cell0 3
          have k4 : w9.cell? ⟨w.heap.size, 4, none⟩ = some (.string qu) := T9.out.cell0 4
          have k5 : w9.cell? ⟨w.heap.size, 5, none⟩ = some (.bool ak) := T9.out.cell0 5
          exact bodyPost_ret (v := .tuple #[.agg #[.int .i64 2, .string hn, .int .i64 hp, .string pa, .string qu, .bool ak], .int .i64 0]) (by simp [results, Tryz.results69, go_sem, k0, k1, k2, k3, k4, k5]) rfl ⟨rfl, T9.out.b⟩
        | false =>
          go_wp2
          have T9 := hide ((((((T3.out.set0 0 (.int .i64 0)).set0 1 (.string ⟨#[]⟩)).set0 2 (.int .i64 0)).set0 3 (.string ⟨#[]⟩)).set0 4 (.string ⟨#[]⟩)).set0 5 (.bool false))
          generalize ((((((w3.setCell ⟨w.heap.size, 0, none⟩ (.int .i64 0)).setCell ⟨w.heap.size, 1, none⟩ (.string ⟨#[]⟩)).setCell ⟨w.heap.size, 2, none⟩ (.int .i64 0)).setCell ⟨w.heap.size, 3, none⟩ (.string ⟨#[]⟩)).setCell ⟨w.heap.size, 4, none⟩ (.string ⟨#[]⟩)).setCell ⟨w.heap.size, 5, none⟩ (.bool false)) = w9 at T9 ⊢
          have k0 : w9.cell? ⟨w.heap.size, 0, none⟩ = some (.int .i64 0) := T9.out.cell0 0
          have k1 : w9.cell? ⟨w.heap.size, 1, none⟩ = some (.string ⟨#[]⟩) := T9.out.cell0 1
          have k2 : w9.cell? ⟨w.heap.size, 2, none⟩ = some (.int .i64 0) := T9.out.cell0 2
          have k3 : w9.cell? ⟨w.heap.size, 3, none⟩ = some (.string ⟨#[]⟩) := T9.out.cell0 3
          have k4 : w9.cell? ⟨w.heap.size, 4, none⟩ = some (.string ⟨#[]⟩) := T9.out.cell0 4
          have k5 : w9.cell? ⟨w.heap.size, 5, none⟩ = some (.bool false) := T9.out.cell0 5
          exact bodyPost_ret (v := .tuple #[.agg #[.int .i64 0, .string ⟨#[]⟩, .int .i64 0, .string ⟨#[]⟩, .string ⟨#[]⟩, .bool false], .int .i64 60]) (by simp [results, Tryz.results69, go_sem, k0, k1, k2, k3, k4, k5]) rfl ⟨rfl, T9.out.b⟩
end Go.Proofs.YtacnnomkacfdbaaGreatDoor
/- The document's Parse, all its ways in one: it takes what the program's takes, as the same. -/
namespace Go.Proofs.YtacnnomkacfdbaaGreatDoor
open Go.ChangeShapes Go.WideShapes Go.ChangeAt Go.RowKit

theorem hostP_ge (l : List UInt8) (h : hostP l ≠ -1) : 0 ≤ hostP l := by
  unfold hostP at h ⊢
  split
  · rename_i h1; rw [if_pos h1] at h; exact portV_ge _ h
  · omega
theorem hostP_le (l : List UInt8) : -1 ≤ hostP l := by
  unfold hostP
  split
  · exact (portV_le _).1
  · omega
theorem rparse_total (m s : ByteArray) : ∃ (t : Value) (re : Int), RParses m s t re ∧ (re = 0 → Taken m s t ∧ s.size ≤ 8192) ∧ (re ≠ 0 → t = tgZ) ∧ (∀ t', Taken m s t' → s.size ≤ 8192 → re = 0 ∧ t = t') := by
  by_cases hs : s.size ≤ 8192
  · by_cases hm : m.data.toList = connectL
    · have hf : formN m.data.toList s.data.toList = 3 := by unfold formN; rw [if_pos hm]
      obtain ⟨re, hR, hiff⟩ := rpar_auth m s hs hm
      obtain ⟨s1, s2⟩ := host_same2 s.data.toList
      have eqs : hostE s.data.toList = 0 → rhostS s = hostS s ∧ rhostP s.data.toList = hostP s.data.toList := fun h => by
        obtain ⟨c, d⟩ := s2 h
        unfold rhostS hostS
        rw [c, d]
        exact ⟨rfl, rfl⟩
      refine ⟨_, re, hR, fun h => ?_, fun h => by rw [if_neg h], fun t' ht _ => ?_⟩
      · obtain ⟨a, b⟩ := hiff.1 h
        obtain ⟨c, d⟩ := eqs (s1.2 a)
        rw [if_pos h, c, d]
        exact ⟨Taken.auth hf (s1.2 a) (by rw [← d]; omega), hs⟩
      · cases ht with
        | auth h1 h2 h3 =>
          obtain ⟨c, d⟩ := eqs h2
          have h0 : re = 0 := hiff.2 ⟨s1.1 h2, by rw [d]; exact hostP_ge _ h3⟩
          exact ⟨h0, by rw [if_pos h0, c, d]⟩
        | ast h1 => omega
        | origin h1 => omega
        | abs h1 => omega
    · by_cases ho : m.data.toList = optionsL ∧ s.data.toList = [42]
      · have hf : formN m.data.toList s.data.toList = 4 := by unfold formN; rw [if_neg hm, if_pos ho]
        refine ⟨_, 0, rpar_ast m s ho.1 ho.2, fun _ => ⟨Taken.ast hf, hs⟩, fun h => absurd rfl h, fun t' ht _ => ?_⟩
        cases ht with
        | ast h1 => exact ⟨rfl, rfl⟩
        | auth h1 => omega
        | origin h1 => omega
        | abs h1 => omega
      · by_cases hh : s.data.toList.head? = some 47
        · have hf : formN m.data.toList s.data.toList = 1 := by unfold formN; rw [if_neg hm, if_neg ho, if_pos hh]
          refine ⟨_, _, rpar_origin m s hs hm hh, fun h => ?_, fun h => ?_, fun t' ht _ => ?_⟩
          · cases hl : locB s with
            | true => exact ⟨by rw [if_pos rfl]; exact Taken.origin hf hl, hs⟩
            | false => rw [hl] at h; exact absurd h (by decide)
          · cases hl : locB s with
            | true => rw [hl] at h; exact absurd rfl h
            | false => exact if_neg (by decide)
          · cases ht with
            | origin h1 h2 => rw [h2]; exact ⟨rfl, rfl⟩
            | auth h1 => omega
            | ast h1 => omega
            | abs h1 => omega
        · by_cases h7 : 7 ≤ s.size ∧ sameB (s.data.toList.take 7) httpL = true
          · have hf : formN m.data.toList s.data.toList = 2 := by unfold formN; rw [if_neg hm, if_neg ho, if_neg hh, if_pos (by rw [size_len]; exact h7)]
            obtain ⟨s1, s2⟩ := host_same2 (absH s).data.toList
            by_cases hb : rhostE (absH s).data.toList = 0
            · obtain ⟨c, d⟩ := s2 (s1.2 hb)
              have c' : rhostS (absH s) = hostS (absH s) := by unfold rhostS hostS; rw [c]
              have hR := rpar_abs_ok m s hs hm hh h7.1 h7.2 hb
              rw [c', ← d] at hR
              refine ⟨_, _, hR, fun h => ?_, fun h => ?_, fun t' ht _ => ?_⟩
              · cases hl : locB (absR s) with
                | true => exact ⟨by rw [if_pos rfl]; exact Taken.abs hf (s1.2 hb) hl, hs⟩
                | false => rw [hl] at h; exact absurd h (by decide)
              · cases hl : locB (absR s) with
                | true => rw [hl] at h; exact absurd rfl h
                | false => exact if_neg (by decide)
              · cases ht with
                | abs h1 h2 h3 => rw [h3]; exact ⟨rfl, rfl⟩
                | auth h1 => omega
                | ast h1 => omega
                | origin h1 => omega
            · refine ⟨_, _, rpar_abs_bad m s hs hm hh h7.1 h7.2 hb, fun h => absurd (by omega) hb, fun _ => rfl, fun t' ht _ => ?_⟩
              cases ht with
              | abs h1 h2 h3 => exact absurd (s1.1 h2) hb
              | auth h1 => omega
              | ast h1 => omega
              | origin h1 => omega
          · have hf : formN m.data.toList s.data.toList = 0 := by unfold formN; rw [if_neg hm, if_neg ho, if_neg hh, if_neg (by rw [size_len]; exact h7)]
            refine ⟨_, _, rpar_none m s hs hm ho hh h7, fun h => absurd h (by decide), fun _ => rfl, fun t' ht _ => ?_⟩
            cases ht <;> omega
  · exact ⟨tgZ, 2, rpar_long m s (by omega), fun h => by omega, fun _ => rfl, fun _ _ h => absurd h hs⟩
end Go.Proofs.YtacnnomkacfdbaaGreatDoor
