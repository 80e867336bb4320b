/- Equal heads: the program's same, the statements' own. -/
import Derived.Test.YtinmpmbicgokpaaGreatDoorHTxt3
import Derived.Deep.QuietTactic
import Derived.BigQuiet
namespace Go.Proofs.YtinmpmbicgokpaaGreatDoor
open Go.ChangeShapes Go.WideShapes Go.ChangeAt Go.RowKit

def hiEq (a b : Hi) : Bool := (a.r == b.r) && (decide (a.me = b.me) && (decide (a.ta = b.ta) && (decide (a.mi = b.mi) && (decide (a.st = b.st) && (decide (a.re = b.re) && decide (a.fs = b.fs))))))
theorem hiEq_iff {a b : Hi} : hiEq a b = true ↔ a = b := by
  unfold hiEq
  simp only [Bool.and_eq_true, beq_iff_eq, decide_eq_true_eq]
  constructor
  · rintro ⟨h1, h2, h3, h4, h5, h6, h7⟩
    cases a; cases b
    simp only at h1 h2 h3 h4 h5 h6 h7
    subst h1 h2 h3 h4 h5 h6 h7
    rfl
  · rintro rfl; exact ⟨rfl, rfl, rfl, rfl, rfl, rfl, rfl⟩
theorem take_snocP {α : Type} (A : List α) (k : Nat) (h : k < A.length) : A.take (k + 1) = A.take k ++ [A[k]] := List.take_succ_eq_append_getElem h
set_option maxHeartbeats 2000000 in
theorem eqF_any (w : World) (a b : Value) (A B : List (ByteArray × ByteArray)) (hA : Flds w a A) (hB : Flds w b B) (hl : A.length ≤ 1099511627776) (hl2 : B.length ≤ 1099511627776) :
    Calls Tryz.prog 50 #[a, b] w fun e w' => e = .returned (.bool (decide (A = B))) ∧ Below w.heap.size w w' := by
  obtain ⟨a0, c0, rfl, _, hca⟩ := hA
  obtain ⟨b0, d0, rfl, _, hcb⟩ := hB
  have HA := hide hca
  have HB := hide hcb
  clear hca hcb
  obtain ⟨D, hD⟩ : ∃ D, decide (A = B) = D := ⟨_, rfl⟩
  rw [hD]
  have HD := hide hD
  clear hD
  by_cases hn : A.length = B.length
  · have t : ((A.length : Int) != (B.length : Int)) = false := by rw [bne_eq_false_iff_eq]; omega
    have hl3 : B.length ≤ A.length := by omega
    have hl4 : A.length ≤ B.length := by omega
    clear hn
    go_enter Tryz.func50, Tryz.ntmps50
    go_wp2
    go_loopw [13] (fun i wr => ∃ k : Nat, k ≤ A.length ∧ i = .int .i64 k ∧ Hid (A.take k = B.take k) ∧ Hid (∃ n, wr = w.drewN n)) (fun i _ => A.length - (intOf i).toNat)
    case atStart => exact ⟨0, Nat.zero_le _, rfl, hide rfl, hide ⟨0, rfl⟩⟩
    case round =>
      obtain ⟨k, hk, rfl, H, HW⟩ := hrel
      by_cases hlt : k < A.length
      · have hlb : k < B.length := by omega
        obtain ⟨g1, o1, rfl, _, q1, q2⟩ := HA.out k hlt
        obtain ⟨g2, o2, rfl, _, q3, q4⟩ := HB.out k hlb
        obtain ⟨n, hwn⟩ := HW.out
        subst hwn
        have hsa := hide (take_snocP A k hlt)
        have hsb := hide (take_snocP B k hlb)
        obtain ⟨⟨fa, fb⟩, hf⟩ : ∃ f, A[k] = f := ⟨_, rfl⟩
        obtain ⟨⟨ga, gb⟩, hg⟩ : ∃ f, B[k] = f := ⟨_, rfl⟩
        have HNE : Hid ((fa, fb) ≠ (ga, gb) → A ≠ B) := hide (by rintro hne rfl; exact hne (hf.symm.trans hg))
        rw [hf] at q1 q2 hsa
        rw [hg] at q3 q4 hsb
        dsimp only at q1 q2 q3 q4
        clear hf hg
        have e1 := bytes_eq fa ga
        have e2 := bytes_eq fb gb
        by_cases h1 : fa = ga
        · subst h1
          clear e1
          by_cases h2 : fb = gb
          · subst h2
            clear e2
            have HT : Hid (A.take (k + 1) = B.take (k + 1)) := hide (by rw [hsa.out, hsb.out, H.out])
            go_wp2
            go_quiet (fail)
            go_wp2
            exact ⟨⟨k + 1, by omega, by go_num, HT, hide ⟨n + nq, rfl⟩⟩, by simp [intOf]; omega⟩
          · have t2 : (fb.toList == gb.toList) = false := by rw [e2]; exact decide_eq_false h2
            have HE : Hid (A ≠ B) := hide (HNE.out (fun e => h2 (Prod.mk.inj e).2))
            clear e2 h2
            go_wp2
            go_quiet (fail)
            go_wp2
            go_ret
            exact ⟨ret_bool (by rw [← HD.out]; exact (decide_eq_false HE.out).symm), by rw [World.drewN_drewN]; exact below_drewN w _⟩
        · have t1 : (fa.toList == ga.toList) = false := by rw [e1]; exact decide_eq_false h1
          have HE : Hid (A ≠ B) := hide (HNE.out (fun e => h1 (Prod.mk.inj e).1))
          clear e1 e2 h1
          go_wp2
          go_quiet (fail)
          go_wp2
          go_ret
          exact ⟨ret_bool (by rw [← HD.out]; exact (decide_eq_false HE.out).symm), by rw [World.drewN_drewN]; exact below_drewN w _⟩
      · have HE : Hid (A = B) := hide (by
          have := H.out
          rw [List.take_of_length_le (by omega), List.take_of_length_le (by omega)] at this
          exact this)
        obtain ⟨n, hwn⟩ := HW.out
        subst hwn
        go_wp2
        go_ret
        exact ⟨ret_bool (by rw [← HD.out]; exact (decide_eq_true HE.out).symm), below_drewN w _⟩
  · have t : ((A.length : Int) != (B.length : Int)) = true := by rw [bne_iff_ne]; omega
    have HE : Hid (A ≠ B) := hide (by rintro rfl; exact hn rfl)
    clear hn
    go_enter Tryz.func50, Tryz.ntmps50
    go_wp2
    go_ret
    exact ⟨ret_bool (by rw [← HD.out]; exact (decide_eq_false HE.out).symm), Below.refl _ _⟩
set_option maxHeartbeats 2000000 in
theorem plainF_any (w : World) (a b : Value) (A B : List (ByteArray × ByteArray)) (hA : Flds w a A) (hB : Flds w b B) (hl : A.length ≤ 1099511627776) (hl2 : B.length ≤ 1099511627776) :
    Calls Tryz.prog 20 #[a, b] w fun e w' => e = .returned (.bool (decide (A = B))) ∧ Below w.heap.size w w' := by
  obtain ⟨a0, c0, rfl, _, hca⟩ := hA
  obtain ⟨b0, d0, rfl, _, hcb⟩ := hB
  have HA := hide hca
  have HB := hide hcb
  clear hca hcb
  obtain ⟨D, hD⟩ : ∃ D, decide (A = B) = D := ⟨_, rfl⟩
  rw [hD]
  have HD := hide hD
  clear hD
  by_cases hn : A.length = B.length
  · have t : ((A.length : Int) != (B.length : Int)) = false := by rw [bne_eq_false_iff_eq]; omega
    have hl3 : B.length ≤ A.length := by omega
    have hl4 : A.length ≤ B.length := by omega
    clear hn
    go_enter Tryz.func20, Tryz.ntmps20
    go_wp2
    go_loopw [13] (fun i wr => ∃ k : Nat, k ≤ A.length ∧ i = .int .i64 k ∧ Hid (A.take k = B.take k) ∧ Hid (∃ n, wr = w.drewN n)) (fun i _ => A.length - (intOf i).toNat)
    case atStart => exact ⟨0, Nat.zero_le _, rfl, hide rfl, hide ⟨0, rfl⟩⟩
    case round =>
      obtain ⟨k, hk, rfl, H, HW⟩ := hrel
      by_cases hlt : k < A.length
      · have hlb : k < B.length := by omega
        obtain ⟨g1, o1, rfl, _, q1, q2⟩ := HA.out k hlt
        obtain ⟨g2, o2, rfl, _, q3, q4⟩ := HB.out k hlb
        obtain ⟨n, hwn⟩ := HW.out
        subst hwn
        have hsa := hide (take_snocP A k hlt)
        have hsb := hide (take_snocP B k hlb)
        obtain ⟨⟨fa, fb⟩, hf⟩ : ∃ f, A[k] = f := ⟨_, rfl⟩
        obtain ⟨⟨ga, gb⟩, hg⟩ : ∃ f, B[k] = f := ⟨_, rfl⟩
        have HNE : Hid ((fa, fb) ≠ (ga, gb) → A ≠ B) := hide (by rintro hne rfl; exact hne (hf.symm.trans hg))
        rw [hf] at q1 q2 hsa
        rw [hg] at q3 q4 hsb
        dsimp only at q1 q2 q3 q4
        clear hf hg
        have e1 := bytes_eq fa ga
        have e2 := bytes_eq fb gb
        by_cases h1 : fa = ga
        · subst h1
          clear e1
          by_cases h2 : fb = gb
          · subst h2
            clear e2
            have HT : Hid (A.take (k + 1) = B.take (k + 1)) := hide (by rw [hsa.out, hsb.out, H.out])
            go_wp2
            go_quiet (fail)
            go_wp2
            exact ⟨⟨k + 1, by omega, by go_num, HT, hide ⟨n + nq, rfl⟩⟩, by simp [intOf]; omega⟩
          · have t2 : (fb.toList == gb.toList) = false := by rw [e2]; exact decide_eq_false h2
            have HE : Hid (A ≠ B) := hide (HNE.out (fun e => h2 (Prod.mk.inj e).2))
            clear e2 h2
            go_wp2
            go_quiet (fail)
            go_wp2
            go_ret
            exact ⟨ret_bool (by rw [← HD.out]; exact (decide_eq_false HE.out).symm), by rw [World.drewN_drewN]; exact below_drewN w _⟩
        · have t1 : (fa.toList == ga.toList) = false := by rw [e1]; exact decide_eq_false h1
          have HE : Hid (A ≠ B) := hide (HNE.out (fun e => h1 (Prod.mk.inj e).1))
          clear e1 e2 h1
          go_wp2
          go_quiet (fail)
          go_wp2
          go_ret
          exact ⟨ret_bool (by rw [← HD.out]; exact (decide_eq_false HE.out).symm), by rw [World.drewN_drewN]; exact below_drewN w _⟩
      · have HE : Hid (A = B) := hide (by
          have := H.out
          rw [List.take_of_length_le (by omega), List.take_of_length_le (by omega)] at this
          exact this)
        obtain ⟨n, hwn⟩ := HW.out
        subst hwn
        go_wp2
        go_ret
        exact ⟨ret_bool (by rw [← HD.out]; exact (decide_eq_true HE.out).symm), below_drewN w _⟩
  · have t : ((A.length : Int) != (B.length : Int)) = true := by rw [bne_iff_ne]; omega
    have HE : Hid (A ≠ B) := hide (by rintro rfl; exact hn rfl)
    clear hn
    go_enter Tryz.func20, Tryz.ntmps20
    go_wp2
    go_ret
    exact ⟨ret_bool (by rw [← HD.out]; exact (decide_eq_false HE.out).symm), Below.refl _ _⟩
set_option maxHeartbeats 4000000 in
theorem same_any (w : World) (X Y : Hi) (la lb : Value) (hA : Flds w la X.fs) (hB : Flds w lb Y.fs) (hl : X.fs.length ≤ 1099511627776) (hl2 : Y.fs.length ≤ 1099511627776) :
    Calls Tryz.prog 28 #[hiV X la, hiV Y lb] w fun e w' => e = .returned (.bool (hiEq X Y)) ∧ Below w.heap.size w w' := by
  have FA := hide hA
  have FB := hide hB
  obtain ⟨D, hD⟩ : ∃ D, hiEq X Y = D := ⟨_, rfl⟩
  rw [hD]
  unfold hiEq at hD
  have HC := hide (fun W (h1 : Flds W la X.fs) (h2 : Flds W lb Y.fs) => eqF_any W la lb X.fs Y.fs h1 h2 hl hl2)
  unfold hiV
  obtain ⟨aa, ac, rfl, _, _⟩ := hA
  obtain ⟨ba, bc, rfl, _, _⟩ := hB
  clear hl hl2
  obtain ⟨ar, ame, ata, ami, ast, are, A⟩ := X
  obtain ⟨br, bme, bta, bmi, bst, bre, B⟩ := Y
  dsimp only at *
  generalize decide (A = B) = d7 at hD HC
  generalize A.length = an at FA HC
  generalize B.length = bn at FB HC
  have HD := hide hD
  clear hD
  have e1 := bytes_eq ame bme
  have e2 := bytes_eq ata bta
  have e5 := bytes_eq are bre
  by_cases h0 : ar = br
  · subst h0
    by_cases h1 : ame = bme
    · subst h1
      clear e1
      by_cases h2 : ata = bta
      · subst h2
        clear e2
        by_cases h3 : ami = bmi
        · subst h3
          by_cases h4 : ast = bst
          · subst h4
            by_cases h5 : are = bre
            · subst h5
              clear e5
              go_enter Tryz.func28, Tryz.ntmps28
              go_wp2_with fail
              have T0 := hide (Bl.two w #[.bool ar, .string ame, .string ata, .int .i64 ami, .int .i64 ast, .string are, .slice aa an ac] 25 #[.bool ar, .string ame, .string ata, .int .i64 ami, .int .i64 ast, .string are, .slice ba bn bc] 25)
              generalize ((w.alloc (.cells #[.bool ar, .string ame, .string ata, .int .i64 ami, .int .i64 ast, .string are, .slice aa an ac] 25)).alloc (.cells #[.bool ar, .string ame, .string ata, .int .i64 ami, .int .i64 ast, .string are, .slice ba bn bc] 25)) = x at T0 ⊢
              refine (HC.out _ (FA.out.below T0.out.b) (FB.out.below T0.out.b)).mono ?_
              rintro e w1 ⟨rfl, bb⟩
              have T1 := hide (T0.out.below bb)
              clear bb
              go_wp2
              go_ret
              exact ⟨ret_bool (by rw [← HD.out]; simp), T1.out.b⟩
            · have t5 : (are.toList == bre.toList) = false := by rw [e5]; exact decide_eq_false h5
              have HN := hide h5
              clear e5 h5
              go_enter Tryz.func28, Tryz.ntmps28
              go_wp2
              go_ret
              exact ⟨ret_bool (by rw [← HD.out]; simp [HN.out]), (Bl.two w _ _ _ _).b⟩
          · have HN := hide h4
            clear e5
            have t4 : (ast == bst) = false := beq_eq_false_iff_ne.2 h4
            go_enter Tryz.func28, Tryz.ntmps28
            go_wp2
            go_ret
            exact ⟨ret_bool (by rw [← HD.out]; simp [HN.out]), (Bl.two w _ _ _ _).b⟩
        · have HN := hide h3
          clear e5
          have t3 : (ami == bmi) = false := beq_eq_false_iff_ne.2 h3
          go_enter Tryz.func28, Tryz.ntmps28
          go_wp2
          go_ret
          exact ⟨ret_bool (by rw [← HD.out]; simp [HN.out]), (Bl.two w _ _ _ _).b⟩
      · have t2 : (ata.toList == bta.toList) = false := by rw [e2]; exact decide_eq_false h2
        have HN := hide h2
        clear e2 e5 h2
        go_enter Tryz.func28, Tryz.ntmps28
        go_wp2
        go_ret
        exact ⟨ret_bool (by rw [← HD.out]; simp [HN.out]), (Bl.two w _ _ _ _).b⟩
    · have t1 : (ame.toList == bme.toList) = false := by rw [e1]; exact decide_eq_false h1
      have HN := hide h1
      clear e1 e2 e5 h1
      go_enter Tryz.func28, Tryz.ntmps28
      go_wp2
      go_ret
      exact ⟨ret_bool (by rw [← HD.out]; simp [HN.out]), (Bl.two w _ _ _ _).b⟩
  · have t0 : (ar == br) = false := beq_eq_false_iff_ne.2 h0
    have HN := hide h0
    clear e1 e2 e5
    cases ar <;> cases br <;> first | exact absurd rfl h0 | skip
    all_goals (clear h0 t0)
    all_goals (go_enter Tryz.func28, Tryz.ntmps28)
    all_goals (go_wp2)
    all_goals (go_ret)
    all_goals (exact ⟨ret_bool (by rw [← HD.out]; rfl), (Bl.two w _ _ _ _).b⟩)
set_option maxHeartbeats 4000000 in
theorem plainH_any (w : World) (X Y : Hi) (la lb : Value) (hA : Flds w la X.fs) (hB : Flds w lb Y.fs) (hl : X.fs.length ≤ 1099511627776) (hl2 : Y.fs.length ≤ 1099511627776) :
    Calls Tryz.prog 11 #[hiV X la, hiV Y lb] w fun e w' => e = .returned (.bool (hiEq X Y)) ∧ Below w.heap.size w w' := by
  have FA := hide hA
  have FB := hide hB
  obtain ⟨D, hD⟩ : ∃ D, hiEq X Y = D := ⟨_, rfl⟩
  rw [hD]
  unfold hiEq at hD
  have HC := hide (fun W (h1 : Flds W la X.fs) (h2 : Flds W lb Y.fs) => plainF_any W la lb X.fs Y.fs h1 h2 hl hl2)
  unfold hiV
  obtain ⟨aa, ac, rfl, _, _⟩ := hA
  obtain ⟨ba, bc, rfl, _, _⟩ := hB
  clear hl hl2
  obtain ⟨ar, ame, ata, ami, ast, are, A⟩ := X
  obtain ⟨br, bme, bta, bmi, bst, bre, B⟩ := Y
  dsimp only at *
  generalize decide (A = B) = d7 at hD HC
  generalize A.length = an at FA HC
  generalize B.length = bn at FB HC
  have HD := hide hD
  clear hD
  have e1 := bytes_eq ame bme
  have e2 := bytes_eq ata bta
  have e5 := bytes_eq are bre
  by_cases h0 : ar = br
  · subst h0
    by_cases h1 : ame = bme
    · subst h1
      clear e1
      by_cases h2 : ata = bta
      · subst h2
        clear e2
        by_cases h3 : ami = bmi
        · subst h3
          by_cases h4 : ast = bst
          · subst h4
            by_cases h5 : are = bre
            · subst h5
              clear e5
              go_enter Tryz.func11, Tryz.ntmps11
              go_wp2_with fail
              have T0 := hide (Bl.two w #[.bool ar, .string ame, .string ata, .int .i64 ami, .int .i64 ast, .string are, .slice aa an ac] 25 #[.bool ar, .string ame, .string ata, .int .i64 ami, .int .i64 ast, .string are, .slice ba bn bc] 25)
              generalize ((w.alloc (.cells #[.bool ar, .string ame, .string ata, .int .i64 ami, .int .i64 ast, .string are, .slice aa an ac] 25)).alloc (.cells #[.bool ar, .string ame, .string ata, .int .i64 ami, .int .i64 ast, .string are, .slice ba bn bc] 25)) = x at T0 ⊢
              refine (HC.out _ (FA.out.below T0.out.b) (FB.out.below T0.out.b)).mono ?_
              rintro e w1 ⟨rfl, bb⟩
              have T1 := hide (T0.out.below bb)
              clear bb
              go_wp2
              go_ret
              exact ⟨ret_bool (by rw [← HD.out]; simp), T1.out.b⟩
            · have t5 : (are.toList == bre.toList) = false := by rw [e5]; exact decide_eq_false h5
              have HN := hide h5
              clear e5 h5
              go_enter Tryz.func11, Tryz.ntmps11
              go_wp2
              go_ret
              exact ⟨ret_bool (by rw [← HD.out]; simp [HN.out]), (Bl.two w _ _ _ _).b⟩
          · have HN := hide h4
            clear e5
            have t4 : (ast == bst) = false := beq_eq_false_iff_ne.2 h4
            go_enter Tryz.func11, Tryz.ntmps11
            go_wp2
            go_ret
            exact ⟨ret_bool (by rw [← HD.out]; simp [HN.out]), (Bl.two w _ _ _ _).b⟩
        · have HN := hide h3
          clear e5
          have t3 : (ami == bmi) = false := beq_eq_false_iff_ne.2 h3
          go_enter Tryz.func11, Tryz.ntmps11
          go_wp2
          go_ret
          exact ⟨ret_bool (by rw [← HD.out]; simp [HN.out]), (Bl.two w _ _ _ _).b⟩
      · have t2 : (ata.toList == bta.toList) = false := by rw [e2]; exact decide_eq_false h2
        have HN := hide h2
        clear e2 e5 h2
        go_enter Tryz.func11, Tryz.ntmps11
        go_wp2
        go_ret
        exact ⟨ret_bool (by rw [← HD.out]; simp [HN.out]), (Bl.two w _ _ _ _).b⟩
    · have t1 : (ame.toList == bme.toList) = false := by rw [e1]; exact decide_eq_false h1
      have HN := hide h1
      clear e1 e2 e5 h1
      go_enter Tryz.func11, Tryz.ntmps11
      go_wp2
      go_ret
      exact ⟨ret_bool (by rw [← HD.out]; simp [HN.out]), (Bl.two w _ _ _ _).b⟩
  · have t0 : (ar == br) = false := beq_eq_false_iff_ne.2 h0
    have HN := hide h0
    clear e1 e2 e5
    cases ar <;> cases br <;> first | exact absurd rfl h0 | skip
    all_goals (clear h0 t0)
    all_goals (go_enter Tryz.func11, Tryz.ntmps11)
    all_goals (go_wp2)
    all_goals (go_ret)
    all_goals (exact ⟨ret_bool (by rw [← HD.out]; rfl), (Bl.two w _ _ _ _).b⟩)
end Go.Proofs.YtinmpmbicgokpaaGreatDoor
