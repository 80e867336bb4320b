/- Rows of numbers, wherever they begin; whether one is there; whether one is there twice; whether a route may have the hosts of these numbers: the program's. -/
import Derived.Test.YtekkhjlipijmcaaGreatDoorZRow
namespace Go.Proofs.YtekkhjlipijmcaaGreatDoor
open Go.ChangeShapes Go.WideShapes Go.ChangeAt Go.RowKit

/-- The slice v reads as the numbers A, wherever it begins. -/
def IRow (W : World) (v : Value) (A : List Int) : Prop := ∃ (a : Option Addr) (c : Nat), v = .slice a A.length c ∧ ∀ j (h : j < A.length), ∃ g o, a = some ⟨g, o, none⟩ ∧ g < W.heap.size ∧ W.cell? ⟨g, o + j, none⟩ = some (.int .i64 A[j])
theorem IRow.below {W W' : World} {v : Value} {A : List Int} (h : IRow W v A) (hb : Below W.heap.size W W') : IRow W' v A := by
  obtain ⟨a, c, rfl, hc⟩ := h
  refine ⟨a, c, rfl, fun j hj => ?_⟩
  obtain ⟨g, o, h1, h2, h3⟩ := hc j hj
  exact ⟨g, o, h1, Nat.lt_of_lt_of_le h2 hb.size, (hb.cell (p := ⟨g, o + j, none⟩) h2).trans h3⟩
def memI (A : List Int) (n : Int) : Bool := A.any fun x => decide (n = x)
theorem memI_snoc {A : List Int} {n : Int} {k : Nat} (h : k < A.length) : memI (A.take (k + 1)) n = (memI (A.take k) n || decide (n = A[k])) := by
  unfold memI
  rw [List.take_succ_eq_append_getElem h, List.any_append]; simp
theorem memI_all {A : List Int} {n : Int} {k : Nat} (h : A.length ≤ k) : memI (A.take k) n = memI A n := by rw [List.take_of_length_le h]
theorem memI_at {A : List Int} {n : Int} {k : Nat} (h : k < A.length) (he : n = A[k]) : memI A n = true := by
  unfold memI
  rw [List.any_eq_true]
  exact ⟨A[k], List.getElem_mem h, decide_eq_true he⟩
set_option maxHeartbeats 1000000 in
theorem indexI_any (w : World) (v : Value) (A : List Int) (n : Int) (h : IRow w v A) (hA : A.length ≤ maxLen) :
    Calls Tryz.prog 88 #[v, .int .i64 n] w fun e w' => (∃ r : Int, e = .returned (.int .i64 r) ∧ decide (0 ≤ r) = memI A n) ∧ w' = w := by
  obtain ⟨a, c, rfl, hc⟩ := h
  have HC := hide hc
  unfold maxLen at hA
  clear hc
  go_enter Tryz.func88, Tryz.ntmps88
  go_wp2
  go_loop [8] (fun i => ∃ k : Nat, k ≤ A.length ∧ i = .int .i64 k ∧ Hid (memI (A.take k) n = false)) (fun i => A.length - (intOf i).toNat)
  case atStart => exact ⟨0, Nat.zero_le _, rfl, hide rfl⟩
  case round =>
    obtain ⟨k, hk, rfl, H⟩ := hrel
    by_cases hlt : k < A.length
    · obtain ⟨g, o, rfl, hg, r1⟩ := HC.out k hlt
      have hbe : (n == A[k]) = decide (n = A[k]) := by rw [Bool.eq_iff_iff]; simp
      have HM := hide (memI_snoc (A := A) (n := n) hlt)
      by_cases he : n = A[k]
      · have HY : Hid (memI A n = true) := hide (memI_at hlt he)
        rw [decide_eq_true he] at hbe
        generalize A[k] = x at r1 hbe
        clear he hg HM
        go_wp2
        go_ret
        exact ⟨⟨k, rfl, by rw [HY.out]; exact decide_eq_true (by omega)⟩, rfl⟩
      · have HN : Hid (memI (A.take (k + 1)) n = false) := hide (by rw [HM.out, H.out, decide_eq_false he]; rfl)
        rw [decide_eq_false he] at hbe
        generalize A[k] = x at r1 hbe
        clear he hg HM
        go_wp2
        exact ⟨⟨k + 1, by omega, by go_num, HN⟩, by simp [intOf]; omega⟩
    · have HN := hide ((memI_all (Nat.le_of_not_lt hlt)).symm.trans H.out)
      go_wp2
      go_ret
      exact ⟨⟨-1, rfl, by rw [HN.out]; rfl⟩, rfl⟩
theorem containsI_any (w : World) (v : Value) (A : List Int) (n : Int) (h : IRow w v A) (hA : A.length ≤ maxLen) :
    Calls Tryz.prog 64 #[v, .int .i64 n] w fun e w' => e = .returned (.bool (memI A n)) ∧ w' = w := by
  have HI := hide (indexI_any w v A n h hA)
  obtain ⟨a, c, rfl, hc⟩ := h
  clear hc
  go_enter Tryz.func64, Tryz.ntmps64
  go_wp2_with fail
  refine HI.out.mono ?_
  rintro e w' ⟨⟨r, rfl, hr⟩, rfl⟩
  have HR := hide hr
  clear hr HI
  go_wp2
  go_ret
  exact ⟨ret_bool HR.out, rfl⟩
def twI (A : List Int) (k : Nat) : Bool := (List.range k).any fun i => memI (A.take i) (A.getD i 0)
theorem twI_succ (A : List Int) (k : Nat) (h : k < A.length) : twI A (k + 1) = (twI A k || memI (A.take k) A[k]) := by
  unfold twI
  rw [List.range_succ, List.any_append]
  simp [List.getD_eq_getElem?_getD, h]
theorem twI_yes (A : List Int) (k : Nat) (h : k < A.length) (hm : memI (A.take k) A[k] = true) : twI A A.length = true := by
  unfold twI
  rw [List.any_eq_true]
  exact ⟨k, List.mem_range.2 h, by simpa [List.getD_eq_getElem?_getD, h] using hm⟩
theorem IRow.take {W : World} {a : Option Addr} {c : Nat} {A : List Int} (hc : ∀ j (h : j < A.length), ∃ g o, a = some ⟨g, o, none⟩ ∧ g < W.heap.size ∧ W.cell? ⟨g, o + j, none⟩ = some (.int .i64 A[j])) (k : Nat) (hk : k ≤ A.length) : IRow W (.slice a k c) (A.take k) := by
  refine ⟨a, c, by rw [List.length_take, Nat.min_eq_left hk], fun j hj => ?_⟩
  rw [List.length_take] at hj
  obtain ⟨g, o, h1, h2, h3⟩ := hc j (by omega)
  exact ⟨g, o, h1, h2, by rw [h3, List.getElem_take]⟩
set_option maxHeartbeats 1000000 in
theorem twiceI_any (w : World) (v : Value) (A : List Int) (h : IRow w v A) (hcap : ∀ a n c, v = .slice a n c → n ≤ c ∧ c ≤ maxLen) :
    Calls Tryz.prog 45 #[v] w fun e w' => e = .returned (.bool (twI A A.length)) ∧ w' = w := by
  obtain ⟨a, c, rfl, hc⟩ := h
  obtain ⟨hc1, hc2⟩ := hcap _ _ _ rfl
  unfold maxLen at hc2
  have HC := hide hc
  have HT := hide (fun k hk => IRow.take (c := c) hc k hk)
  clear hc hcap
  go_enter Tryz.func45, Tryz.ntmps45
  go_wp2
  go_loop [7] (fun i => ∃ k : Nat, k ≤ A.length ∧ i = .int .i64 k ∧ Hid (twI A k = false)) (fun i => A.length - (intOf i).toNat)
  case atStart => exact ⟨0, Nat.zero_le _, rfl, hide rfl⟩
  case round =>
    obtain ⟨k, hk, rfl, H⟩ := hrel
    by_cases hlt : k < A.length
    · obtain ⟨g, o, rfl, hg, r1⟩ := HC.out k hlt
      have HI := hide (containsI_any w (.slice (some ⟨g, o, none⟩) k c) (A.take k) A[k] (HT.out k hk) (by unfold maxLen; rw [List.length_take]; omega))
      have HS := hide (twI_succ A k hlt)
      have HY := hide (twI_yes A k hlt)
      generalize A[k] = x at r1 HI HS HY
      generalize memI (A.take k) x = b at HI HS HY
      clear hg
      cases b
      · have HN : Hid (twI A (k + 1) = false) := hide (by rw [HS.out, H.out]; rfl)
        clear HS HY
        go_wp2_with fail
        refine HI.out.mono ?_
        rintro e w' ⟨rfl, rfl⟩
        go_wp2
        exact ⟨⟨k + 1, by omega, by go_num, HN⟩, by simp [intOf]; omega⟩
      · have HX := hide (HY.out rfl)
        clear HS HY
        go_wp2_with fail
        refine HI.out.mono ?_
        rintro e w' ⟨rfl, rfl⟩
        go_wp2
        go_ret
        exact ⟨ret_bool HX.out.symm, rfl⟩
    · have HN : Hid (twI A A.length = false) := hide (by rw [← H.out]; congr 1; omega)
      go_wp2
      go_ret
      exact ⟨ret_bool HN.out.symm, rfl⟩
def numsB (A : List Int) (hosts : Int) : Bool := decide (1 ≤ A.length ∧ A.length ≤ 16) && (A.all (fun n => decide (0 ≤ n) && decide (n < hosts)) && !twI A A.length)
theorem allI_snoc {A : List Int} {k : Nat} (p : Int → Bool) (h : k < A.length) : (A.take (k + 1)).all p = ((A.take k).all p && p A[k]) := by
  rw [List.take_succ_eq_append_getElem h, List.all_append]; simp
theorem allI_no {A : List Int} {k : Nat} (p : Int → Bool) (h : k < A.length) (hp : p A[k] = false) : A.all p = false := by
  rw [List.all_eq_false]
  exact ⟨A[k], List.getElem_mem h, by rw [hp]; decide⟩
set_option maxHeartbeats 1000000 in
theorem nums_any (w : World) (v : Value) (A : List Int) (hosts : Int) (h : IRow w v A) (hcap : ∀ a n c, v = .slice a n c → n ≤ c ∧ c ≤ maxLen) :
    Calls Tryz.prog 30 #[v, .int .i64 hosts] w fun e w' => e = .returned (.bool (numsB A hosts)) ∧ w' = w := by
  have HT := hide (twiceI_any w v A h hcap)
  obtain ⟨a, c, rfl, hc⟩ := h
  obtain ⟨hc1, hc2⟩ := hcap _ _ _ rfl
  unfold maxLen at hc2
  have HC := hide hc
  clear hc hcap
  obtain ⟨R, hR⟩ : ∃ R, numsB A hosts = R := ⟨_, rfl⟩
  rw [hR]
  have HV := hide hR
  unfold numsB at HV
  clear hR
  generalize twI A A.length = tw at HT HV
  by_cases h1 : A.length < 1
  · have HD := hide (decide_eq_false (p := 1 ≤ A.length ∧ A.length ≤ 16) (by omega))
    go_enter Tryz.func30, Tryz.ntmps30
    go_wp2
    go_ret
    exact ⟨ret_bool (by rw [← HV.out, HD.out]; rfl), rfl⟩
  · by_cases h2 : 16 < A.length
    · have HD := hide (decide_eq_false (p := 1 ≤ A.length ∧ A.length ≤ 16) (by omega))
      go_enter Tryz.func30, Tryz.ntmps30
      go_wp2
      go_ret
      exact ⟨ret_bool (by rw [← HV.out, HD.out]; rfl), rfl⟩
    · have HD := hide (decide_eq_true (p := 1 ≤ A.length ∧ A.length ≤ 16) (by omega))
      go_enter Tryz.func30, Tryz.ntmps30
      go_wp2
      go_loop [17] (fun i => ∃ k : Nat, k ≤ A.length ∧ i = .int .i64 k ∧ Hid ((A.take k).all (fun n => decide (0 ≤ n) && decide (n < hosts)) = true)) (fun i => A.length - (intOf i).toNat)
      case atStart => exact ⟨0, Nat.zero_le _, rfl, hide rfl⟩
      case round =>
        obtain ⟨k, hk, rfl, H⟩ := hrel
        by_cases hlt : k < A.length
        · obtain ⟨g, o, rfl, hg, r1⟩ := HC.out k hlt
          have HS := hide (allI_snoc (A := A) (fun n => decide (0 ≤ n) && decide (n < hosts)) hlt)
          have HN := hide (allI_no (A := A) (fun n => decide (0 ≤ n) && decide (n < hosts)) hlt)
          generalize A[k] = x at r1 HS HN
          clear hg
          by_cases x0 : x < 0
          · have HX := hide (HN.out (by simp only [decide_eq_false (show ¬ 0 ≤ x by omega)]; rfl))
            clear HS HN
            go_wp2
            go_ret
            exact ⟨ret_bool (by rw [← HV.out, HD.out, HX.out]; rfl), rfl⟩
          · by_cases x1 : hosts ≤ x
            · have HX := hide (HN.out (by simp only [decide_eq_false (show ¬ x < hosts by omega)]; simp))
              clear HS HN
              go_wp2
              go_ret
              exact ⟨ret_bool (by rw [← HV.out, HD.out, HX.out]; rfl), rfl⟩
            · have HX : Hid ((A.take (k + 1)).all (fun n => decide (0 ≤ n) && decide (n < hosts)) = true) := hide (by
                rw [HS.out, H.out]; simp only [decide_eq_true (show 0 ≤ x by omega), decide_eq_true (show x < hosts by omega)]; rfl)
              clear HS HN
              go_wp2
              exact ⟨⟨k + 1, by omega, by go_num, HX⟩, by simp [intOf]; omega⟩
        · have HX : Hid (A.all (fun n => decide (0 ≤ n) && decide (n < hosts)) = true) := hide (by
            have := H.out; rw [List.take_of_length_le (by omega)] at this; exact this)
          go_wp2_with fail
          refine HT.out.mono ?_
          rintro e w' ⟨rfl, rfl⟩
          go_wp2
          go_ret
          exact ⟨ret_bool (by rw [← HV.out, HD.out, HX.out]; rfl), rfl⟩
end Go.Proofs.YtekkhjlipijmcaaGreatDoor
