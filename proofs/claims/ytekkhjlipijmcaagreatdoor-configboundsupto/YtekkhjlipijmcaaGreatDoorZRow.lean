/- Rows of texts, wherever they begin; whether one is there; whether one is there twice; whether a text says of which hosts a route takes requests. -/
import Derived.Test.YtekkhjlipijmcaaGreatDoorZIs
import Derived.Test.YtekkhjlipijmcaaGreatDoorQZ1
namespace Go.Proofs.YtekkhjlipijmcaaGreatDoor
open Go.ChangeShapes Go.WideShapes Go.ChangeAt Go.RowKit

/-- The slice v reads as the texts A, wherever it begins. -/
def SRow (W : World) (v : Value) (A : List ByteArray) : Prop := ∃ (a : Option Addr) (c : Nat), v = .slice a A.length c ∧ ∀ j (h : j < A.length), ∃ g o, a = some ⟨g, o, none⟩ ∧ g < W.heap.size ∧ W.cell? ⟨g, o + j, none⟩ = some (.string A[j])
theorem SRow.below {W W' : World} {v : Value} {A : List ByteArray} (h : SRow W v A) (hb : Below W.heap.size W W') : SRow W' v A := by
  obtain ⟨a, c, rfl, hc⟩ := h
  refine ⟨a, c, rfl, fun j hj => ?_⟩
  obtain ⟨g, o, h1, h2, h3⟩ := hc j hj
  exact ⟨g, o, h1, Nat.lt_of_lt_of_le h2 hb.size, (hb.cell (p := ⟨g, o + j, none⟩) h2).trans h3⟩
def memB (A : List ByteArray) (n : ByteArray) : Bool := A.any fun x => decide (n = x)
theorem memB_snoc {A : List ByteArray} {n : ByteArray} {k : Nat} (h : k < A.length) : memB (A.take (k + 1)) n = (memB (A.take k) n || decide (n = A[k])) := by
  unfold memB
  rw [take_snocA A k h, List.any_append]; simp
theorem memB_all {A : List ByteArray} {n : ByteArray} {k : Nat} (h : A.length ≤ k) : memB (A.take k) n = memB A n := by rw [List.take_of_length_le h]
theorem memB_at {A : List ByteArray} {n : ByteArray} {k : Nat} (h : k < A.length) (he : n = A[k]) : memB A n = true := by
  unfold memB
  rw [List.any_eq_true]
  exact ⟨A[k], List.getElem_mem h, decide_eq_true he⟩
set_option maxHeartbeats 1000000 in
theorem index_any (w : World) (v : Value) (A : List ByteArray) (n : ByteArray) (h : SRow w v A) (hA : A.length ≤ maxLen) :
    Calls Tryz.prog 59 #[v, .string n] w fun e w' => (∃ r : Int, e = .returned (.int .i64 r) ∧ decide (0 ≤ r) = memB A n) ∧ w' = w := by
  obtain ⟨a, c, rfl, hc⟩ := h
  have HC := hide hc
  unfold maxLen at hA
  clear hc
  go_enter Tryz.func59, Tryz.ntmps59
  go_wp2
  go_loop [8] (fun i => ∃ k : Nat, k ≤ A.length ∧ i = .int .i64 k ∧ Hid (memB (A.take k) n = false)) (fun i => A.length - (intOf i).toNat)
  case atStart => exact ⟨0, Nat.zero_le _, rfl, hide rfl⟩
  case round =>
    obtain ⟨k, hk, rfl, H⟩ := hrel
    by_cases hlt : k < A.length
    · obtain ⟨g, o, rfl, hg, r1⟩ := HC.out k hlt
      have hbe := bytes_eq n A[k]
      have HM := hide (memB_snoc (A := A) (n := n) hlt)
      by_cases he : n = A[k]
      · have HY : Hid (memB A n = true) := hide (memB_at hlt he)
        rw [decide_eq_true he] at hbe
        generalize A[k] = x at r1 hbe
        clear he hg HM
        go_wp2
        go_ret
        exact ⟨⟨k, rfl, by rw [HY.out]; exact decide_eq_true (by omega)⟩, rfl⟩
      · have HN : Hid (memB (A.take (k + 1)) n = false) := hide (by rw [HM.out, H.out, decide_eq_false he]; rfl)
        rw [decide_eq_false he] at hbe
        generalize A[k] = x at r1 hbe
        clear he hg HM
        go_wp2
        exact ⟨⟨k + 1, by omega, by go_num, HN⟩, by simp [intOf]; omega⟩
    · have HN := hide ((memB_all (Nat.le_of_not_lt hlt)).symm.trans H.out)
      go_wp2
      go_ret
      exact ⟨⟨-1, rfl, by rw [HN.out]; rfl⟩, rfl⟩
theorem contains_any (w : World) (v : Value) (A : List ByteArray) (n : ByteArray) (h : SRow w v A) (hA : A.length ≤ maxLen) :
    Calls Tryz.prog 41 #[v, .string n] w fun e w' => e = .returned (.bool (memB A n)) ∧ w' = w := by
  have HI := hide (index_any w v A n h hA)
  obtain ⟨a, c, rfl, hc⟩ := h
  clear hc
  go_enter Tryz.func41, Tryz.ntmps41
  go_wp2_with fail
  refine HI.out.mono ?_
  rintro e w' ⟨⟨r, rfl, hr⟩, rfl⟩
  have HR := hide hr
  clear hr HI
  go_wp2
  go_ret
  exact ⟨ret_bool HR.out, rfl⟩
def twB (A : List ByteArray) (k : Nat) : Bool := (List.range k).any fun i => memB (A.take i) (A.getD i ⟨#[]⟩)
theorem twB_succ (A : List ByteArray) (k : Nat) (h : k < A.length) : twB A (k + 1) = (twB A k || memB (A.take k) A[k]) := by
  unfold twB
  rw [List.range_succ, List.any_append]
  simp [List.getD_eq_getElem?_getD, h]
theorem twB_yes (A : List ByteArray) (k : Nat) (h : k < A.length) (hm : memB (A.take k) A[k] = true) : twB A A.length = true := by
  unfold twB
  rw [List.any_eq_true]
  exact ⟨k, List.mem_range.2 h, by simpa [List.getD_eq_getElem?_getD, h] using hm⟩
theorem SRow.take {W : World} {a : Option Addr} {c : Nat} {A : List ByteArray} (hc : ∀ j (h : j < A.length), ∃ g o, a = some ⟨g, o, none⟩ ∧ g < W.heap.size ∧ W.cell? ⟨g, o + j, none⟩ = some (.string A[j])) (k : Nat) (hk : k ≤ A.length) : SRow W (.slice a k c) (A.take k) := by
  refine ⟨a, c, by rw [List.length_take, Nat.min_eq_left hk], fun j hj => ?_⟩
  rw [List.length_take] at hj
  obtain ⟨g, o, h1, h2, h3⟩ := hc j (by omega)
  exact ⟨g, o, h1, h2, by rw [h3, List.getElem_take]⟩
set_option maxHeartbeats 1000000 in
theorem twiceS_any (w : World) (v : Value) (A : List ByteArray) (h : SRow w v A) (hcap : ∀ a n c, v = .slice a n c → n ≤ c ∧ c ≤ maxLen) :
    Calls Tryz.prog 28 #[v] w fun e w' => e = .returned (.bool (twB A A.length)) ∧ w' = w := by
  obtain ⟨a, c, rfl, hc⟩ := h
  obtain ⟨hc1, hc2⟩ := hcap _ _ _ rfl
  unfold maxLen at hc2
  have HC := hide hc
  have HT := hide (fun k hk => SRow.take (c := c) hc k hk)
  clear hc hcap
  go_enter Tryz.func28, Tryz.ntmps28
  go_wp2
  go_loop [7] (fun i => ∃ k : Nat, k ≤ A.length ∧ i = .int .i64 k ∧ Hid (twB A k = false)) (fun i => A.length - (intOf i).toNat)
  case atStart => exact ⟨0, Nat.zero_le _, rfl, hide rfl⟩
  case round =>
    obtain ⟨k, hk, rfl, H⟩ := hrel
    by_cases hlt : k < A.length
    · obtain ⟨g, o, rfl, hg, r1⟩ := HC.out k hlt
      have HI := hide (contains_any w (.slice (some ⟨g, o, none⟩) k c) (A.take k) A[k] (HT.out k hk) (by unfold maxLen; rw [List.length_take]; omega))
      have HS := hide (twB_succ A k hlt)
      have HY := hide (twB_yes A k hlt)
      generalize A[k] = x at r1 HI HS HY
      generalize memB (A.take k) x = b at HI HS HY
      clear hg
      cases b
      · have HN : Hid (twB A (k + 1) = false) := hide (by rw [HS.out, H.out]; rfl)
        clear HS HY
        go_wp2_with fail
        refine HI.out.mono ?_
        rintro e w' ⟨rfl, rfl⟩
        go_wp2
        exact ⟨⟨k + 1, by omega, by go_num, HN⟩, by simp [intOf]; omega⟩
      · have HX := hide (HY.out rfl)
        clear HS HY
        go_wp2_with fail
        refine HI.out.mono ?_
        rintro e w' ⟨rfl, rfl⟩
        go_wp2
        go_ret
        exact ⟨ret_bool HX.out.symm, rfl⟩
    · have HN : Hid (twB A A.length = false) := hide (by rw [← H.out]; congr 1; omega)
      go_wp2
      go_ret
      exact ⟨ret_bool HN.out.symm, rfl⟩
def trimW (s : ByteArray) : ByteArray := ⟨(Lib.trimPrefix s.data.toList [42, 46]).toArray⟩
theorem trimW_size (s : ByteArray) : (trimW s).size ≤ s.size := by
  have h : (Lib.trimPrefix s.data.toList [42, 46]).length ≤ s.data.toList.length := by
    unfold Lib.trimPrefix
    split
    · rw [List.length_drop]; omega
    · exact Nat.le_refl _
  rw [size_len] at h
  have e : (trimW s).data.toList = Lib.trimPrefix s.data.toList [42, 46] := by unfold trimW; simp
  rw [← size_len, e]
  exact h
def patB (s : ByteArray) : Bool := decide (s.size = 0) || (isHostB s || isHostB (trimW s))
theorem pattern_any (s : ByteArray) (w : World) (hs : s.size ≤ 140737488355328) : Calls Tryz.prog 42 #[.string s] w fun e w' => e = .returned (.bool (patB s)) ∧ Below w.heap.size w w' := by
  have hz := trimW_size s
  have H1 := hide (fun W => ishostC_any s W hs)
  have H2 := hide (fun W => ishostC_any (trimW s) W (by omega))
  have H3 := hide (fun W => Tryz.strings_TrimPrefix s ⟨#[42, 46]⟩ W)
  unfold patB
  generalize isHostB s = b1 at H1 ⊢
  generalize isHostB (trimW s) = b2 at H2 ⊢
  obtain ⟨bz, hbz⟩ : ∃ b, decide (s.size = 0) = b := ⟨_, rfl⟩
  rw [hbz]
  have HZ := hide hbz
  clear hz hbz
  by_cases h0 : s.size = 0
  · have he : s.toList.isEmpty = true := by rw [Lib.toList_data, isEmpty_size]; exact decide_eq_true h0
    have H0 : Hid (bz = true) := hide (HZ.out.symm.trans (decide_eq_true h0))
    clear h0 hs HZ
    go_enter Tryz.func42, Tryz.ntmps42
    go_wp2
    go_ret
    exact ⟨ret_bool (by rw [H0.out]; rfl), Below.refl _ _⟩
  · have he : s.toList.isEmpty = false := by rw [Lib.toList_data, isEmpty_size]; exact decide_eq_false h0
    have H0 : Hid (bz = false) := hide (HZ.out.symm.trans (decide_eq_false h0))
    clear h0 hs HZ
    go_enter Tryz.func42, Tryz.ntmps42
    go_wp2_with fail
    refine (H1.out _).mono ?_
    rintro e w1 ⟨rfl, bb⟩
    have B1 := hide bb
    clear bb H1
    cases b1
    · go_wp2_with fail
      refine (H3.out _).mono ?_
      rintro e w2 ⟨rfl, rfl⟩
      go_wp2_with fail
      refine (H2.out _).mono ?_
      rintro e w3 ⟨rfl, bb⟩
      have B2 := hide (B1.out.trans (bb.mono B1.out.size))
      clear bb
      go_wp2
      go_ret
      exact ⟨ret_bool (by rw [H0.out]; rfl), B2.out⟩
    · go_wp2
      go_ret
      exact ⟨ret_bool (by rw [H0.out]; rfl), B1.out⟩
end Go.Proofs.YtekkhjlipijmcaaGreatDoor
