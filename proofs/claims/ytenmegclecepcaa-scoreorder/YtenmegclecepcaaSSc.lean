/- A score's calls, the program's and the document's: what each tells, and what it leaves. -/
import Derived.Test.YtenmegclecepcaaPBase
namespace Go.Proofs.Ytenmegclecepcaa
open Go.ChangeShapes Go.WideShapes Go.ChangeAt Go.RowKit

/-- A score's block. -/
def Sc (w : World) (b : Nat) (m : Int) : Prop := w.heap[b]? = some (.cells #[.int .i64 m] 39 (0, 0))
theorem Sc.fr {w w' : World} {b : Nat} {m : Int} {S : Nat → Prop} (h : Sc w b m) (F : Fr S w w') (hs : ¬ S b) : Sc w' b m := F.hd hs h
theorem Sc.cell {w : World} {b : Nat} {m : Int} (h : Sc w b m) : w.cell? ⟨b, 0, none⟩ = some (.int .i64 m) := cell_of h 0
theorem Sc.fz {w : World} {b : Nat} {m : Int} (h : Sc w b m) : w.frozen? ⟨b, 0, none⟩ = false := frozen_of h 0
def smp (x : Int) : Bool := decide (0 ≤ x ∧ x ≤ 1000000)
/-- The mean behind a sample. -/
def nx (m x : Int) : Int := if m < 1024 * x then 1024 * x else m - (m - 1024 * x).tdiv 8
def ldN (m r : Int) : Int := if 0 ≤ r ∧ r ≤ 1000000 then (m + 1024) * (r + 1) else 0
def ldE (r : Int) : Int := if 0 ≤ r ∧ r ≤ 1000000 then 0 else 1
theorem td8 {x : Int} (h : 0 ≤ x) : 0 ≤ x.tdiv 8 ∧ 8 * x.tdiv 8 ≤ x ∧ x < 8 * x.tdiv 8 + 8 := by
  rw [Int.tdiv_eq_ediv_of_nonneg h]; omega
theorem nx_le {m x : Int} (m0 : 0 ≤ m) (m1 : m ≤ 1024000000) (h : smp x = true) : 0 ≤ nx m x ∧ nx m x ≤ 1024000000 := by
  simp only [smp, decide_eq_true_eq] at h
  unfold nx
  split
  · omega
  · have := td8 (x := m - 1024 * x) (by omega)
    omega
theorem ld_le {m r : Int} (m0 : 0 ≤ m) (m1 : m ≤ 1024000000) (r0 : 0 ≤ r) (r1 : r ≤ 1000000) : 0 ≤ (m + 1024) * (r + 1) ∧ (m + 1024) * (r + 1) ≤ 1025000000000000000 := by
  constructor
  · exact Int.mul_nonneg (by omega) (by omega)
  · have := Int.mul_le_mul (show m + 1024 ≤ 1024001024 by omega) (show r + 1 ≤ 1000001 by omega) (by omega) (by omega)
    omega

theorem new_any (w : World) : Calls Try.prog 7 #[] w fun e w' => e = .returned (.pointer (some ⟨w.heap.size, 0, none⟩)) ∧ Sc w' w.heap.size 0 ∧ Fr none' w w' ∧ w.heap.size < w'.heap.size := by
  go_enter Try.func7, Try.ntmps7
  go_wp2
  go_ret
  exact ⟨rfl, hp_new _ _, Fr.alloc _ _ _, by simp⟩
theorem sample_any (w : World) (x : Int) : Calls Try.prog 9 #[.int .i64 x] w fun e w' => e = .returned (.bool (smp x)) ∧ w = w' := by
  by_cases h : 0 ≤ x
  · by_cases k : x ≤ 1000000
    all_goals
      go_enter Try.func9, Try.ntmps9
      go_wp2
      go_ret
      exact ⟨ret_bool (by simp [smp]; omega), rfl⟩
  · go_enter Try.func9, Try.ntmps9
    go_wp2
    go_ret
    exact ⟨ret_bool (by simp [smp]; omega), rfl⟩
theorem rnext_any (w : World) (m x : Int) (m0 : 0 ≤ m) (m1 : m ≤ 1024000000) (h : smp x = true) : Calls Try.prog 10 #[.int .i64 m, .int .i64 x] w fun e w' => e = .returned (.int .i64 (nx m x)) ∧ w = w' := by
  simp only [smp, decide_eq_true_eq] at h
  obtain ⟨x0, x1⟩ := h
  by_cases hq : m < 1024 * x
  · have hz : Hid (nx m x = 1024 * x) := hide (by unfold nx; rw [if_pos hq])
    go_enter Try.func10, Try.ntmps10
    go_wp2
    go_ret
    exact ⟨ret_int hz.out.symm, rfl⟩
  · have hz : Hid (nx m x = m - (m - 1024 * x).tdiv 8) := hide (by unfold nx; rw [if_neg hq])
    obtain ⟨d0, d1, -⟩ := td8 (x := m - 1024 * x) (by omega)
    go_enter Try.func10, Try.ntmps10
    go_wp2
    go_ret
    exact ⟨ret_int hz.out.symm, rfl⟩
theorem add_bad (w : World) (b : Nat) (x : Int) (h : smp x = false) : Calls Try.prog 8 #[.pointer (some ⟨b, 0, none⟩), .int .i64 x] w fun e w' => e = .returned (.tuple #[.int .i64 0, .int .i64 1]) ∧ w = w' := by
  simp only [smp, decide_eq_false_iff_not] at h
  by_cases h0 : x < 0
  · clear h
    go_enter Try.func8, Try.ntmps8
    go_wp2
    go_ret2
    exact ⟨rfl, rfl⟩
  · have h1 : 1000000 < x := by omega
    clear h
    go_enter Try.func8, Try.ntmps8
    go_wp2
    go_ret2
    exact ⟨rfl, rfl⟩
theorem add_any (w : World) (b : Nat) (m x : Int) (hb : Sc w b m) (m0 : 0 ≤ m) (m1 : m ≤ 1024000000) (h : smp x = true) :
    Calls Try.prog 8 #[.pointer (some ⟨b, 0, none⟩), .int .i64 x] w fun e w' => e = .returned (.tuple #[.int .i64 (nx m x), .int .i64 0]) ∧ Sc w' b (nx m x) ∧ Fr (fun k => k = b) w w' := by
  simp only [smp, decide_eq_true_eq] at h
  obtain ⟨x0, x1⟩ := h
  have c0 := hb.cell
  have f0 := hb.fz
  by_cases hq : m < 1024 * x
  · have hz : Hid (nx m x = 1024 * x) := hide (by unfold nx; rw [if_pos hq])
    have HB : Hid (Sc (w.setCell ⟨b, 0, none⟩ (.int .i64 (1024 * x))) b (1024 * x)) := hide (hp_set hb 0 _)
    rw [hz.out]
    have c1 := HB.out.cell
    have f1 := HB.out.fz
    clear hb hz
    go_enter Try.func8, Try.ntmps8
    go_wp2
    go_ret2
    exact ⟨rfl, HB.out, Fr.set _ _ _ _⟩
  · have hz : Hid (nx m x = m - (m - 1024 * x).tdiv 8) := hide (by unfold nx; rw [if_neg hq])
    obtain ⟨d0, d1, -⟩ := td8 (x := m - 1024 * x) (by omega)
    have HB : Hid (Sc ((w.setCell ⟨b, 0, none⟩ (.int .i64 (m - (m - 1024 * x).tdiv 8))).drew) b (m - (m - 1024 * x).tdiv 8)) := hide (hp_set hb 0 _)
    have HF : Hid (Fr (fun k => k = b) w ((w.setCell ⟨b, 0, none⟩ (.int .i64 (m - (m - 1024 * x).tdiv 8))).drew)) := hide (Fr.set _ _ _ _).e
    rw [hz.out]
    clear hb hz
    go_enter Try.func8, Try.ntmps8
    go_wp2
    go_region
    generalize (w.setCell ⟨b, 0, none⟩ (.int .i64 (m - (m - 1024 * x).tdiv 8))).drew = w2 at *
    have c1 := HB.out.cell
    go_wp2
    go_ret2
    exact ⟨rfl, HB.out, HF.out⟩
theorem mean_any (w : World) (b : Nat) (m : Int) (hb : Sc w b m) : Calls Try.prog 13 #[.pointer (some ⟨b, 0, none⟩)] w fun e w' => e = .returned (.int .i64 m) ∧ w = w' := by
  have c0 := hb.cell
  clear hb
  go_enter Try.func13, Try.ntmps13
  go_wp2
  go_ret
  exact ⟨rfl, rfl⟩
theorem load_any (w : World) (b : Nat) (m r : Int) (hb : Sc w b m) (m0 : 0 ≤ m) (m1 : m ≤ 1024000000) : Calls Try.prog 11 #[.pointer (some ⟨b, 0, none⟩), .int .i64 r] w fun e w' => e = .returned (.tuple #[.int .i64 (ldN m r), .int .i64 (ldE r)]) ∧ w = w' := by
  have HM := hide (mean_any w b m hb)
  clear hb
  by_cases h0 : 0 ≤ r
  · by_cases h1 : r ≤ 1000000
    · obtain ⟨p0, p1⟩ := ld_le m0 m1 h0 h1
      rw [show ldN m r = (m + 1024) * (r + 1) by unfold ldN; rw [if_pos ⟨h0, h1⟩], show ldE r = 0 by unfold ldE; rw [if_pos ⟨h0, h1⟩]]
      go_enter Try.func11, Try.ntmps11
      go_wp2_with (go_at_call 13; refine HM.out.mono ?_; rintro e w' ⟨rfl, rfl⟩)
      go_ret2
      exact ⟨rfl, rfl⟩
    · rw [show ldN m r = 0 by unfold ldN; rw [if_neg (by omega)], show ldE r = 1 by unfold ldE; rw [if_neg (by omega)]]
      go_enter Try.func11, Try.ntmps11
      go_wp2
      go_ret2
      exact ⟨rfl, rfl⟩
  · rw [show ldN m r = 0 by unfold ldN; rw [if_neg (by omega)], show ldE r = 1 by unfold ldE; rw [if_neg (by omega)]]
    go_enter Try.func11, Try.ntmps11
    go_wp2
    go_ret2
    exact ⟨rfl, rfl⟩
theorem rload_any (w : World) (m r : Int) (m0 : 0 ≤ m) (m1 : m ≤ 1024000000) : Calls Try.prog 12 #[.int .i64 m, .int .i64 r] w fun e w' => e = .returned (.tuple #[.int .i64 (ldN m r), .int .i64 (ldE r)]) ∧ w = w' := by
  by_cases h0 : 0 ≤ r
  · by_cases h1 : r ≤ 1000000
    · obtain ⟨p0, p1⟩ := ld_le m0 m1 h0 h1
      rw [show ldN m r = (m + 1024) * (r + 1) by unfold ldN; rw [if_pos ⟨h0, h1⟩], show ldE r = 0 by unfold ldE; rw [if_pos ⟨h0, h1⟩]]
      go_enter Try.func12, Try.ntmps12
      go_wp2
      go_ret2
      exact ⟨rfl, rfl⟩
    · rw [show ldN m r = 0 by unfold ldN; rw [if_neg (by omega)], show ldE r = 1 by unfold ldE; rw [if_neg (by omega)]]
      go_enter Try.func12, Try.ntmps12
      go_wp2
      go_ret2
      exact ⟨rfl, rfl⟩
  · rw [show ldN m r = 0 by unfold ldN; rw [if_neg (by omega)], show ldE r = 1 by unfold ldE; rw [if_neg (by omega)]]
    go_enter Try.func12, Try.ntmps12
    go_wp2
    go_ret2
    exact ⟨rfl, rfl⟩
end Go.Proofs.Ytenmegclecepcaa
