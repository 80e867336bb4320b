/- BodyBound, walked. -/
import Derived.Test.YtggeihahbgeneaaDoorBEx
import Derived.Test.YtggeihahbgeneaaDoorBPf
namespace Go.Proofs.YtggeihahbgeneaaDoor
open Go.ChangeShapes Go.WideShapes Go.ChangeAt Go.RowKit

set_option maxHeartbeats 4000000 in
set_option maxRecDepth 100000 in
theorem asked_1 (k len : Int) (x : Bool) (most : Int) (w : World) (t0 : k < 1) : Calls Tryd.prog 9 #[frV k len x, .int .i64 most] w fun e w' => e = .returned (.int .i64 1) ∧ Below w.heap.size w w' := by
  have FIN : Hid (∀ W, W = w.alloc (.cells #[.int .i64 k, .int .i64 len, .bool x] 23) → Below w.heap.size w W) := hide (by rintro W rfl; exact (Below.refl w.heap.size w).alloc (Nat.le_refl _) _)
  unfold frV
  go_enter Tryd.func9, Tryd.ntmps9
  go_wp2
  go_ret
  exact ⟨rfl, FIN.out _ rfl⟩
set_option maxHeartbeats 4000000 in
set_option maxRecDepth 100000 in
theorem asked_2 (k len : Int) (x : Bool) (most : Int) (w : World) (t0 : ¬ k < 1) (t1 : 4 < k) : Calls Tryd.prog 9 #[frV k len x, .int .i64 most] w fun e w' => e = .returned (.int .i64 1) ∧ Below w.heap.size w w' := by
  have FIN : Hid (∀ W, W = w.alloc (.cells #[.int .i64 k, .int .i64 len, .bool x] 23) → Below w.heap.size w W) := hide (by rintro W rfl; exact (Below.refl w.heap.size w).alloc (Nat.le_refl _) _)
  unfold frV
  go_enter Tryd.func9, Tryd.ntmps9
  go_wp2
  go_ret
  exact ⟨rfl, FIN.out _ rfl⟩
set_option maxHeartbeats 4000000 in
set_option maxRecDepth 100000 in
theorem asked_3 (k len : Int) (x : Bool) (most : Int) (w : World) (t0 : ¬ k < 1) (t1 : ¬ 4 < k) (t2 : len < 0) : Calls Tryd.prog 9 #[frV k len x, .int .i64 most] w fun e w' => e = .returned (.int .i64 1) ∧ Below w.heap.size w w' := by
  have FIN : Hid (∀ W, W = w.alloc (.cells #[.int .i64 k, .int .i64 len, .bool x] 23) → Below w.heap.size w W) := hide (by rintro W rfl; exact (Below.refl w.heap.size w).alloc (Nat.le_refl _) _)
  unfold frV
  go_enter Tryd.func9, Tryd.ntmps9
  go_wp2
  go_ret
  exact ⟨rfl, FIN.out _ rfl⟩
set_option maxHeartbeats 4000000 in
set_option maxRecDepth 100000 in
theorem asked_4 (k len : Int) (x : Bool) (most : Int) (w : World) (t0 : ¬ k < 1) (t1 : ¬ 4 < k) (t2 : ¬ len < 0) (t3 : 9007199254740992 < len) : Calls Tryd.prog 9 #[frV k len x, .int .i64 most] w fun e w' => e = .returned (.int .i64 1) ∧ Below w.heap.size w w' := by
  have FIN : Hid (∀ W, W = w.alloc (.cells #[.int .i64 k, .int .i64 len, .bool x] 23) → Below w.heap.size w W) := hide (by rintro W rfl; exact (Below.refl w.heap.size w).alloc (Nat.le_refl _) _)
  unfold frV
  go_enter Tryd.func9, Tryd.ntmps9
  go_wp2
  go_ret
  exact ⟨rfl, FIN.out _ rfl⟩
set_option maxHeartbeats 4000000 in
set_option maxRecDepth 100000 in
theorem asked_5 (k len : Int) (x : Bool) (most : Int) (w : World) (t0 : ¬ k < 1) (t1 : ¬ 4 < k) (t2 : ¬ len < 0) (t3 : ¬ 9007199254740992 < len) (t4 : (k != 2) = true) (t5 : (len != 0) = true) : Calls Tryd.prog 9 #[frV k len x, .int .i64 most] w fun e w' => e = .returned (.int .i64 1) ∧ Below w.heap.size w w' := by
  have FIN : Hid (∀ W, W = w.alloc (.cells #[.int .i64 k, .int .i64 len, .bool x] 23) → Below w.heap.size w W) := hide (by rintro W rfl; exact (Below.refl w.heap.size w).alloc (Nat.le_refl _) _)
  unfold frV
  go_enter Tryd.func9, Tryd.ntmps9
  go_wp2
  go_ret
  exact ⟨rfl, FIN.out _ rfl⟩
set_option maxHeartbeats 4000000 in
set_option maxRecDepth 100000 in
theorem asked_6 (k len : Int) (x : Bool) (most : Int) (w : World) (t0 : ¬ k < 1) (t1 : ¬ 4 < k) (t2 : ¬ len < 0) (t3 : ¬ 9007199254740992 < len) (t4 : (k != 2) = true) (t5 : (len != 0) = false) (t6 : most < 0) : Calls Tryd.prog 9 #[frV k len x, .int .i64 most] w fun e w' => e = .returned (.int .i64 1) ∧ Below w.heap.size w w' := by
  have FIN : Hid (∀ W, W = w.alloc (.cells #[.int .i64 k, .int .i64 len, .bool x] 23) → Below w.heap.size w W) := hide (by rintro W rfl; exact (Below.refl w.heap.size w).alloc (Nat.le_refl _) _)
  unfold frV
  go_enter Tryd.func9, Tryd.ntmps9
  go_wp2
  go_ret
  exact ⟨rfl, FIN.out _ rfl⟩
set_option maxHeartbeats 4000000 in
set_option maxRecDepth 100000 in
theorem asked_7 (k len : Int) (x : Bool) (most : Int) (w : World) (t0 : ¬ k < 1) (t1 : ¬ 4 < k) (t2 : ¬ len < 0) (t3 : ¬ 9007199254740992 < len) (t4 : (k != 2) = true) (t5 : (len != 0) = false) (t6 : ¬ most < 0) (t7 : 9007199254740992 < most) : Calls Tryd.prog 9 #[frV k len x, .int .i64 most] w fun e w' => e = .returned (.int .i64 1) ∧ Below w.heap.size w w' := by
  have FIN : Hid (∀ W, W = w.alloc (.cells #[.int .i64 k, .int .i64 len, .bool x] 23) → Below w.heap.size w W) := hide (by rintro W rfl; exact (Below.refl w.heap.size w).alloc (Nat.le_refl _) _)
  unfold frV
  go_enter Tryd.func9, Tryd.ntmps9
  go_wp2
  go_ret
  exact ⟨rfl, FIN.out _ rfl⟩
set_option maxHeartbeats 4000000 in
set_option maxRecDepth 100000 in
theorem asked_8 (k len : Int) (x : Bool) (most : Int) (w : World) (t0 : ¬ k < 1) (t1 : ¬ 4 < k) (t2 : ¬ len < 0) (t3 : ¬ 9007199254740992 < len) (t4 : (k != 2) = false) (t5 : most < 0) : Calls Tryd.prog 9 #[frV k len x, .int .i64 most] w fun e w' => e = .returned (.int .i64 1) ∧ Below w.heap.size w w' := by
  have FIN : Hid (∀ W, W = w.alloc (.cells #[.int .i64 k, .int .i64 len, .bool x] 23) → Below w.heap.size w W) := hide (by rintro W rfl; exact (Below.refl w.heap.size w).alloc (Nat.le_refl _) _)
  unfold frV
  go_enter Tryd.func9, Tryd.ntmps9
  go_wp2
  go_ret
  exact ⟨rfl, FIN.out _ rfl⟩
set_option maxHeartbeats 4000000 in
set_option maxRecDepth 100000 in
theorem asked_9 (k len : Int) (x : Bool) (most : Int) (w : World) (t0 : ¬ k < 1) (t1 : ¬ 4 < k) (t2 : ¬ len < 0) (t3 : ¬ 9007199254740992 < len) (t4 : (k != 2) = false) (t5 : ¬ most < 0) (t6 : 9007199254740992 < most) : Calls Tryd.prog 9 #[frV k len x, .int .i64 most] w fun e w' => e = .returned (.int .i64 1) ∧ Below w.heap.size w w' := by
  have FIN : Hid (∀ W, W = w.alloc (.cells #[.int .i64 k, .int .i64 len, .bool x] 23) → Below w.heap.size w W) := hide (by rintro W rfl; exact (Below.refl w.heap.size w).alloc (Nat.le_refl _) _)
  unfold frV
  go_enter Tryd.func9, Tryd.ntmps9
  go_wp2
  go_ret
  exact ⟨rfl, FIN.out _ rfl⟩
set_option maxHeartbeats 4000000 in
set_option maxRecDepth 100000 in
theorem asked_10 (k len : Int) (x : Bool) (most : Int) (w : World) (t0 : ¬ k < 1) (t1 : ¬ 4 < k) (t2 : ¬ len < 0) (t3 : ¬ 9007199254740992 < len) (t4 : (k != 2) = false) (t5 : ¬ most < 0) (t6 : ¬ 9007199254740992 < most) (t7 : (k == 2) = true) (t8 : most < len) : Calls Tryd.prog 9 #[frV k len x, .int .i64 most] w fun e w' => e = .returned (.int .i64 2) ∧ Below w.heap.size w w' := by
  have FIN : Hid (∀ W, W = w.alloc (.cells #[.int .i64 k, .int .i64 len, .bool x] 23) → Below w.heap.size w W) := hide (by rintro W rfl; exact (Below.refl w.heap.size w).alloc (Nat.le_refl _) _)
  unfold frV
  go_enter Tryd.func9, Tryd.ntmps9
  go_wp2
  go_ret
  exact ⟨rfl, FIN.out _ rfl⟩
theorem asked_bad (k len : Int) (x : Bool) (most : Int) (w : World) (h : isR k len = false ∨ most < 0 ∨ 9007199254740992 < most ∨ (k = 2 ∧ most < len)) : ∃ er : Int, (er != 0) = true ∧ Calls Tryd.prog 9 #[frV k len x, .int .i64 most] w fun e w' => e = .returned (.int .i64 er) ∧ Below w.heap.size w w' := by
  have one : ((1 : Int) != 0) = true := rfl
  by_cases h1 : k < 1
  · exact ⟨1, one, asked_1 k len x most w h1⟩
  by_cases h2 : 4 < k
  · exact ⟨1, one, asked_2 k len x most w h1 h2⟩
  by_cases h3 : len < 0
  · exact ⟨1, one, asked_3 k len x most w h1 h2 h3⟩
  by_cases h4 : 9007199254740992 < len
  · exact ⟨1, one, asked_4 k len x most w h1 h2 h3 h4⟩
  by_cases hk : k = 2
  · have hy : (k != 2) = false := by rw [bne_eq_false_iff_eq]; exact hk
    by_cases h6 : most < 0
    · exact ⟨1, one, asked_8 k len x most w h1 h2 h3 h4 hy h6⟩
    by_cases h7 : 9007199254740992 < most
    · exact ⟨1, one, asked_9 k len x most w h1 h2 h3 h4 hy h6 h7⟩
    have hr : isR k len = true := by unfold isR; rw [if_pos hk]; exact decide_eq_true ⟨by omega, by omega⟩
    have hl : most < len := by
      rcases h with h | h | h | h
      · rw [hr] at h; cases h
      · omega
      · omega
      · exact h.2
    exact ⟨2, rfl, asked_10 k len x most w h1 h2 h3 h4 hy h6 h7 (by rw [beq_iff_eq]; exact hk) hl⟩
  · have hy : (k != 2) = true := bne_iff_ne.2 hk
    by_cases h5 : len = 0
    · have hz : (len != 0) = false := by rw [bne_eq_false_iff_eq]; exact h5
      by_cases h6 : most < 0
      · exact ⟨1, one, asked_6 k len x most w h1 h2 h3 h4 hy hz h6⟩
      by_cases h7 : 9007199254740992 < most
      · exact ⟨1, one, asked_7 k len x most w h1 h2 h3 h4 hy hz h6 h7⟩
      have hr : isR k len = true := by unfold isR; rw [if_neg hk, if_pos (by omega)]; exact decide_eq_true h5
      exfalso
      rcases h with h | h | h | h
      · rw [hr] at h; cases h
      · omega
      · omega
      · exact hk h.1
    · exact ⟨1, one, asked_5 k len x most w h1 h2 h3 h4 hy (bne_iff_ne.2 h5)⟩
theorem new_bad2 (k len : Int) (x : Bool) (most : Int) (w : World) (h : isR k len = true) (t1 : most < 0) : Calls Tryd.prog 8 #[frV k len x, .int .i64 most] w fun e w' => e = .returned (.tuple #[.pointer none, .int .i64 1]) ∧ Below w.heap.size w w' := by
  have HI := hide (fun W => isRight_any k len x W)
  rw [h] at HI
  clear h
  unfold frV at HI ⊢
  go_enter Tryd.func8, Tryd.ntmps8
  have BA := hide ((Below.refl w.heap.size w).alloc (Nat.le_refl _) (.cells #[.int .i64 k, .int .i64 len, .bool x] 23))
  have HB := hide (hp_new w (.cells #[.int .i64 k, .int .i64 len, .bool x] 23))
  go_upto_region 1 with fail
  generalize w.alloc (.cells #[.int .i64 k, .int .i64 len, .bool x] 23) = W0 at BA HB ⊢
  have c0 : W0.cell? ⟨w.heap.size, 0, none⟩ = some (.int .i64 k) := cell_at HB.out 0
  have c1 : W0.cell? ⟨w.heap.size, 1, none⟩ = some (.int .i64 len) := cell_at HB.out 1
  have c2 : W0.cell? ⟨w.heap.size, 2, none⟩ = some (.bool x) := cell_at HB.out 2
  go_wp2_with fail
  refine (HI.out W0).mono ?_
  rintro e W1 ⟨rfl, b1⟩
  have B1 := hide (BA.out.trans (b1.mono BA.out.size))
  clear c0 c1 c2 b1 HI
  go_wp2
  go_ret2
  exact ⟨rfl, B1.out⟩
theorem new_bad3 (k len : Int) (x : Bool) (most : Int) (w : World) (h : isR k len = true) (t1 : ¬ most < 0) (t2 : 9007199254740992 < most) : Calls Tryd.prog 8 #[frV k len x, .int .i64 most] w fun e w' => e = .returned (.tuple #[.pointer none, .int .i64 1]) ∧ Below w.heap.size w w' := by
  have HI := hide (fun W => isRight_any k len x W)
  rw [h] at HI
  clear h
  unfold frV at HI ⊢
  go_enter Tryd.func8, Tryd.ntmps8
  have BA := hide ((Below.refl w.heap.size w).alloc (Nat.le_refl _) (.cells #[.int .i64 k, .int .i64 len, .bool x] 23))
  have HB := hide (hp_new w (.cells #[.int .i64 k, .int .i64 len, .bool x] 23))
  go_upto_region 1 with fail
  generalize w.alloc (.cells #[.int .i64 k, .int .i64 len, .bool x] 23) = W0 at BA HB ⊢
  have c0 : W0.cell? ⟨w.heap.size, 0, none⟩ = some (.int .i64 k) := cell_at HB.out 0
  have c1 : W0.cell? ⟨w.heap.size, 1, none⟩ = some (.int .i64 len) := cell_at HB.out 1
  have c2 : W0.cell? ⟨w.heap.size, 2, none⟩ = some (.bool x) := cell_at HB.out 2
  go_wp2_with fail
  refine (HI.out W0).mono ?_
  rintro e W1 ⟨rfl, b1⟩
  have B1 := hide (BA.out.trans (b1.mono BA.out.size))
  clear c0 c1 c2 b1 HI
  go_wp2
  go_ret2
  exact ⟨rfl, B1.out⟩
theorem new_err (k len : Int) (x : Bool) (most : Int) (w : World) (h : isR k len = false ∨ most < 0 ∨ 9007199254740992 < most ∨ (k = 2 ∧ most < len)) : ∃ er : Int, (er != 0) = true ∧ Calls Tryd.prog 8 #[frV k len x, .int .i64 most] w fun e w' => e = .returned (.tuple #[.pointer none, .int .i64 er]) ∧ Below w.heap.size w w' := by
  have one : ((1 : Int) != 0) = true := rfl
  cases hr : isR k len with
  | false => exact ⟨1, one, new_bad1 k len x most w hr⟩
  | true =>
    by_cases h6 : most < 0
    · exact ⟨1, one, new_bad2 k len x most w hr h6⟩
    by_cases h7 : 9007199254740992 < most
    · exact ⟨1, one, new_bad3 k len x most w hr h6 h7⟩
    have hl : most < len := by
      rcases h with h | h | h | h
      · rw [hr] at h; cases h
      · omega
      · omega
      · exact h.2
    exact ⟨2, rfl, new_long k len x most w hr (by omega) (by omega) hl⟩
set_option maxHeartbeats 4000000 in
set_option maxRecDepth 100000 in
theorem bound_bad (k len : Int) (x : Bool) (most : Int) (a : Option Addr) (n c : Nat) (w : World) (h : isR k len = false ∨ most < 0 ∨ 9007199254740992 < most ∨ (k = 2 ∧ most < len)) :
    Calls Tryd.prog 5 #[frV k len x, .int .i64 most, .slice a n c] w fun e w' => e = .returned (.bool true) ∧ Below w.heap.size w w' := by
  have HN := hide (fun W => new_err k len x most W h)
  have HA := hide (fun W => asked_bad k len x most W h)
  clear h
  unfold frV at HN HA ⊢
  go_enter Tryd.func5, Tryd.ntmps5
  have BA := hide ((Below.refl w.heap.size w).alloc (Nat.le_refl _) (.cells #[.int .i64 k, .int .i64 len, .bool x] 23))
  have HB := hide (hp_new w (.cells #[.int .i64 k, .int .i64 len, .bool x] 23))
  have HLT := lt_heap' HB.out
  go_upto_region 1 with fail
  generalize w.alloc (.cells #[.int .i64 k, .int .i64 len, .bool x] 23) = W0 at BA HB HLT ⊢
  have c0 : W0.cell? ⟨w.heap.size, 0, none⟩ = some (.int .i64 k) := cell_at HB.out 0
  have c1 : W0.cell? ⟨w.heap.size, 1, none⟩ = some (.int .i64 len) := cell_at HB.out 1
  have c2 : W0.cell? ⟨w.heap.size, 2, none⟩ = some (.bool x) := cell_at HB.out 2
  obtain ⟨er, te, hn⟩ := HN.out W0
  have HN2 := hide hn
  clear hn HN
  go_wp2_with fail
  refine HN2.out.mono ?_
  rintro e W1 ⟨rfl, b1⟩
  have B1 := hide (BA.out.trans (b1.mono BA.out.size))
  have HB1 := hide ((b1.block w.heap.size HLT).trans HB.out)
  clear c0 c1 c2 b1 HN2
  have c0 : W1.cell? ⟨w.heap.size, 0, none⟩ = some (.int .i64 k) := cell_at HB1.out 0
  have c1 : W1.cell? ⟨w.heap.size, 1, none⟩ = some (.int .i64 len) := cell_at HB1.out 1
  have c2 : W1.cell? ⟨w.heap.size, 2, none⟩ = some (.bool x) := cell_at HB1.out 2
  obtain ⟨ar, ta, ha⟩ := HA.out W1
  have HA2 := hide ha
  clear ha HA
  go_wp2_with fail
  refine HA2.out.mono ?_
  rintro e W2 ⟨rfl, b2⟩
  have B2 := hide (B1.out.trans (b2.mono B1.out.size))
  clear c0 c1 c2 b2 HA2
  go_wp2_with fail
  refine (speaks_any W2).mono ?_
  rintro e W3 ⟨rfl, b3⟩
  have B3 := hide (B2.out.trans (b3.mono B2.out.size))
  clear b3
  go_wp2
  go_ret
  exact ⟨rfl, B3.out⟩
/-- What Feed tells of a reader that is new. -/
def FQ (w w' : World) (base gr : Nat) (most : Int) (bl : Nat) (e : Ending) : Prop := ∃ (ua : Option Addr) (uc : Nat) (O : Nat) (n : Int) (wh : Bool) (wr : Nat) (g : Nat) (it ct : TypeId) (t : Tal) (X : List Value), e = .returned (.tuple #[.slice ua O uc, .int .i64 n, .bool wh, .int .i64 (wr : Int)]) ∧ (O : Int) ≤ most ∧ n ≤ (bl : Int) ∧ t.got = O ∧ KT it ∧ Rdr w' base gr g it ct t X ∧ Below base w w'
def NQ (w w' : World) (most : Int) (va : Option Addr) (bl vc : Nat) (e : Ending) : Prop := ∃ gr, e = .returned (.tuple #[.pointer (some ⟨gr, 0, none⟩), .int .i64 0]) ∧ Below w.heap.size w w' ∧ Calls Tryd.prog 12 #[.pointer (some ⟨gr, 0, none⟩), .slice va bl vc] w' fun e2 w2 => FQ w' w2 w.heap.size gr most bl e2
set_option maxHeartbeats 4000000 in
set_option maxRecDepth 100000 in
theorem bound_good (k len : Int) (x : Bool) (most : Int) (a : Option Addr) (bl c : Nat) (w : World) (hm : most ≤ 9007199254740992)
    (hn : ∀ W, Below w.heap.size w W → Calls Tryd.prog 8 #[frV k len x, .int .i64 most] W fun e w' => NQ W w' most a bl c e) :
    Calls Tryd.prog 5 #[frV k len x, .int .i64 most, .slice a bl c] w fun e w' => e = .returned (.bool true) ∧ Below w.heap.size w w' := by
  have HN := hide hn
  clear hn
  unfold frV at HN ⊢
  go_enter Tryd.func5, Tryd.ntmps5
  have BA := hide ((Below.refl w.heap.size w).alloc (Nat.le_refl _) (.cells #[.int .i64 k, .int .i64 len, .bool x] 23))
  have HB := hide (hp_new w (.cells #[.int .i64 k, .int .i64 len, .bool x] 23))
  have HLT := lt_heap' HB.out
  go_upto_region 1 with fail
  generalize w.alloc (.cells #[.int .i64 k, .int .i64 len, .bool x] 23) = W0 at BA HB HLT ⊢
  have c0 : W0.cell? ⟨w.heap.size, 0, none⟩ = some (.int .i64 k) := cell_at HB.out 0
  have c1 : W0.cell? ⟨w.heap.size, 1, none⟩ = some (.int .i64 len) := cell_at HB.out 1
  have c2 : W0.cell? ⟨w.heap.size, 2, none⟩ = some (.bool x) := cell_at HB.out 2
  have HN2 := hide (HN.out W0 BA.out)
  clear HN
  go_wp2_with fail
  refine HN2.out.mono ?_
  rintro e W1 ⟨gr, rfl, b1, hfd⟩
  have B1 := hide (BA.out.trans (b1.mono BA.out.size))
  have HF := hide hfd
  clear c0 c1 c2 b1 hfd HN2
  go_wp2_with fail
  refine HF.out.mono ?_
  rintro e W2 ⟨ua, uc, O, n, wh, wr, g, it, ct, t, X, rfl, hO, hnl, hgot, hkt, hr, b2⟩
  have HG := hide (gotR_any hr hkt)
  rw [hgot] at HG
  have B2 := hide (B1.out.trans (b2.mono BA.out.size))
  have hOb : O ≤ 9007199254740992 := by omega
  clear hgot hkt hr b2 HF
  go_wp2_with fail
  refine HG.out.mono ?_
  rintro e W3 ⟨rfl, rfl⟩
  clear HG
  go_wp2_with fail
  refine (speaks_any W2).mono ?_
  rintro e W4 ⟨rfl, b4⟩
  have B4 := hide (B2.out.trans (b4.mono B2.out.size))
  clear b4
  go_wp2
  go_ret
  exact ⟨rfl, B4.out⟩
theorem FdP.q {w w' : World} {base gr g : Nat} {it ct : TypeId} {t : Tal} {X : List Value} (h : FdP w w' base gr g it ct t X) (hk : KT it) (h1 : base ≤ gr) (h2 : base ≤ g) (h3 : base ≤ w.heap.size) : (∃ g' it' ct' X', KT it' ∧ Rdr w' base gr g' it' ct' t X') ∧ Below base w w' := by
  refine ⟨?_, h.2.2.low h1 h2 h3⟩
  cases ho : overT t with
  | true => obtain ⟨g', _, hr⟩ := h.1 ho; exact ⟨g', _, _, _, .inr (.inr (.inr rfl)), hr⟩
  | false => exact ⟨g, it, ct, X, hk, h.2.1 ho⟩
theorem tk_le (b : List UInt8) (m g : Nat) : tkN b m g ≤ b.length ∧ tkN b m g ≤ m := by unfold tkN; omega
theorem bound_walk (k len : Int) (x : Bool) (most : Int) (v : Value) (b : List UInt8) (w : World) (hB : Bs w w.heap.size v b) (hS : Shp v) (hl : b.length ≤ 70368744177664) (hm : MX w) :
    Calls Tryd.prog 5 #[frV k len x, .int .i64 most, v] w fun e w' => e = .returned (.bool true) ∧ Below w.heap.size w w' := by
  obtain ⟨va, vc, rfl, hvc, _⟩ := id hB
  by_cases hbad : isR k len = false ∨ most < 0 ∨ 9007199254740992 < most ∨ (k = 2 ∧ most < len)
  · exact bound_bad k len x most va b.length vc w hbad
  rw [not_or, not_or, not_or] at hbad
  obtain ⟨q1, q2, q3, q4⟩ := hbad
  have q1 : isR k len = true := by simpa using q1
  obtain ⟨M, rfl⟩ := Int.eq_ofNat_of_zero_le (show 0 ≤ most by omega)
  have hM : M ≤ 9007199254740992 := by omega
  refine bound_good k len x (M : Int) va b.length vc w (by omega) (fun W bW => ?_)
  have hBW := hB.below bW.size bW
  by_cases hk2 : k = 2
  · subst hk2
    have hr2 : 0 ≤ len ∧ len ≤ 9007199254740992 := by unfold isR at q1; rw [if_pos rfl] at q1; exact of_decide_eq_true q1
    obtain ⟨L, rfl⟩ := Int.eq_ofNat_of_zero_le hr2.1
    have hLM : L ≤ M := by have : ¬ ((M : Int) < (L : Int)) := fun h => q4 ⟨rfl, h⟩; omega
    refine (new_of (w := W) (k := 2) (len := (L : Int)) (x := x) (most := (M : Int)) (.inl rfl) (by omega) (by omega) q1 (by omega) (fun W => framed_len L x (M : Int) W)).mono ?_
    rintro e w1 ⟨gr, g, rfl, hgr, hg, b1, hO1, hR1⟩
    refine ⟨gr, rfl, b1, ?_⟩
    cases ho : overT ⟨0, decide (L = 0), 0⟩ with
    | true =>
      obtain ⟨g', hg', hr⟩ := hO1 ho
      refine (feed_over hr b1.size va b.length vc).mono ?_
      rintro e w2 ⟨rfl, hf⟩
      obtain ⟨⟨g2, it, ct, X, hkt, hr2⟩, hb⟩ := hf.q (.inr (.inr (.inr rfl))) hgr hg' b1.size
      exact ⟨none, 0, 0, 0, _, _, g2, it, ct, _, X, rfl, by omega, by omega, rfl, hkt, hr2, hb⟩
    | false =>
      refine (feed_meas (hR1 ho) b1.size (.slice va b.length vc) b (hBW.below b1.size b1) hS (by omega) (Nat.zero_le _) (by omega)).mono ?_
      rintro e w2 ⟨ua, uc, rfl, _, hf⟩
      obtain ⟨⟨g2, it, ct, X, hkt, hr2⟩, hb⟩ := hf.q (.inl rfl) hgr hg b1.size
      have ht := tk_le b L 0
      exact ⟨ua, uc, _, _, _, _, g2, it, ct, _, X, rfl, (by show ((tkN b L 0 : Nat) : Int) ≤ _; omega), (by show ((tkN b L 0 : Nat) : Int) ≤ _; omega), Nat.zero_add _, hkt, hr2, hb⟩
  have hk134 : (k = 1 ∨ k = 3 ∨ k = 4) ∧ len = 0 := by
    unfold isR at q1
    rw [if_neg hk2] at q1
    by_cases h : k = 1 ∨ k = 3 ∨ k = 4
    · rw [if_pos h] at q1; exact ⟨h, of_decide_eq_true q1⟩
    · rw [if_neg h] at q1; cases q1
  obtain ⟨hk, rfl⟩ := hk134
  rcases hk with rfl | rfl | rfl
  · refine (new_of (w := W) (k := 1) (len := 0) (x := x) (most := (M : Int)) (.inr (.inr (.inr rfl))) (by omega) (by omega) q1 (by omega) (fun W => framed_none 0 x (M : Int) W)).mono ?_
    rintro e w1 ⟨gr, g, rfl, hgr, hg, b1, hO1, _⟩
    refine ⟨gr, rfl, b1, ?_⟩
    obtain ⟨g', hg', hr⟩ := hO1 rfl
    refine (feed_over hr b1.size va b.length vc).mono ?_
    rintro e w2 ⟨rfl, hf⟩
    obtain ⟨⟨g2, it, ct, X, hkt, hr2⟩, hb⟩ := hf.q (.inr (.inr (.inr rfl))) hgr hg' b1.size
    exact ⟨none, 0, 0, 0, _, _, g2, it, ct, _, X, rfl, by omega, by omega, rfl, hkt, hr2, hb⟩
  · refine (new_part x M W hM).mono ?_
    rintro e w1 ⟨gr, g, gd, rfl, hgd, hP, b1⟩
    refine ⟨gr, rfl, b1, ?_⟩
    have hmW : MX W := hm.below bW
    have hm1 : MX w1 := hmW.below b1
    refine (feed_part hP (fit_dnew M hM) rfl rfl hm1 hmW.1 (A := fun k => k < W.heap.size) va vc b (Bf.below (A := fun k => k < W.heap.size) hBW b1) hS (by omega) (fun k e => by simp [Value.ownBlock] at e) (fun k e => by simp [Value.ownBlock] at e) (fun k e => Nat.lt_of_lt_of_le e b1.size) hl (Nat.zero_le _)).mono ?_
    rintro e w2 ⟨ua, uc, lv', tv', rfl, _, hO, hN, hb⟩
    have h1 := bytes_room b (dNew M)
    have h2 := bytes_len b (dNew M)
    change _ ≤ 0 + M at h1
    generalize dBytes (dNew M) b = R at *
    obtain ⟨en, n, o, dd⟩ := R
    dsimp only at *
    cases ho : overT ⟨0 + o.length, dd.whole, en⟩ with
    | true =>
      obtain ⟨g', _, hr⟩ := hO ho
      exact ⟨ua, uc, _, _, _, _, g', _, _, _, _, rfl, by omega, by omega, Nat.zero_add _, .inr (.inr (.inr rfl)), hr, hb⟩
    | false => exact ⟨ua, uc, _, _, _, _, g, _, _, _, _, rfl, by omega, by omega, Nat.zero_add _, .inr (.inl rfl), (hN ho).rdr, hb⟩
  · refine (new_of (w := W) (k := 4) (len := 0) (x := x) (most := (M : Int)) (.inr (.inr (.inl rfl))) (by omega) (by omega) q1 (by omega) (fun W => framed_clos 0 x M W)).mono ?_
    rintro e w1 ⟨gr, g, rfl, hgr, hg, b1, _, hR1⟩
    refine ⟨gr, rfl, b1, ?_⟩
    refine (feed_clos (hR1 rfl) b1.size (.slice va b.length vc) b (hBW.below b1.size b1) hS (by omega) (Nat.zero_le _) (by omega)).mono ?_
    rintro e w2 ⟨ua, uc, rfl, _, hf⟩
    obtain ⟨⟨g2, it, ct, X, hkt, hr2⟩, hb⟩ := hf.q (.inr (.inr (.inl rfl))) hgr hg b1.size
    have ht := tk_le b M 0
    exact ⟨ua, uc, _, _, _, _, g2, it, ct, _, X, rfl, (by show ((tkN b M 0 : Nat) : Int) ≤ _; omega), (by show (((if tkN b M 0 = b.length then tkN b M 0 else tkN b M 0 + 1 : Nat)) : Int) ≤ _; split <;> omega), Nat.zero_add _, hkt, hr2, hb⟩
end Go.Proofs.YtggeihahbgeneaaDoor
