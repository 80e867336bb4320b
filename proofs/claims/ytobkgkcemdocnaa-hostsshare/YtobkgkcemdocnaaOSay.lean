/- That the small case which each statement asks comes out true; a nil set. -/
import Derived.Test.YtobkgkcemdocnaaOUse
import Derived.Test.YtobkgkcemdocnaaONew
namespace Go.Proofs.Ytobkgkcemdocnaa
open Go.ChangeShapes Go.WideShapes Go.ChangeAt Go.RowKit

theorem sr_lit (W : World) (y : Int) : Sr (W.alloc (.cells #[.int .i64 y] 3)) (.slice (some ⟨W.heap.size, 0, none⟩) 1 1) [y] :=
  .inr ⟨W.heap.size, 0, 1, #[.int .i64 y], rfl, hp_new _ _, by simp, by omega, by simp, fun i hi => by
    simp at hi; subst hi; rfl⟩
set_option maxHeartbeats 2000000 in
set_option maxRecDepth 100000 in
theorem speaks_any (w : World) : Calls Try.prog 10 #[] w fun e w' => e = .returned (.bool true) ∧ Fr none' w w' := by
  have A : okN 2 2 10 30 50 := ⟨⟨by omega, by omega⟩, ⟨by omega, by omega⟩, ⟨by omega, by omega⟩, ⟨by omega, by omega⟩, by omega, by omega⟩
  have HN := hide (new_any w 2 2 10 30 50 A)
  have K0 : Hid (HOk 2 10 30 50 0 0 (List.replicate 2 (z0 true))) := hide ⟨by omega, by omega, by omega, by omega, by omega, by omega, by omega, by omega, by omega, by omega, by decide, by decide, by omega, fun r hr => by
    rw [List.eq_of_mem_replicate hr]; decide⟩
  clear A
  obtain ⟨g, Hg⟩ : ∃ g, Hid (w.heap.size = g) := ⟨_, hide rfl⟩
  rw [Hg.out] at HN
  obtain ⟨b, Hb⟩ : ∃ b, Hid (g + 1 = b) := ⟨_, hide rfl⟩
  rw [Hb.out] at HN
  go_enter Try.func10, Try.ntmps10
  go_wp2_with fail
  refine HN.out.mono ?_
  rintro e w1 ⟨rfl, d⟩
  obtain ⟨P, h1, h2⟩ := ((Top.nil w).put d).at0
  have H2 := hide h2
  have H1 := hide (result_any w1 P 2 10 30 50 0 0 0 false 0 (z0 true) _ b g h1 K0.out (by omega) (by decide) rfl)
  have K1 : Hid (HOk 2 10 30 50 0 1 [⟨true, false, 0, 1, 0⟩, z0 true]) := hide ((K0.out.bring (now := 0) (by decide)).res (by omega) (i := 0) (r := z0 true) rfl false)
  rw [show resB 2 50 (brS (mx 0 0) (List.replicate 2 (z0 true))) (z0 true) false = false by decide, show (brS (mx 0 0) (List.replicate 2 (z0 true))).set 0 (resR 2 10 30 50 (mx 0 0) (brS (mx 0 0) (List.replicate 2 (z0 true))) (z0 true) false) = [⟨true, false, 0, 1, 0⟩, z0 true] from rfl, show mx 0 0 = 0 by decide] at H1
  clear d h1 h2 HN K0
  go_wp2_with fail
  refine H1.out.mono ?_
  rintro e w2 ⟨rfl, d⟩
  obtain ⟨P2, h1, h2⟩ := (H2.out _ _ d).at0
  have H3 := hide h2
  have H4 := hide (result_any w2 P2 2 10 30 50 0 0 1 false 0 ⟨true, false, 0, 1, 0⟩ _ b g h1 K1.out (by omega) (by decide) rfl)
  rw [show resB 2 50 (brS (mx 0 0) [⟨true, false, 0, 1, 0⟩, z0 true]) ⟨true, false, 0, 1, 0⟩ false = true by decide, show (brS (mx 0 0) [⟨true, false, 0, 1, 0⟩, z0 true]).set 0 (resR 2 10 30 50 (mx 0 0) (brS (mx 0 0) [⟨true, false, 0, 1, 0⟩, z0 true]) ⟨true, false, 0, 1, 0⟩ false) = [⟨true, true, 10, 0, 1⟩, z0 true] from rfl, show mx 0 0 = 0 by decide] at H4
  clear d h1 h2 H1 H2 K1
  go_wp2_with fail
  refine H4.out.mono ?_
  rintro e w3 ⟨rfl, d⟩
  obtain ⟨P3, h1, h2⟩ := (H3.out _ _ d).at0
  have H5 := hide h2
  have H6 := hide (usable_any w3 P3 2 10 30 50 0 9 _ b g h1 (by decide) (by decide))
  rw [show nums usa (brS (mx 0 9) [⟨true, true, 10, 0, 1⟩, z0 true]) [(⟨true, true, 10, 0, 1⟩ : HR), z0 true].length = [1] by decide, show brS (mx 0 9) [⟨true, true, 10, 0, 1⟩, z0 true] = [⟨true, true, 10, 0, 1⟩, z0 true] from rfl, show mx 0 9 = 9 by decide] at H6
  clear d h1 h2 H3 H4
  go_wp2_with fail
  refine H6.out.mono ?_
  rintro e w4 ⟨v1, rfl, d⟩
  have T4 := hide (H5.out _ _ d).assoc
  obtain ⟨a1, c1, rfl, q1, q2⟩ : ∃ a cap, v1 = .slice a 1 cap ∧ 1 ≤ cap ∧ cap ≤ 9223372036854775807 := by obtain ⟨_, x, _⟩ := T4.out.at0; exact x.get
  obtain ⟨P4, h1, h2⟩ := T4.out.at1
  have H7 := hide h2
  have H8 := hide (bring_any w4 P4 2 10 30 50 9 10 _ b g h1 (by decide) (by decide))
  rw [show nums (rst (mx 9 10)) [⟨true, true, 10, 0, 1⟩, z0 true] [(⟨true, true, 10, 0, 1⟩ : HR), z0 true].length = [0] by decide, show brS (mx 9 10) [⟨true, true, 10, 0, 1⟩, z0 true] = [⟨true, false, 10, 0, 1⟩, z0 true] from rfl, show mx 9 10 = 10 by decide] at H8
  clear d h1 h2 H5 H6 T4
  go_wp2_with fail
  refine H8.out.mono ?_
  rintro e w5 ⟨v2, rfl, d⟩
  have T5 := hide (H7.out _ _ d).assoc1
  obtain ⟨a2, c2, rfl, q3, q4⟩ : ∃ a cap, v2 = .slice a 1 cap ∧ 1 ≤ cap ∧ cap ≤ 9223372036854775807 := by obtain ⟨_, x, _⟩ := T5.out.at1; exact x.get
  clear d H7 H8
  go_wp2_with fail
  have T6 := hide (T5.out.same (Fr.alloc none' w5 (.cells #[.int .i64 1] 3)))
  have S6 := hide (sr_lit w5 1)
  generalize w5.alloc (.cells #[.int .i64 1] 3) = w6 at *
  generalize w5.heap.size = e6 at *
  have HI := hide (ints_any w6 (.slice a1 1 c1) _ [1] [1] (by obtain ⟨_, x, _⟩ := T6.out.at0; exact x.1) S6.out (by decide) (by decide))
  rw [show decide ([1] = [(1 : Int)]) = true by decide] at HI
  clear T5 S6
  refine HI.out.mono ?_
  rintro e w7 ⟨rfl, q, rfl⟩
  have T7 := hide (T6.out.same (Fr.drewN none' w6 q))
  clear T6 HI
  generalize w6.drewN q = w7 at *
  go_wp2_with fail
  have T8 := hide (T7.out.same (Fr.alloc none' w7 (.cells #[.int .i64 0] 3)))
  have S8 := hide (sr_lit w7 0)
  generalize w7.alloc (.cells #[.int .i64 0] 3) = w8 at *
  generalize w7.heap.size = e8 at *
  have HI := hide (ints_any w8 (.slice a2 1 c2) _ [0] [0] (by obtain ⟨_, x, _⟩ := T8.out.at1; exact x.1) S8.out (by decide) (by decide))
  rw [show decide ([0] = [(0 : Int)]) = true by decide] at HI
  clear T7 S8
  refine HI.out.mono ?_
  rintro e w9 ⟨rfl, q, rfl⟩
  have T9 := hide (T8.out.same (Fr.drewN none' w8 q))
  clear T8 HI
  generalize w8.drewN q = w9 at *
  obtain ⟨P9, h9, -⟩ := T9.out.at2
  have HE := hide (ejected_any w9 _ _ _ _ _ _ b g h9.1 (by decide))
  rw [show (nE [(⟨true, false, 10, 0, 1⟩ : HR), z0 true] : Int) = 0 by decide] at HE
  clear h9
  go_wp2_with (go_at_call 14; refine HE.out.mono ?_; rintro e w' ⟨rfl, rfl⟩)
  go_ret
  exact ⟨rfl, T9.out.fr⟩

set_option maxHeartbeats 1000000 in
set_option maxRecDepth 100000 in
theorem nil_walk (W : World) (now host : Int) : Calls Try.prog 6 #[.int .i64 now, .int .i64 host] W fun e w' => e = .returned (.bool true) ∧ Below W.heap.size W w' := by
  have H1 := hide (result_nil W now host false)
  have H2 := hide (mark_nil W now host true)
  have H3 := hide (usable_nil W now)
  have H4 := hide (moment_any now W)
  have H5 := hide (fun V => ejected_nil V)
  cases hm : mom now with
  | true =>
    have e : bE now = 0 := by unfold bE; rw [hm]; rfl
    rw [e] at H3
    rw [hm, if_pos rfl] at H1 H2
    rw [hm] at H4
    clear hm e
    go_enter Try.func6, Try.ntmps6
    go_wp2_with (first | (go_at_call 16; refine H1.out.mono ?_; rintro e w' ⟨rfl, rfl⟩) | (go_at_call 20; refine H2.out.mono ?_; rintro e w' ⟨rfl, rfl⟩) | (go_at_call 17; refine H3.out.mono ?_; rintro e w' ⟨rfl, rfl⟩) | (go_at_call 21; refine H4.out.mono ?_; rintro e w' ⟨rfl, rfl⟩) | (go_at_call 14; refine (H5.out _).mono ?_; rintro e w' ⟨rfl, rfl⟩) | (go_at_call 10; refine (speaks_any _).mono ?_; rintro e w9 ⟨rfl, HG⟩))
    go_ret
    exact ⟨rfl, HG.below (Nat.le_refl _) (fun _ _ x => x)⟩
  | false =>
    have e : bE now = 1 := by unfold bE; rw [hm]; rfl
    rw [e] at H3
    rw [hm, if_neg (by simp)] at H1 H2
    rw [hm] at H4
    clear hm e
    go_enter Try.func6, Try.ntmps6
    go_wp2_with (first | (go_at_call 16; refine H1.out.mono ?_; rintro e w' ⟨rfl, rfl⟩) | (go_at_call 20; refine H2.out.mono ?_; rintro e w' ⟨rfl, rfl⟩) | (go_at_call 17; refine H3.out.mono ?_; rintro e w' ⟨rfl, rfl⟩) | (go_at_call 21; refine H4.out.mono ?_; rintro e w' ⟨rfl, rfl⟩) | (go_at_call 14; refine (H5.out _).mono ?_; rintro e w' ⟨rfl, rfl⟩) | (go_at_call 10; refine (speaks_any _).mono ?_; rintro e w9 ⟨rfl, HG⟩))
    go_ret
    exact ⟨rfl, HG.below (Nat.le_refl _) (fun _ _ x => x)⟩
end Go.Proofs.Ytobkgkcemdocnaa
