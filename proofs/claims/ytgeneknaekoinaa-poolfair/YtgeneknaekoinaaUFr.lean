/- PoolFair, walked. -/
import Derived.Test.YtgeneknaekoinaaUFr0
namespace Go.Proofs.Ytgeneknaekoinaa
open Go.ChangeShapes Go.WideShapes Go.ChangeAt Go.RowKit
set_option linter.unusedVariables false

set_option maxHeartbeats 1000000 in
set_option maxRecDepth 100000 in
theorem fair_in (m : Nat) (keep : Bool) (W : World) (m1 : 1 ≤ m) (m60 : m ≤ 60) : Calls Try.prog 7 #[.int .i64 (m : Int), .bool keep] W fun e w' => e = .returned (.bool true) ∧ Below W.heap.size W w' := by
  have HN := hide (new_any W 1 64 1000000 1000000 ⟨⟨by omega, by omega⟩, ⟨by omega, by omega⟩, ⟨by omega, by omega⟩, by omega, by omega⟩)
  rw [show p0 1 64 1000000 1000000 = fa 0 from rfl] at HN
  have n0 : ¬ (m : Int) < 1 := by omega
  have n1 : ¬ (60 : Int) < (m : Int) := by omega
  go_enter Try.func7, Try.ntmps7
  go_wp2_with fail
  refine HN.out.mono ?_
  rintro e w1 ⟨rfl, d⟩
  have T1 := hide ((Top.nil W).put d)
  clear d HN
  generalize hgb : W.heap.size = b at *
  go_wp2_with fail
  go_loopw [7] (fun v wr => ∃ i : Nat, i ≤ m ∧ v = .int .i64 (i : Int) ∧ Hid (Top (Two (PX (fa i) b) Nil) W wr)) (fun v _ => m - (intOf v).toNat)
  case atStart => exact ⟨0, Nat.zero_le _, rfl, T1⟩
  case round =>
    clear T1
    obtain ⟨i, hi, rfl, HI⟩ := hrel
    by_cases hlt : i < m
    · obtain ⟨P, h1, h2⟩ := HI.out.at0
      have HX := hide h2
      obtain ⟨a1, a2⟩ := fa_ask (i := i) (by omega)
      have HC := hide (ask_any (fa i) b wr P 0 (i : Int) 1000 h1 (fa_ok (by omega)) (by omega))
      rw [a1, a2] at HC
      obtain ⟨⟨ak, ac, aw⟩, Hac⟩ : ∃ a, Hid (askA (fa i) 0 (i : Int) = a) := ⟨_, hide rfl⟩
      rw [Hac.out] at HC
      unfold acV at HC
      clear h1 h2 HI a1 a2
      go_wp2_with fail
      refine HC.out.mono ?_
      rintro e w2 ⟨rfl, d⟩
      have T2 := hide ((HX.out _ _ d).same (Fr.alloc none' w2 (.cells #[.int .i64 ak, .int .i64 ac, .int .i64 aw] 49 (0, 0))))
      clear d HX HC
      go_wp2_with fail
      go_roundw
      case rel => exact ⟨i + 1, by omega, by go_num, T2⟩
      case measure => simp [intOf]; omega
    · obtain rfl : i = m := by omega
      obtain ⟨P, h1, h2⟩ := HI.out.at0
      have HX := hide h2
      have HC := hide (up_any (fa i) b wr P 0 1000 h1 (fa_ok m60))
      obtain ⟨u1, u2⟩ := fa_up m1
      clear h1 h2 HI
      go_wp2_with fail
      refine HC.out.mono ?_
      rintro e w2 ⟨rfl, d⟩
      have T2 := hide (HX.out _ _ d)
      clear d HX HC
      cases keep with
      | true =>
        rw [u1] at T2
        clear u1 u2
        go_wp2_with fail
        go_loopw [10, 11] (fun s v wr => ∃ j : Nat, j + 1 ≤ i ∧ v = .int .i64 ((j + 1 : Nat) : Int) ∧ s = .int .i64 0 ∧ Hid (Top (Two (PX (gk (j + 1) i) b) Nil) W wr)) (fun _ v _ => i - (intOf v).toNat)
        case atStart => exact ⟨0, by omega, rfl, rfl, T2⟩
        case round =>
          clear T2
          obtain ⟨j, hj, rfl, rfl, HI⟩ := hrel
          by_cases hlt2 : j + 1 < i
          · obtain ⟨P, h1, h2⟩ := HI.out.at0
            have HX := hide h2
            obtain ⟨d1, d2, d3⟩ := gk_done (i := j + 1) (n := i) (by omega) hlt2
            have HC := hide (done_any (gk (j + 1) i) b wr P 1 0 1000 true h1 (gk_ok (by omega) m60 (by omega)) (by omega))
            rw [d1, d2, d3] at HC
            clear h1 h2 HI d1 d2 d3
            go_wp2_with fail
            refine HC.out.mono ?_
            rintro e w3 ⟨v, rfl, d⟩
            have T3 := hide (Top.assoc (HX.out _ _ d)).drop
            obtain ⟨_, y⟩ := d.fst_of
            obtain ⟨g, off, cap, e, q0, q1, l0, l1, l2⟩ := act_cells (i := 0) y.1 rfl
            subst e
            simp only [List.length_cons, List.length_nil, Nat.zero_mul, Nat.add_zero, Nat.zero_add] at l0 l1 l2 q0 ⊢
            clear d HX HC y
            go_wp2_with fail
            go_roundw
            case rel => exact ⟨j + 1, by omega, by go_num, rfl, T3⟩
            case measure => simp [intOf]; omega
          · obtain rfl : i = j + 1 := by omega
            obtain ⟨_, ⟨vr, vw, hp⟩, -⟩ := HI.out.at0
            have HZ := hide (size_any _ b vr vw wr hp.v (by show (1 : Nat) ≤ 64; omega))
            rw [show (gk (j + 1) (j + 1)).Q.length = 0 by show (rng (j + 1) (j + 1)).length = 0; rw [rng_len]; omega] at HZ
            clear hp
            go_wp2_with fail
            refine HZ.out.mono ?_
            rintro e w3 ⟨rfl, F⟩
            have T3 := hide (HI.out.same F)
            clear F HZ HI
            go_wp2_with (go_at_call 10; refine (speaks_any _).mono ?_; rintro e w9 ⟨rfl, HG⟩)
            go_ret
            exact ⟨rfl, (T3.out.fr.trans HG (fun _ _ x => x)).below (by omega) (fun _ _ x => x)⟩
      | false =>
        rw [u2] at T2
        clear u1 u2
        go_wp2_with fail
        go_loopw [10, 11] (fun s v wr => ∃ (j : Nat) (bo : Int), j + 1 ≤ i ∧ v = .int .i64 ((j + 1 : Nat) : Int) ∧ s = .int .i64 (j : Int) ∧ Hid (0 ≤ bo ∧ bo ≤ 1) ∧ Hid (Top (Two (PX (gn (j + 1) i bo) b) Nil) W wr)) (fun _ v _ => i - (intOf v).toNat)
        case atStart => exact ⟨0, 0, by omega, rfl, rfl, hide ⟨by omega, by omega⟩, T2⟩
        case round =>
          clear T2
          obtain ⟨j, bo, hj, rfl, rfl, HBO, HI⟩ := hrel
          by_cases hlt2 : j + 1 < i
          · obtain ⟨P, h1, h2⟩ := HI.out.at0
            have HX := hide h2
            obtain ⟨d1, d2, d3⟩ := gn_done (i := j + 1) (n := i) (bo := bo) (by omega) hlt2
            rw [show ((j + 1 : Nat) : Int) - 1 = (j : Int) by omega] at d1 d2 d3
            have HC := hide (done_any (gn (j + 1) i bo) b wr P 1 (j : Int) 1000 false h1 (gn_ok (by omega) m60 (by omega) HBO.out.1 HBO.out.2) (by omega))
            rw [d1, d2, d3] at HC
            clear h1 h2 HI d1 d2 d3
            go_wp2_with fail
            refine HC.out.mono ?_
            rintro e w3 ⟨v, rfl, d⟩
            have T3 := hide (Top.assoc (HX.out _ _ d)).drop
            obtain ⟨_, y⟩ := d.fst_of
            obtain ⟨g, off, cap, e, q0, q1, l0, l1, l2⟩ := act_cells (i := 1) (a := ⟨1, ((j + 1 : Nat) : Int), ((j + 1 : Nat) : Int)⟩) y.1 rfl
            subst e
            simp only [List.length_cons, List.length_nil, Nat.one_mul, Nat.zero_add, Nat.reduceAdd] at l0 l1 l2 q0 ⊢
            have l2' : w3.cell? ⟨g, off + 5, none⟩ = some (.int .i64 ((j + 1 : Nat) : Int)) := l2
            clear d HX HC y
            obtain ⟨P, h1, h2⟩ := T3.out.at0
            have HX := hide h2
            obtain ⟨d1, d2, d3⟩ := gu_up (j + 1) i
            have HC := hide (up_any (gu (j + 1) i) b w3 P ((j + 1 : Nat) : Int) 1000 h1 (gu_ok m60 hlt2))
            rw [d1, d2, d3] at HC
            clear h1 h2 T3 d1 d2 d3
            rw [Int.natCast_add, Int.natCast_one] at l2 l2' HC
            go_wp2_with fail
            refine HC.out.mono ?_
            rintro e w4 ⟨rfl, d⟩
            have T4 := hide (HX.out _ _ d)
            clear d HX HC l0 l1 l2 l2'
            go_wp2_with fail
            go_roundw
            case rel => exact ⟨j + 1, 1, by omega, by go_num, by go_num, hide ⟨by omega, by omega⟩, T4⟩
            case measure => simp [intOf]; omega
          · obtain rfl : i = j + 1 := by omega
            obtain ⟨_, ⟨vr, vw, hp⟩, -⟩ := HI.out.at0
            have HZ := hide (size_any _ b vr vw wr hp.v (by show (1 : Nat) ≤ 64; omega))
            rw [show (gn (j + 1) (j + 1) bo).Q.length = 0 by show (rng (j + 1) (j + 1)).length = 0; rw [rng_len]; omega] at HZ
            clear hp
            go_wp2_with fail
            refine HZ.out.mono ?_
            rintro e w3 ⟨rfl, F⟩
            have T3 := hide (HI.out.same F)
            clear F HZ HI
            go_wp2_with (go_at_call 10; refine (speaks_any _).mono ?_; rintro e w9 ⟨rfl, HG⟩)
            go_ret
            exact ⟨rfl, (T3.out.fr.trans HG (fun _ _ x => x)).below (by omega) (fun _ _ x => x)⟩
set_option maxHeartbeats 1000000 in
set_option maxRecDepth 100000 in
theorem fair_lo (n : Int) (keep : Bool) (W : World) (hn : n < 1) : Calls Try.prog 7 #[.int .i64 n, .bool keep] W fun e w' => e = .returned (.bool true) ∧ Below W.heap.size W w' := by
  have HN := hide (new_any W 1 64 1000000 1000000 ⟨⟨by omega, by omega⟩, ⟨by omega, by omega⟩, ⟨by omega, by omega⟩, by omega, by omega⟩)
  rw [show p0 1 64 1000000 1000000 = fa 0 from rfl] at HN
  obtain ⟨m, Hm⟩ : ∃ m : Nat, Hid (m = 5) := ⟨5, hide rfl⟩
  have m1 : 1 ≤ m := by rw [Hm.out]; omega
  have m60 : m ≤ 60 := by rw [Hm.out]; omega
  go_enter Try.func7, Try.ntmps7
  go_wp2_with fail
  refine HN.out.mono ?_
  rintro e w1 ⟨rfl, d⟩
  have T1 := hide ((Top.nil W).put d)
  clear d HN
  generalize hgb : W.heap.size = b at *
  go_wp2_with fail
  rw [show (Value.int .i64 5) = Value.int .i64 (m : Int) by rw [Hm.out]; rfl]
  go_loopw [7] (fun v wr => ∃ i : Nat, i ≤ m ∧ v = .int .i64 (i : Int) ∧ Hid (Top (Two (PX (fa i) b) Nil) W wr)) (fun v _ => m - (intOf v).toNat)
  case atStart => exact ⟨0, Nat.zero_le _, rfl, T1⟩
  case round =>
    clear T1
    obtain ⟨i, hi, rfl, HI⟩ := hrel
    by_cases hlt : i < m
    · obtain ⟨P, h1, h2⟩ := HI.out.at0
      have HX := hide h2
      obtain ⟨a1, a2⟩ := fa_ask (i := i) (by omega)
      have HC := hide (ask_any (fa i) b wr P 0 (i : Int) 1000 h1 (fa_ok (by omega)) (by omega))
      rw [a1, a2] at HC
      obtain ⟨⟨ak, ac, aw⟩, Hac⟩ : ∃ a, Hid (askA (fa i) 0 (i : Int) = a) := ⟨_, hide rfl⟩
      rw [Hac.out] at HC
      unfold acV at HC
      clear h1 h2 HI a1 a2
      go_wp2_with fail
      refine HC.out.mono ?_
      rintro e w2 ⟨rfl, d⟩
      have T2 := hide ((HX.out _ _ d).same (Fr.alloc none' w2 (.cells #[.int .i64 ak, .int .i64 ac, .int .i64 aw] 49 (0, 0))))
      clear d HX HC
      go_wp2_with fail
      go_roundw
      case rel => exact ⟨i + 1, by omega, by go_num, T2⟩
      case measure => simp [intOf]; omega
    · obtain rfl : i = m := by omega
      obtain ⟨P, h1, h2⟩ := HI.out.at0
      have HX := hide h2
      have HC := hide (up_any (fa i) b wr P 0 1000 h1 (fa_ok m60))
      obtain ⟨u1, u2⟩ := fa_up m1
      clear h1 h2 HI
      go_wp2_with fail
      refine HC.out.mono ?_
      rintro e w2 ⟨rfl, d⟩
      have T2 := hide (HX.out _ _ d)
      clear d HX HC
      cases keep with
      | true =>
        rw [u1] at T2
        clear u1 u2
        go_wp2_with fail
        go_loopw [10, 11] (fun s v wr => ∃ j : Nat, j + 1 ≤ i ∧ v = .int .i64 ((j + 1 : Nat) : Int) ∧ s = .int .i64 0 ∧ Hid (Top (Two (PX (gk (j + 1) i) b) Nil) W wr)) (fun _ v _ => i - (intOf v).toNat)
        case atStart => exact ⟨0, by omega, rfl, rfl, T2⟩
        case round =>
          clear T2
          obtain ⟨j, hj, rfl, rfl, HI⟩ := hrel
          by_cases hlt2 : j + 1 < i
          · obtain ⟨P, h1, h2⟩ := HI.out.at0
            have HX := hide h2
            obtain ⟨d1, d2, d3⟩ := gk_done (i := j + 1) (n := i) (by omega) hlt2
            have HC := hide (done_any (gk (j + 1) i) b wr P 1 0 1000 true h1 (gk_ok (by omega) m60 (by omega)) (by omega))
            rw [d1, d2, d3] at HC
            clear h1 h2 HI d1 d2 d3
            go_wp2_with fail
            refine HC.out.mono ?_
            rintro e w3 ⟨v, rfl, d⟩
            have T3 := hide (Top.assoc (HX.out _ _ d)).drop
            obtain ⟨_, y⟩ := d.fst_of
            obtain ⟨g, off, cap, e, q0, q1, l0, l1, l2⟩ := act_cells (i := 0) y.1 rfl
            subst e
            simp only [List.length_cons, List.length_nil, Nat.zero_mul, Nat.add_zero, Nat.zero_add] at l0 l1 l2 q0 ⊢
            clear d HX HC y
            go_wp2_with fail
            go_roundw
            case rel => exact ⟨j + 1, by omega, by go_num, rfl, T3⟩
            case measure => simp [intOf]; omega
          · obtain rfl : i = j + 1 := by omega
            obtain ⟨_, ⟨vr, vw, hp⟩, -⟩ := HI.out.at0
            have HZ := hide (size_any _ b vr vw wr hp.v (by show (1 : Nat) ≤ 64; omega))
            rw [show (gk (j + 1) (j + 1)).Q.length = 0 by show (rng (j + 1) (j + 1)).length = 0; rw [rng_len]; omega] at HZ
            clear hp
            go_wp2_with fail
            refine HZ.out.mono ?_
            rintro e w3 ⟨rfl, F⟩
            have T3 := hide (HI.out.same F)
            clear F HZ HI
            go_wp2_with (go_at_call 10; refine (speaks_any _).mono ?_; rintro e w9 ⟨rfl, HG⟩)
            go_ret
            exact ⟨rfl, (T3.out.fr.trans HG (fun _ _ x => x)).below (by omega) (fun _ _ x => x)⟩
      | false =>
        rw [u2] at T2
        clear u1 u2
        go_wp2_with fail
        go_loopw [10, 11] (fun s v wr => ∃ (j : Nat) (bo : Int), j + 1 ≤ i ∧ v = .int .i64 ((j + 1 : Nat) : Int) ∧ s = .int .i64 (j : Int) ∧ Hid (0 ≤ bo ∧ bo ≤ 1) ∧ Hid (Top (Two (PX (gn (j + 1) i bo) b) Nil) W wr)) (fun _ v _ => i - (intOf v).toNat)
        case atStart => exact ⟨0, 0, by omega, rfl, rfl, hide ⟨by omega, by omega⟩, T2⟩
        case round =>
          clear T2
          obtain ⟨j, bo, hj, rfl, rfl, HBO, HI⟩ := hrel
          by_cases hlt2 : j + 1 < i
          · obtain ⟨P, h1, h2⟩ := HI.out.at0
            have HX := hide h2
            obtain ⟨d1, d2, d3⟩ := gn_done (i := j + 1) (n := i) (bo := bo) (by omega) hlt2
            rw [show ((j + 1 : Nat) : Int) - 1 = (j : Int) by omega] at d1 d2 d3
            have HC := hide (done_any (gn (j + 1) i bo) b wr P 1 (j : Int) 1000 false h1 (gn_ok (by omega) m60 (by omega) HBO.out.1 HBO.out.2) (by omega))
            rw [d1, d2, d3] at HC
            clear h1 h2 HI d1 d2 d3
            go_wp2_with fail
            refine HC.out.mono ?_
            rintro e w3 ⟨v, rfl, d⟩
            have T3 := hide (Top.assoc (HX.out _ _ d)).drop
            obtain ⟨_, y⟩ := d.fst_of
            obtain ⟨g, off, cap, e, q0, q1, l0, l1, l2⟩ := act_cells (i := 1) (a := ⟨1, ((j + 1 : Nat) : Int), ((j + 1 : Nat) : Int)⟩) y.1 rfl
            subst e
            simp only [List.length_cons, List.length_nil, Nat.one_mul, Nat.zero_add, Nat.reduceAdd] at l0 l1 l2 q0 ⊢
            have l2' : w3.cell? ⟨g, off + 5, none⟩ = some (.int .i64 ((j + 1 : Nat) : Int)) := l2
            clear d HX HC y
            obtain ⟨P, h1, h2⟩ := T3.out.at0
            have HX := hide h2
            obtain ⟨d1, d2, d3⟩ := gu_up (j + 1) i
            have HC := hide (up_any (gu (j + 1) i) b w3 P ((j + 1 : Nat) : Int) 1000 h1 (gu_ok m60 hlt2))
            rw [d1, d2, d3] at HC
            clear h1 h2 T3 d1 d2 d3
            rw [Int.natCast_add, Int.natCast_one] at l2 l2' HC
            go_wp2_with fail
            refine HC.out.mono ?_
            rintro e w4 ⟨rfl, d⟩
            have T4 := hide (HX.out _ _ d)
            clear d HX HC l0 l1 l2 l2'
            go_wp2_with fail
            go_roundw
            case rel => exact ⟨j + 1, 1, by omega, by go_num, by go_num, hide ⟨by omega, by omega⟩, T4⟩
            case measure => simp [intOf]; omega
          · obtain rfl : i = j + 1 := by omega
            obtain ⟨_, ⟨vr, vw, hp⟩, -⟩ := HI.out.at0
            have HZ := hide (size_any _ b vr vw wr hp.v (by show (1 : Nat) ≤ 64; omega))
            rw [show (gn (j + 1) (j + 1) bo).Q.length = 0 by show (rng (j + 1) (j + 1)).length = 0; rw [rng_len]; omega] at HZ
            clear hp
            go_wp2_with fail
            refine HZ.out.mono ?_
            rintro e w3 ⟨rfl, F⟩
            have T3 := hide (HI.out.same F)
            clear F HZ HI
            go_wp2_with (go_at_call 10; refine (speaks_any _).mono ?_; rintro e w9 ⟨rfl, HG⟩)
            go_ret
            exact ⟨rfl, (T3.out.fr.trans HG (fun _ _ x => x)).below (by omega) (fun _ _ x => x)⟩
set_option maxHeartbeats 1000000 in
set_option maxRecDepth 100000 in
theorem fair_hi (n : Int) (keep : Bool) (W : World) (hn : 60 < n) : Calls Try.prog 7 #[.int .i64 n, .bool keep] W fun e w' => e = .returned (.bool true) ∧ Below W.heap.size W w' := by
  have HN := hide (new_any W 1 64 1000000 1000000 ⟨⟨by omega, by omega⟩, ⟨by omega, by omega⟩, ⟨by omega, by omega⟩, by omega, by omega⟩)
  rw [show p0 1 64 1000000 1000000 = fa 0 from rfl] at HN
  obtain ⟨m, Hm⟩ : ∃ m : Nat, Hid (m = 5) := ⟨5, hide rfl⟩
  have m1 : 1 ≤ m := by rw [Hm.out]; omega
  have m60 : m ≤ 60 := by rw [Hm.out]; omega
  go_enter Try.func7, Try.ntmps7
  go_wp2_with fail
  refine HN.out.mono ?_
  rintro e w1 ⟨rfl, d⟩
  have T1 := hide ((Top.nil W).put d)
  clear d HN
  generalize hgb : W.heap.size = b at *
  go_wp2_with fail
  rw [show (Value.int .i64 5) = Value.int .i64 (m : Int) by rw [Hm.out]; rfl]
  go_loopw [7] (fun v wr => ∃ i : Nat, i ≤ m ∧ v = .int .i64 (i : Int) ∧ Hid (Top (Two (PX (fa i) b) Nil) W wr)) (fun v _ => m - (intOf v).toNat)
  case atStart => exact ⟨0, Nat.zero_le _, rfl, T1⟩
  case round =>
    clear T1
    obtain ⟨i, hi, rfl, HI⟩ := hrel
    by_cases hlt : i < m
    · obtain ⟨P, h1, h2⟩ := HI.out.at0
      have HX := hide h2
      obtain ⟨a1, a2⟩ := fa_ask (i := i) (by omega)
      have HC := hide (ask_any (fa i) b wr P 0 (i : Int) 1000 h1 (fa_ok (by omega)) (by omega))
      rw [a1, a2] at HC
      obtain ⟨⟨ak, ac, aw⟩, Hac⟩ : ∃ a, Hid (askA (fa i) 0 (i : Int) = a) := ⟨_, hide rfl⟩
      rw [Hac.out] at HC
      unfold acV at HC
      clear h1 h2 HI a1 a2
      go_wp2_with fail
      refine HC.out.mono ?_
      rintro e w2 ⟨rfl, d⟩
      have T2 := hide ((HX.out _ _ d).same (Fr.alloc none' w2 (.cells #[.int .i64 ak, .int .i64 ac, .int .i64 aw] 49 (0, 0))))
      clear d HX HC
      go_wp2_with fail
      go_roundw
      case rel => exact ⟨i + 1, by omega, by go_num, T2⟩
      case measure => simp [intOf]; omega
    · obtain rfl : i = m := by omega
      obtain ⟨P, h1, h2⟩ := HI.out.at0
      have HX := hide h2
      have HC := hide (up_any (fa i) b wr P 0 1000 h1 (fa_ok m60))
      obtain ⟨u1, u2⟩ := fa_up m1
      clear h1 h2 HI
      go_wp2_with fail
      refine HC.out.mono ?_
      rintro e w2 ⟨rfl, d⟩
      have T2 := hide (HX.out _ _ d)
      clear d HX HC
      cases keep with
      | true =>
        rw [u1] at T2
        clear u1 u2
        go_wp2_with fail
        go_loopw [10, 11] (fun s v wr => ∃ j : Nat, j + 1 ≤ i ∧ v = .int .i64 ((j + 1 : Nat) : Int) ∧ s = .int .i64 0 ∧ Hid (Top (Two (PX (gk (j + 1) i) b) Nil) W wr)) (fun _ v _ => i - (intOf v).toNat)
        case atStart => exact ⟨0, by omega, rfl, rfl, T2⟩
        case round =>
          clear T2
          obtain ⟨j, hj, rfl, rfl, HI⟩ := hrel
          by_cases hlt2 : j + 1 < i
          · obtain ⟨P, h1, h2⟩ := HI.out.at0
            have HX := hide h2
            obtain ⟨d1, d2, d3⟩ := gk_done (i := j + 1) (n := i) (by omega) hlt2
            have HC := hide (done_any (gk (j + 1) i) b wr P 1 0 1000 true h1 (gk_ok (by omega) m60 (by omega)) (by omega))
            rw [d1, d2, d3] at HC
            clear h1 h2 HI d1 d2 d3
            go_wp2_with fail
            refine HC.out.mono ?_
            rintro e w3 ⟨v, rfl, d⟩
            have T3 := hide (Top.assoc (HX.out _ _ d)).drop
            obtain ⟨_, y⟩ := d.fst_of
            obtain ⟨g, off, cap, e, q0, q1, l0, l1, l2⟩ := act_cells (i := 0) y.1 rfl
            subst e
            simp only [List.length_cons, List.length_nil, Nat.zero_mul, Nat.add_zero, Nat.zero_add] at l0 l1 l2 q0 ⊢
            clear d HX HC y
            go_wp2_with fail
            go_roundw
            case rel => exact ⟨j + 1, by omega, by go_num, rfl, T3⟩
            case measure => simp [intOf]; omega
          · obtain rfl : i = j + 1 := by omega
            obtain ⟨_, ⟨vr, vw, hp⟩, -⟩ := HI.out.at0
            have HZ := hide (size_any _ b vr vw wr hp.v (by show (1 : Nat) ≤ 64; omega))
            rw [show (gk (j + 1) (j + 1)).Q.length = 0 by show (rng (j + 1) (j + 1)).length = 0; rw [rng_len]; omega] at HZ
            clear hp
            go_wp2_with fail
            refine HZ.out.mono ?_
            rintro e w3 ⟨rfl, F⟩
            have T3 := hide (HI.out.same F)
            clear F HZ HI
            go_wp2_with (go_at_call 10; refine (speaks_any _).mono ?_; rintro e w9 ⟨rfl, HG⟩)
            go_ret
            exact ⟨rfl, (T3.out.fr.trans HG (fun _ _ x => x)).below (by omega) (fun _ _ x => x)⟩
      | false =>
        rw [u2] at T2
        clear u1 u2
        go_wp2_with fail
        go_loopw [10, 11] (fun s v wr => ∃ (j : Nat) (bo : Int), j + 1 ≤ i ∧ v = .int .i64 ((j + 1 : Nat) : Int) ∧ s = .int .i64 (j : Int) ∧ Hid (0 ≤ bo ∧ bo ≤ 1) ∧ Hid (Top (Two (PX (gn (j + 1) i bo) b) Nil) W wr)) (fun _ v _ => i - (intOf v).toNat)
        case atStart => exact ⟨0, 0, by omega, rfl, rfl, hide ⟨by omega, by omega⟩, T2⟩
        case round =>
          clear T2
          obtain ⟨j, bo, hj, rfl, rfl, HBO, HI⟩ := hrel
          by_cases hlt2 : j + 1 < i
          · obtain ⟨P, h1, h2⟩ := HI.out.at0
            have HX := hide h2
            obtain ⟨d1, d2, d3⟩ := gn_done (i := j + 1) (n := i) (bo := bo) (by omega) hlt2
            rw [show ((j + 1 : Nat) : Int) - 1 = (j : Int) by omega] at d1 d2 d3
            have HC := hide (done_any (gn (j + 1) i bo) b wr P 1 (j : Int) 1000 false h1 (gn_ok (by omega) m60 (by omega) HBO.out.1 HBO.out.2) (by omega))
            rw [d1, d2, d3] at HC
            clear h1 h2 HI d1 d2 d3
            go_wp2_with fail
            refine HC.out.mono ?_
            rintro e w3 ⟨v, rfl, d⟩
            have T3 := hide (Top.assoc (HX.out _ _ d)).drop
            obtain ⟨_, y⟩ := d.fst_of
            obtain ⟨g, off, cap, e, q0, q1, l0, l1, l2⟩ := act_cells (i := 1) (a := ⟨1, ((j + 1 : Nat) : Int), ((j + 1 : Nat) : Int)⟩) y.1 rfl
            subst e
            simp only [List.length_cons, List.length_nil, Nat.one_mul, Nat.zero_add, Nat.reduceAdd] at l0 l1 l2 q0 ⊢
            have l2' : w3.cell? ⟨g, off + 5, none⟩ = some (.int .i64 ((j + 1 : Nat) : Int)) := l2
            clear d HX HC y
            obtain ⟨P, h1, h2⟩ := T3.out.at0
            have HX := hide h2
            obtain ⟨d1, d2, d3⟩ := gu_up (j + 1) i
            have HC := hide (up_any (gu (j + 1) i) b w3 P ((j + 1 : Nat) : Int) 1000 h1 (gu_ok m60 hlt2))
            rw [d1, d2, d3] at HC
            clear h1 h2 T3 d1 d2 d3
            rw [Int.natCast_add, Int.natCast_one] at l2 l2' HC
            go_wp2_with fail
            refine HC.out.mono ?_
            rintro e w4 ⟨rfl, d⟩
            have T4 := hide (HX.out _ _ d)
            clear d HX HC l0 l1 l2 l2'
            go_wp2_with fail
            go_roundw
            case rel => exact ⟨j + 1, 1, by omega, by go_num, by go_num, hide ⟨by omega, by omega⟩, T4⟩
            case measure => simp [intOf]; omega
          · obtain rfl : i = j + 1 := by omega
            obtain ⟨_, ⟨vr, vw, hp⟩, -⟩ := HI.out.at0
            have HZ := hide (size_any _ b vr vw wr hp.v (by show (1 : Nat) ≤ 64; omega))
            rw [show (gn (j + 1) (j + 1) bo).Q.length = 0 by show (rng (j + 1) (j + 1)).length = 0; rw [rng_len]; omega] at HZ
            clear hp
            go_wp2_with fail
            refine HZ.out.mono ?_
            rintro e w3 ⟨rfl, F⟩
            have T3 := hide (HI.out.same F)
            clear F HZ HI
            go_wp2_with (go_at_call 10; refine (speaks_any _).mono ?_; rintro e w9 ⟨rfl, HG⟩)
            go_ret
            exact ⟨rfl, (T3.out.fr.trans HG (fun _ _ x => x)).below (by omega) (fun _ _ x => x)⟩
theorem fair_walk (n : Int) (keep : Bool) (W : World) : Calls Try.prog 7 #[.int .i64 n, .bool keep] W fun e w' => e = .returned (.bool true) ∧ Below W.heap.size W w' := by
  by_cases h : 1 ≤ n ∧ n ≤ 60
  · obtain ⟨m, rfl⟩ := Int.eq_ofNat_of_zero_le (show 0 ≤ n by omega)
    exact fair_in m keep W (by omega) (by omega)
  · by_cases h1 : n < 1
    · exact fair_lo n keep W h1
    · exact fair_hi n keep W (by omega)
end Go.Proofs.Ytgeneknaekoinaa
