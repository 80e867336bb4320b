/- The document's Print, form 4. -/
import Derived.Test.YtofifncflchpbaaDoorTPrint
import Derived.Test.YtofifncflchpbaaDoorTRPar
namespace Go.Proofs.YtofifncflchpbaaDoor
open Go.ChangeShapes Go.WideShapes Go.ChangeAt Go.RowKit

set_option maxHeartbeats 2000000 in
theorem rpr_4_t_p (h pa q : ByteArray) (p : Int) (w : World) (hh : h.size ≤ 1048576) (hp : pa.size ≤ 1048576) (hq : q.size ≤ 1048576) (it : ByteArray) (hit : it.size ≤ 21) (h0 : 0 ≤ p) (hI : ∀ W, PT W → Calls Tryd.prog 31 #[.int .i64 p] W fun e w' => e = .returned (.string it) ∧ Below W.heap.size W w') (ht : PT w) (t : Value) (re : Int) (hP : RParses ⟨#[79, 80, 84, 73, 79, 78, 83]⟩ (⟨#[42]⟩) t re) (hs : ∃ (f : Int) (h : ByteArray) (p : Int) (pa q : ByteArray) (a : Bool), t = tgV f h p pa q a) (ok : Bool) (hok : ok = true ↔ re = 0 ∧ t = tgV 4 h p pa q true) :
    Calls Tryd.prog 15 #[tgV 4 h p pa q true] w fun e w' => e = .returned (.tuple #[.string (if ok then ⟨#[42]⟩ else ⟨#[]⟩), .int .i64 (if ok then 0 else 60)]) ∧ Below w.heap.size w w' := by
  obtain ⟨f', h', p', pa', q', a', rfl⟩ := hs
  have _HZ := hide (show h.size + pa.size + q.size ≤ 3145728 by omega)
  have HP := hide hP
  clear hP
  have HI := hide hI
  have HT := hide ht
  clear hI ht
  unfold tgV at HP ⊢
  by_cases hr : re = 0
  · subst hr
    by_cases he : tgV 4 h p pa q true = tgV f' h' p' pa' q' a'
    · have ho : ok = true := hok.2 ⟨rfl, he.symm⟩
      subst ho
      unfold tgV at he
      simp only [Value.agg.injEq, Array.mk.injEq, List.cons.injEq, Value.int.injEq, Value.string.injEq, Value.bool.injEq, true_and, and_true] at he
      obtain ⟨rfl, rfl, rfl, rfl, rfl, rfl⟩ := he
      clear hok
      go_enter Tryd.func15, Tryd.ntmps15
      go_upto_region 2 with fail
      have T0 := hide (One.start w #[.int .i64 4, .string h, .int .i64 p, .string pa, .string q, .bool true])
      generalize (w.alloc (.cells #[.int .i64 4, .string h, .int .i64 p, .string pa, .string q, .bool true] 23)) = x at T0 ⊢
      have k0 : x.cell? ⟨w.heap.size, 0, none⟩ = some (.int .i64 4) := T0.out.cell0 0
      have k1 : x.cell? ⟨w.heap.size, 1, none⟩ = some (.string h) := T0.out.cell0 1
      have k2 : x.cell? ⟨w.heap.size, 2, none⟩ = some (.int .i64 p) := T0.out.cell0 2
      have k3 : x.cell? ⟨w.heap.size, 3, none⟩ = some (.string pa) := T0.out.cell0 3
      have k4 : x.cell? ⟨w.heap.size, 4, none⟩ = some (.string q) := T0.out.cell0 4
      have k5 : x.cell? ⟨w.heap.size, 5, none⟩ = some (.bool true) := T0.out.cell0 5
      go_wp2_with fail
      refine (HI.out _ (HT.out.below T0.out.b)).mono ?_
      rintro e w1 ⟨rfl, b1⟩
      have T1 := hide (T0.out.below b1)
      clear b1 T0 k0 k1 k2 k3 k4 k5
      have k0 : w1.cell? ⟨w.heap.size, 0, none⟩ = some (.int .i64 4) := T1.out.cell0 0
      have k1 : w1.cell? ⟨w.heap.size, 1, none⟩ = some (.string h) := T1.out.cell0 1
      have k2 : w1.cell? ⟨w.heap.size, 2, none⟩ = some (.int .i64 p) := T1.out.cell0 2
      have k3 : w1.cell? ⟨w.heap.size, 3, none⟩ = some (.string pa) := T1.out.cell0 3
      have k4 : w1.cell? ⟨w.heap.size, 4, none⟩ = some (.string q) := T1.out.cell0 4
      have k5 : w1.cell? ⟨w.heap.size, 5, none⟩ = some (.bool true) := T1.out.cell0 5
      go_wp2_with fail
      refine (HP.out _).mono ?_
      rintro e w3 ⟨rfl, b3⟩
      have T3 := hide (T1.out.below b3)
      clear b3 T1 k0 k1 k2 k3 k4 k5
      go_upto_region 18 with fail
      have T4 := hide (T3.out.below ((Below.refl _ w3).alloc (Nat.le_refl _) (.cells #[.int .i64 4, .string h, .int .i64 p, .string pa, .string q, .bool true] 23)))
      have HD := hide (hp_new w3 (.cells #[.int .i64 4, .string h, .int .i64 p, .string pa, .string q, .bool true] 23))
      generalize w3.alloc (.cells #[.int .i64 4, .string h, .int .i64 p, .string pa, .string q, .bool true] 23) = w4 at T4 HD ⊢
      generalize w3.heap.size = b at HD ⊢
      clear T3
      have d0 : w4.cell? ⟨b, 0, none⟩ = some (.int .i64 4) := cell_at HD.out 0
      have d1 : w4.cell? ⟨b, 1, none⟩ = some (.string h) := cell_at HD.out 1
      have d2 : w4.cell? ⟨b, 2, none⟩ = some (.int .i64 p) := cell_at HD.out 2
      have d3 : w4.cell? ⟨b, 3, none⟩ = some (.string pa) := cell_at HD.out 3
      have d4 : w4.cell? ⟨b, 4, none⟩ = some (.string q) := cell_at HD.out 4
      have d5 : w4.cell? ⟨b, 5, none⟩ = some (.bool true) := cell_at HD.out 5
      have k0 : w4.cell? ⟨w.heap.size, 0, none⟩ = some (.int .i64 4) := T4.out.cell0 0
      have k1 : w4.cell? ⟨w.heap.size, 1, none⟩ = some (.string h) := T4.out.cell0 1
      have k2 : w4.cell? ⟨w.heap.size, 2, none⟩ = some (.int .i64 p) := T4.out.cell0 2
      have k3 : w4.cell? ⟨w.heap.size, 3, none⟩ = some (.string pa) := T4.out.cell0 3
      have k4 : w4.cell? ⟨w.heap.size, 4, none⟩ = some (.string q) := T4.out.cell0 4
      have k5 : w4.cell? ⟨w.heap.size, 5, none⟩ = some (.bool true) := T4.out.cell0 5
      go_wp2
      go_ret2
      exact ⟨rfl, T4.out.b⟩
    · have ho : ok = false := by
        cases ok with
        | false => rfl
        | true => exact absurd (hok.1 rfl).2.symm he
      subst ho
      clear hok
      have HE := hide he
      clear he
      go_enter Tryd.func15, Tryd.ntmps15
      go_upto_region 2 with fail
      have T0 := hide (One.start w #[.int .i64 4, .string h, .int .i64 p, .string pa, .string q, .bool true])
      generalize (w.alloc (.cells #[.int .i64 4, .string h, .int .i64 p, .string pa, .string q, .bool true] 23)) = x at T0 ⊢
      have k0 : x.cell? ⟨w.heap.size, 0, none⟩ = some (.int .i64 4) := T0.out.cell0 0
      have k1 : x.cell? ⟨w.heap.size, 1, none⟩ = some (.string h) := T0.out.cell0 1
      have k2 : x.cell? ⟨w.heap.size, 2, none⟩ = some (.int .i64 p) := T0.out.cell0 2
      have k3 : x.cell? ⟨w.heap.size, 3, none⟩ = some (.string pa) := T0.out.cell0 3
      have k4 : x.cell? ⟨w.heap.size, 4, none⟩ = some (.string q) := T0.out.cell0 4
      have k5 : x.cell? ⟨w.heap.size, 5, none⟩ = some (.bool true) := T0.out.cell0 5
      go_wp2_with fail
      refine (HI.out _ (HT.out.below T0.out.b)).mono ?_
      rintro e w1 ⟨rfl, b1⟩
      have T1 := hide (T0.out.below b1)
      clear b1 T0 k0 k1 k2 k3 k4 k5
      have k0 : w1.cell? ⟨w.heap.size, 0, none⟩ = some (.int .i64 4) := T1.out.cell0 0
      have k1 : w1.cell? ⟨w.heap.size, 1, none⟩ = some (.string h) := T1.out.cell0 1
      have k2 : w1.cell? ⟨w.heap.size, 2, none⟩ = some (.int .i64 p) := T1.out.cell0 2
      have k3 : w1.cell? ⟨w.heap.size, 3, none⟩ = some (.string pa) := T1.out.cell0 3
      have k4 : w1.cell? ⟨w.heap.size, 4, none⟩ = some (.string q) := T1.out.cell0 4
      have k5 : w1.cell? ⟨w.heap.size, 5, none⟩ = some (.bool true) := T1.out.cell0 5
      go_wp2_with fail
      refine (HP.out _).mono ?_
      rintro e w3 ⟨rfl, b3⟩
      have T3 := hide (T1.out.below b3)
      clear b3 T1 k0 k1 k2 k3 k4 k5
      go_upto_region 18 with fail
      have T4 := hide (T3.out.below ((Below.refl _ w3).alloc (Nat.le_refl _) (.cells #[.int .i64 f', .string h', .int .i64 p', .string pa', .string q', .bool a'] 23)))
      have HD := hide (hp_new w3 (.cells #[.int .i64 f', .string h', .int .i64 p', .string pa', .string q', .bool a'] 23))
      generalize w3.alloc (.cells #[.int .i64 f', .string h', .int .i64 p', .string pa', .string q', .bool a'] 23) = w4 at T4 HD ⊢
      generalize w3.heap.size = b at HD ⊢
      clear T3
      have d0 : w4.cell? ⟨b, 0, none⟩ = some (.int .i64 f') := cell_at HD.out 0
      have d1 : w4.cell? ⟨b, 1, none⟩ = some (.string h') := cell_at HD.out 1
      have d2 : w4.cell? ⟨b, 2, none⟩ = some (.int .i64 p') := cell_at HD.out 2
      have d3 : w4.cell? ⟨b, 3, none⟩ = some (.string pa') := cell_at HD.out 3
      have d4 : w4.cell? ⟨b, 4, none⟩ = some (.string q') := cell_at HD.out 4
      have d5 : w4.cell? ⟨b, 5, none⟩ = some (.bool a') := cell_at HD.out 5
      have k0 : w4.cell? ⟨w.heap.size, 0, none⟩ = some (.int .i64 4) := T4.out.cell0 0
      have k1 : w4.cell? ⟨w.heap.size, 1, none⟩ = some (.string h) := T4.out.cell0 1
      have k2 : w4.cell? ⟨w.heap.size, 2, none⟩ = some (.int .i64 p) := T4.out.cell0 2
      have k3 : w4.cell? ⟨w.heap.size, 3, none⟩ = some (.string pa) := T4.out.cell0 3
      have k4 : w4.cell? ⟨w.heap.size, 4, none⟩ = some (.string q) := T4.out.cell0 4
      have k5 : w4.cell? ⟨w.heap.size, 5, none⟩ = some (.bool true) := T4.out.cell0 5
      go_wp2
      all_goals first | (go_ret2; exact ⟨rfl, T4.out.b⟩) | skip
      rename_i e1 e2 e3 e4 e5 e6
      have e7 : a' = true := by revert e6; cases a' <;> simp
      exact absurd (by rw [e1, eq_of_lists e2, e3, eq_of_lists e4, eq_of_lists e5, e7]) HE.out
  · have tr : (re != 0) = true := bne_iff_ne.2 hr
    have ho : ok = false := by
      cases ok with
      | false => rfl
      | true => exact absurd (hok.1 rfl).1 hr
    subst ho
    clear hok hr
    go_enter Tryd.func15, Tryd.ntmps15
    go_upto_region 2 with fail
    have T0 := hide (One.start w #[.int .i64 4, .string h, .int .i64 p, .string pa, .string q, .bool true])
    generalize (w.alloc (.cells #[.int .i64 4, .string h, .int .i64 p, .string pa, .string q, .bool true] 23)) = x at T0 ⊢
    have k0 : x.cell? ⟨w.heap.size, 0, none⟩ = some (.int .i64 4) := T0.out.cell0 0
    have k1 : x.cell? ⟨w.heap.size, 1, none⟩ = some (.string h) := T0.out.cell0 1
    have k2 : x.cell? ⟨w.heap.size, 2, none⟩ = some (.int .i64 p) := T0.out.cell0 2
    have k3 : x.cell? ⟨w.heap.size, 3, none⟩ = some (.string pa) := T0.out.cell0 3
    have k4 : x.cell? ⟨w.heap.size, 4, none⟩ = some (.string q) := T0.out.cell0 4
    have k5 : x.cell? ⟨w.heap.size, 5, none⟩ = some (.bool true) := T0.out.cell0 5
    go_wp2_with fail
    refine (HI.out _ (HT.out.below T0.out.b)).mono ?_
    rintro e w1 ⟨rfl, b1⟩
    have T1 := hide (T0.out.below b1)
    clear b1 T0 k0 k1 k2 k3 k4 k5
    have k0 : w1.cell? ⟨w.heap.size, 0, none⟩ = some (.int .i64 4) := T1.out.cell0 0
    have k1 : w1.cell? ⟨w.heap.size, 1, none⟩ = some (.string h) := T1.out.cell0 1
    have k2 : w1.cell? ⟨w.heap.size, 2, none⟩ = some (.int .i64 p) := T1.out.cell0 2
    have k3 : w1.cell? ⟨w.heap.size, 3, none⟩ = some (.string pa) := T1.out.cell0 3
    have k4 : w1.cell? ⟨w.heap.size, 4, none⟩ = some (.string q) := T1.out.cell0 4
    have k5 : w1.cell? ⟨w.heap.size, 5, none⟩ = some (.bool true) := T1.out.cell0 5
    go_wp2_with fail
    refine (HP.out _).mono ?_
    rintro e w3 ⟨rfl, b3⟩
    have T3 := hide (T1.out.below b3)
    clear b3 T1 k0 k1 k2 k3 k4 k5
    go_upto_region 18 with fail
    have T4 := hide (T3.out.below ((Below.refl _ w3).alloc (Nat.le_refl _) (.cells #[.int .i64 f', .string h', .int .i64 p', .string pa', .string q', .bool a'] 23)))
    have HD := hide (hp_new w3 (.cells #[.int .i64 f', .string h', .int .i64 p', .string pa', .string q', .bool a'] 23))
    generalize w3.alloc (.cells #[.int .i64 f', .string h', .int .i64 p', .string pa', .string q', .bool a'] 23) = w4 at T4 HD ⊢
    generalize w3.heap.size = b at HD ⊢
    clear T3
    have d0 : w4.cell? ⟨b, 0, none⟩ = some (.int .i64 f') := cell_at HD.out 0
    have d1 : w4.cell? ⟨b, 1, none⟩ = some (.string h') := cell_at HD.out 1
    have d2 : w4.cell? ⟨b, 2, none⟩ = some (.int .i64 p') := cell_at HD.out 2
    have d3 : w4.cell? ⟨b, 3, none⟩ = some (.string pa') := cell_at HD.out 3
    have d4 : w4.cell? ⟨b, 4, none⟩ = some (.string q') := cell_at HD.out 4
    have d5 : w4.cell? ⟨b, 5, none⟩ = some (.bool a') := cell_at HD.out 5
    have k0 : w4.cell? ⟨w.heap.size, 0, none⟩ = some (.int .i64 4) := T4.out.cell0 0
    have k1 : w4.cell? ⟨w.heap.size, 1, none⟩ = some (.string h) := T4.out.cell0 1
    have k2 : w4.cell? ⟨w.heap.size, 2, none⟩ = some (.int .i64 p) := T4.out.cell0 2
    have k3 : w4.cell? ⟨w.heap.size, 3, none⟩ = some (.string pa) := T4.out.cell0 3
    have k4 : w4.cell? ⟨w.heap.size, 4, none⟩ = some (.string q) := T4.out.cell0 4
    have k5 : w4.cell? ⟨w.heap.size, 5, none⟩ = some (.bool true) := T4.out.cell0 5
    go_wp2
    go_ret2
    exact ⟨rfl, T4.out.b⟩
set_option maxHeartbeats 2000000 in
theorem rpr_4_t_n (h pa q : ByteArray) (p : Int) (w : World) (hh : h.size ≤ 1048576) (hp : pa.size ≤ 1048576) (hq : q.size ≤ 1048576) (h0 : ¬ 0 ≤ p) (t : Value) (re : Int) (hP : RParses ⟨#[79, 80, 84, 73, 79, 78, 83]⟩ (⟨#[42]⟩) t re) (hs : ∃ (f : Int) (h : ByteArray) (p : Int) (pa q : ByteArray) (a : Bool), t = tgV f h p pa q a) (ok : Bool) (hok : ok = true ↔ re = 0 ∧ t = tgV 4 h p pa q true) :
    Calls Tryd.prog 15 #[tgV 4 h p pa q true] w fun e w' => e = .returned (.tuple #[.string (if ok then ⟨#[42]⟩ else ⟨#[]⟩), .int .i64 (if ok then 0 else 60)]) ∧ Below w.heap.size w w' := by
  obtain ⟨f', h', p', pa', q', a', rfl⟩ := hs
  have _HZ := hide (show h.size + pa.size + q.size ≤ 3145728 by omega)
  have HP := hide hP
  clear hP
  unfold tgV at HP ⊢
  by_cases hr : re = 0
  · subst hr
    by_cases he : tgV 4 h p pa q true = tgV f' h' p' pa' q' a'
    · have ho : ok = true := hok.2 ⟨rfl, he.symm⟩
      subst ho
      unfold tgV at he
      simp only [Value.agg.injEq, Array.mk.injEq, List.cons.injEq, Value.int.injEq, Value.string.injEq, Value.bool.injEq, true_and, and_true] at he
      obtain ⟨rfl, rfl, rfl, rfl, rfl, rfl⟩ := he
      clear hok
      go_enter Tryd.func15, Tryd.ntmps15
      go_upto_region 2 with fail
      have T0 := hide (One.start w #[.int .i64 4, .string h, .int .i64 p, .string pa, .string q, .bool true])
      generalize (w.alloc (.cells #[.int .i64 4, .string h, .int .i64 p, .string pa, .string q, .bool true] 23)) = x at T0 ⊢
      have k0 : x.cell? ⟨w.heap.size, 0, none⟩ = some (.int .i64 4) := T0.out.cell0 0
      have k1 : x.cell? ⟨w.heap.size, 1, none⟩ = some (.string h) := T0.out.cell0 1
      have k2 : x.cell? ⟨w.heap.size, 2, none⟩ = some (.int .i64 p) := T0.out.cell0 2
      have k3 : x.cell? ⟨w.heap.size, 3, none⟩ = some (.string pa) := T0.out.cell0 3
      have k4 : x.cell? ⟨w.heap.size, 4, none⟩ = some (.string q) := T0.out.cell0 4
      have k5 : x.cell? ⟨w.heap.size, 5, none⟩ = some (.bool true) := T0.out.cell0 5
      go_wp2_with fail
      refine (HP.out _).mono ?_
      rintro e w3 ⟨rfl, b3⟩
      have T3 := hide (T0.out.below b3)
      clear b3 T0 k0 k1 k2 k3 k4 k5
      go_upto_region 18 with fail
      have T4 := hide (T3.out.below ((Below.refl _ w3).alloc (Nat.le_refl _) (.cells #[.int .i64 4, .string h, .int .i64 p, .string pa, .string q, .bool true] 23)))
      have HD := hide (hp_new w3 (.cells #[.int .i64 4, .string h, .int .i64 p, .string pa, .string q, .bool true] 23))
      generalize w3.alloc (.cells #[.int .i64 4, .string h, .int .i64 p, .string pa, .string q, .bool true] 23) = w4 at T4 HD ⊢
      generalize w3.heap.size = b at HD ⊢
      clear T3
      have d0 : w4.cell? ⟨b, 0, none⟩ = some (.int .i64 4) := cell_at HD.out 0
      have d1 : w4.cell? ⟨b, 1, none⟩ = some (.string h) := cell_at HD.out 1
      have d2 : w4.cell? ⟨b, 2, none⟩ = some (.int .i64 p) := cell_at HD.out 2
      have d3 : w4.cell? ⟨b, 3, none⟩ = some (.string pa) := cell_at HD.out 3
      have d4 : w4.cell? ⟨b, 4, none⟩ = some (.string q) := cell_at HD.out 4
      have d5 : w4.cell? ⟨b, 5, none⟩ = some (.bool true) := cell_at HD.out 5
      have k0 : w4.cell? ⟨w.heap.size, 0, none⟩ = some (.int .i64 4) := T4.out.cell0 0
      have k1 : w4.cell? ⟨w.heap.size, 1, none⟩ = some (.string h) := T4.out.cell0 1
      have k2 : w4.cell? ⟨w.heap.size, 2, none⟩ = some (.int .i64 p) := T4.out.cell0 2
      have k3 : w4.cell? ⟨w.heap.size, 3, none⟩ = some (.string pa) := T4.out.cell0 3
      have k4 : w4.cell? ⟨w.heap.size, 4, none⟩ = some (.string q) := T4.out.cell0 4
      have k5 : w4.cell? ⟨w.heap.size, 5, none⟩ = some (.bool true) := T4.out.cell0 5
      go_wp2
      go_ret2
      exact ⟨rfl, T4.out.b⟩
    · have ho : ok = false := by
        cases ok with
        | false => rfl
        | true => exact absurd (hok.1 rfl).2.symm he
      subst ho
      clear hok
      have HE := hide he
      clear he
      go_enter Tryd.func15, Tryd.ntmps15
      go_upto_region 2 with fail
      have T0 := hide (One.start w #[.int .i64 4, .string h, .int .i64 p, .string pa, .string q, .bool true])
      generalize (w.alloc (.cells #[.int .i64 4, .string h, .int .i64 p, .string pa, .string q, .bool true] 23)) = x at T0 ⊢
      have k0 : x.cell? ⟨w.heap.size, 0, none⟩ = some (.int .i64 4) := T0.out.cell0 0
      have k1 : x.cell? ⟨w.heap.size, 1, none⟩ = some (.string h) := T0.out.cell0 1
      have k2 : x.cell? ⟨w.heap.size, 2, none⟩ = some (.int .i64 p) := T0.out.cell0 2
      have k3 : x.cell? ⟨w.heap.size, 3, none⟩ = some (.string pa) := T0.out.cell0 3
      have k4 : x.cell? ⟨w.heap.size, 4, none⟩ = some (.string q) := T0.out.cell0 4
      have k5 : x.cell? ⟨w.heap.size, 5, none⟩ = some (.bool true) := T0.out.cell0 5
      go_wp2_with fail
      refine (HP.out _).mono ?_
      rintro e w3 ⟨rfl, b3⟩
      have T3 := hide (T0.out.below b3)
      clear b3 T0 k0 k1 k2 k3 k4 k5
      go_upto_region 18 with fail
      have T4 := hide (T3.out.below ((Below.refl _ w3).alloc (Nat.le_refl _) (.cells #[.int .i64 f', .string h', .int .i64 p', .string pa', .string q', .bool a'] 23)))
      have HD := hide (hp_new w3 (.cells #[.int .i64 f', .string h', .int .i64 p', .string pa', .string q', .bool a'] 23))
      generalize w3.alloc (.cells #[.int .i64 f', .string h', .int .i64 p', .string pa', .string q', .bool a'] 23) = w4 at T4 HD ⊢
      generalize w3.heap.size = b at HD ⊢
      clear T3
      have d0 : w4.cell? ⟨b, 0, none⟩ = some (.int .i64 f') := cell_at HD.out 0
      have d1 : w4.cell? ⟨b, 1, none⟩ = some (.string h') := cell_at HD.out 1
      have d2 : w4.cell? ⟨b, 2, none⟩ = some (.int .i64 p') := cell_at HD.out 2
      have d3 : w4.cell? ⟨b, 3, none⟩ = some (.string pa') := cell_at HD.out 3
      have d4 : w4.cell? ⟨b, 4, none⟩ = some (.string q') := cell_at HD.out 4
      have d5 : w4.cell? ⟨b, 5, none⟩ = some (.bool a') := cell_at HD.out 5
      have k0 : w4.cell? ⟨w.heap.size, 0, none⟩ = some (.int .i64 4) := T4.out.cell0 0
      have k1 : w4.cell? ⟨w.heap.size, 1, none⟩ = some (.string h) := T4.out.cell0 1
      have k2 : w4.cell? ⟨w.heap.size, 2, none⟩ = some (.int .i64 p) := T4.out.cell0 2
      have k3 : w4.cell? ⟨w.heap.size, 3, none⟩ = some (.string pa) := T4.out.cell0 3
      have k4 : w4.cell? ⟨w.heap.size, 4, none⟩ = some (.string q) := T4.out.cell0 4
      have k5 : w4.cell? ⟨w.heap.size, 5, none⟩ = some (.bool true) := T4.out.cell0 5
      go_wp2
      all_goals first | (go_ret2; exact ⟨rfl, T4.out.b⟩) | skip
      rename_i e1 e2 e3 e4 e5 e6
      have e7 : a' = true := by revert e6; cases a' <;> simp
      exact absurd (by rw [e1, eq_of_lists e2, e3, eq_of_lists e4, eq_of_lists e5, e7]) HE.out
  · have tr : (re != 0) = true := bne_iff_ne.2 hr
    have ho : ok = false := by
      cases ok with
      | false => rfl
      | true => exact absurd (hok.1 rfl).1 hr
    subst ho
    clear hok hr
    go_enter Tryd.func15, Tryd.ntmps15
    go_upto_region 2 with fail
    have T0 := hide (One.start w #[.int .i64 4, .string h, .int .i64 p, .string pa, .string q, .bool true])
    generalize (w.alloc (.cells #[.int .i64 4, .string h, .int .i64 p, .string pa, .string q, .bool true] 23)) = x at T0 ⊢
    have k0 : x.cell? ⟨w.heap.size, 0, none⟩ = some (.int .i64 4) := T0.out.cell0 0
    have k1 : x.cell? ⟨w.heap.size, 1, none⟩ = some (.string h) := T0.out.cell0 1
    have k2 : x.cell? ⟨w.heap.size, 2, none⟩ = some (.int .i64 p) := T0.out.cell0 2
    have k3 : x.cell? ⟨w.heap.size, 3, none⟩ = some (.string pa) := T0.out.cell0 3
    have k4 : x.cell? ⟨w.heap.size, 4, none⟩ = some (.string q) := T0.out.cell0 4
    have k5 : x.cell? ⟨w.heap.size, 5, none⟩ = some (.bool true) := T0.out.cell0 5
    go_wp2_with fail
    refine (HP.out _).mono ?_
    rintro e w3 ⟨rfl, b3⟩
    have T3 := hide (T0.out.below b3)
    clear b3 T0 k0 k1 k2 k3 k4 k5
    go_upto_region 18 with fail
    have T4 := hide (T3.out.below ((Below.refl _ w3).alloc (Nat.le_refl _) (.cells #[.int .i64 f', .string h', .int .i64 p', .string pa', .string q', .bool a'] 23)))
    have HD := hide (hp_new w3 (.cells #[.int .i64 f', .string h', .int .i64 p', .string pa', .string q', .bool a'] 23))
    generalize w3.alloc (.cells #[.int .i64 f', .string h', .int .i64 p', .string pa', .string q', .bool a'] 23) = w4 at T4 HD ⊢
    generalize w3.heap.size = b at HD ⊢
    clear T3
    have d0 : w4.cell? ⟨b, 0, none⟩ = some (.int .i64 f') := cell_at HD.out 0
    have d1 : w4.cell? ⟨b, 1, none⟩ = some (.string h') := cell_at HD.out 1
    have d2 : w4.cell? ⟨b, 2, none⟩ = some (.int .i64 p') := cell_at HD.out 2
    have d3 : w4.cell? ⟨b, 3, none⟩ = some (.string pa') := cell_at HD.out 3
    have d4 : w4.cell? ⟨b, 4, none⟩ = some (.string q') := cell_at HD.out 4
    have d5 : w4.cell? ⟨b, 5, none⟩ = some (.bool a') := cell_at HD.out 5
    have k0 : w4.cell? ⟨w.heap.size, 0, none⟩ = some (.int .i64 4) := T4.out.cell0 0
    have k1 : w4.cell? ⟨w.heap.size, 1, none⟩ = some (.string h) := T4.out.cell0 1
    have k2 : w4.cell? ⟨w.heap.size, 2, none⟩ = some (.int .i64 p) := T4.out.cell0 2
    have k3 : w4.cell? ⟨w.heap.size, 3, none⟩ = some (.string pa) := T4.out.cell0 3
    have k4 : w4.cell? ⟨w.heap.size, 4, none⟩ = some (.string q) := T4.out.cell0 4
    have k5 : w4.cell? ⟨w.heap.size, 5, none⟩ = some (.bool true) := T4.out.cell0 5
    go_wp2
    go_ret2
    exact ⟨rfl, T4.out.b⟩
set_option maxHeartbeats 2000000 in
theorem rpr_4_f_p (h pa q : ByteArray) (p : Int) (w : World) (hh : h.size ≤ 1048576) (hp : pa.size ≤ 1048576) (hq : q.size ≤ 1048576) (it : ByteArray) (hit : it.size ≤ 21) (h0 : 0 ≤ p) (hI : ∀ W, PT W → Calls Tryd.prog 31 #[.int .i64 p] W fun e w' => e = .returned (.string it) ∧ Below W.heap.size W w') (ht : PT w) (t : Value) (re : Int) (hP : RParses ⟨#[79, 80, 84, 73, 79, 78, 83]⟩ (⟨#[42]⟩) t re) (hs : ∃ (f : Int) (h : ByteArray) (p : Int) (pa q : ByteArray) (a : Bool), t = tgV f h p pa q a) (ok : Bool) (hok : ok = true ↔ re = 0 ∧ t = tgV 4 h p pa q false) :
    Calls Tryd.prog 15 #[tgV 4 h p pa q false] w fun e w' => e = .returned (.tuple #[.string (if ok then ⟨#[42]⟩ else ⟨#[]⟩), .int .i64 (if ok then 0 else 60)]) ∧ Below w.heap.size w w' := by
  obtain ⟨f', h', p', pa', q', a', rfl⟩ := hs
  have _HZ := hide (show h.size + pa.size + q.size ≤ 3145728 by omega)
  have HP := hide hP
  clear hP
  have HI := hide hI
  have HT := hide ht
  clear hI ht
  unfold tgV at HP ⊢
  by_cases hr : re = 0
  · subst hr
    by_cases he : tgV 4 h p pa q false = tgV f' h' p' pa' q' a'
    · have ho : ok = true := hok.2 ⟨rfl, he.symm⟩
      subst ho
      unfold tgV at he
      simp only [Value.agg.injEq, Array.mk.injEq, List.cons.injEq, Value.int.injEq, Value.string.injEq, Value.bool.injEq, true_and, and_true] at he
      obtain ⟨rfl, rfl, rfl, rfl, rfl, rfl⟩ := he
      clear hok
      go_enter Tryd.func15, Tryd.ntmps15
      go_upto_region 2 with fail
      have T0 := hide (One.start w #[.int .i64 4, .string h, .int .i64 p, .string pa, .string q, .bool false])
      generalize (w.alloc (.cells #[.int .i64 4, .string h, .int .i64 p, .string pa, .string q, .bool false] 23)) = x at T0 ⊢
      have k0 : x.cell? ⟨w.heap.size, 0, none⟩ = some (.int .i64 4) := T0.out.cell0 0
      have k1 : x.cell? ⟨w.heap.size, 1, none⟩ = some (.string h) := T0.out.cell0 1
      have k2 : x.cell? ⟨w.heap.size, 2, none⟩ = some (.int .i64 p) := T0.out.cell0 2
      have k3 : x.cell? ⟨w.heap.size, 3, none⟩ = some (.string pa) := T0.out.cell0 3
      have k4 : x.cell? ⟨w.heap.size, 4, none⟩ = some (.string q) := T0.out.cell0 4
      have k5 : x.cell? ⟨w.heap.size, 5, none⟩ = some (.bool false) := T0.out.cell0 5
      go_wp2_with fail
      refine (HI.out _ (HT.out.below T0.out.b)).mono ?_
      rintro e w1 ⟨rfl, b1⟩
      have T1 := hide (T0.out.below b1)
      clear b1 T0 k0 k1 k2 k3 k4 k5
      have k0 : w1.cell? ⟨w.heap.size, 0, none⟩ = some (.int .i64 4) := T1.out.cell0 0
      have k1 : w1.cell? ⟨w.heap.size, 1, none⟩ = some (.string h) := T1.out.cell0 1
      have k2 : w1.cell? ⟨w.heap.size, 2, none⟩ = some (.int .i64 p) := T1.out.cell0 2
      have k3 : w1.cell? ⟨w.heap.size, 3, none⟩ = some (.string pa) := T1.out.cell0 3
      have k4 : w1.cell? ⟨w.heap.size, 4, none⟩ = some (.string q) := T1.out.cell0 4
      have k5 : w1.cell? ⟨w.heap.size, 5, none⟩ = some (.bool false) := T1.out.cell0 5
      go_wp2_with fail
      refine (HP.out _).mono ?_
      rintro e w3 ⟨rfl, b3⟩
      have T3 := hide (T1.out.below b3)
      clear b3 T1 k0 k1 k2 k3 k4 k5
      go_upto_region 18 with fail
      have T4 := hide (T3.out.below ((Below.refl _ w3).alloc (Nat.le_refl _) (.cells #[.int .i64 4, .string h, .int .i64 p, .string pa, .string q, .bool false] 23)))
      have HD := hide (hp_new w3 (.cells #[.int .i64 4, .string h, .int .i64 p, .string pa, .string q, .bool false] 23))
      generalize w3.alloc (.cells #[.int .i64 4, .string h, .int .i64 p, .string pa, .string q, .bool false] 23) = w4 at T4 HD ⊢
      generalize w3.heap.size = b at HD ⊢
      clear T3
      have d0 : w4.cell? ⟨b, 0, none⟩ = some (.int .i64 4) := cell_at HD.out 0
      have d1 : w4.cell? ⟨b, 1, none⟩ = some (.string h) := cell_at HD.out 1
      have d2 : w4.cell? ⟨b, 2, none⟩ = some (.int .i64 p) := cell_at HD.out 2
      have d3 : w4.cell? ⟨b, 3, none⟩ = some (.string pa) := cell_at HD.out 3
      have d4 : w4.cell? ⟨b, 4, none⟩ = some (.string q) := cell_at HD.out 4
      have d5 : w4.cell? ⟨b, 5, none⟩ = some (.bool false) := cell_at HD.out 5
      have k0 : w4.cell? ⟨w.heap.size, 0, none⟩ = some (.int .i64 4) := T4.out.cell0 0
      have k1 : w4.cell? ⟨w.heap.size, 1, none⟩ = some (.string h) := T4.out.cell0 1
      have k2 : w4.cell? ⟨w.heap.size, 2, none⟩ = some (.int .i64 p) := T4.out.cell0 2
      have k3 : w4.cell? ⟨w.heap.size, 3, none⟩ = some (.string pa) := T4.out.cell0 3
      have k4 : w4.cell? ⟨w.heap.size, 4, none⟩ = some (.string q) := T4.out.cell0 4
      have k5 : w4.cell? ⟨w.heap.size, 5, none⟩ = some (.bool false) := T4.out.cell0 5
      go_wp2
      go_ret2
      exact ⟨rfl, T4.out.b⟩
    · have ho : ok = false := by
        cases ok with
        | false => rfl
        | true => exact absurd (hok.1 rfl).2.symm he
      subst ho
      clear hok
      have HE := hide he
      clear he
      go_enter Tryd.func15, Tryd.ntmps15
      go_upto_region 2 with fail
      have T0 := hide (One.start w #[.int .i64 4, .string h, .int .i64 p, .string pa, .string q, .bool false])
      generalize (w.alloc (.cells #[.int .i64 4, .string h, .int .i64 p, .string pa, .string q, .bool false] 23)) = x at T0 ⊢
      have k0 : x.cell? ⟨w.heap.size, 0, none⟩ = some (.int .i64 4) := T0.out.cell0 0
      have k1 : x.cell? ⟨w.heap.size, 1, none⟩ = some (.string h) := T0.out.cell0 1
      have k2 : x.cell? ⟨w.heap.size, 2, none⟩ = some (.int .i64 p) := T0.out.cell0 2
      have k3 : x.cell? ⟨w.heap.size, 3, none⟩ = some (.string pa) := T0.out.cell0 3
      have k4 : x.cell? ⟨w.heap.size, 4, none⟩ = some (.string q) := T0.out.cell0 4
      have k5 : x.cell? ⟨w.heap.size, 5, none⟩ = some (.bool false) := T0.out.cell0 5
      go_wp2_with fail
      refine (HI.out _ (HT.out.below T0.out.b)).mono ?_
      rintro e w1 ⟨rfl, b1⟩
      have T1 := hide (T0.out.below b1)
      clear b1 T0 k0 k1 k2 k3 k4 k5
      have k0 : w1.cell? ⟨w.heap.size, 0, none⟩ = some (.int .i64 4) := T1.out.cell0 0
      have k1 : w1.cell? ⟨w.heap.size, 1, none⟩ = some (.string h) := T1.out.cell0 1
      have k2 : w1.cell? ⟨w.heap.size, 2, none⟩ = some (.int .i64 p) := T1.out.cell0 2
      have k3 : w1.cell? ⟨w.heap.size, 3, none⟩ = some (.string pa) := T1.out.cell0 3
      have k4 : w1.cell? ⟨w.heap.size, 4, none⟩ = some (.string q) := T1.out.cell0 4
      have k5 : w1.cell? ⟨w.heap.size, 5, none⟩ = some (.bool false) := T1.out.cell0 5
      go_wp2_with fail
      refine (HP.out _).mono ?_
      rintro e w3 ⟨rfl, b3⟩
      have T3 := hide (T1.out.below b3)
      clear b3 T1 k0 k1 k2 k3 k4 k5
      go_upto_region 18 with fail
      have T4 := hide (T3.out.below ((Below.refl _ w3).alloc (Nat.le_refl _) (.cells #[.int .i64 f', .string h', .int .i64 p', .string pa', .string q', .bool a'] 23)))
      have HD := hide (hp_new w3 (.cells #[.int .i64 f', .string h', .int .i64 p', .string pa', .string q', .bool a'] 23))
      generalize w3.alloc (.cells #[.int .i64 f', .string h', .int .i64 p', .string pa', .string q', .bool a'] 23) = w4 at T4 HD ⊢
      generalize w3.heap.size = b at HD ⊢
      clear T3
      have d0 : w4.cell? ⟨b, 0, none⟩ = some (.int .i64 f') := cell_at HD.out 0
      have d1 : w4.cell? ⟨b, 1, none⟩ = some (.string h') := cell_at HD.out 1
      have d2 : w4.cell? ⟨b, 2, none⟩ = some (.int .i64 p') := cell_at HD.out 2
      have d3 : w4.cell? ⟨b, 3, none⟩ = some (.string pa') := cell_at HD.out 3
      have d4 : w4.cell? ⟨b, 4, none⟩ = some (.string q') := cell_at HD.out 4
      have d5 : w4.cell? ⟨b, 5, none⟩ = some (.bool a') := cell_at HD.out 5
      have k0 : w4.cell? ⟨w.heap.size, 0, none⟩ = some (.int .i64 4) := T4.out.cell0 0
      have k1 : w4.cell? ⟨w.heap.size, 1, none⟩ = some (.string h) := T4.out.cell0 1
      have k2 : w4.cell? ⟨w.heap.size, 2, none⟩ = some (.int .i64 p) := T4.out.cell0 2
      have k3 : w4.cell? ⟨w.heap.size, 3, none⟩ = some (.string pa) := T4.out.cell0 3
      have k4 : w4.cell? ⟨w.heap.size, 4, none⟩ = some (.string q) := T4.out.cell0 4
      have k5 : w4.cell? ⟨w.heap.size, 5, none⟩ = some (.bool false) := T4.out.cell0 5
      go_wp2
      all_goals first | (go_ret2; exact ⟨rfl, T4.out.b⟩) | skip
      rename_i e1 e2 e3 e4 e5 e6
      have e7 : a' = false := by revert e6; cases a' <;> simp
      exact absurd (by rw [e1, eq_of_lists e2, e3, eq_of_lists e4, eq_of_lists e5, e7]) HE.out
  · have tr : (re != 0) = true := bne_iff_ne.2 hr
    have ho : ok = false := by
      cases ok with
      | false => rfl
      | true => exact absurd (hok.1 rfl).1 hr
    subst ho
    clear hok hr
    go_enter Tryd.func15, Tryd.ntmps15
    go_upto_region 2 with fail
    have T0 := hide (One.start w #[.int .i64 4, .string h, .int .i64 p, .string pa, .string q, .bool false])
    generalize (w.alloc (.cells #[.int .i64 4, .string h, .int .i64 p, .string pa, .string q, .bool false] 23)) = x at T0 ⊢
    have k0 : x.cell? ⟨w.heap.size, 0, none⟩ = some (.int .i64 4) := T0.out.cell0 0
    have k1 : x.cell? ⟨w.heap.size, 1, none⟩ = some (.string h) := T0.out.cell0 1
    have k2 : x.cell? ⟨w.heap.size, 2, none⟩ = some (.int .i64 p) := T0.out.cell0 2
    have k3 : x.cell? ⟨w.heap.size, 3, none⟩ = some (.string pa) := T0.out.cell0 3
    have k4 : x.cell? ⟨w.heap.size, 4, none⟩ = some (.string q) := T0.out.cell0 4
    have k5 : x.cell? ⟨w.heap.size, 5, none⟩ = some (.bool false) := T0.out.cell0 5
    go_wp2_with fail
    refine (HI.out _ (HT.out.below T0.out.b)).mono ?_
    rintro e w1 ⟨rfl, b1⟩
    have T1 := hide (T0.out.below b1)
    clear b1 T0 k0 k1 k2 k3 k4 k5
    have k0 : w1.cell? ⟨w.heap.size, 0, none⟩ = some (.int .i64 4) := T1.out.cell0 0
    have k1 : w1.cell? ⟨w.heap.size, 1, none⟩ = some (.string h) := T1.out.cell0 1
    have k2 : w1.cell? ⟨w.heap.size, 2, none⟩ = some (.int .i64 p) := T1.out.cell0 2
    have k3 : w1.cell? ⟨w.heap.size, 3, none⟩ = some (.string pa) := T1.out.cell0 3
    have k4 : w1.cell? ⟨w.heap.size, 4, none⟩ = some (.string q) := T1.out.cell0 4
    have k5 : w1.cell? ⟨w.heap.size, 5, none⟩ = some (.bool false) := T1.out.cell0 5
    go_wp2_with fail
    refine (HP.out _).mono ?_
    rintro e w3 ⟨rfl, b3⟩
    have T3 := hide (T1.out.below b3)
    clear b3 T1 k0 k1 k2 k3 k4 k5
    go_upto_region 18 with fail
    have T4 := hide (T3.out.below ((Below.refl _ w3).alloc (Nat.le_refl _) (.cells #[.int .i64 f', .string h', .int .i64 p', .string pa', .string q', .bool a'] 23)))
    have HD := hide (hp_new w3 (.cells #[.int .i64 f', .string h', .int .i64 p', .string pa', .string q', .bool a'] 23))
    generalize w3.alloc (.cells #[.int .i64 f', .string h', .int .i64 p', .string pa', .string q', .bool a'] 23) = w4 at T4 HD ⊢
    generalize w3.heap.size = b at HD ⊢
    clear T3
    have d0 : w4.cell? ⟨b, 0, none⟩ = some (.int .i64 f') := cell_at HD.out 0
    have d1 : w4.cell? ⟨b, 1, none⟩ = some (.string h') := cell_at HD.out 1
    have d2 : w4.cell? ⟨b, 2, none⟩ = some (.int .i64 p') := cell_at HD.out 2
    have d3 : w4.cell? ⟨b, 3, none⟩ = some (.string pa') := cell_at HD.out 3
    have d4 : w4.cell? ⟨b, 4, none⟩ = some (.string q') := cell_at HD.out 4
    have d5 : w4.cell? ⟨b, 5, none⟩ = some (.bool a') := cell_at HD.out 5
    have k0 : w4.cell? ⟨w.heap.size, 0, none⟩ = some (.int .i64 4) := T4.out.cell0 0
    have k1 : w4.cell? ⟨w.heap.size, 1, none⟩ = some (.string h) := T4.out.cell0 1
    have k2 : w4.cell? ⟨w.heap.size, 2, none⟩ = some (.int .i64 p) := T4.out.cell0 2
    have k3 : w4.cell? ⟨w.heap.size, 3, none⟩ = some (.string pa) := T4.out.cell0 3
    have k4 : w4.cell? ⟨w.heap.size, 4, none⟩ = some (.string q) := T4.out.cell0 4
    have k5 : w4.cell? ⟨w.heap.size, 5, none⟩ = some (.bool false) := T4.out.cell0 5
    go_wp2
    go_ret2
    exact ⟨rfl, T4.out.b⟩
set_option maxHeartbeats 2000000 in
theorem rpr_4_f_n (h pa q : ByteArray) (p : Int) (w : World) (hh : h.size ≤ 1048576) (hp : pa.size ≤ 1048576) (hq : q.size ≤ 1048576) (h0 : ¬ 0 ≤ p) (t : Value) (re : Int) (hP : RParses ⟨#[79, 80, 84, 73, 79, 78, 83]⟩ (⟨#[42]⟩) t re) (hs : ∃ (f : Int) (h : ByteArray) (p : Int) (pa q : ByteArray) (a : Bool), t = tgV f h p pa q a) (ok : Bool) (hok : ok = true ↔ re = 0 ∧ t = tgV 4 h p pa q false) :
    Calls Tryd.prog 15 #[tgV 4 h p pa q false] w fun e w' => e = .returned (.tuple #[.string (if ok then ⟨#[42]⟩ else ⟨#[]⟩), .int .i64 (if ok then 0 else 60)]) ∧ Below w.heap.size w w' := by
  obtain ⟨f', h', p', pa', q', a', rfl⟩ := hs
  have _HZ := hide (show h.size + pa.size + q.size ≤ 3145728 by omega)
  have HP := hide hP
  clear hP
  unfold tgV at HP ⊢
  by_cases hr : re = 0
  · subst hr
    by_cases he : tgV 4 h p pa q false = tgV f' h' p' pa' q' a'
    · have ho : ok = true := hok.2 ⟨rfl, he.symm⟩
      subst ho
      unfold tgV at he
      simp only [Value.agg.injEq, Array.mk.injEq, List.cons.injEq, Value.int.injEq, Value.string.injEq, Value.bool.injEq, true_and, and_true] at he
      obtain ⟨rfl, rfl, rfl, rfl, rfl, rfl⟩ := he
      clear hok
      go_enter Tryd.func15, Tryd.ntmps15
      go_upto_region 2 with fail
      have T0 := hide (One.start w #[.int .i64 4, .string h, .int .i64 p, .string pa, .string q, .bool false])
      generalize (w.alloc (.cells #[.int .i64 4, .string h, .int .i64 p, .string pa, .string q, .bool false] 23)) = x at T0 ⊢
      have k0 : x.cell? ⟨w.heap.size, 0, none⟩ = some (.int .i64 4) := T0.out.cell0 0
      have k1 : x.cell? ⟨w.heap.size, 1, none⟩ = some (.string h) := T0.out.cell0 1
      have k2 : x.cell? ⟨w.heap.size, 2, none⟩ = some (.int .i64 p) := T0.out.cell0 2
      have k3 : x.cell? ⟨w.heap.size, 3, none⟩ = some (.string pa) := T0.out.cell0 3
      have k4 : x.cell? ⟨w.heap.size, 4, none⟩ = some (.string q) := T0.out.cell0 4
      have k5 : x.cell? ⟨w.heap.size, 5, none⟩ = some (.bool false) := T0.out.cell0 5
      go_wp2_with fail
      refine (HP.out _).mono ?_
      rintro e w3 ⟨rfl, b3⟩
      have T3 := hide (T0.out.below b3)
      clear b3 T0 k0 k1 k2 k3 k4 k5
      go_upto_region 18 with fail
      have T4 := hide (T3.out.below ((Below.refl _ w3).alloc (Nat.le_refl _) (.cells #[.int .i64 4, .string h, .int .i64 p, .string pa, .string q, .bool false] 23)))
      have HD := hide (hp_new w3 (.cells #[.int .i64 4, .string h, .int .i64 p, .string pa, .string q, .bool false] 23))
      generalize w3.alloc (.cells #[.int .i64 4, .string h, .int .i64 p, .string pa, .string q, .bool false] 23) = w4 at T4 HD ⊢
      generalize w3.heap.size = b at HD ⊢
      clear T3
      have d0 : w4.cell? ⟨b, 0, none⟩ = some (.int .i64 4) := cell_at HD.out 0
      have d1 : w4.cell? ⟨b, 1, none⟩ = some (.string h) := cell_at HD.out 1
      have d2 : w4.cell? ⟨b, 2, none⟩ = some (.int .i64 p) := cell_at HD.out 2
      have d3 : w4.cell? ⟨b, 3, none⟩ = some (.string pa) := cell_at HD.out 3
      have d4 : w4.cell? ⟨b, 4, none⟩ = some (.string q) := cell_at HD.out 4
      have d5 : w4.cell? ⟨b, 5, none⟩ = some (.bool false) := cell_at HD.out 5
      have k0 : w4.cell? ⟨w.heap.size, 0, none⟩ = some (.int .i64 4) := T4.out.cell0 0
      have k1 : w4.cell? ⟨w.heap.size, 1, none⟩ = some (.string h) := T4.out.cell0 1
      have k2 : w4.cell? ⟨w.heap.size, 2, none⟩ = some (.int .i64 p) := T4.out.cell0 2
      have k3 : w4.cell? ⟨w.heap.size, 3, none⟩ = some (.string pa) := T4.out.cell0 3
      have k4 : w4.cell? ⟨w.heap.size, 4, none⟩ = some (.string q) := T4.out.cell0 4
      have k5 : w4.cell? ⟨w.heap.size, 5, none⟩ = some (.bool false) := T4.out.cell0 5
      go_wp2
      go_ret2
      exact ⟨rfl, T4.out.b⟩
    · have ho : ok = false := by
        cases ok with
        | false => rfl
        | true => exact absurd (hok.1 rfl).2.symm he
      subst ho
      clear hok
      have HE := hide he
      clear he
      go_enter Tryd.func15, Tryd.ntmps15
      go_upto_region 2 with fail
      have T0 := hide (One.start w #[.int .i64 4, .string h, .int .i64 p, .string pa, .string q, .bool false])
      generalize (w.alloc (.cells #[.int .i64 4, .string h, .int .i64 p, .string pa, .string q, .bool false] 23)) = x at T0 ⊢
      have k0 : x.cell? ⟨w.heap.size, 0, none⟩ = some (.int .i64 4) := T0.out.cell0 0
      have k1 : x.cell? ⟨w.heap.size, 1, none⟩ = some (.string h) := T0.out.cell0 1
      have k2 : x.cell? ⟨w.heap.size, 2, none⟩ = some (.int .i64 p) := T0.out.cell0 2
      have k3 : x.cell? ⟨w.heap.size, 3, none⟩ = some (.string pa) := T0.out.cell0 3
      have k4 : x.cell? ⟨w.heap.size, 4, none⟩ = some (.string q) := T0.out.cell0 4
      have k5 : x.cell? ⟨w.heap.size, 5, none⟩ = some (.bool false) := T0.out.cell0 5
      go_wp2_with fail
      refine (HP.out _).mono ?_
      rintro e w3 ⟨rfl, b3⟩
      have T3 := hide (T0.out.below b3)
      clear b3 T0 k0 k1 k2 k3 k4 k5
      go_upto_region 18 with fail
      have T4 := hide (T3.out.below ((Below.refl _ w3).alloc (Nat.le_refl _) (.cells #[.int .i64 f', .string h', .int .i64 p', .string pa', .string q', .bool a'] 23)))
      have HD := hide (hp_new w3 (.cells #[.int .i64 f', .string h', .int .i64 p', .string pa', .string q', .bool a'] 23))
      generalize w3.alloc (.cells #[.int .i64 f', .string h', .int .i64 p', .string pa', .string q', .bool a'] 23) = w4 at T4 HD ⊢
      generalize w3.heap.size = b at HD ⊢
      clear T3
      have d0 : w4.cell? ⟨b, 0, none⟩ = some (.int .i64 f') := cell_at HD.out 0
      have d1 : w4.cell? ⟨b, 1, none⟩ = some (.string h') := cell_at HD.out 1
      have d2 : w4.cell? ⟨b, 2, none⟩ = some (.int .i64 p') := cell_at HD.out 2
      have d3 : w4.cell? ⟨b, 3, none⟩ = some (.string pa') := cell_at HD.out 3
      have d4 : w4.cell? ⟨b, 4, none⟩ = some (.string q') := cell_at HD.out 4
      have d5 : w4.cell? ⟨b, 5, none⟩ = some (.bool a') := cell_at HD.out 5
      have k0 : w4.cell? ⟨w.heap.size, 0, none⟩ = some (.int .i64 4) := T4.out.cell0 0
      have k1 : w4.cell? ⟨w.heap.size, 1, none⟩ = some (.string h) := T4.out.cell0 1
      have k2 : w4.cell? ⟨w.heap.size, 2, none⟩ = some (.int .i64 p) := T4.out.cell0 2
      have k3 : w4.cell? ⟨w.heap.size, 3, none⟩ = some (.string pa) := T4.out.cell0 3
      have k4 : w4.cell? ⟨w.heap.size, 4, none⟩ = some (.string q) := T4.out.cell0 4
      have k5 : w4.cell? ⟨w.heap.size, 5, none⟩ = some (.bool false) := T4.out.cell0 5
      go_wp2
      all_goals first | (go_ret2; exact ⟨rfl, T4.out.b⟩) | skip
      rename_i e1 e2 e3 e4 e5 e6
      have e7 : a' = false := by revert e6; cases a' <;> simp
      exact absurd (by rw [e1, eq_of_lists e2, e3, eq_of_lists e4, eq_of_lists e5, e7]) HE.out
  · have tr : (re != 0) = true := bne_iff_ne.2 hr
    have ho : ok = false := by
      cases ok with
      | false => rfl
      | true => exact absurd (hok.1 rfl).1 hr
    subst ho
    clear hok hr
    go_enter Tryd.func15, Tryd.ntmps15
    go_upto_region 2 with fail
    have T0 := hide (One.start w #[.int .i64 4, .string h, .int .i64 p, .string pa, .string q, .bool false])
    generalize (w.alloc (.cells #[.int .i64 4, .string h, .int .i64 p, .string pa, .string q, .bool false] 23)) = x at T0 ⊢
    have k0 : x.cell? ⟨w.heap.size, 0, none⟩ = some (.int .i64 4) := T0.out.cell0 0
    have k1 : x.cell? ⟨w.heap.size, 1, none⟩ = some (.string h) := T0.out.cell0 1
    have k2 : x.cell? ⟨w.heap.size, 2, none⟩ = some (.int .i64 p) := T0.out.cell0 2
    have k3 : x.cell? ⟨w.heap.size, 3, none⟩ = some (.string pa) := T0.out.cell0 3
    have k4 : x.cell? ⟨w.heap.size, 4, none⟩ = some (.string q) := T0.out.cell0 4
    have k5 : x.cell? ⟨w.heap.size, 5, none⟩ = some (.bool false) := T0.out.cell0 5
    go_wp2_with fail
    refine (HP.out _).mono ?_
    rintro e w3 ⟨rfl, b3⟩
    have T3 := hide (T0.out.below b3)
    clear b3 T0 k0 k1 k2 k3 k4 k5
    go_upto_region 18 with fail
    have T4 := hide (T3.out.below ((Below.refl _ w3).alloc (Nat.le_refl _) (.cells #[.int .i64 f', .string h', .int .i64 p', .string pa', .string q', .bool a'] 23)))
    have HD := hide (hp_new w3 (.cells #[.int .i64 f', .string h', .int .i64 p', .string pa', .string q', .bool a'] 23))
    generalize w3.alloc (.cells #[.int .i64 f', .string h', .int .i64 p', .string pa', .string q', .bool a'] 23) = w4 at T4 HD ⊢
    generalize w3.heap.size = b at HD ⊢
    clear T3
    have d0 : w4.cell? ⟨b, 0, none⟩ = some (.int .i64 f') := cell_at HD.out 0
    have d1 : w4.cell? ⟨b, 1, none⟩ = some (.string h') := cell_at HD.out 1
    have d2 : w4.cell? ⟨b, 2, none⟩ = some (.int .i64 p') := cell_at HD.out 2
    have d3 : w4.cell? ⟨b, 3, none⟩ = some (.string pa') := cell_at HD.out 3
    have d4 : w4.cell? ⟨b, 4, none⟩ = some (.string q') := cell_at HD.out 4
    have d5 : w4.cell? ⟨b, 5, none⟩ = some (.bool a') := cell_at HD.out 5
    have k0 : w4.cell? ⟨w.heap.size, 0, none⟩ = some (.int .i64 4) := T4.out.cell0 0
    have k1 : w4.cell? ⟨w.heap.size, 1, none⟩ = some (.string h) := T4.out.cell0 1
    have k2 : w4.cell? ⟨w.heap.size, 2, none⟩ = some (.int .i64 p) := T4.out.cell0 2
    have k3 : w4.cell? ⟨w.heap.size, 3, none⟩ = some (.string pa) := T4.out.cell0 3
    have k4 : w4.cell? ⟨w.heap.size, 4, none⟩ = some (.string q) := T4.out.cell0 4
    have k5 : w4.cell? ⟨w.heap.size, 5, none⟩ = some (.bool false) := T4.out.cell0 5
    go_wp2
    go_ret2
    exact ⟨rfl, T4.out.b⟩
end Go.Proofs.YtofifncflchpbaaDoor
