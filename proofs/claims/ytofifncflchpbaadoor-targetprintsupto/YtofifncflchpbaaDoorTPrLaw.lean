/- TargetPrints: the statement, walked. -/
import Derived.Test.YtofifncflchpbaaDoorTPrAll
namespace Go.Proofs.YtofifncflchpbaaDoor
open Go.ChangeShapes Go.WideShapes Go.ChangeAt Go.RowKit

set_option maxHeartbeats 4000000 in
theorem prints_walk (f p : Int) (h pa q : ByteArray) (a : Bool) (w : World) (hh : h.size ≤ 1048576) (hp : pa.size ≤ 1048576) (hq : q.size ≤ 1048576) (h0 : -9223372036854775808 ≤ p) (h1 : p ≤ 9223372036854775807) (ht : PT w) (hm : MX w) :
    Calls Tryd.prog 5 #[.agg #[.int .i64 f, .string h, .int .i64 p, .string pa, .string q, .bool a]] w fun e w' => e = .returned (.bool true) ∧ Below w.heap.size w w' := by
  have HT := hide ht
  have HM := hide hm
  by_cases hok : Taken (askerS f) (textS f h p pa q a) (tgV f h p pa q a) ∧ (textS f h p pa q a).size ≤ 8192
  · have hf := taken_parts hok.1
    have hpr := fun W (hW : PT W) (hN : MX W) => print_any f p h pa q a W hh hp hq h0 h1 hW hN true (by simpa using hok)
    have hrp := fun W (hW : PT W) => rprint_any f p h pa q a W hh hp hq h0 h1 hW true (by rw [← texts_same hf]; simpa using hok)
    rw [← texts_same hf] at hrp
    obtain ⟨t, re, hU, _, _, hV⟩ := parse_total (askerS f) (textS f h p pa q a)
    obtain ⟨rfl, rfl⟩ := hV _ hok.1 hok.2
    clear hok hV ht hm hh hp hq h0 h1
    simp only [if_true] at hpr hrp
    generalize textS f h p pa q a = s at hpr hrp hU
    unfold Parses at hU
    unfold tgV at hpr hrp hU
    have HP := hide hpr
    have HR := hide hrp
    have HU := hide hU
    clear hpr hrp hU
    rcases hf with rfl | ⟨rfl, _⟩ | ⟨rfl, _⟩ | rfl
    · change Hid (∀ w : World, MX w → Calls Tryd.prog 9 #[.string ⟨#[71, 69, 84]⟩, .string s] w fun e w' => e = .returned (.tuple #[.agg #[.int .i64 1, .string h, .int .i64 p, .string pa, .string q, .bool a], .int .i64 0]) ∧ Below w.heap.size w w') at HU
      go_enter Tryd.func5, Tryd.ntmps5
      go_wp2_with fail
      have T0 := hide (One.start w #[.int .i64 1, .string h, .int .i64 p, .string pa, .string q, .bool a])
      generalize (w.alloc (.cells #[.int .i64 1, .string h, .int .i64 p, .string pa, .string q, .bool a] 23)) = x at T0 ⊢
      refine (HP.out _ (HT.out.below T0.out.b) (HM.out.below T0.out.b)).mono ?_
      rintro e w1 ⟨rfl, b1⟩
      have T1 := hide (T0.out.below b1)
      clear b1 T0
      have k0 : w1.cell? ⟨w.heap.size, 0, none⟩ = some (.int .i64 1) := T1.out.cell0 0
      have k1 : w1.cell? ⟨w.heap.size, 1, none⟩ = some (.string h) := T1.out.cell0 1
      have k2 : w1.cell? ⟨w.heap.size, 2, none⟩ = some (.int .i64 p) := T1.out.cell0 2
      have k3 : w1.cell? ⟨w.heap.size, 3, none⟩ = some (.string pa) := T1.out.cell0 3
      have k4 : w1.cell? ⟨w.heap.size, 4, none⟩ = some (.string q) := T1.out.cell0 4
      have k5 : w1.cell? ⟨w.heap.size, 5, none⟩ = some (.bool a) := T1.out.cell0 5
      go_wp2_with fail
      refine (HR.out _ (HT.out.below T1.out.b)).mono ?_
      rintro e w2 ⟨rfl, b2⟩
      have T2 := hide (T1.out.below b2)
      clear b2 T1 k0 k1 k2 k3 k4 k5
      have k0 : w2.cell? ⟨w.heap.size, 0, none⟩ = some (.int .i64 1) := T2.out.cell0 0
      have k1 : w2.cell? ⟨w.heap.size, 1, none⟩ = some (.string h) := T2.out.cell0 1
      have k2 : w2.cell? ⟨w.heap.size, 2, none⟩ = some (.int .i64 p) := T2.out.cell0 2
      have k3 : w2.cell? ⟨w.heap.size, 3, none⟩ = some (.string pa) := T2.out.cell0 3
      have k4 : w2.cell? ⟨w.heap.size, 4, none⟩ = some (.string q) := T2.out.cell0 4
      have k5 : w2.cell? ⟨w.heap.size, 5, none⟩ = some (.bool a) := T2.out.cell0 5
      go_wp2_with fail
      refine (HU.out _ (HM.out.below T2.out.b)).mono ?_
      rintro e w3 ⟨rfl, b3⟩
      have T3 := hide (T2.out.below b3)
      clear b3 T2 k0 k1 k2 k3 k4 k5
      go_upto_region 13 with fail
      have T4 := hide (T3.out.below ((Below.refl _ w3).alloc (Nat.le_refl _) (.cells #[.int .i64 1, .string h, .int .i64 p, .string pa, .string q, .bool a] 23)))
      have HD := hide (hp_new w3 (.cells #[.int .i64 1, .string h, .int .i64 p, .string pa, .string q, .bool a] 23))
      generalize w3.alloc (.cells #[.int .i64 1, .string h, .int .i64 p, .string pa, .string q, .bool a] 23) = w4 at T4 HD ⊢
      generalize w3.heap.size = b at HD ⊢
      clear T3
      have d0 : w4.cell? ⟨b, 0, none⟩ = some (.int .i64 1) := cell_at HD.out 0
      have d1 : w4.cell? ⟨b, 1, none⟩ = some (.string h) := cell_at HD.out 1
      have d2 : w4.cell? ⟨b, 2, none⟩ = some (.int .i64 p) := cell_at HD.out 2
      have d3 : w4.cell? ⟨b, 3, none⟩ = some (.string pa) := cell_at HD.out 3
      have d4 : w4.cell? ⟨b, 4, none⟩ = some (.string q) := cell_at HD.out 4
      have d5 : w4.cell? ⟨b, 5, none⟩ = some (.bool a) := cell_at HD.out 5
      have k0 : w4.cell? ⟨w.heap.size, 0, none⟩ = some (.int .i64 1) := T4.out.cell0 0
      have k1 : w4.cell? ⟨w.heap.size, 1, none⟩ = some (.string h) := T4.out.cell0 1
      have k2 : w4.cell? ⟨w.heap.size, 2, none⟩ = some (.int .i64 p) := T4.out.cell0 2
      have k3 : w4.cell? ⟨w.heap.size, 3, none⟩ = some (.string pa) := T4.out.cell0 3
      have k4 : w4.cell? ⟨w.heap.size, 4, none⟩ = some (.string q) := T4.out.cell0 4
      have k5 : w4.cell? ⟨w.heap.size, 5, none⟩ = some (.bool a) := T4.out.cell0 5
      go_wp2_with fail
      refine (speaks_any _ (HM.out.below T4.out.b)).mono ?_
      rintro e w5 ⟨rfl, b5⟩
      have T5 := hide (T4.out.below b5)
      clear b5 T4 k0 k1 k2 k3 k4 k5 d0 d1 d2 d3 d4 d5
      go_wp2
      go_ret
      exact ⟨rfl, T5.out.b⟩
    · change Hid (∀ w : World, MX w → Calls Tryd.prog 9 #[.string ⟨#[71, 69, 84]⟩, .string s] w fun e w' => e = .returned (.tuple #[.agg #[.int .i64 2, .string h, .int .i64 p, .string pa, .string q, .bool a], .int .i64 0]) ∧ Below w.heap.size w w') at HU
      go_enter Tryd.func5, Tryd.ntmps5
      go_wp2_with fail
      have T0 := hide (One.start w #[.int .i64 2, .string h, .int .i64 p, .string pa, .string q, .bool a])
      generalize (w.alloc (.cells #[.int .i64 2, .string h, .int .i64 p, .string pa, .string q, .bool a] 23)) = x at T0 ⊢
      refine (HP.out _ (HT.out.below T0.out.b) (HM.out.below T0.out.b)).mono ?_
      rintro e w1 ⟨rfl, b1⟩
      have T1 := hide (T0.out.below b1)
      clear b1 T0
      have k0 : w1.cell? ⟨w.heap.size, 0, none⟩ = some (.int .i64 2) := T1.out.cell0 0
      have k1 : w1.cell? ⟨w.heap.size, 1, none⟩ = some (.string h) := T1.out.cell0 1
      have k2 : w1.cell? ⟨w.heap.size, 2, none⟩ = some (.int .i64 p) := T1.out.cell0 2
      have k3 : w1.cell? ⟨w.heap.size, 3, none⟩ = some (.string pa) := T1.out.cell0 3
      have k4 : w1.cell? ⟨w.heap.size, 4, none⟩ = some (.string q) := T1.out.cell0 4
      have k5 : w1.cell? ⟨w.heap.size, 5, none⟩ = some (.bool a) := T1.out.cell0 5
      go_wp2_with fail
      refine (HR.out _ (HT.out.below T1.out.b)).mono ?_
      rintro e w2 ⟨rfl, b2⟩
      have T2 := hide (T1.out.below b2)
      clear b2 T1 k0 k1 k2 k3 k4 k5
      have k0 : w2.cell? ⟨w.heap.size, 0, none⟩ = some (.int .i64 2) := T2.out.cell0 0
      have k1 : w2.cell? ⟨w.heap.size, 1, none⟩ = some (.string h) := T2.out.cell0 1
      have k2 : w2.cell? ⟨w.heap.size, 2, none⟩ = some (.int .i64 p) := T2.out.cell0 2
      have k3 : w2.cell? ⟨w.heap.size, 3, none⟩ = some (.string pa) := T2.out.cell0 3
      have k4 : w2.cell? ⟨w.heap.size, 4, none⟩ = some (.string q) := T2.out.cell0 4
      have k5 : w2.cell? ⟨w.heap.size, 5, none⟩ = some (.bool a) := T2.out.cell0 5
      go_wp2_with fail
      refine (HU.out _ (HM.out.below T2.out.b)).mono ?_
      rintro e w3 ⟨rfl, b3⟩
      have T3 := hide (T2.out.below b3)
      clear b3 T2 k0 k1 k2 k3 k4 k5
      go_upto_region 13 with fail
      have T4 := hide (T3.out.below ((Below.refl _ w3).alloc (Nat.le_refl _) (.cells #[.int .i64 2, .string h, .int .i64 p, .string pa, .string q, .bool a] 23)))
      have HD := hide (hp_new w3 (.cells #[.int .i64 2, .string h, .int .i64 p, .string pa, .string q, .bool a] 23))
      generalize w3.alloc (.cells #[.int .i64 2, .string h, .int .i64 p, .string pa, .string q, .bool a] 23) = w4 at T4 HD ⊢
      generalize w3.heap.size = b at HD ⊢
      clear T3
      have d0 : w4.cell? ⟨b, 0, none⟩ = some (.int .i64 2) := cell_at HD.out 0
      have d1 : w4.cell? ⟨b, 1, none⟩ = some (.string h) := cell_at HD.out 1
      have d2 : w4.cell? ⟨b, 2, none⟩ = some (.int .i64 p) := cell_at HD.out 2
      have d3 : w4.cell? ⟨b, 3, none⟩ = some (.string pa) := cell_at HD.out 3
      have d4 : w4.cell? ⟨b, 4, none⟩ = some (.string q) := cell_at HD.out 4
      have d5 : w4.cell? ⟨b, 5, none⟩ = some (.bool a) := cell_at HD.out 5
      have k0 : w4.cell? ⟨w.heap.size, 0, none⟩ = some (.int .i64 2) := T4.out.cell0 0
      have k1 : w4.cell? ⟨w.heap.size, 1, none⟩ = some (.string h) := T4.out.cell0 1
      have k2 : w4.cell? ⟨w.heap.size, 2, none⟩ = some (.int .i64 p) := T4.out.cell0 2
      have k3 : w4.cell? ⟨w.heap.size, 3, none⟩ = some (.string pa) := T4.out.cell0 3
      have k4 : w4.cell? ⟨w.heap.size, 4, none⟩ = some (.string q) := T4.out.cell0 4
      have k5 : w4.cell? ⟨w.heap.size, 5, none⟩ = some (.bool a) := T4.out.cell0 5
      go_wp2_with fail
      refine (speaks_any _ (HM.out.below T4.out.b)).mono ?_
      rintro e w5 ⟨rfl, b5⟩
      have T5 := hide (T4.out.below b5)
      clear b5 T4 k0 k1 k2 k3 k4 k5 d0 d1 d2 d3 d4 d5
      go_wp2
      go_ret
      exact ⟨rfl, T5.out.b⟩
    · change Hid (∀ w : World, MX w → Calls Tryd.prog 9 #[.string ⟨#[67, 79, 78, 78, 69, 67, 84]⟩, .string s] w fun e w' => e = .returned (.tuple #[.agg #[.int .i64 3, .string h, .int .i64 p, .string pa, .string q, .bool a], .int .i64 0]) ∧ Below w.heap.size w w') at HU
      go_enter Tryd.func5, Tryd.ntmps5
      go_wp2_with fail
      have T0 := hide (One.start w #[.int .i64 3, .string h, .int .i64 p, .string pa, .string q, .bool a])
      generalize (w.alloc (.cells #[.int .i64 3, .string h, .int .i64 p, .string pa, .string q, .bool a] 23)) = x at T0 ⊢
      refine (HP.out _ (HT.out.below T0.out.b) (HM.out.below T0.out.b)).mono ?_
      rintro e w1 ⟨rfl, b1⟩
      have T1 := hide (T0.out.below b1)
      clear b1 T0
      have k0 : w1.cell? ⟨w.heap.size, 0, none⟩ = some (.int .i64 3) := T1.out.cell0 0
      have k1 : w1.cell? ⟨w.heap.size, 1, none⟩ = some (.string h) := T1.out.cell0 1
      have k2 : w1.cell? ⟨w.heap.size, 2, none⟩ = some (.int .i64 p) := T1.out.cell0 2
      have k3 : w1.cell? ⟨w.heap.size, 3, none⟩ = some (.string pa) := T1.out.cell0 3
      have k4 : w1.cell? ⟨w.heap.size, 4, none⟩ = some (.string q) := T1.out.cell0 4
      have k5 : w1.cell? ⟨w.heap.size, 5, none⟩ = some (.bool a) := T1.out.cell0 5
      go_wp2_with fail
      refine (HR.out _ (HT.out.below T1.out.b)).mono ?_
      rintro e w2 ⟨rfl, b2⟩
      have T2 := hide (T1.out.below b2)
      clear b2 T1 k0 k1 k2 k3 k4 k5
      have k0 : w2.cell? ⟨w.heap.size, 0, none⟩ = some (.int .i64 3) := T2.out.cell0 0
      have k1 : w2.cell? ⟨w.heap.size, 1, none⟩ = some (.string h) := T2.out.cell0 1
      have k2 : w2.cell? ⟨w.heap.size, 2, none⟩ = some (.int .i64 p) := T2.out.cell0 2
      have k3 : w2.cell? ⟨w.heap.size, 3, none⟩ = some (.string pa) := T2.out.cell0 3
      have k4 : w2.cell? ⟨w.heap.size, 4, none⟩ = some (.string q) := T2.out.cell0 4
      have k5 : w2.cell? ⟨w.heap.size, 5, none⟩ = some (.bool a) := T2.out.cell0 5
      go_wp2_with fail
      refine (HU.out _ (HM.out.below T2.out.b)).mono ?_
      rintro e w3 ⟨rfl, b3⟩
      have T3 := hide (T2.out.below b3)
      clear b3 T2 k0 k1 k2 k3 k4 k5
      go_upto_region 13 with fail
      have T4 := hide (T3.out.below ((Below.refl _ w3).alloc (Nat.le_refl _) (.cells #[.int .i64 3, .string h, .int .i64 p, .string pa, .string q, .bool a] 23)))
      have HD := hide (hp_new w3 (.cells #[.int .i64 3, .string h, .int .i64 p, .string pa, .string q, .bool a] 23))
      generalize w3.alloc (.cells #[.int .i64 3, .string h, .int .i64 p, .string pa, .string q, .bool a] 23) = w4 at T4 HD ⊢
      generalize w3.heap.size = b at HD ⊢
      clear T3
      have d0 : w4.cell? ⟨b, 0, none⟩ = some (.int .i64 3) := cell_at HD.out 0
      have d1 : w4.cell? ⟨b, 1, none⟩ = some (.string h) := cell_at HD.out 1
      have d2 : w4.cell? ⟨b, 2, none⟩ = some (.int .i64 p) := cell_at HD.out 2
      have d3 : w4.cell? ⟨b, 3, none⟩ = some (.string pa) := cell_at HD.out 3
      have d4 : w4.cell? ⟨b, 4, none⟩ = some (.string q) := cell_at HD.out 4
      have d5 : w4.cell? ⟨b, 5, none⟩ = some (.bool a) := cell_at HD.out 5
      have k0 : w4.cell? ⟨w.heap.size, 0, none⟩ = some (.int .i64 3) := T4.out.cell0 0
      have k1 : w4.cell? ⟨w.heap.size, 1, none⟩ = some (.string h) := T4.out.cell0 1
      have k2 : w4.cell? ⟨w.heap.size, 2, none⟩ = some (.int .i64 p) := T4.out.cell0 2
      have k3 : w4.cell? ⟨w.heap.size, 3, none⟩ = some (.string pa) := T4.out.cell0 3
      have k4 : w4.cell? ⟨w.heap.size, 4, none⟩ = some (.string q) := T4.out.cell0 4
      have k5 : w4.cell? ⟨w.heap.size, 5, none⟩ = some (.bool a) := T4.out.cell0 5
      go_wp2_with fail
      refine (speaks_any _ (HM.out.below T4.out.b)).mono ?_
      rintro e w5 ⟨rfl, b5⟩
      have T5 := hide (T4.out.below b5)
      clear b5 T4 k0 k1 k2 k3 k4 k5 d0 d1 d2 d3 d4 d5
      go_wp2
      go_ret
      exact ⟨rfl, T5.out.b⟩
    · change Hid (∀ w : World, MX w → Calls Tryd.prog 9 #[.string ⟨#[79, 80, 84, 73, 79, 78, 83]⟩, .string s] w fun e w' => e = .returned (.tuple #[.agg #[.int .i64 4, .string h, .int .i64 p, .string pa, .string q, .bool a], .int .i64 0]) ∧ Below w.heap.size w w') at HU
      go_enter Tryd.func5, Tryd.ntmps5
      go_wp2_with fail
      have T0 := hide (One.start w #[.int .i64 4, .string h, .int .i64 p, .string pa, .string q, .bool a])
      generalize (w.alloc (.cells #[.int .i64 4, .string h, .int .i64 p, .string pa, .string q, .bool a] 23)) = x at T0 ⊢
      refine (HP.out _ (HT.out.below T0.out.b) (HM.out.below T0.out.b)).mono ?_
      rintro e w1 ⟨rfl, b1⟩
      have T1 := hide (T0.out.below b1)
      clear b1 T0
      have k0 : w1.cell? ⟨w.heap.size, 0, none⟩ = some (.int .i64 4) := T1.out.cell0 0
      have k1 : w1.cell? ⟨w.heap.size, 1, none⟩ = some (.string h) := T1.out.cell0 1
      have k2 : w1.cell? ⟨w.heap.size, 2, none⟩ = some (.int .i64 p) := T1.out.cell0 2
      have k3 : w1.cell? ⟨w.heap.size, 3, none⟩ = some (.string pa) := T1.out.cell0 3
      have k4 : w1.cell? ⟨w.heap.size, 4, none⟩ = some (.string q) := T1.out.cell0 4
      have k5 : w1.cell? ⟨w.heap.size, 5, none⟩ = some (.bool a) := T1.out.cell0 5
      go_wp2_with fail
      refine (HR.out _ (HT.out.below T1.out.b)).mono ?_
      rintro e w2 ⟨rfl, b2⟩
      have T2 := hide (T1.out.below b2)
      clear b2 T1 k0 k1 k2 k3 k4 k5
      have k0 : w2.cell? ⟨w.heap.size, 0, none⟩ = some (.int .i64 4) := T2.out.cell0 0
      have k1 : w2.cell? ⟨w.heap.size, 1, none⟩ = some (.string h) := T2.out.cell0 1
      have k2 : w2.cell? ⟨w.heap.size, 2, none⟩ = some (.int .i64 p) := T2.out.cell0 2
      have k3 : w2.cell? ⟨w.heap.size, 3, none⟩ = some (.string pa) := T2.out.cell0 3
      have k4 : w2.cell? ⟨w.heap.size, 4, none⟩ = some (.string q) := T2.out.cell0 4
      have k5 : w2.cell? ⟨w.heap.size, 5, none⟩ = some (.bool a) := T2.out.cell0 5
      go_wp2_with fail
      refine (HU.out _ (HM.out.below T2.out.b)).mono ?_
      rintro e w3 ⟨rfl, b3⟩
      have T3 := hide (T2.out.below b3)
      clear b3 T2 k0 k1 k2 k3 k4 k5
      go_upto_region 13 with fail
      have T4 := hide (T3.out.below ((Below.refl _ w3).alloc (Nat.le_refl _) (.cells #[.int .i64 4, .string h, .int .i64 p, .string pa, .string q, .bool a] 23)))
      have HD := hide (hp_new w3 (.cells #[.int .i64 4, .string h, .int .i64 p, .string pa, .string q, .bool a] 23))
      generalize w3.alloc (.cells #[.int .i64 4, .string h, .int .i64 p, .string pa, .string q, .bool a] 23) = w4 at T4 HD ⊢
      generalize w3.heap.size = b at HD ⊢
      clear T3
      have d0 : w4.cell? ⟨b, 0, none⟩ = some (.int .i64 4) := cell_at HD.out 0
      have d1 : w4.cell? ⟨b, 1, none⟩ = some (.string h) := cell_at HD.out 1
      have d2 : w4.cell? ⟨b, 2, none⟩ = some (.int .i64 p) := cell_at HD.out 2
      have d3 : w4.cell? ⟨b, 3, none⟩ = some (.string pa) := cell_at HD.out 3
      have d4 : w4.cell? ⟨b, 4, none⟩ = some (.string q) := cell_at HD.out 4
      have d5 : w4.cell? ⟨b, 5, none⟩ = some (.bool a) := cell_at HD.out 5
      have k0 : w4.cell? ⟨w.heap.size, 0, none⟩ = some (.int .i64 4) := T4.out.cell0 0
      have k1 : w4.cell? ⟨w.heap.size, 1, none⟩ = some (.string h) := T4.out.cell0 1
      have k2 : w4.cell? ⟨w.heap.size, 2, none⟩ = some (.int .i64 p) := T4.out.cell0 2
      have k3 : w4.cell? ⟨w.heap.size, 3, none⟩ = some (.string pa) := T4.out.cell0 3
      have k4 : w4.cell? ⟨w.heap.size, 4, none⟩ = some (.string q) := T4.out.cell0 4
      have k5 : w4.cell? ⟨w.heap.size, 5, none⟩ = some (.bool a) := T4.out.cell0 5
      go_wp2_with fail
      refine (speaks_any _ (HM.out.below T4.out.b)).mono ?_
      rintro e w5 ⟨rfl, b5⟩
      have T5 := hide (T4.out.below b5)
      clear b5 T4 k0 k1 k2 k3 k4 k5 d0 d1 d2 d3 d4 d5
      go_wp2
      go_ret
      exact ⟨rfl, T5.out.b⟩
  · have hno : ¬ (Taken (askerS f) (rtextS f h p pa q a) (tgV f h p pa q a) ∧ (rtextS f h p pa q a).size ≤ 8192) := fun hk => hok (by rw [texts_same (taken_parts hk.1)]; exact hk)
    have hpr := fun W (hW : PT W) (hN : MX W) => print_any f p h pa q a W hh hp hq h0 h1 hW hN false (by simpa using hok)
    have hrp := fun W (hW : PT W) => rprint_any f p h pa q a W hh hp hq h0 h1 hW false (by simpa using hno)
    clear hok hno ht hm hh hp hq h0 h1
    simp only [Bool.false_eq_true, if_false] at hpr hrp
    unfold tgV at hpr hrp
    have HP := hide hpr
    have HR := hide hrp
    clear hpr hrp
    go_enter Tryd.func5, Tryd.ntmps5
    go_wp2_with fail
    have T0 := hide (One.start w #[.int .i64 f, .string h, .int .i64 p, .string pa, .string q, .bool a])
    generalize (w.alloc (.cells #[.int .i64 f, .string h, .int .i64 p, .string pa, .string q, .bool a] 23)) = x at T0 ⊢
    refine (HP.out _ (HT.out.below T0.out.b) (HM.out.below T0.out.b)).mono ?_
    rintro e w1 ⟨rfl, b1⟩
    have T1 := hide (T0.out.below b1)
    clear b1 T0
    have k0 : w1.cell? ⟨w.heap.size, 0, none⟩ = some (.int .i64 f) := T1.out.cell0 0
    have k1 : w1.cell? ⟨w.heap.size, 1, none⟩ = some (.string h) := T1.out.cell0 1
    have k2 : w1.cell? ⟨w.heap.size, 2, none⟩ = some (.int .i64 p) := T1.out.cell0 2
    have k3 : w1.cell? ⟨w.heap.size, 3, none⟩ = some (.string pa) := T1.out.cell0 3
    have k4 : w1.cell? ⟨w.heap.size, 4, none⟩ = some (.string q) := T1.out.cell0 4
    have k5 : w1.cell? ⟨w.heap.size, 5, none⟩ = some (.bool a) := T1.out.cell0 5
    go_wp2_with fail
    refine (HR.out _ (HT.out.below T1.out.b)).mono ?_
    rintro e w2 ⟨rfl, b2⟩
    have T2 := hide (T1.out.below b2)
    clear b2 T1 k0 k1 k2 k3 k4 k5
    have k0 : w2.cell? ⟨w.heap.size, 0, none⟩ = some (.int .i64 f) := T2.out.cell0 0
    have k1 : w2.cell? ⟨w.heap.size, 1, none⟩ = some (.string h) := T2.out.cell0 1
    have k2 : w2.cell? ⟨w.heap.size, 2, none⟩ = some (.int .i64 p) := T2.out.cell0 2
    have k3 : w2.cell? ⟨w.heap.size, 3, none⟩ = some (.string pa) := T2.out.cell0 3
    have k4 : w2.cell? ⟨w.heap.size, 4, none⟩ = some (.string q) := T2.out.cell0 4
    have k5 : w2.cell? ⟨w.heap.size, 5, none⟩ = some (.bool a) := T2.out.cell0 5
    go_wp2_with fail
    refine (speaks_any _ (HM.out.below T2.out.b)).mono ?_
    rintro e w5 ⟨rfl, b5⟩
    have T5 := hide (T2.out.below b5)
    clear b5 T2 k0 k1 k2 k3 k4 k5
    go_wp2
    go_ret
    exact ⟨rfl, T5.out.b⟩
end Go.Proofs.YtofifncflchpbaaDoor
