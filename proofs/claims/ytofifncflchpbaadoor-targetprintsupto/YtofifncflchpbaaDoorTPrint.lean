/- Print: a target's text, where it is read as that target. -/
import Derived.Test.YtofifncflchpbaaDoorTText
import Derived.Test.YtofifncflchpbaaDoorTTaken
namespace Go.Proofs.YtofifncflchpbaaDoor
open Go.ChangeShapes Go.WideShapes Go.ChangeAt Go.RowKit

def textS (f : Int) (h : ByteArray) (p : Int) (pa q : ByteArray) (a : Bool) : ByteArray :=
  if f = 4 then ⟨#[42]⟩ else if f = 3 then ⟨(h.data.toList ++ (portS p).data.toList).toArray⟩ else if f = 2 then ⟨(absL h (if p = -1 then [] else (portS p).data.toList) pa q a).toArray⟩
  else if f = 1 then ⟨(pa.data.toList ++ askL q a).toArray⟩ else ⟨#[]⟩
def askerS (f : Int) : ByteArray := if f = 3 then ⟨#[67, 79, 78, 78, 69, 67, 84]⟩ else if f = 4 then ⟨#[79, 80, 84, 73, 79, 78, 83]⟩ else ⟨#[71, 69, 84]⟩
theorem text_any (f p : Int) (h pa q : ByteArray) (a : Bool) (w : World) (hh : h.size ≤ 1048576) (hp : pa.size ≤ 1048576) (hq : q.size ≤ 1048576) (h0 : -9223372036854775808 ≤ p) (h1 : p ≤ 9223372036854775807) (ht : PT w) :
    Calls Tryd.prog 29 #[.agg #[.int .i64 f, .string h, .int .i64 p, .string pa, .string q, .bool a]] w fun e w' => e = .returned (.string (textS f h p pa q a)) ∧ Below w.heap.size w w' := by
  unfold textS
  by_cases f4 : f = 4
  · subst f4; rw [if_pos rfl]; exact text_ast h pa q p a w
  · rw [if_neg f4]
    by_cases f3 : f = 3
    · subst f3; rw [if_pos rfl]; exact text_auth h pa q p a w hh h0 h1 ht
    · rw [if_neg f3]
      by_cases f2 : f = 2
      · subst f2; rw [if_pos rfl]
        by_cases hm : p = -1
        · subst hm; rw [if_pos rfl]; exact text_abs0 h pa q a w hh hp hq
        · rw [if_neg hm]; exact text_abs1 h pa q p a w hh hp hq hm h0 h1 ht
      · rw [if_neg f2]
        by_cases f1 : f = 1
        · subst f1; rw [if_pos rfl]; exact text_origin h pa q p a w hp hq
        · rw [if_neg f1]; exact text_none f p h pa q a w f1 f2 f3 f4
theorem tshape {m s : ByteArray} {t : Value} (h : Taken m s t) : ∃ (f : Int) (h : ByteArray) (p : Int) (pa q : ByteArray) (a : Bool), t = tgV f h p pa q a := by
  cases h <;> exact ⟨_, _, _, _, _, _, rfl⟩
theorem eq_of_lists {a b : ByteArray} (h : a.toList = b.toList) : a = b := by
  have := bytes_eq a b
  rw [beq_iff_eq.2 h] at this
  exact of_decide_eq_true this.symm
set_option maxHeartbeats 2000000 in
theorem print_any (f p : Int) (h pa q : ByteArray) (a : Bool) (w : World) (hh : h.size ≤ 1048576) (hp : pa.size ≤ 1048576) (hq : q.size ≤ 1048576) (h0 : -9223372036854775808 ≤ p) (h1 : p ≤ 9223372036854775807) (ht : PT w) (hm : MX w) (ok : Bool)
    (hok : ok = true ↔ Taken (askerS f) (textS f h p pa q a) (tgV f h p pa q a) ∧ (textS f h p pa q a).size ≤ 8192) :
    Calls Tryd.prog 14 #[tgV f h p pa q a] w fun e w' => e = .returned (.tuple #[.string (if ok then textS f h p pa q a else ⟨#[]⟩), .int .i64 (if ok then 0 else 60)]) ∧ Below w.heap.size w w' := by
  have HX := hide (fun W (hW : PT W) => text_any f p h pa q a W hh hp hq h0 h1 hW)
  have HA := hide (fun W => asker_any f W)
  change Hid (∀ W, Calls Tryd.prog 30 #[.int .i64 f] W fun e w' => e = .returned (.string (askerS f)) ∧ Below W.heap.size W w') at HA
  obtain ⟨t, re, hP, hT, hZ, hU⟩ := parse_total (askerS f) (textS f h p pa q a)
  generalize askerS f = m at HA hok hP hT hU
  generalize textS f h p pa q a = s at HX hok hP hT hU ⊢
  have HT := hide ht
  have HM := hide hm
  clear hh hp hq h0 h1 ht hm
  have hshape : ∃ (f : Int) (h : ByteArray) (p : Int) (pa q : ByteArray) (a : Bool), t = tgV f h p pa q a := by
    by_cases hr : re = 0
    · exact tshape (hT hr).1
    · exact ⟨_, _, _, _, _, _, hZ hr⟩
  clear hZ
  obtain ⟨f', h', p', pa', q', a', rfl⟩ := hshape
  have HP := hide hP
  clear hP
  unfold tgV at HP ⊢
  by_cases hr : re = 0
  · subst hr
    by_cases he : tgV f h p pa q a = tgV f' h' p' pa' q' a'
    · have ho : ok = true := hok.2 (by rw [he]; exact hT rfl)
      subst ho
      unfold tgV at he
      simp only [Value.agg.injEq, Array.mk.injEq, List.cons.injEq, Value.int.injEq, Value.string.injEq, Value.bool.injEq, true_and, and_true] at he
      obtain ⟨rfl, rfl, rfl, rfl, rfl, rfl⟩ := he
      clear hok hU hT
      go_enter Tryd.func14, Tryd.ntmps14
      go_wp2_with fail
      have T0 := hide (One.start w #[.int .i64 f, .string h, .int .i64 p, .string pa, .string q, .bool a])
      generalize (w.alloc (.cells #[.int .i64 f, .string h, .int .i64 p, .string pa, .string q, .bool a] 23)) = x at T0 ⊢
      refine (HX.out _ (HT.out.below T0.out.b)).mono ?_
      rintro e w1 ⟨rfl, b1⟩
      have T1 := hide (T0.out.below b1)
      clear b1 T0
      have r0 : w1.cell? ⟨w.heap.size, 0, none⟩ = some (.int .i64 f) := T1.out.cell0 0
      go_wp2_with fail
      refine (HA.out _).mono ?_
      rintro e w2 ⟨rfl, b2⟩
      have T2 := hide (T1.out.below b2)
      clear b2 T1 r0
      go_wp2_with fail
      refine (HP.out _ (HM.out.below T2.out.b)).mono ?_
      rintro e w3 ⟨rfl, b3⟩
      have T3 := hide (T2.out.below b3)
      clear b3 T2
      go_upto_region 3 with fail
      have T4 := hide (T3.out.below ((Below.refl _ w3).alloc (Nat.le_refl _) (.cells #[.int .i64 f, .string h, .int .i64 p, .string pa, .string q, .bool a] 23)))
      have HD := hide (hp_new w3 (.cells #[.int .i64 f, .string h, .int .i64 p, .string pa, .string q, .bool a] 23))
      generalize w3.alloc (.cells #[.int .i64 f, .string h, .int .i64 p, .string pa, .string q, .bool a] 23) = w4 at T4 HD ⊢
      generalize w3.heap.size = b at HD ⊢
      clear T3
      have d0 : w4.cell? ⟨b, 0, none⟩ = some (.int .i64 f) := cell_at HD.out 0
      have k0 : w4.cell? ⟨w.heap.size, 0, none⟩ = some (.int .i64 f) := T4.out.cell0 0
      have d1 : w4.cell? ⟨b, 1, none⟩ = some (.string h) := cell_at HD.out 1
      have k1 : w4.cell? ⟨w.heap.size, 1, none⟩ = some (.string h) := T4.out.cell0 1
      have d2 : w4.cell? ⟨b, 2, none⟩ = some (.int .i64 p) := cell_at HD.out 2
      have k2 : w4.cell? ⟨w.heap.size, 2, none⟩ = some (.int .i64 p) := T4.out.cell0 2
      have d3 : w4.cell? ⟨b, 3, none⟩ = some (.string pa) := cell_at HD.out 3
      have k3 : w4.cell? ⟨w.heap.size, 3, none⟩ = some (.string pa) := T4.out.cell0 3
      have d4 : w4.cell? ⟨b, 4, none⟩ = some (.string q) := cell_at HD.out 4
      have k4 : w4.cell? ⟨w.heap.size, 4, none⟩ = some (.string q) := T4.out.cell0 4
      have d5 : w4.cell? ⟨b, 5, none⟩ = some (.bool a) := cell_at HD.out 5
      have k5 : w4.cell? ⟨w.heap.size, 5, none⟩ = some (.bool a) := T4.out.cell0 5
      go_wp2
      go_ret2
      exact ⟨rfl, T4.out.b⟩
    · have ho : ok = false := by
        cases ok with
        | false => rfl
        | true =>
          obtain ⟨a1, a2⟩ := hok.1 rfl
          exact absurd (hU _ a1 a2).2.symm he
      subst ho
      clear hok hU hT
      have HE := hide he
      clear he
      go_enter Tryd.func14, Tryd.ntmps14
      go_wp2_with fail
      have T0 := hide (One.start w #[.int .i64 f, .string h, .int .i64 p, .string pa, .string q, .bool a])
      generalize (w.alloc (.cells #[.int .i64 f, .string h, .int .i64 p, .string pa, .string q, .bool a] 23)) = x at T0 ⊢
      refine (HX.out _ (HT.out.below T0.out.b)).mono ?_
      rintro e w1 ⟨rfl, b1⟩
      have T1 := hide (T0.out.below b1)
      clear b1 T0
      have r0 : w1.cell? ⟨w.heap.size, 0, none⟩ = some (.int .i64 f) := T1.out.cell0 0
      go_wp2_with fail
      refine (HA.out _).mono ?_
      rintro e w2 ⟨rfl, b2⟩
      have T2 := hide (T1.out.below b2)
      clear b2 T1 r0
      go_wp2_with fail
      refine (HP.out _ (HM.out.below T2.out.b)).mono ?_
      rintro e w3 ⟨rfl, b3⟩
      have T3 := hide (T2.out.below b3)
      clear b3 T2
      go_upto_region 3 with fail
      have T4 := hide (T3.out.below ((Below.refl _ w3).alloc (Nat.le_refl _) (.cells #[.int .i64 f', .string h', .int .i64 p', .string pa', .string q', .bool a'] 23)))
      have HD := hide (hp_new w3 (.cells #[.int .i64 f', .string h', .int .i64 p', .string pa', .string q', .bool a'] 23))
      generalize w3.alloc (.cells #[.int .i64 f', .string h', .int .i64 p', .string pa', .string q', .bool a'] 23) = w4 at T4 HD ⊢
      generalize w3.heap.size = b at HD ⊢
      clear T3
      have d0 : w4.cell? ⟨b, 0, none⟩ = some (.int .i64 f') := cell_at HD.out 0
      have k0 : w4.cell? ⟨w.heap.size, 0, none⟩ = some (.int .i64 f) := T4.out.cell0 0
      have d1 : w4.cell? ⟨b, 1, none⟩ = some (.string h') := cell_at HD.out 1
      have k1 : w4.cell? ⟨w.heap.size, 1, none⟩ = some (.string h) := T4.out.cell0 1
      have d2 : w4.cell? ⟨b, 2, none⟩ = some (.int .i64 p') := cell_at HD.out 2
      have k2 : w4.cell? ⟨w.heap.size, 2, none⟩ = some (.int .i64 p) := T4.out.cell0 2
      have d3 : w4.cell? ⟨b, 3, none⟩ = some (.string pa') := cell_at HD.out 3
      have k3 : w4.cell? ⟨w.heap.size, 3, none⟩ = some (.string pa) := T4.out.cell0 3
      have d4 : w4.cell? ⟨b, 4, none⟩ = some (.string q') := cell_at HD.out 4
      have k4 : w4.cell? ⟨w.heap.size, 4, none⟩ = some (.string q) := T4.out.cell0 4
      have d5 : w4.cell? ⟨b, 5, none⟩ = some (.bool a') := cell_at HD.out 5
      have k5 : w4.cell? ⟨w.heap.size, 5, none⟩ = some (.bool a) := T4.out.cell0 5
      go_wp2
      all_goals first | (go_ret2; exact ⟨rfl, T4.out.b⟩) | skip
      rename_i e1 e2 e3 e4 e5 e6
      exact absurd (by rw [e1, eq_of_lists e2, e3, eq_of_lists e4, eq_of_lists e5, e6]) HE.out
  · have tr : (re != 0) = true := bne_iff_ne.2 hr
    have ho : ok = false := by
      cases ok with
      | false => rfl
      | true =>
        obtain ⟨a1, a2⟩ := hok.1 rfl
        exact absurd (hU _ a1 a2).1 hr
    subst ho
    clear hok hU hT hr
    go_enter Tryd.func14, Tryd.ntmps14
    go_wp2_with fail
    have T0 := hide (One.start w #[.int .i64 f, .string h, .int .i64 p, .string pa, .string q, .bool a])
    generalize (w.alloc (.cells #[.int .i64 f, .string h, .int .i64 p, .string pa, .string q, .bool a] 23)) = x at T0 ⊢
    refine (HX.out _ (HT.out.below T0.out.b)).mono ?_
    rintro e w1 ⟨rfl, b1⟩
    have T1 := hide (T0.out.below b1)
    clear b1 T0
    have r0 : w1.cell? ⟨w.heap.size, 0, none⟩ = some (.int .i64 f) := T1.out.cell0 0
    go_wp2_with fail
    refine (HA.out _).mono ?_
    rintro e w2 ⟨rfl, b2⟩
    have T2 := hide (T1.out.below b2)
    clear b2 T1 r0
    go_wp2_with fail
    refine (HP.out _ (HM.out.below T2.out.b)).mono ?_
    rintro e w3 ⟨rfl, b3⟩
    have T3 := hide (T2.out.below b3)
    clear b3 T2
    go_upto_region 3 with fail
    have T4 := hide (T3.out.below ((Below.refl _ w3).alloc (Nat.le_refl _) (.cells #[.int .i64 f', .string h', .int .i64 p', .string pa', .string q', .bool a'] 23)))
    have HD := hide (hp_new w3 (.cells #[.int .i64 f', .string h', .int .i64 p', .string pa', .string q', .bool a'] 23))
    generalize w3.alloc (.cells #[.int .i64 f', .string h', .int .i64 p', .string pa', .string q', .bool a'] 23) = w4 at T4 HD ⊢
    generalize w3.heap.size = b at HD ⊢
    clear T3
    have d0 : w4.cell? ⟨b, 0, none⟩ = some (.int .i64 f') := cell_at HD.out 0
    have k0 : w4.cell? ⟨w.heap.size, 0, none⟩ = some (.int .i64 f) := T4.out.cell0 0
    have d1 : w4.cell? ⟨b, 1, none⟩ = some (.string h') := cell_at HD.out 1
    have k1 : w4.cell? ⟨w.heap.size, 1, none⟩ = some (.string h) := T4.out.cell0 1
    have d2 : w4.cell? ⟨b, 2, none⟩ = some (.int .i64 p') := cell_at HD.out 2
    have k2 : w4.cell? ⟨w.heap.size, 2, none⟩ = some (.int .i64 p) := T4.out.cell0 2
    have d3 : w4.cell? ⟨b, 3, none⟩ = some (.string pa') := cell_at HD.out 3
    have k3 : w4.cell? ⟨w.heap.size, 3, none⟩ = some (.string pa) := T4.out.cell0 3
    have d4 : w4.cell? ⟨b, 4, none⟩ = some (.string q') := cell_at HD.out 4
    have k4 : w4.cell? ⟨w.heap.size, 4, none⟩ = some (.string q) := T4.out.cell0 4
    have d5 : w4.cell? ⟨b, 5, none⟩ = some (.bool a') := cell_at HD.out 5
    have k5 : w4.cell? ⟨w.heap.size, 5, none⟩ = some (.bool a) := T4.out.cell0 5
    go_wp2
    go_ret2
    exact ⟨rfl, T4.out.b⟩
end Go.Proofs.YtofifncflchpbaaDoor
