/- Keep: the program's, the document's. -/
import Derived.Test.YtalihfohdejalaaDoorGPure
namespace Go.Proofs.YtalihfohdejalaaDoor
open Go.ChangeShapes Go.WideShapes Go.ChangeAt Go.RowKit

theorem keep_any (w : World) (r : Bool) (me ta : ByteArray) (mi st : Int) (re : ByteArray) (l : Value) (A : List (ByteArray × ByteArray)) (hA : Flds w l A) (hs : Sm A) :
    Calls Tryd.prog 9 #[.agg (hdC r me ta mi st re l)] w fun e w' => e = .returned (.bool (keepB A mi)) ∧ Below w.heap.size w w' := by
  have H1 := hide (fun W h => has_any W l A coS shutS h hs (by decide) (by decide))
  have H2 := hide (fun W h => has_any W l A coS kaS h hs (by decide) (by decide))
  have F0 := hide hA
  obtain ⟨a0, c0, rfl, _, _⟩ := hA
  unfold keepB hdC
  generalize hasB A coS shutS = b1 at H1 ⊢
  generalize hasB A coS kaS = b2 at H2 ⊢
  unfold coS shutS at H1
  unfold coS kaS at H2
  clear hs
  go_enter Tryd.func9, Tryd.ntmps9
  go_wp2_with fail
  have T0 := hide (Bl.one w #[.bool r, .string me, .string ta, .int .i64 mi, .int .i64 st, .string re, .slice a0 A.length c0] 24)
  generalize (w.alloc (.cells #[.bool r, .string me, .string ta, .int .i64 mi, .int .i64 st, .string re, .slice a0 A.length c0] 24)) = x at T0 ⊢
  refine (H1.out _ (F0.out.below T0.out.b)).mono ?_
  rintro e w1 ⟨rfl, bb⟩
  have T1 := hide (T0.out.below bb)
  have r3 : w1.cell? ⟨w.heap.size, 3, none⟩ = some (.int .i64 mi) := T1.out.cell 0 rfl 3
  have r6 : w1.cell? ⟨w.heap.size, 6, none⟩ = some (.slice a0 A.length c0) := T1.out.cell 0 rfl 6
  clear bb T0 H1
  cases b1
  · by_cases m0 : mi = 0
    · subst m0
      go_wp2_with fail
      refine (H2.out _ (F0.out.below T1.out.b)).mono ?_
      rintro e w2 ⟨rfl, bb⟩
      have T2 := hide (T1.out.below bb)
      clear bb T1
      go_wp2
      go_ret
      exact ⟨rfl, T2.out.b⟩
    · have t0 : (mi == 0) = false := beq_eq_false_iff_ne.2 m0
      by_cases m1 : mi = 1
      · subst m1
        clear m0 t0
        go_wp2
        go_ret
        exact ⟨rfl, T1.out.b⟩
      · have t1 : (mi == 1) = false := beq_eq_false_iff_ne.2 m1
        go_wp2
        go_ret
        exact ⟨rfl, T1.out.b⟩
  · go_wp2
    go_ret
    exact ⟨rfl, T1.out.b⟩
theorem rkeep_any (w : World) (r : Bool) (me ta : ByteArray) (mi st : Int) (re : ByteArray) (l : Value) (A : List (ByteArray × ByteArray)) (hA : Flds w l A) (hs : Sm A) :
    Calls Tryd.prog 10 #[.agg (hdC r me ta mi st re l)] w fun e w' => e = .returned (.bool (keepB A mi)) ∧ Below w.heap.size w w' := by
  have H1 := hide (fun W h => rhas_any W l A coS shutS h hs (by decide) (by decide))
  have H2 := hide (fun W h => rhas_any W l A coS kaS h hs (by decide) (by decide))
  have F0 := hide hA
  obtain ⟨a0, c0, rfl, _, _⟩ := hA
  unfold keepB hdC
  generalize hasB A coS shutS = b1 at H1 ⊢
  generalize hasB A coS kaS = b2 at H2 ⊢
  unfold coS shutS at H1
  unfold coS kaS at H2
  clear hs
  go_enter Tryd.func10, Tryd.ntmps10
  go_wp2_with fail
  have T0 := hide (Bl.one w #[.bool r, .string me, .string ta, .int .i64 mi, .int .i64 st, .string re, .slice a0 A.length c0] 24)
  generalize (w.alloc (.cells #[.bool r, .string me, .string ta, .int .i64 mi, .int .i64 st, .string re, .slice a0 A.length c0] 24)) = x at T0 ⊢
  refine (H1.out _ (F0.out.below T0.out.b)).mono ?_
  rintro e w1 ⟨rfl, bb⟩
  have T1 := hide (T0.out.below bb)
  have r3 : w1.cell? ⟨w.heap.size, 3, none⟩ = some (.int .i64 mi) := T1.out.cell 0 rfl 3
  have r6 : w1.cell? ⟨w.heap.size, 6, none⟩ = some (.slice a0 A.length c0) := T1.out.cell 0 rfl 6
  clear bb T0 H1
  by_cases m1 : mi = 1
  · subst m1
    cases b1
    all_goals
      go_wp2
      go_ret
      exact ⟨rfl, T1.out.b⟩
  · have t1 : (mi == 1) = false := beq_eq_false_iff_ne.2 m1
    by_cases m0 : mi = 0
    · subst m0
      clear m1 t1
      cases b1
      · go_wp2_with fail
        refine (H2.out _ (F0.out.below T1.out.b)).mono ?_
        rintro e w2 ⟨rfl, bb⟩
        have T2 := hide (T1.out.below bb)
        clear bb T1
        go_wp2
        go_ret
        exact ⟨rfl, T2.out.b⟩
      · go_wp2
        go_ret
        exact ⟨rfl, T1.out.b⟩
    · have t0 : (mi == 0) = false := beq_eq_false_iff_ne.2 m0
      cases b1
      · go_wp2
        go_ret
        exact ⟨rfl, T1.out.b⟩
      · go_wp2
        go_ret
        exact ⟨rfl, T1.out.b⟩
end Go.Proofs.YtalihfohdejalaaDoor
