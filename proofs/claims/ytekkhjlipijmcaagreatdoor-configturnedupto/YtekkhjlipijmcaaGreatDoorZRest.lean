/- Whether a configuration is right beside its hosts and routes: the program's. -/
import Derived.Test.YtekkhjlipijmcaaGreatDoorZMatch
import Derived.Test.YtekkhjlipijmcaaGreatDoorZFits3
namespace Go.Proofs.YtekkhjlipijmcaaGreatDoor
open Go.ChangeShapes Go.WideShapes Go.ChangeAt Go.RowKit

def restB (pa : ByteArray) (c0 c1 c2 c3 c4 c5 c6 c7 c8 c9 c10 c11 c12 c13 c14 : Int) : Bool := fitK [c0, c1, c2, c3, c4, c5, c6, c7, c8, c9, c10, c11, c12, c13, c14] restFits_anyL 15 && (decide (c5 ≤ c6) && (placeB pa || (decide (pa.size = 0) && decide (c0 = 0))))
set_option maxHeartbeats 4000000 in
set_option maxRecDepth 100000 in
theorem rest_any (w : World) (a1 : Option Addr) (n1 k1 : Nat) (a2 : Option Addr) (n2 k2 : Nat) (pa : ByteArray) (c0 c1 c2 c3 c4 c5 c6 c7 c8 c9 c10 c11 c12 c13 c14 : Int) (hR : RG w 2 restFits_anyL) (hm : MX w) :
    Calls Tryz.prog 19 #[.agg #[.slice a1 n1 k1, .slice a2 n2 k2, .int .i64 c0, .int .i64 c1, .int .i64 c2, .int .i64 c3, .string pa, .int .i64 c4, .int .i64 c5, .int .i64 c6, .int .i64 c7, .int .i64 c8, .int .i64 c9, .int .i64 c10, .int .i64 c11, .int .i64 c12, .int .i64 c13, .int .i64 c14]] w fun e w' => e = .returned (.bool (restB pa c0 c1 c2 c3 c4 c5 c6 c7 c8 c9 c10 c11 c12 c13 c14)) ∧ Below w.heap.size w w' := by
  have HF := hide (fun W h => restFits_any W a1 n1 k1 a2 n2 k2 pa c0 c1 c2 c3 c4 c5 c6 c7 c8 c9 c10 c11 c12 c13 c14 h)
  have HP := hide (fun W h => place_any pa W h)
  have HR := hide hR
  have HM := hide hm
  obtain ⟨R, hR2⟩ : ∃ R, restB pa c0 c1 c2 c3 c4 c5 c6 c7 c8 c9 c10 c11 c12 c13 c14 = R := ⟨_, rfl⟩
  rw [hR2]
  have HV := hide hR2
  unfold restB at HV
  clear hR hm hR2
  generalize fitK [c0, c1, c2, c3, c4, c5, c6, c7, c8, c9, c10, c11, c12, c13, c14] restFits_anyL 15 = b1 at HF HV
  generalize placeB pa = b2 at HP HV
  go_enter Tryz.func19, Tryz.ntmps19
  go_wp2_with fail
  have T0 := hide (Bl.one w #[.slice a1 n1 k1, .slice a2 n2 k2, .int .i64 c0, .int .i64 c1, .int .i64 c2, .int .i64 c3, .string pa, .int .i64 c4, .int .i64 c5, .int .i64 c6, .int .i64 c7, .int .i64 c8, .int .i64 c9, .int .i64 c10, .int .i64 c11, .int .i64 c12, .int .i64 c13, .int .i64 c14] 25)
  generalize (w.alloc (.cells #[.slice a1 n1 k1, .slice a2 n2 k2, .int .i64 c0, .int .i64 c1, .int .i64 c2, .int .i64 c3, .string pa, .int .i64 c4, .int .i64 c5, .int .i64 c6, .int .i64 c7, .int .i64 c8, .int .i64 c9, .int .i64 c10, .int .i64 c11, .int .i64 c12, .int .i64 c13, .int .i64 c14] 25)) = x at T0 ⊢
  refine (HF.out _ (HR.out.below T0.out.b)).mono ?_
  rintro e w1 ⟨rfl, bb⟩
  have T1 := hide (T0.out.below bb)
  clear bb T0 HF
  cases b1
  · go_wp2
    go_ret
    exact ⟨ret_bool HV.out, T1.out.b⟩
  · skip
    have m2 : w1.cell? ⟨w.heap.size, 2, none⟩ = some (.int .i64 c0) := T1.out.cell 0 rfl 2
    have m6 : w1.cell? ⟨w.heap.size, 6, none⟩ = some (.string pa) := T1.out.cell 0 rfl 6
    have m8 : w1.cell? ⟨w.heap.size, 8, none⟩ = some (.int .i64 c5) := T1.out.cell 0 rfl 8
    have m9 : w1.cell? ⟨w.heap.size, 9, none⟩ = some (.int .i64 c6) := T1.out.cell 0 rfl 9
    by_cases h1 : c5 ≤ c6
    · have HD := hide (decide_eq_true h1)
      go_wp2_with fail
      refine (HP.out _ (HM.out.below T1.out.b)).mono ?_
      rintro e w2 ⟨rfl, bb⟩
      have T2 := hide (T1.out.below bb)
      clear bb T1 m2 m6 m8 m9 HP
      cases b2
      · skip
        have m2 : w2.cell? ⟨w.heap.size, 2, none⟩ = some (.int .i64 c0) := T2.out.cell 0 rfl 2
        have m6 : w2.cell? ⟨w.heap.size, 6, none⟩ = some (.string pa) := T2.out.cell 0 rfl 6
        by_cases h2 : pa.size = 0
        · have he : pa.toList.isEmpty = true := by rw [Lib.toList_data, isEmpty_size]; exact decide_eq_true h2
          have HE : Hid (R = (c0 == 0)) := hide (by rw [← HV.out, HD.out, decide_eq_true h2, Bool.eq_iff_iff]; simp)
          clear h2 HV
          go_wp2
          go_ret
          exact ⟨ret_bool HE.out.symm, T2.out.b⟩
        · have he : pa.toList.isEmpty = false := by rw [Lib.toList_data, isEmpty_size]; exact decide_eq_false h2
          have HE : Hid (R = false) := hide (by rw [← HV.out, HD.out, decide_eq_false h2]; rfl)
          clear h2 HV
          go_wp2
          go_ret
          exact ⟨ret_bool HE.out.symm, T2.out.b⟩
      · have HE : Hid (R = true) := hide (by rw [← HV.out, HD.out]; rfl)
        go_wp2
        go_ret
        exact ⟨ret_bool HE.out.symm, T2.out.b⟩
    · have HE : Hid (R = false) := hide (by rw [← HV.out, decide_eq_false h1]; rfl)
      go_wp2
      go_ret
      exact ⟨ret_bool HE.out.symm, T1.out.b⟩
end Go.Proofs.YtekkhjlipijmcaaGreatDoor
