/- Whether a route may ask for this: the program's. -/
import Derived.Test.YtekkhjlipijmcaaGreatDoorZNum
import Derived.Test.YtekkhjlipijmcaaGreatDoorZPlace
namespace Go.Proofs.YtekkhjlipijmcaaGreatDoor
open Go.ChangeShapes Go.WideShapes Go.ChangeAt Go.RowKit

def tokS (s : ByteArray) : Bool := tokenB s.data.toList
def askB (hd va : ByteArray) : Bool := if hd.size = 0 then decide (va.size = 0) else tokS hd && valueB va.data.toList
def matB (ho pf : ByteArray) (M : List ByteArray) (hd va : ByteArray) : Bool := decide (M.length ≤ 8) && (placeB pf && (patB ho && (M.all tokS && askB hd va)))
theorem allS_snocM {A : List ByteArray} {k : Nat} (p : ByteArray → Bool) (h : k < A.length) : (A.take (k + 1)).all p = ((A.take k).all p && p A[k]) := by
  rw [List.take_succ_eq_append_getElem h, List.all_append]; simp
theorem allS_noM {A : List ByteArray} {k : Nat} (p : ByteArray → Bool) (h : k < A.length) (hp : p A[k] = false) : A.all p = false := by
  rw [List.all_eq_false]
  exact ⟨A[k], List.getElem_mem h, by rw [hp]; decide⟩
set_option maxHeartbeats 4000000 in
set_option maxRecDepth 100000 in
theorem match_any (w : World) (ho pf : ByteArray) (ml : Value) (M : List ByteArray) (hd va : ByteArray) (hM : SRow w ml M) (hMs : ∀ x ∈ M, x.size ≤ 1048576) (hho : ho.size ≤ 1048576) (hhd : hd.size ≤ 1048576) (hva : va.size ≤ 1048576) (hm : MX w) :
    Calls Tryz.prog 29 #[.agg #[.string ho, .string pf, ml, .string hd, .string va]] w fun e w' => e = .returned (.bool (matB ho pf M hd va)) ∧ Below w.heap.size w w' := by
  have HP := hide (fun W h => place_any pf W h)
  have HQ := hide (fun W => pattern_any ho W (by omega))
  have HT := hide (fun W (x : ByteArray) (hx : x.size ≤ 1048576) => token_any x W (by unfold maxLen; omega))
  have HTh := hide (fun W => token_any hd W (by unfold maxLen; omega))
  have HVv := hide (fun W => value_any va W (by unfold maxLen; omega))
  have HM := hide hm
  have M0 := hide hM
  have MS := hide hMs
  obtain ⟨a1, c1, rfl, _⟩ := hM
  obtain ⟨R, hR⟩ : ∃ R, matB ho pf M hd va = R := ⟨_, rfl⟩
  rw [hR]
  have HV := hide hR
  unfold matB at HV
  clear hR hm hMs hho hhd hva
  generalize placeB pf = b1 at HP HV
  generalize patB ho = b2 at HQ HV
  by_cases h8 : 8 < M.length
  · have HD := hide (decide_eq_false (p := M.length ≤ 8) (by omega))
    go_enter Tryz.func29, Tryz.ntmps29
    go_wp2
    go_ret
    exact ⟨ret_bool (by rw [← HV.out, HD.out]; rfl), (Bl.one w _ _).b⟩
  · have HD := hide (decide_eq_true (p := M.length ≤ 8) (by omega))
    go_enter Tryz.func29, Tryz.ntmps29
    go_wp2_with fail
    have T0 := hide (Bl.one w #[.string ho, .string pf, .slice a1 M.length c1, .string hd, .string va] 37)
    generalize (w.alloc (.cells #[.string ho, .string pf, .slice a1 M.length c1, .string hd, .string va] 37)) = x at T0 ⊢
    refine (HP.out _ (HM.out.below T0.out.b)).mono ?_
    rintro e w1 ⟨rfl, bb⟩
    have T1 := hide (T0.out.below bb)
    clear bb T0 HP
    cases b1
    · go_wp2
      go_ret
      exact ⟨ret_bool (by rw [← HV.out, HD.out]; rfl), T1.out.b⟩
    · have m0 : w1.cell? ⟨w.heap.size, 0, none⟩ = some (.string ho) := T1.out.cell 0 rfl 0
      go_wp2_with fail
      refine (HQ.out _).mono ?_
      rintro e w2 ⟨rfl, bb⟩
      have T2 := hide (T1.out.below bb)
      clear bb m0 T1 HQ
      cases b2
      · go_wp2
        go_ret
        exact ⟨ret_bool (by rw [← HV.out, HD.out]; rfl), T2.out.b⟩
      · have m2 : w2.cell? ⟨w.heap.size, 2, none⟩ = some (.slice a1 M.length c1) := T2.out.cell 0 rfl 2
        have MR := hide (M0.out.below T2.out.b)
        go_wp2
        go_loop [24] (fun i => ∃ k : Nat, k ≤ M.length ∧ i = .int .i64 k ∧ Hid ((M.take k).all tokS = true)) (fun i => M.length - (intOf i).toNat)
        case atStart => exact ⟨0, Nat.zero_le _, rfl, hide rfl⟩
        case round =>
          obtain ⟨k, hk, rfl, H⟩ := hrel
          by_cases hlt : k < M.length
          · obtain ⟨a2, c2, he2, hcv⟩ := MR.out
            simp only [Value.slice.injEq, true_and] at he2
            obtain ⟨rfl, rfl⟩ := he2
            obtain ⟨g, o, rfl, hg, r1⟩ := hcv k hlt
            have HX := hide (HT.out w2 M[k] (MS.out _ (List.getElem_mem hlt)))
            have HS := hide (allS_snocM (A := M) tokS hlt)
            have HN := hide (allS_noM (A := M) tokS hlt)
            generalize M[k] = y at r1 HX HS HN
            have hty : tokenB y.data.toList = tokS y := rfl
            rw [hty] at HX
            generalize tokS y = bq at HX HS HN
            clear hcv hg hty
            cases bq
            · have HZ := hide (HN.out rfl)
              clear HS HN
              go_wp2_with fail
              refine HX.out.mono ?_
              rintro e w' ⟨rfl, rfl⟩
              go_wp2
              go_ret
              exact ⟨ret_bool (by rw [← HV.out, HD.out, HZ.out]; rfl), T2.out.b⟩
            · have HZ : Hid ((M.take (k + 1)).all tokS = true) := hide (by rw [HS.out, H.out]; rfl)
              clear HS HN
              go_wp2_with fail
              refine HX.out.mono ?_
              rintro e w' ⟨rfl, rfl⟩
              go_wp2
              exact ⟨⟨k + 1, by omega, by go_num, HZ⟩, by simp [intOf]; omega⟩
          · have HZ : Hid (M.all tokS = true) := hide (by have := H.out; rw [List.take_of_length_le (by omega)] at this; exact this)
            have m3 : w2.cell? ⟨w.heap.size, 3, none⟩ = some (.string hd) := T2.out.cell 0 rfl 3
            have m4 : w2.cell? ⟨w.heap.size, 4, none⟩ = some (.string va) := T2.out.cell 0 rfl 4
            have HA : Hid (R = askB hd va) := hide (by rw [← HV.out, HD.out, HZ.out]; rfl)
            unfold askB at HA
            clear HV HD
            by_cases h0 : hd.size = 0
            · have he : hd.toList.isEmpty = true := by rw [Lib.toList_data, isEmpty_size]; exact decide_eq_true h0
              have HE : Hid (va.toList.isEmpty = R) := hide (by rw [HA.out, if_pos h0, Lib.toList_data, isEmpty_size])
              clear h0 HA
              go_wp2
              go_ret
              exact ⟨ret_bool HE.out, T2.out.b⟩
            · have he : hd.toList.isEmpty = false := by rw [Lib.toList_data, isEmpty_size]; exact decide_eq_false h0
              have HE : Hid (R = (tokenB hd.data.toList && valueB va.data.toList)) := hide (by rw [HA.out, if_neg h0]; rfl)
              clear h0 HA
              generalize tokenB hd.data.toList = t1 at HTh HE
              generalize valueB va.data.toList = t2 at HVv HE
              go_wp2_with fail
              refine (HTh.out _).mono ?_
              rintro e w' ⟨rfl, rfl⟩
              cases t1
              · go_wp2
                go_ret
                exact ⟨ret_bool HE.out.symm, T2.out.b⟩
              · go_wp2_with fail
                refine (HVv.out _).mono ?_
                rintro e w3 ⟨rfl, bb⟩
                have T3 := hide (T2.out.below bb)
                clear bb
                go_wp2
                go_ret
                exact ⟨ret_bool HE.out.symm, T3.out.b⟩
end Go.Proofs.YtekkhjlipijmcaaGreatDoor
