/- A decoder: a trailer's line. -/
import Derived.Test.YtcagjipdldlehaaGreatDoorCPar
namespace Go.Proofs.YtcagjipdldlehaaGreatDoor
open Go.ChangeShapes Go.WideShapes Go.ChangeAt Go.RowKit

theorem emp_t {s : ByteArray} (h : s.size = 0) : s.toList.isEmpty = true := by rw [Lib.toList_data, isEmpty_size]; exact decide_eq_true h
theorem emp_f {s : ByteArray} (h : s.size ≠ 0) : s.toList.isEmpty = false := by rw [Lib.toList_data, isEmpty_size]; exact decide_eq_false h
set_option maxHeartbeats 4000000 in
theorem trailer_any {w : World} {base g : Nat} {lv fv : Value} {d : Dz} (h : Dec w base g lv fv d) (hm : MX w) (s : ByteArray) (hs : s.size ≤ 8192) (hl : d.tr.length ≤ 100) :
    Calls Tryz.prog 192 #[.pointer (some ⟨g, 0, none⟩), .string s] w fun e w' => e = .returned (.int .i64 ((dTrl d s).1 : Int)) ∧ ∃ fv', Dec w' base g lv fv' (dTrl d s).2 ∧ PK w w' g lv fv lv fv' := by
  obtain ⟨fa, fc, rfl, _, _⟩ := h.trs.shape
  have HP := hide h
  have HM := hide hm
  clear h hm
  unfold dTrl
  by_cases h0 : s.size = 0
  · have t0 := emp_t h0
    rw [if_pos h0]
    clear h0
    have c6 := HP.out.cell 6
    have f6 := HP.out.froz 6
    go_enter Tryz.func192, Tryz.ntmps192
    go_wp2_with fail
    go_ret
    exact ⟨rfl, _, HP.out.set 6 (.bool true) { d with whole := true } rfl rfl rfl, PK.set _ _ _ _ _ _⟩
  · rw [if_neg h0]
    have t0 := emp_f h0
    clear h0
    have HC := hide (pcut_any s 58 w (by omega) HM.out)
    have z1 : (k1 58 s).size ≤ 8192 := by have := k1_size 58 s; omega
    have z2 : (k2 58 s).size ≤ 8192 := by have := k2_size 58 s; omega
    have HCL := hide (fun W => clone_any (k1 58 s) W (by omega))
    have HT := hide (fun W => trim_any (k2 58 s) W (by omega))
    have z3 : (trimS (k2 58 s)).size ≤ 8192 := by have := trim_size (k2 58 s); omega
    have HK := hide (fun (W : World) (v : Value) (hF : Flds W v [(k1 58 s, trimS (k2 58 s))]) => Check_any W v _ hF ⟨by simp, fun f hf => by
      rw [List.mem_singleton.1 hf]
      exact ⟨Nat.le_trans z1 (by omega), Nat.le_trans z3 (by omega)⟩⟩)
    simp only [chk_one] at HK
    unfold fldF
    generalize trimS (k2 58 s) = va at HT HK z3 ⊢
    generalize k1 58 s = na at HC HCL HK z1 ⊢
    generalize k2 58 s = tx at HC HT z2
    generalize k3 58 s = o1 at HC ⊢
    generalize chkF (na, va) = ck at HK ⊢
    generalize hR0 : (if o1 = false ∨ d.tr.length = 100 ∨ ck ≠ 0 then ((100 : Nat), d) else (0, { d with tr := d.tr ++ [(na, va)] })) = R
    have HX := hide hR0
    clear hR0
    go_enter Tryz.func192, Tryz.ntmps192
    go_upto_region 5 with (go_at_call 53; refine HC.out.mono ?_; rintro e w1 ⟨rfl, b1⟩)
    have HP1 := hide (HP.out.below b1)
    have HK1 := hide (PK.of_below g lv (.slice fa d.tr.length fc) b1)
    clear b1 HP
    go_wp2_with fail
    refine (HCL.out w1).mono ?_
    rintro e w2 ⟨rfl, b2⟩
    have HP2 := hide (HP1.out.below b2)
    have HK2 := hide (HK1.out.trans (PK.of_below g lv (.slice fa d.tr.length fc) b2))
    clear b2 HP1 HK1
    go_wp2_with fail
    refine (HT.out w2).mono ?_
    rintro e w3 ⟨rfl, b3⟩
    have HP3 := hide (HP2.out.below b3)
    have HK3 := hide (HK2.out.trans (PK.of_below g lv (.slice fa d.tr.length fc) b3))
    clear b3 HP2 HK2
    go_upto_region 6 with fail
    have HB4 := hide ((Below.refl w3.heap.size w3).alloc (Nat.le_refl _) (.cells #[.string na, .string va] 48))
    have HD := hide (hp_new w3 (.cells #[.string na, .string va] 48))
    have HP4 := hide (HP3.out.below HB4.out)
    have HK4 := hide (HK3.out.trans (PK.of_below g lv (.slice fa d.tr.length fc) HB4.out))
    clear HB4 HP3 HK3
    generalize w3.alloc (.cells #[.string na, .string va] 48) = x at HD HP4 HK4 ⊢
    generalize w3.heap.size = bf at HD ⊢
    have c5 := HP4.out.cell 5
    rw [show (dcells d g lv (.slice fa d.tr.length fc))[5]? = some (.slice fa d.tr.length fc) from rfl] at c5
    have d0 : x.cell? ⟨bf, 0, none⟩ = some (.string na) := cell_at HD.out 0
    have d1 : x.cell? ⟨bf, 1, none⟩ = some (.string va) := cell_at HD.out 1
    cases o1 with
    | false =>
      go_wp2_with fail
      go_ret
      exact ⟨by rw [← HX.out]; rfl, _, by rw [← HX.out]; exact HP4.out, HK4.out⟩
    | true =>
      by_cases h4 : d.tr.length = 100
      · have t4 : ((d.tr.length : Int) == 100) = true := by simp [h4]
        have HX4 : Hid ((100, d) = R) := by (have e := HX.out; rw [if_pos (.inr (.inl h4))] at e; exact hide e)
        clear h4
        go_wp2_with fail
        go_ret
        exact ⟨by rw [← HX4.out]; rfl, _, by rw [← HX4.out]; exact HP4.out, HK4.out⟩
      · have t4 : ((d.tr.length : Int) == 100) = false := by simp; omega
        have HCK := hide (HK.out _ _ (flds_one x na va))
        have HBX := hide ((Below.refl x.heap.size x).alloc (Nat.le_refl _) (.cells #[.string na, .string va] 48))
        by_cases h3 : ck = 0
        · have HX4 : Hid ((0, { d with tr := d.tr ++ [(na, va)] }) = R) := by (have e := HX.out; rw [if_neg (by simp [h3, h4])] at e; exact hide e)
          subst h3
          clear h4 HX
          go_wp2_with fail
          refine HCK.out.mono ?_
          rintro e w5 ⟨rfl, b5⟩
          have HB5 := hide (HBX.out.trans (b5.mono HBX.out.size))
          have HD5 := hide ((HB5.out.block _ (lt_heap HD.out)).trans HD.out)
          have HP5 := hide (HP4.out.below HB5.out)
          have HK5 := hide (HK4.out.trans (PK.of_below g lv (.slice fa d.tr.length fc) HB5.out))
          clear b5 HB5 HBX d0 d1 HCK HD c5
          go_upto_region 8 with fail
          have c5 := HP5.out.cell 5
          have f5 := HP5.out.froz 5
          rw [show (dcells d g lv (.slice fa d.tr.length fc))[5]? = some (.slice fa d.tr.length fc) from rfl] at c5
          have d0 : w5.cell? ⟨bf, 0, none⟩ = some (.string na) := cell_at HD5.out 0
          have d1 : w5.cell? ⟨bf, 1, none⟩ = some (.string va) := cell_at HD5.out 1
          have BD := hide ((Below.refl w5.heap.size w5).drew)
          have HK6 := hide (HK5.out.trans (PK.of_below g lv (.slice fa d.tr.length fc) BD.out))
          obtain ⟨ad, n, c, W, hrun, q1, q2, hP, hK⟩ := (HP5.out.below BD.out).app_f 43 (na, va) hl
          have cA := ((HP5.out.below ((Below.refl w5.heap.size w5).alloc (Nat.le_refl _) (.cells #[.string na, .string va] 48))).cell 5)
          rw [show (dcells d g lv (.slice fa d.tr.length fc))[5]? = some (.slice fa d.tr.length fc) from rfl] at cA
          have HPW := hide hP
          have HKW := hide (HK6.out.trans hK)
          clear hP hK
          go_region_law (refine step_append_is rfl (.tmp 45) (.tmp 47) 43 rfl (.slice fa d.tr.length fc) (.slice (some ⟨w5.heap.size, 0, none⟩) 1 1) (.slice ad n c) (by simp [Act.eval]) (by simp [Act.eval]) hrun ?_)
          all_goals (go_wp2_with fail)
          all_goals go_ret
          all_goals exact ⟨by rw [← HX4.out]; rfl, _, by rw [← HX4.out]; exact HPW.out, HKW.out⟩
        · have t3 : ((ck : Int) != 0) = true := by rw [bne_iff_ne]; omega
          have HX3 : Hid ((100, d) = R) := by (have e := HX.out; rw [if_pos (.inr (.inr h3))] at e; exact hide e)
          clear h3 HX h4
          go_wp2_with fail
          refine HCK.out.mono ?_
          rintro e w5 ⟨rfl, b5⟩
          have HB5 := hide (HBX.out.trans (b5.mono HBX.out.size))
          clear b5
          go_wp2_with fail
          go_ret
          exact ⟨by rw [← HX3.out]; rfl, _, by rw [← HX3.out]; exact HP4.out.below HB5.out, HK4.out.trans (PK.of_below _ _ _ HB5.out)⟩
end Go.Proofs.YtcagjipdldlehaaGreatDoor
