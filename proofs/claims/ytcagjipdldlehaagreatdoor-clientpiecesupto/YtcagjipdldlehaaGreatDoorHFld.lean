/- A field's line: what the parser makes of it. -/
import Derived.Test.YtcagjipdldlehaaGreatDoorHRes
import Derived.Test.YtcagjipdldlehaaGreatDoorLibB
import Derived.Test.YtcagjipdldlehaaGreatDoorHApp
import Derived.Deep.RegionLaw
namespace Go.Proofs.YtcagjipdldlehaaGreatDoor
open Go.ChangeShapes Go.WideShapes Go.ChangeAt Go.RowKit

def rtrimS (s : ByteArray) : ByteArray := ⟨(rtrim s.data.toList).toArray⟩
theorem trimr_any (s : ByteArray) (w : World) (hs : s.size ≤ maxLen) :
    Calls Tryz.prog 123 #[.string s, .string ⟨#[9, 32]⟩] w fun e w' => e = .returned (.string (rtrimS s)) ∧ Below w.heap.size w w' := by
  have e : rtrimS s = ⟨(Lib.trimRightS s.data.toList [9, 32]).toArray⟩ := by
    unfold rtrimS rtrim Lib.trimRightS
    rw [show (fun c : UInt8 => [9, 32].contains c) = blankc from funext blankc_contains]
  rw [e]
  exact Any.strings_TrimRight_laid Tryz.lays162 (by kernel_rfl) s ⟨#[9, 32]⟩ w hs (by decide) (ascii_of_all (by decide))
/-- The field that a line says. -/
def fldFh (s : ByteArray) : ByteArray × ByteArray := (k1 58 s, trimS (k2 58 s))
def pFld (p : Pz) (s : ByteArray) : Nat × Pz :=
  if s.size = 0 then (0, { p with whole := true })
  else if blankc (s.data.toList.headD 0) then (82, p)
  else if k3 58 s = false then (84, p)
  else if rtrimS (k1 58 s) ≠ k1 58 s then (83, p)
  else if chkF (fldFh s) ≠ 0 then (chkF (fldFh s), p)
  else if p.fs.length = 100 then (85, p)
  else (0, { p with fs := p.fs ++ [fldFh s] })
theorem flds_oneh (w : World) (a b : ByteArray) : Flds (w.alloc (.cells #[.string a, .string b] 48)) (.slice (some ⟨w.heap.size, 0, none⟩) 1 1) [(a, b)] := by
  refine ⟨some ⟨w.heap.size, 0, none⟩, 1, rfl, ⟨Nat.le_refl _, by simp⟩, fun j hj => ?_⟩
  have hj0 : j = 0 := by simp at hj; exact hj
  subst hj0
  exact ⟨w.heap.size, 0, rfl, by show _ < (w.heap.push _).size; simp, cell_at (hp_new w _) 0, cell_at (hp_new w _) 1⟩
theorem chk_oneh (f : ByteArray × ByteArray) : chkL [f] = chkF f := by
  unfold chkL chkA
  by_cases h : chkF f = 0
  · simp [h]
  · simp [h]
theorem head_at (s : ByteArray) (h : 0 < s.size) : s.data.toList.headD 0 = s[0] := by rw [head_list s h]; rfl
set_option maxHeartbeats 4000000 in
theorem fieldLine_any {w : World} {base g : Nat} {lv fv : Value} {p : Pz} (h : Par w base g lv fv p) (hm : MX w) (s : ByteArray) (hs : s.size ≤ 65536) (hl : p.fs.length ≤ 100) :
    Calls Tryz.prog 84 #[.pointer (some ⟨g, 0, none⟩), .string s] w fun e w' => e = .returned (errV (pFld p s).1) ∧ ∃ fv', Par w' base g lv fv' (pFld p s).2 ∧ PKh w w' g lv fv lv fv' := by
  obtain ⟨fa, fc, rfl, _, _⟩ := h.flds.shape
  have HP := hide h
  have HM := hide hm
  clear h hm
  unfold pFld
  by_cases h0 : s.size = 0
  · have t0 := emp_th h0
    rw [if_pos h0]
    clear h0
    have c13 := HP.out.cell 13
    have f13 := HP.out.froz 13
    go_enter Tryz.func84, Tryz.ntmps84
    go_wp2_with fail
    go_ret
    exact ⟨rfl, _, HP.out.set 13 (.bool true) { p with whole := true } rfl rfl rfl, PKh.set _ _ _ _ _ _⟩
  · rw [if_neg h0]
    have t0 := emp_fh h0
    have hp0 : 0 < s.size := by omega
    rw [head_at s hp0]
    clear h0
    have HI := hide (indexByte_mem [9, 32] s[0])
    rw [blankc_contains] at HI
    have HC := hide (pcut_any s 58 w hs HM.out)
    have z1 : (k1 58 s).size ≤ 65536 := by have := k1_size 58 s; omega
    have z2 : (k2 58 s).size ≤ 65536 := by have := k2_size 58 s; omega
    have HR := hide (fun W => trimr_any (k1 58 s) W (by unfold maxLen; omega))
    have HT := hide (fun W => trim_any (k2 58 s) W (by omega))
    have z3 : (trimS (k2 58 s)).size ≤ 65536 := by have := trim_size (k2 58 s); omega
    have HK := hide (fun (W : World) (v : Value) (hF : Flds W v [(k1 58 s, trimS (k2 58 s))]) => Check_any W v _ hF ⟨by simp, fun f hf => by
      rw [List.mem_singleton.1 hf]
      exact ⟨Nat.le_trans z1 (by omega), Nat.le_trans z3 (by omega)⟩⟩)
    simp only [chk_oneh] at HK
    unfold fldFh
    generalize trimS (k2 58 s) = va at HT HK z3 ⊢
    generalize rtrimS (k1 58 s) = rn at HR ⊢
    generalize k1 58 s = na at HC HR HK z1 ⊢
    generalize k2 58 s = tx at HC HT z2
    generalize k3 58 s = o1 at HC ⊢
    generalize chkF (na, va) = ck at HK ⊢
    generalize blankc s[0] = bb at HI ⊢
    generalize hR0 : (if bb = true then ((82 : Nat), p) else if o1 = false then (84, p) else if rn ≠ na then (83, p) else if ck ≠ 0 then (ck, p) else if p.fs.length = 100 then (85, p) else (0, { p with fs := p.fs ++ [(na, va)] })) = R
    have HX := hide hR0
    clear hR0
    go_enter Tryz.func84, Tryz.ntmps84
    go_upto_region 5 with (go_at_call 53; refine HC.out.mono ?_; rintro e w1 ⟨rfl, b1⟩)
    have HP1 := hide (HP.out.below b1)
    have HK1 := hide (PKh.of_below g lv (.slice fa p.fs.length fc) b1)
    clear b1
    cases bb with
    | true =>
      have t1 : 0 ≤ Lib.indexByte [9, 32] s[0] := of_decide_eq_true HI.out
      go_wp2_with (go_at_call 122; refine (Tryz.strings_IndexByte _ _ _).mono ?_; rintro e w' ⟨rfl, rfl⟩)
      go_ret
      exact ⟨by rw [← HX.out]; rfl, _, by rw [← HX.out]; exact HP1.out, HK1.out⟩
    | false =>
      have t1 : ¬ 0 ≤ Lib.indexByte [9, 32] s[0] := of_decide_eq_false HI.out
      cases o1 with
      | false =>
        go_wp2_with (go_at_call 122; refine (Tryz.strings_IndexByte _ _ _).mono ?_; rintro e w' ⟨rfl, rfl⟩)
        go_ret
        exact ⟨by rw [← HX.out]; rfl, _, by rw [← HX.out]; exact HP1.out, HK1.out⟩
      | true =>
        go_upto_region 9 with (go_at_call 122; refine (Tryz.strings_IndexByte _ _ _).mono ?_; rintro e w' ⟨rfl, rfl⟩)
        by_cases h2 : rn = na
        · have t2 : (rn.toList == na.toList) = true := by rw [bytes_eq]; exact decide_eq_true h2
          have HX2 : Hid ((if ck ≠ 0 then (ck, p) else if p.fs.length = 100 then (85, p) else (0, { p with fs := p.fs ++ [(na, va)] })) = R) := by (have e := HX.out; rw [if_neg (by simp), if_neg (by simp), if_neg (by simp [h2])] at e; exact hide e)
          clear h2 HX
          go_upto_region 11 with (go_at_call 123; refine (HR.out _).mono ?_; rintro e w2 ⟨rfl, b2⟩)
          have HP2 := hide (HP1.out.below b2)
          have HK2 := hide (HK1.out.trans (PKh.of_below g lv (.slice fa p.fs.length fc) b2))
          clear b2
          go_upto_region 12 with (go_at_call 81; refine (HT.out _).mono ?_; rintro e w3 ⟨rfl, b3⟩)
          have HB4 := hide (b3.trans (((Below.refl w3.heap.size w3).alloc (Nat.le_refl _) (.cells #[.string na, .string va] 48)).mono b3.size))
          have HD := hide (hp_new w3 (.cells #[.string na, .string va] 48))
          have HP4 := hide (HP2.out.below HB4.out)
          have HK4 := hide (HK2.out.trans (PKh.of_below g lv (.slice fa p.fs.length fc) HB4.out))
          clear b3 HB4
          generalize w3.alloc (.cells #[.string na, .string va] 48) = x at HD HP4 HK4 ⊢
          generalize w3.heap.size = bf at HD ⊢
          have d0 : x.cell? ⟨bf, 0, none⟩ = some (.string na) := cell_at HD.out 0
          have d1 : x.cell? ⟨bf, 1, none⟩ = some (.string va) := cell_at HD.out 1
          have HCK := hide (HK.out _ _ (flds_oneh x na va))
          have HBX := hide ((Below.refl x.heap.size x).alloc (Nat.le_refl _) (.cells #[.string na, .string va] 48))
          go_upto_region 13 with (go_at_call 124; refine HCK.out.mono ?_; rintro e w5 ⟨rfl, b5⟩)
          have HB5 := hide (HBX.out.trans (b5.mono HBX.out.size))
          have HD5 := hide ((HB5.out.block _ (lt_heap HD.out)).trans HD.out)
          have HP5 := hide (HP4.out.below HB5.out)
          have HK5 := hide (HK4.out.trans (PKh.of_below g lv (.slice fa p.fs.length fc) HB5.out))
          clear b5 HB5 HBX d0 d1 HCK HD
          by_cases h3 : ck = 0
          · have HX3 : Hid ((if p.fs.length = 100 then (85, p) else (0, { p with fs := p.fs ++ [(na, va)] })) = R) := by (have e := HX2.out; rw [if_neg (by simp [h3])] at e; exact hide e)
            subst h3
            clear HX2
            have c12 := HP5.out.cell 12
            have f12 := HP5.out.froz 12
            rw [show (pcells p g lv (.slice fa p.fs.length fc))[12]? = some (.slice fa p.fs.length fc) from rfl] at c12
            by_cases h4 : p.fs.length = 100
            · have t4 : ((p.fs.length : Int) == 100) = true := by simp [h4]
              have HX4 : Hid ((85, p) = R) := by (have e := HX3.out; rw [if_pos h4] at e; exact hide e)
              clear h4
              go_wp2_with fail
              go_ret
              exact ⟨by rw [← HX4.out]; rfl, _, by rw [← HX4.out]; exact HP5.out, HK5.out⟩
            · have t4 : ((p.fs.length : Int) == 100) = false := by simp; omega
              have HX4 : Hid ((0, { p with fs := p.fs ++ [(na, va)] }) = R) := by (have e := HX3.out; rw [if_neg h4] at e; exact hide e)
              clear h4
              go_upto_region 17 with fail
              have d0 : w5.cell? ⟨bf, 0, none⟩ = some (.string na) := cell_at HD5.out 0
              have d1 : w5.cell? ⟨bf, 1, none⟩ = some (.string va) := cell_at HD5.out 1
              have BD := hide ((Below.refl w5.heap.size w5).drew)
              have HK6 := hide (HK5.out.trans (PKh.of_below g lv (.slice fa p.fs.length fc) BD.out))
              obtain ⟨ad, n, c, W, hrun, q1, q2, hP, hK⟩ := (HP5.out.below BD.out).app_f 43 (na, va) hl
              have cA := ((HP5.out.below ((Below.refl w5.heap.size w5).alloc (Nat.le_refl _) (.cells #[.string na, .string va] 48))).cell 12)
              rw [show (pcells p g lv (.slice fa p.fs.length fc))[12]? = some (.slice fa p.fs.length fc) from rfl] at cA
              have HPW := hide hP
              have HKW := hide (HK6.out.trans hK)
              clear hP hK
              go_region_law (refine step_append_is rfl (.tmp 61) (.tmp 63) 43 rfl (.slice fa p.fs.length fc) (.slice (some ⟨w5.heap.size, 0, none⟩) 1 1) (.slice ad n c) (by simp [Act.eval]) (by simp [Act.eval]) hrun ?_)
              all_goals (go_wp2_with fail)
              all_goals go_ret
              all_goals exact ⟨by rw [← HX4.out]; rfl, _, by rw [← HX4.out]; exact HPW.out, HKW.out⟩
          · have t3 : ((ck : Int) != 0) = true := by rw [bne_iff_ne]; omega
            have HX3 : Hid ((ck, p) = R) := by (have e := HX2.out; rw [if_pos h3] at e; exact hide e)
            have HE : Hid (errV ck = .iface 24 (.int .i64 (ck : Int))) := by unfold errV; rw [if_neg h3]; exact hide rfl
            clear h3 HX2
            go_wp2_with fail
            go_ret
            exact ⟨by rw [← HX3.out, HE.out]; rfl, _, by rw [← HX3.out]; exact HP5.out, HK5.out⟩
        · have t2 : (rn.toList == na.toList) = false := by rw [bytes_eq]; exact decide_eq_false h2
          have HX2 : Hid ((83, p) = R) := by (have e := HX.out; rw [if_neg (by simp), if_neg (by simp), if_pos h2] at e; exact hide e)
          clear h2 HX
          go_wp2_with (go_at_call 123; refine (HR.out _).mono ?_; rintro e w2 ⟨rfl, b2⟩)
          go_ret
          exact ⟨by rw [← HX2.out]; rfl, _, by rw [← HX2.out]; exact HP1.out.below b2, HK1.out.trans (PKh.of_below g lv (.slice fa p.fs.length fc) b2)⟩
end Go.Proofs.YtcagjipdldlehaaGreatDoor
