/- The first line: what the parser makes of it. -/
import Derived.Test.YtcagjipdldlehaaGreatDoorHPar
namespace Go.Proofs.YtcagjipdldlehaaGreatDoor
open Go.ChangeShapes Go.WideShapes Go.ChangeAt Go.RowKit

theorem emp_th {s : ByteArray} (h : s.size = 0) : s.toList.isEmpty = true := by rw [Lib.toList_data, isEmpty_size, decide_eq_true h]
theorem emp_fh {s : ByteArray} (h : ¬ s.size = 0) : s.toList.isEmpty = false := by rw [Lib.toList_data, isEmpty_size, decide_eq_false h]
set_option maxHeartbeats 4000000 in
theorem requestLine_any {w : World} {base g : Nat} {lv fv : Value} {p : Pz} (h : Par w base g lv fv p) (hm : MX w) (s : ByteArray) (hs : s.size ≤ 65536) (hp : p.passed ≤ 65536) :
    Calls Tryz.prog 45 #[.pointer (some ⟨g, 0, none⟩), .string s] w fun e w' => e = .returned (errV (pReq p s).1) ∧ Par w' base g lv fv (pReq p s).2 ∧ PKh w w' g lv fv lv fv := by
  have HP := hide h
  have HM := hide hm
  have c4 := h.cell 4
  have f4 := h.froz 4
  rw [show (pcells p g lv fv)[4]? = some (.int .i64 (p.passed : Int)) from rfl] at c4
  clear h hm
  unfold pReq
  by_cases h0 : s.size = 0 ∧ p.passed < 4
  · have t0 := emp_th h0.1
    have t1 : (p.passed : Int) < 4 := by omega
    rw [if_pos h0]
    clear h0
    go_enter Tryz.func45, Tryz.ntmps45
    go_wp2_with fail
    go_ret
    exact ⟨rfl, HP.out.set 4 (.int .i64 ((p.passed : Int) + 1)) { p with passed := p.passed + 1 } rfl rfl rfl, PKh.set _ _ _ _ _ _⟩
  · rw [if_neg h0]
    have HC1 := hide (pcut_any s 32 w hs HM.out)
    have HC2 := hide (fun W (hW : MX W) => pcut_any (k2 32 s) 32 W (Nat.le_trans (k2_size 32 s) hs) hW)
    have z1 : (k1 32 s).size ≤ maxLen := by have := k1_size 32 s; unfold maxLen; omega
    have z2 : (k1 32 (k2 32 s)).size ≤ maxLen := by have := k1_size 32 (k2 32 s); have := k2_size 32 s; unfold maxLen; omega
    have HT := hide (fun W => token_any (k1 32 s) W z1)
    have HG := hide (fun W => isTarget_any (k1 32 (k2 32 s)) W z2)
    clear z1 z2
    generalize k1 32 (k2 32 s) = ta at HC2 HG ⊢
    generalize k2 32 (k2 32 s) = ve at HC2 ⊢
    generalize k3 32 (k2 32 s) = o2 at HC2
    generalize k1 32 s = me at HC1 HT ⊢
    generalize k2 32 s = r at HC1 HC2
    generalize k3 32 s = o1 at HC1
    generalize tokenB me.data.toList = bt at HT ⊢
    generalize tgtB ta.data.toList = bg at HG ⊢
    go_enter Tryz.func45, Tryz.ntmps45
    by_cases h1 : s.size = 0
    · have t0 := emp_th h1
      have t1 : ¬ (p.passed : Int) < 4 := by omega
      clear h0 h1
      go_upto_region 5 with (go_at_call 53; refine HC1.out.mono ?_; rintro e w1 ⟨rfl, b1⟩)
      have HM1 := hide (HM.out.below b1)
      have HP1 := hide (HP.out.below b1)
      have HK1 := hide (PKh.of_below g lv fv b1)
      clear b1 c4 f4
      go_upto_region 6 with (go_at_call 53; refine (HC2.out _ HM1.out).mono ?_; rintro e w2 ⟨rfl, b2⟩)
      have HP2 := hide (HP1.out.below b2)
      have HK2 := hide (HK1.out.trans (PKh.of_below g lv fv b2))
      clear b2
      cases bt with
      | false =>
        go_wp2_with (go_at_call 58; refine (HT.out _).mono ?_; rintro e w3 ⟨rfl, rfl⟩)
        go_ret
        exact ⟨rfl, HP2.out, HK2.out⟩
      | true =>
        cases bg with
        | false =>
          go_wp2_with (first | (go_at_call 58; refine (HT.out _).mono ?_; rintro e w3 ⟨rfl, rfl⟩) | (go_at_call 59; refine (HG.out _).mono ?_; rintro e w3 ⟨rfl, rfl⟩))
          go_ret
          exact ⟨rfl, HP2.out, HK2.out⟩
        | true =>
          go_upto_region 8 with (first | (go_at_call 58; refine (HT.out _).mono ?_; rintro e w3 ⟨rfl, rfl⟩) | (go_at_call 59; refine (HG.out _).mono ?_; rintro e w3 ⟨rfl, rfl⟩))
          rename_i w2
          have c7 := HP2.out.cell 7
          have c8 := HP2.out.cell 8
          have f7 := HP2.out.froz 7
          have f8 := HP2.out.froz 8
          go_upto_region 9 with fail
          have HP3 := hide ((HP2.out.set 7 (.string me) { p with me := me } rfl rfl rfl).set 8 (.string ta) { p with me := me, ta := ta } rfl rfl rfl)
          have HK3 := hide (HK2.out.trans ((PKh.set w2 g 7 (.string me) lv fv).trans (PKh.set _ g 8 (.string ta) lv fv)))
          clear c7 c8 f7 f8
          generalize (w2.setCell ⟨g, 7, none⟩ (.string me)).setCell ⟨g, 8, none⟩ (.string ta) = w5 at HP3 HK3 ⊢
          have HB := hide (begun_any HP3.out ve)
          go_wp2_with (go_at_call 57; refine HB.out.mono ?_; rintro e w6 ⟨rfl, h6, k6⟩)
          go_ret
          exact ⟨rfl, h6, HK3.out.trans k6⟩
    · have t0 := emp_fh h1
      clear h0 h1
      go_upto_region 5 with (go_at_call 53; refine HC1.out.mono ?_; rintro e w1 ⟨rfl, b1⟩)
      have HM1 := hide (HM.out.below b1)
      have HP1 := hide (HP.out.below b1)
      have HK1 := hide (PKh.of_below g lv fv b1)
      clear b1 c4 f4
      go_upto_region 6 with (go_at_call 53; refine (HC2.out _ HM1.out).mono ?_; rintro e w2 ⟨rfl, b2⟩)
      have HP2 := hide (HP1.out.below b2)
      have HK2 := hide (HK1.out.trans (PKh.of_below g lv fv b2))
      clear b2
      cases bt with
      | false =>
        go_wp2_with (go_at_call 58; refine (HT.out _).mono ?_; rintro e w3 ⟨rfl, rfl⟩)
        go_ret
        exact ⟨rfl, HP2.out, HK2.out⟩
      | true =>
        cases bg with
        | false =>
          go_wp2_with (first | (go_at_call 58; refine (HT.out _).mono ?_; rintro e w3 ⟨rfl, rfl⟩) | (go_at_call 59; refine (HG.out _).mono ?_; rintro e w3 ⟨rfl, rfl⟩))
          go_ret
          exact ⟨rfl, HP2.out, HK2.out⟩
        | true =>
          go_upto_region 8 with (first | (go_at_call 58; refine (HT.out _).mono ?_; rintro e w3 ⟨rfl, rfl⟩) | (go_at_call 59; refine (HG.out _).mono ?_; rintro e w3 ⟨rfl, rfl⟩))
          rename_i w2
          have c7 := HP2.out.cell 7
          have c8 := HP2.out.cell 8
          have f7 := HP2.out.froz 7
          have f8 := HP2.out.froz 8
          go_upto_region 9 with fail
          have HP3 := hide ((HP2.out.set 7 (.string me) { p with me := me } rfl rfl rfl).set 8 (.string ta) { p with me := me, ta := ta } rfl rfl rfl)
          have HK3 := hide (HK2.out.trans ((PKh.set w2 g 7 (.string me) lv fv).trans (PKh.set _ g 8 (.string ta) lv fv)))
          clear c7 c8 f7 f8
          generalize (w2.setCell ⟨g, 7, none⟩ (.string me)).setCell ⟨g, 8, none⟩ (.string ta) = w5 at HP3 HK3 ⊢
          have HB := hide (begun_any HP3.out ve)
          go_wp2_with (go_at_call 57; refine HB.out.mono ?_; rintro e w6 ⟨rfl, h6, k6⟩)
          go_ret
          exact ⟨rfl, h6, HK3.out.trans k6⟩
end Go.Proofs.YtcagjipdldlehaaGreatDoor
