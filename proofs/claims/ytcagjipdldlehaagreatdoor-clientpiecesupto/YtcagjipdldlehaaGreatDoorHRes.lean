/- A response's first line: what the parser makes of it. -/
import Derived.Test.YtcagjipdldlehaaGreatDoorHLin
namespace Go.Proofs.YtcagjipdldlehaaGreatDoor
open Go.ChangeShapes Go.WideShapes Go.ChangeAt Go.RowKit

set_option maxHeartbeats 4000000 in
theorem responseLine_any {w : World} {base g : Nat} {lv fv : Value} {p : Pz} (h : Par w base g lv fv p) (hm : MX w) (s : ByteArray) (hs : s.size ≤ 65536) :
    Calls Tryz.prog 44 #[.pointer (some ⟨g, 0, none⟩), .string s] w fun e w' => e = .returned (errV (pRes p s).1) ∧ Par w' base g lv fv (pRes p s).2 ∧ PKh w w' g lv fv lv fv := by
  have HP := hide h
  have HM := hide hm
  clear h hm
  unfold pRes
  have HC1 := hide (pcut_any s 32 w hs HM.out)
  have HC2 := hide (fun W (hW : MX W) => pcut_any (k2 32 s) 32 W (Nat.le_trans (k2_size 32 s) hs) hW)
  have z2 : (k1 32 (k2 32 s)).size ≤ maxLen := by have := k1_size 32 (k2 32 s); have := k2_size 32 s; unfold maxLen; omega
  have z3 : (k2 32 (k2 32 s)).size ≤ 281474976710656 := by have := k2_size 32 (k2 32 s); have := k2_size 32 s; omega
  have HS := hide (fun W => isStatus_any (k1 32 (k2 32 s)) W z2)
  have HN := hide (fun W => Number_any (k1 32 (k2 32 s)) W z2)
  have HR := hide (fun W => isReason_any (k2 32 (k2 32 s)) W z3)
  clear z2 z3
  generalize k1 32 (k2 32 s) = st at HC2 HS HN ⊢
  generalize k2 32 (k2 32 s) = re at HC2 HR ⊢
  generalize k3 32 (k2 32 s) = o2 at HC2 ⊢
  generalize k1 32 s = ve at HC1 ⊢
  generalize k2 32 s = r at HC1 HC2
  generalize k3 32 s = o1 at HC1
  generalize statB st.data.toList = bs at HS ⊢
  generalize numV 10 st.data.toList = nv at HN ⊢
  generalize numE 10 st.data.toList = ne at HN
  generalize re.data.toList.all valc = br at HR ⊢
  go_enter Tryz.func44, Tryz.ntmps44
  go_upto_region 2 with (go_at_call 53; refine HC1.out.mono ?_; rintro e w1 ⟨rfl, b1⟩)
  have HM1 := hide (HM.out.below b1)
  have HP1 := hide (HP.out.below b1)
  have HK1 := hide (PKh.of_below g lv fv b1)
  clear b1
  go_upto_region 3 with (go_at_call 53; refine (HC2.out _ HM1.out).mono ?_; rintro e w2 ⟨rfl, b2⟩)
  have HP2 := hide (HP1.out.below b2)
  have HK2 := hide (HK1.out.trans (PKh.of_below g lv fv b2))
  clear b2
  cases o2 with
  | false =>
    go_wp2_with fail
    go_ret
    exact ⟨rfl, HP2.out, HK2.out⟩
  | true =>
    cases bs with
    | false =>
      go_wp2_with (go_at_call 54; refine (HS.out _).mono ?_; rintro e w3 ⟨rfl, rfl⟩)
      go_ret
      exact ⟨rfl, HP2.out, HK2.out⟩
    | true =>
      cases br with
      | false =>
        go_wp2_with (first | (go_at_call 54; refine (HS.out _).mono ?_; rintro e w3 ⟨rfl, rfl⟩) | (go_at_call 55; refine (HR.out _).mono ?_; rintro e w4 ⟨rfl, b4⟩))
        go_ret
        exact ⟨rfl, HP2.out.below b4, HK2.out.trans (PKh.of_below g lv fv b4)⟩
      | true =>
        go_upto_region 5 with (first | (go_at_call 54; refine (HS.out _).mono ?_; rintro e w3 ⟨rfl, rfl⟩) | (go_at_call 55; refine (HR.out _).mono ?_; rintro e w4 ⟨rfl, b4⟩))
        have HP3 := hide (HP2.out.below b4)
        have HK3 := hide (HK2.out.trans (PKh.of_below g lv fv b4))
        have f10 := HP3.out.froz 10
        have c10 := HP3.out.cell 10
        clear b4
        go_upto_region 6 with (go_at_call 56; refine (HN.out _).mono ?_; rintro e w5 ⟨rfl, rfl⟩)
        have HP4 := hide (HP3.out.set 10 (.int .i64 (nv : Int)) { p with status := nv } rfl rfl rfl)
        have HK4 := hide (HK3.out.trans (PKh.set w4 g 10 (.int .i64 (nv : Int)) lv fv))
        clear f10 c10
        generalize w4.setCell ⟨g, 10, none⟩ (.int .i64 (nv : Int)) = w5 at HP4 HK4 ⊢
        have f11 := HP4.out.froz 11
        have c11 := HP4.out.cell 11
        go_upto_region 7 with fail
        have HP5 := hide (HP4.out.set 11 (.string re) { p with status := nv, re := re } rfl rfl rfl)
        have HK5 := hide (HK4.out.trans (PKh.set w5 g 11 (.string re) lv fv))
        clear f11 c11
        generalize w5.setCell ⟨g, 11, none⟩ (.string re) = w6 at HP5 HK5 ⊢
        have HB := hide (begun_any HP5.out ve)
        go_wp2_with (go_at_call 57; refine HB.out.mono ?_; rintro e w7 ⟨rfl, h6, k6⟩)
        go_ret
        exact ⟨rfl, h6, HK5.out.trans k6⟩
end Go.Proofs.YtcagjipdldlehaaGreatDoor
