/- YV1. -/
import Derived.Test.YtecjlcjaccijpaaGreatDoorYR
import Derived.Test.YtecjlcjaccijpaaGreatDoorYU
import Derived.Test.YtecjlcjaccijpaaGreatDoorYQ
namespace Go.Proofs.YtecjlcjaccijpaaGreatDoor
open Go.ChangeShapes Go.WideShapes Go.ChangeAt Go.RowKit
set_option linter.unusedVariables false
set_option maxHeartbeats 16000000
set_option maxRecDepth 100000
theorem cut_walk (w : World) (me : ByteArray) (mo : Int) (v : Value) (l : List UInt8) (cut : Int) (hB : Bs w w.heap.size v l) (hS : Shp v) (hl : l.length <= 1048576) (hme : me.size <= 1048576) (hm : MX w) (he : ET w) :
  Calls Tryz.prog 3 #[.agg #[.string me, .int .i64 mo], v, .int .i64 cut] w fun e w' => e = .returned (.bool true) /\ Below w.heap.size w w' := by
 have h3 : 3 <= w.heap.size := by have := hm.1; omega
 have HM := hide hm
 have HE := hide he
 have HV := hide hB
 have HP := hide (fun W (b : Below w.heap.size w W) => uspeaks_any W (hm.below b) (he.below b))
 have HAL := hide (fun W (b : Below w.heap.size w W) => us_any W me 65536 (Nat.le_refl _) v l (hB.below b.size b) hS (by omega))
 rw [show ((65536 : Nat) : Int) = 65536 from rfl] at HAL
 have HAK := hide (fun W => asked_any me 65536 W hme)
 rw [ask_full] at HAK
 have HNW := hide (fun W ht => unew_any W me 65536 ht hme (by omega) (by omega))
 rw [show ((65536 : Nat) : Int) = 65536 from rfl] at HNW
 obtain ⟨va, vc, rfl⟩ : ∃ a c, v = .slice a l.length c := by obtain ⟨a, c, e, -⟩ := hB; exact ⟨a, c, e⟩
 have B1 := hide ((Below.refl w.heap.size w).alloc (Nat.le_refl _) (.cells #[.string me, .int .i64 mo] 23))
 have F1 := hide (hp_new w (.cells #[.string me, .int .i64 mo] 23))
 clear hB hS hm he
 go_enter Tryz.func3, Tryz.ntmps3
 go_upto_region 1 with fail
 generalize w.alloc _ = w1 at *
 have e0 : w1.cell? ⟨w.heap.size, 0, none⟩ = some (.string me) := cell_at F1.out 0
 go_upto_region 2 with (go_at_call 7; refine (HAL.out _ B1.out).mono ?_; rintro e w2 ⟨n, r, m2, ta, mi, st, re, ua, un, uc, th, fk, fl, fp, oa, on, oc, wh, er, rfl, y, hc⟩; have B2 := hide y; have HC := hide hc; clear y hc)
 have hs2 := B2.out.size
 have b3 := (Below.refl w2.heap.size w2).alloc (Nat.le_refl _) (.cells #[.int .i64 n, .bool r, .string m2, .string ta, .int .i64 mi, .int .i64 st, .string re, .slice ua un uc, .bool th, .int .i64 fk, .int .i64 fl, .bool fp, .slice oa on oc, .bool wh, .int .i64 er] 31)
 have S3 := hide (hp_new w2 (.cells #[.int .i64 n, .bool r, .string m2, .string ta, .int .i64 mi, .int .i64 st, .string re, .slice ua un uc, .bool th, .int .i64 fk, .int .i64 fl, .bool fp, .slice oa on oc, .bool wh, .int .i64 er] 31))
 have B3 := hide (B1.out.trans ((B2.out.trans (b3.mono hs2)).mono B1.out.size))
 have F3 := hide (((B2.out.trans (b3.mono hs2)).block w.heap.size (lt_heap F1.out)).trans F1.out)
 have B23 := hide b3
 clear b3 e0 F1 HAL
 generalize w2.alloc _ = w3 at *
 have e0 : w3.cell? ⟨w.heap.size, 0, none⟩ = some (.string me) := cell_at F3.out 0
 cases htk : tokenB me.data.toList with
 | false =>
  rw [htk] at HAK
  simp only [Bool.false_eq_true, if_false] at HAK
  clear HNW
  go_wp2_with (first | (go_at_call 8; refine (HAK.out _).mono ?_; rintro e w4 ⟨rfl, y⟩; have B4 := hide (B3.out.trans (y.mono B3.out.size)); have S4 := hide ((y.block _ (lt_heap S3.out)).trans S3.out); have F4 := hide ((y.block _ (lt_heap F3.out)).trans F3.out); have Y4 := hide y; have e4 : w4.cell? ⟨w.heap.size, 0, none⟩ = some (.string me) := cell_at F4.out 0; clear y; have s0 : w4.cell? ⟨w2.heap.size, 0, none⟩ = some (.int .i64 n) := cell_at S4.out 0; have s9 : w4.cell? ⟨w2.heap.size, 9, none⟩ = some (.int .i64 fk) := cell_at S4.out 9; have s13 : w4.cell? ⟨w2.heap.size, 13, none⟩ = some (.bool wh) := cell_at S4.out 13) | (go_at_call 9; refine (HP.out _ B4.out).mono ?_; rintro e w9 ⟨rfl, b9⟩; have B9 := hide (B4.out.trans (b9.mono B4.out.size)); clear b9))
  go_ret
  exact ⟨rfl, B9.out⟩
 | true =>
  rw [htk] at HAK
  simp only [if_true] at HAK
  have HN := hide (fun W => HNW.out W htk)
  clear HNW
  cases wh with
  | false =>
   clear HC
   go_wp2_with (first | (go_at_call 8; refine (HAK.out _).mono ?_; rintro e w4 ⟨rfl, y⟩; have B4 := hide (B3.out.trans (y.mono B3.out.size)); have S4 := hide ((y.block _ (lt_heap S3.out)).trans S3.out); have F4 := hide ((y.block _ (lt_heap F3.out)).trans F3.out); have Y4 := hide y; have e4 : w4.cell? ⟨w.heap.size, 0, none⟩ = some (.string me) := cell_at F4.out 0; clear y; have s0 : w4.cell? ⟨w2.heap.size, 0, none⟩ = some (.int .i64 n) := cell_at S4.out 0; have s9 : w4.cell? ⟨w2.heap.size, 9, none⟩ = some (.int .i64 fk) := cell_at S4.out 9; have s13 : w4.cell? ⟨w2.heap.size, 13, none⟩ = some (.bool false) := cell_at S4.out 13) | (go_at_call 9; refine (HP.out _ B4.out).mono ?_; rintro e w9 ⟨rfl, b9⟩; have B9 := hide (B4.out.trans (b9.mono B4.out.size)); clear b9))
   go_ret
   exact ⟨rfl, B9.out⟩
  | true =>
   by_cases h4 : fk = 4
   ·subst h4
    clear HC
    go_wp2_with (first | (go_at_call 8; refine (HAK.out _).mono ?_; rintro e w4 ⟨rfl, y⟩; have B4 := hide (B3.out.trans (y.mono B3.out.size)); have S4 := hide ((y.block _ (lt_heap S3.out)).trans S3.out); have F4 := hide ((y.block _ (lt_heap F3.out)).trans F3.out); have Y4 := hide y; have e4 : w4.cell? ⟨w.heap.size, 0, none⟩ = some (.string me) := cell_at F4.out 0; clear y; have s0 : w4.cell? ⟨w2.heap.size, 0, none⟩ = some (.int .i64 n) := cell_at S4.out 0; have s9 : w4.cell? ⟨w2.heap.size, 9, none⟩ = some (.int .i64 4) := cell_at S4.out 9; have s13 : w4.cell? ⟨w2.heap.size, 13, none⟩ = some (.bool true) := cell_at S4.out 13) | (go_at_call 9; refine (HP.out _ B4.out).mono ?_; rintro e w9 ⟨rfl, b9⟩; have B9 := hide (B4.out.trans (b9.mono B4.out.size)); clear b9))
    go_ret
    exact ⟨rfl, B9.out⟩
   ·have h4' : (fk == 4) = false := by simpa using h4
    by_cases hc0 : cut < 0
    ·clear HC
     go_wp2_with (first | (go_at_call 8; refine (HAK.out _).mono ?_; rintro e w4 ⟨rfl, y⟩; have B4 := hide (B3.out.trans (y.mono B3.out.size)); have S4 := hide ((y.block _ (lt_heap S3.out)).trans S3.out); have F4 := hide ((y.block _ (lt_heap F3.out)).trans F3.out); have Y4 := hide y; have e4 : w4.cell? ⟨w.heap.size, 0, none⟩ = some (.string me) := cell_at F4.out 0; clear y; have s0 : w4.cell? ⟨w2.heap.size, 0, none⟩ = some (.int .i64 n) := cell_at S4.out 0; have s9 : w4.cell? ⟨w2.heap.size, 9, none⟩ = some (.int .i64 fk) := cell_at S4.out 9; have s13 : w4.cell? ⟨w2.heap.size, 13, none⟩ = some (.bool true) := cell_at S4.out 13) | (go_at_call 9; refine (HP.out _ B4.out).mono ?_; rintro e w9 ⟨rfl, b9⟩; have B9 := hide (B4.out.trans (b9.mono B4.out.size)); clear b9))
     go_ret
     exact ⟨rfl, B9.out⟩
    ·by_cases hcn : n <= cut
     ·clear HC
      go_wp2_with (first | (go_at_call 8; refine (HAK.out _).mono ?_; rintro e w4 ⟨rfl, y⟩; have B4 := hide (B3.out.trans (y.mono B3.out.size)); have S4 := hide ((y.block _ (lt_heap S3.out)).trans S3.out); have F4 := hide ((y.block _ (lt_heap F3.out)).trans F3.out); have Y4 := hide y; have e4 : w4.cell? ⟨w.heap.size, 0, none⟩ = some (.string me) := cell_at F4.out 0; clear y; have s0 : w4.cell? ⟨w2.heap.size, 0, none⟩ = some (.int .i64 n) := cell_at S4.out 0; have s9 : w4.cell? ⟨w2.heap.size, 9, none⟩ = some (.int .i64 fk) := cell_at S4.out 9; have s13 : w4.cell? ⟨w2.heap.size, 13, none⟩ = some (.bool true) := cell_at S4.out 13) | (go_at_call 9; refine (HP.out _ B4.out).mono ?_; rintro e w9 ⟨rfl, b9⟩; have B9 := hide (B4.out.trans (b9.mono B4.out.size)); clear b9))
      go_ret
      exact ⟨rfl, B9.out⟩
     ·obtain ⟨k, rfl⟩ : ∃ k : Nat, cut = (k : Int) := ⟨cut.toNat, by omega⟩
      have hlt : (k : Int) < n := by omega
      rcases HC.out with ⟨-, h⟩ | ⟨N, p, fo, hU, -, hn, hw, -, hfk, hon, -⟩
      ·cases h
      ·have hg := uHd_le hU
       have hbl := bd_le fo.k fo.n (l.drop N)
       rw [List.length_drop] at hbl
       have hkN : k < N + (bdY fo.k fo.n (l.drop N)).n := by omega
       have hkl : k <= l.length := by omega
       have hl0 : 0 < l.length := by omega
       obtain ⟨bk, o, hva⟩ : ∃ bk o, va = some ⟨bk, o, none⟩ /\ bk < w.heap.size := by
        obtain ⟨a, c, e, h1, h2⟩ := HV.out
        simp only [Value.slice.injEq, true_and] at e
        obtain ⟨rfl, rfl⟩ := e
        obtain ⟨g', o', p1, p2, -⟩ := h2 0 hl0
        exact ⟨g', o', p1, p2⟩
       obtain ⟨rfl, hbk⟩ := hva
       have hcp : l.length <= vc := by obtain ⟨a, c, e, h1, -⟩ := HV.out; simp only [Value.slice.injEq, true_and] at e; omega
       have hk4 : fo.k ≠ 4 := by rw [<- hfk]; exact h4
       have HU := hide hU
       have HKN := hide hkN
       have HON := hide hon
       clear HC hU hn hw hfk hon hbl hg hkN
       have hncn : ¬ n <= (k : Int) := by omega
       have hvi : (k : Int) <= (vc : Int) := by omega
       have hc0' : ¬ (k : Int) < 0 := by omega
       go_upto_region 7 with (first | (go_at_call 8; refine (HAK.out _).mono ?_; rintro e w4 ⟨rfl, y⟩; have B4 := hide (B3.out.trans (y.mono B3.out.size)); have S4 := hide ((y.block _ (lt_heap S3.out)).trans S3.out); have F4 := hide ((y.block _ (lt_heap F3.out)).trans F3.out); have Y4 := hide y; have e4 : w4.cell? ⟨w.heap.size, 0, none⟩ = some (.string me) := cell_at F4.out 0; clear y; have s0 : w4.cell? ⟨w2.heap.size, 0, none⟩ = some (.int .i64 n) := cell_at S4.out 0; have s9 : w4.cell? ⟨w2.heap.size, 9, none⟩ = some (.int .i64 fk) := cell_at S4.out 9; have s13 : w4.cell? ⟨w2.heap.size, 13, none⟩ = some (.bool true) := cell_at S4.out 13) | (go_at_call 10; refine (HN.out _).mono ?_; rintro e w5 ⟨c, g, rfl, hg, hcB, hgc, yp, yc, yb⟩; have HPAR := hide yp; have HCL := hide yc; have B5 := hide (B4.out.trans (yb.mono B4.out.size)); have Y5 := hide (Y4.out.trans (yb.mono Y4.out.size)); have hw34' := yb.size; clear yp yc yb))
       have hw34 : w.heap.size <= w4.heap.size := B4.out.size
       have hw45 : w4.heap.size <= w5.heap.size := Nat.le_trans hw34' (Nat.le_refl _)
       have S5 := hide ((Y5.out.block _ (lt_heap S3.out)).trans S3.out)
       have hls := lt_heap S4.out
       have HRD := hide (read_cut (me := me) (most := 65536) (B := w4.heap.size) (by omega) (by omega) (by omega) (by omega) hcB hg hgc (by omega) (by omega) (by omega) HU.out HKN.out hk4 HPAR.out HCL.out (HM.out.below B5.out) (HE.out.below B5.out) hw45 (HV.out.below (Nat.le_refl _) B5.out).bf)
       clear S3 S4 F3 F4 Y4 Y5 e0 e4 s0 s9 s13 HPAR HCL HN
       go_upto_region 8 with (go_at_call 11; refine HRD.out.mono ?_; rintro e w6 ⟨ta, tn, tc, rfl, htn, yb, yok⟩; have B6 := hide (B5.out.trans (yb.mono hw34)); have S6 := hide ((yb.block _ hls).trans S5.out); have HOK := hide yok; clear yb yok)
       have s12 : w6.cell? ⟨w2.heap.size, 12, none⟩ = some (.slice oa on oc) := cell_at S6.out 12
       have hle : tn <= on := by rw [HON.out]; exact htn
       have hle2 : ¬ (on : Int) < (tn : Int) := by omega
       clear HON htn HKN HU S5 S6 HRD
       have HW1 := hide HOK.out.1
       go_upto_region 10 with (go_at_call 12; refine HW1.out.mono ?_; rintro e w' ⟨rfl, rfl⟩)
       clear HW1
       have HW2 := hide HOK.out.2
       clear HOK
       go_wp2_with (first | (go_at_call 13; refine HW2.out.mono ?_; rintro e w7 ⟨rfl, yb, yw, ya⟩; have B7 := hide (B6.out.trans (yb.mono hw34)); have HWW := hide yw; have HAA := hide ya; clear yb yw ya) | (go_at_call 12; refine HWW.out.mono ?_; rintro e w' ⟨rfl, rfl⟩) | (go_at_call 14; refine HAA.out.mono ?_; rintro e w' ⟨rfl, rfl⟩) | (go_at_call 9; refine (HP.out _ B7.out).mono ?_; rintro e w9 ⟨rfl, b9⟩; have B9 := hide (B7.out.trans (b9.mono B7.out.size)); clear b9))
       go_ret
       exact ⟨rfl, B9.out⟩
end Go.Proofs.YtecjlcjaccijpaaGreatDoor
