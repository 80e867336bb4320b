/- YV2. -/
import Derived.Test.YtecjlcjaccijpaaGreatDoorYR
import Derived.Test.YtecjlcjaccijpaaGreatDoorYU
import Derived.Test.YtecjlcjaccijpaaGreatDoorYQ
namespace Go.Proofs.YtecjlcjaccijpaaGreatDoor
open Go.ChangeShapes Go.WideShapes Go.ChangeAt Go.RowKit
set_option linter.unusedVariables false
set_option maxHeartbeats 16000000
set_option maxRecDepth 100000
theorem more_walk (w : World) (me : ByteArray) (mo : Int) (v : Value) (l : List UInt8) (u : Value) (m : List UInt8) (hU1 : Bs w w.heap.size u m) (hU2 : Shp u) (hm1 : m.length <= 1048576) (hB : Bs w w.heap.size v l) (hS : Shp v) (hl : l.length <= 1048576) (hme : me.size <= 1048576) (hm : MX w) (he : ET w) :
  Calls Tryz.prog 4 #[.agg #[.string me, .int .i64 mo], v, u] w fun e w' => e = .returned (.bool true) /\ Below w.heap.size w w' := by
 have h3 : 3 <= w.heap.size := by have := hm.1; omega
 have HU1 := hide hU1
 have HU2 := hide hU2
 obtain ⟨ea, ec, rfl⟩ : ∃ a c, u = .slice a m.length c := by obtain ⟨a, c, e, -⟩ := hU1; exact ⟨a, c, e⟩
 clear hU1 hU2
 have HM := hide hm
 have HE := hide he
 have HV := hide hB
 have HP := hide (fun W (b : Below w.heap.size w W) => uspeaks_any W (hm.below b) (he.below b))
 have HAL := hide (fun W (b : Below w.heap.size w W) => us_any W me 65536 (Nat.le_refl _) v l (hB.below b.size b) hS (by omega))
 rw [show ((65536 : Nat) : Int) = 65536 from rfl] at HAL
 have HAK := hide (fun W => asked_any me 65536 W hme)
 rw [ask_full] at HAK
 have HNW := hide (fun W ht => unew_any W me 65536 ht hme (by omega) (by omega))
 rw [show ((65536 : Nat) : Int) = 65536 from rfl] at HNW
 obtain ⟨va, vc, rfl⟩ : ∃ a c, v = .slice a l.length c := by obtain ⟨a, c, e, -⟩ := hB; exact ⟨a, c, e⟩
 have B1 := hide ((Below.refl w.heap.size w).alloc (Nat.le_refl _) (.cells #[.string me, .int .i64 mo] 23))
 have F1 := hide (hp_new w (.cells #[.string me, .int .i64 mo] 23))
 clear hB hS hm he
 go_enter Tryz.func4, Tryz.ntmps4
 go_upto_region 1 with fail
 generalize w.alloc _ = w1 at *
 have e0 : w1.cell? ⟨w.heap.size, 0, none⟩ = some (.string me) := cell_at F1.out 0
 go_upto_region 2 with (go_at_call 7; refine (HAL.out _ B1.out).mono ?_; rintro e w2 ⟨n, r, m2, ta, mi, st, re, ua, un, uc, th, fk, fl, fp, oa, on, oc, wh, er, rfl, y, hc⟩; have B2 := hide y; have HC := hide hc; clear y hc)
 have hs2 := B2.out.size
 have b3 := (Below.refl w2.heap.size w2).alloc (Nat.le_refl _) (.cells #[.int .i64 n, .bool r, .string m2, .string ta, .int .i64 mi, .int .i64 st, .string re, .slice ua un uc, .bool th, .int .i64 fk, .int .i64 fl, .bool fp, .slice oa on oc, .bool wh, .int .i64 er] 31)
 have S3 := hide (hp_new w2 (.cells #[.int .i64 n, .bool r, .string m2, .string ta, .int .i64 mi, .int .i64 st, .string re, .slice ua un uc, .bool th, .int .i64 fk, .int .i64 fl, .bool fp, .slice oa on oc, .bool wh, .int .i64 er] 31))
 have B3 := hide (B1.out.trans ((B2.out.trans (b3.mono hs2)).mono B1.out.size))
 have F3 := hide (((B2.out.trans (b3.mono hs2)).block w.heap.size (lt_heap F1.out)).trans F1.out)
 have B23 := hide b3
 clear b3 e0 F1 HAL
 generalize w2.alloc _ = w3 at *
 have e0 : w3.cell? ⟨w.heap.size, 0, none⟩ = some (.string me) := cell_at F3.out 0
 cases htk : tokenB me.data.toList with
 | false =>
  rw [htk] at HAK
  simp only [Bool.false_eq_true, if_false] at HAK
  clear HNW
  go_wp2_with (first | (go_at_call 8; refine (HAK.out _).mono ?_; rintro e w4 ⟨rfl, y⟩; have B4 := hide (B3.out.trans (y.mono B3.out.size)); have S4 := hide ((y.block _ (lt_heap S3.out)).trans S3.out); have F4 := hide ((y.block _ (lt_heap F3.out)).trans F3.out); have Y4 := hide y; have e4 : w4.cell? ⟨w.heap.size, 0, none⟩ = some (.string me) := cell_at F4.out 0; clear y; have s0 : w4.cell? ⟨w2.heap.size, 0, none⟩ = some (.int .i64 n) := cell_at S4.out 0; have s9 : w4.cell? ⟨w2.heap.size, 9, none⟩ = some (.int .i64 fk) := cell_at S4.out 9; have s13 : w4.cell? ⟨w2.heap.size, 13, none⟩ = some (.bool wh) := cell_at S4.out 13) | (go_at_call 9; refine (HP.out _ B4.out).mono ?_; rintro e w9 ⟨rfl, b9⟩; have B9 := hide (B4.out.trans (b9.mono B4.out.size)); clear b9))
  go_ret
  exact ⟨rfl, B9.out⟩
 | true =>
  rw [htk] at HAK
  simp only [if_true] at HAK
  have HN := hide (fun W => HNW.out W htk)
  clear HNW
  cases wh with
  | false =>
   clear HC
   go_wp2_with (first | (go_at_call 8; refine (HAK.out _).mono ?_; rintro e w4 ⟨rfl, y⟩; have B4 := hide (B3.out.trans (y.mono B3.out.size)); have S4 := hide ((y.block _ (lt_heap S3.out)).trans S3.out); have F4 := hide ((y.block _ (lt_heap F3.out)).trans F3.out); have Y4 := hide y; have e4 : w4.cell? ⟨w.heap.size, 0, none⟩ = some (.string me) := cell_at F4.out 0; clear y; have s0 : w4.cell? ⟨w2.heap.size, 0, none⟩ = some (.int .i64 n) := cell_at S4.out 0; have s9 : w4.cell? ⟨w2.heap.size, 9, none⟩ = some (.int .i64 fk) := cell_at S4.out 9; have s13 : w4.cell? ⟨w2.heap.size, 13, none⟩ = some (.bool false) := cell_at S4.out 13) | (go_at_call 9; refine (HP.out _ B4.out).mono ?_; rintro e w9 ⟨rfl, b9⟩; have B9 := hide (B4.out.trans (b9.mono B4.out.size)); clear b9))
   go_ret
   exact ⟨rfl, B9.out⟩
  | true =>
   rcases HC.out with ⟨-, h⟩ | ⟨N, p, fo, hU, -, hn, hw, he, hfk, hon, hrow, -⟩
   ·cases h
   ·have hg := uHd_le hU
    have hfo : FrmOk fo.k fo.n := by rw [hg.2.2.2.2.1]; exact uO_fr (by rw [<- hg.2.2.2.2.1]; exact hg.2.2.2.2.2)
    have hl0 : 0 < l.length := by omega
    obtain ⟨bk, o, hva⟩ : ∃ bk o, va = some ⟨bk, o, none⟩ /\ bk < w.heap.size := by
     obtain ⟨a, c, e, h1, h2⟩ := HV.out
     simp only [Value.slice.injEq, true_and] at e
     obtain ⟨rfl, rfl⟩ := e
     obtain ⟨g', o', p1, p2, -⟩ := h2 0 hl0
     exact ⟨g', o', p1, p2⟩
    obtain ⟨rfl, hbk⟩ := hva
    have HUM := hide (uHd_more m hU)
    have hbo := bd_more m hw.symm
    rw [<- List.drop_append_of_le_length (by omega : N <= l.length)] at hbo
    have HBO := hide hbo
    have he0 := bd_whole_e hfo hw.symm
    obtain ⟨nb, ob, eb, wb, hbd⟩ : ∃ nb ob eb wb, (bdY fo.k fo.n (l.drop N)) = ⟨nb, ob, eb, wb⟩ := ⟨_, _, _, _, rfl⟩
    rw [hbd] at HBO hn hw he hon hrow he0
    dsimp only at hn hw he hon hrow he0
    subst hw he0 hn hon
    have HOW := hide hrow
    clear HC hU he hfk hg hbo hbd hrow
    go_upto_region 7 with (first | (go_at_call 8; refine (HAK.out _).mono ?_; rintro e w4 ⟨rfl, y⟩; have B4 := hide (B3.out.trans (y.mono B3.out.size)); have S4 := hide ((y.block _ (lt_heap S3.out)).trans S3.out); have F4 := hide ((y.block _ (lt_heap F3.out)).trans F3.out); have Y4 := hide y; have e4 : w4.cell? ⟨w.heap.size, 0, none⟩ = some (.string me) := cell_at F4.out 0; clear y; have s0 : w4.cell? ⟨w2.heap.size, 0, none⟩ = some (.int .i64 ((N + nb : Nat) : Int)) := cell_at S4.out 0; have s9 : w4.cell? ⟨w2.heap.size, 9, none⟩ = some (.int .i64 fk) := cell_at S4.out 9; have s13 : w4.cell? ⟨w2.heap.size, 13, none⟩ = some (.bool true) := cell_at S4.out 13) | (go_at_call 10; refine (HN.out _).mono ?_; rintro e w5 ⟨c, g, rfl, hg, hcB, hgc, yp, yc, yb⟩; have HPAR := hide yp; have HCL := hide yc; have B5 := hide (B4.out.trans (yb.mono B4.out.size)); have Y5 := hide (Y4.out.trans (yb.mono Y4.out.size)); have hw34' := yb.size; clear yp yc yb))
    have hw34 : w.heap.size <= w4.heap.size := B4.out.size
    have S5 := hide ((Y5.out.block _ (lt_heap S3.out)).trans S3.out)
    have hls := lt_heap S4.out
    have hcl := lt_heap HCL.out
    have hgl := HPAR.out.lt
    have HOW5 := hide (HOW.out.frame fun j e => ((B23.out.trans (Y5.out.mono B23.out.size)).block j (HOW.out.lt e).2))
    have how : ∀ j, Value.ownBlock (.slice oa ob.length oc) = some j -> w1.heap.size <= j /\ j < w4.heap.size := fun j e => ⟨(HOW.out.lt e).1, Nat.lt_of_lt_of_le (HOW.out.lt e).2 (Nat.le_trans B23.out.size Y4.out.size)⟩
    clear S3 S4 F3 F4 Y4 Y5 e0 e4 s0 s9 s13 HN HOW
    go_wp2_with (at_builtin; apply Hid.out)
    unfold Hid
    refine wpList_append_bs_k rfl _ _ rfl w5 w5.heap.size w5.heap.size (.slice none 0 0) (.slice (some ⟨bk, o, none⟩) l.length vc) [] l rfl rfl (Row.nil _ _ _) (HV.out.below B5.out.size B5.out) (.inr ⟨_, _, _, rfl⟩) (by simp only [List.length_nil]; omega) (Nat.le_refl _) ?_
    intro v1 w6 r1 b6 _
    obtain ⟨a1, k1, rfl, -⟩ := r1.shape
    have HR1 := hide r1
    have B6 := hide b6
    have hs6 := b6.size
    clear r1 b6
    rw [bc_len, List.nil_append] at HR1 |-
    go_wp2_with (at_builtin; apply Hid.out)
    unfold Hid
    refine wpList_append_bs_k rfl _ _ rfl w6 w5.heap.size w6.heap.size (.slice a1 l.length k1) (.slice ea m.length ec) l m rfl rfl HR1.out ((HU1.out.below B5.out.size B5.out).below hs6 B6.out) HU2.out (by omega) hs6 ?_
    intro v2 w7 r2 b7 _
    have hr2 := r2
    rcases r2.2 with ⟨-, h0⟩ | ⟨ka, cap, cur, hv2, -⟩
    ·rw [bc_len, List.length_append] at h0; omega
    ·obtain ⟨a2, k2, e2, hk2, -⟩ := hr2.shape
     rw [e2] at hv2
     simp only [Value.slice.injEq] at hv2
     obtain ⟨rfl, -, -⟩ := hv2
     subst e2
     rw [bc_len] at hr2 hk2 |-
     have hkb := hr2.lt (g := ka) rfl
     have HIN := hide (Bs.of_row hr2)
     have B57 := hide (B6.out.trans b7)
     have B7 := hide (B5.out.trans (B57.out.mono B5.out.size))
     have hs7 := B57.out.size
     have HCL7 := hide ((B57.out.block c hcl).trans HCL.out)
     have HPAR7 := hide (HPAR.out.below B57.out)
     have S7 := hide ((B57.out.block _ (by omega)).trans S5.out)
     have HOW7 := hide (HOW5.out.below B57.out)
     clear r2 hr2 b7 HR1 B6 HCL HPAR S5 HOW5 B57
     have HRD := hide (read_got (me := me) (most := 65536) (B := w4.heap.size) (w := w7) (by omega) (by omega) (by rw [List.length_append]; omega) (by omega) hcB hg hgc (by omega) (by omega) hkb.2 hk2 HUM.out HPAR7.out HCL7.out (HM.out.below B7.out) (HE.out.below B7.out) (by omega) HIN.out.bf)
     rw [HBO.out] at HRD
     dsimp only at HRD
     clear HUM HBO HIN HPAR7 HCL7
     generalize l ++ m = lm at HRD |-
     go_upto_region 11 with (go_at_call 11; refine HRD.out.mono ?_; rintro e w8 ⟨ta, tc, tb, rfl, yr, yg, yb⟩; have B8 := hide (B7.out.trans (yb.mono hw34)); have S8 := hide ((yb.block _ hls).trans S7.out); have HOW8 := hide (HOW7.out.frame fun j e => yb.block j (how j e).2); have HRW := hide yr; have HWH := hide yg.whole; clear yr yg yb)
     have s0 : w8.cell? ⟨w2.heap.size, 0, none⟩ = some (.int .i64 ((N + nb : Nat) : Int)) := cell_at S8.out 0
     have s12 : w8.cell? ⟨w2.heap.size, 12, none⟩ = some (.slice oa ob.length oc) := cell_at S8.out 12
     have hx1 := HRW.out.text
     have hx2 := HOW8.out.text
     clear HRD S7 S8 HOW7 HOW8 HRW
     go_wp2_with (first | (go_at_call 12; refine HWH.out.mono ?_; rintro e w' ⟨rfl, rfl⟩) | (go_at_call 9; refine (HP.out _ B8.out).mono ?_; rintro e w9 ⟨rfl, b9⟩; have B9 := hide (B8.out.trans (b9.mono B8.out.size)); clear b9))
     go_ret
     exact ⟨rfl, B9.out⟩
end Go.Proofs.YtecjlcjaccijpaaGreatDoor
