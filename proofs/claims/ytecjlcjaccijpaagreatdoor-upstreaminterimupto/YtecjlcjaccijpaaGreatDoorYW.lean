/- YW. -/
import Derived.Test.YtecjlcjaccijpaaGreatDoorYS
import Derived.Deep.CutRange
namespace Go.Proofs.YtecjlcjaccijpaaGreatDoor
open Go.ChangeShapes Go.WideShapes Go.ChangeAt Go.RowKit
set_option linter.unusedVariables false
set_option maxHeartbeats 16000000
set_option maxRecDepth 100000
theorem uall_some (w : World) (me : ByteArray) (most : Nat) (hm : most <= 65536) (bk o cp : Nat) (l : List UInt8) (hv : Bs w w.heap.size (.slice (some ⟨bk, o, none⟩) l.length cp) l) (hl : l.length <= 70368744177664) (en : Bool) (BQ : Nat -> Fo -> List UInt8 -> Nat -> Bool -> Nat -> Prop)
  (hread : ∀ W N v er n p, N <= l.length -> Below w.heap.size w W -> Bs W w.heap.size v (l.drop N) -> pBytes (pNew false most) (l.drop N) = (er, n, p) -> Calls Tryz.prog 17 #[.bool false, .int .i64 (most : Int), v] W fun e w' => ∃ (h : Hx) (u : Value), e = .returned (.tuple #[hxV h u, .int .i64 (n : Int), .bool (decide (er = 0) && p.whole), .int .i64 (er : Int)]) /\ FRow w' W.heap.size u h.fs /\ ((decide (er = 0) && p.whole) = true -> h = p.hx) /\ Below W.heap.size W w')
  (hbody : ∀ n p fo W v, uHd me most 9 0 l = .got n p fo -> n <= l.length -> Below w.heap.size w W -> Bs W w.heap.size v (l.drop n) -> Calls Tryz.prog 20 #[frV fo.k fo.n fo.b, .int .i64 9007199254740992, v, .bool en] W fun e w' => ∃ bo bN bw bE, BQ n fo bo bN bw bE /\ bN <= 70368744177665 /\ BAllP W bo bN bw bE e w') :
  Calls Tryz.prog 7 #[.string me, .int .i64 (most : Int), .slice (some ⟨bk, o, none⟩) l.length cp, .bool en] w fun e w' => UQ w en BQ (uHd me most 9 0 l) e w' := by
 have HV := hide hv
 have HBD := hide hbody
 have hcp : l.length <= cp := by obtain ⟨a, n, e, h1, -⟩ := hv; simp only [Value.slice.injEq] at e; omega
 clear hv hbody
 have HRD := hide hread
 obtain ⟨X, HX⟩ : ∃ X, Hid (uHd me most 9 0 l = X) := ⟨_, hide rfl⟩
 rw [HX.out] at HBD |-
 clear hread
 have T0 := hide (Bl.two w #[.int .i64 0, .bool false, .string ⟨#[]⟩, .string ⟨#[]⟩, .int .i64 0, .int .i64 0, .string ⟨#[]⟩, (.slice none 0 0), .bool false, .int .i64 0, .int .i64 0, .bool false, (.slice none 0 0), .bool false, .int .i64 0] 31 #[.int .i64 0, .bool false, .string ⟨#[]⟩, .string ⟨#[]⟩, .int .i64 0, .int .i64 0, .string ⟨#[]⟩, (.slice none 0 0), .bool false, .int .i64 0, .int .i64 0, .bool false, (.slice none 0 0), .bool false, .int .i64 0] 31)
 go_enter Tryz.func7, Tryz.ntmps7
 go_upto_region 2 with fail
 generalize ((w.alloc (.cells #[.int .i64 0, .bool false, .string ⟨#[]⟩, .string ⟨#[]⟩, .int .i64 0, .int .i64 0, .string ⟨#[]⟩, (.slice none 0 0), .bool false, .int .i64 0, .int .i64 0, .bool false, (.slice none 0 0), .bool false, .int .i64 0] 31)).alloc (.cells #[.int .i64 0, .bool false, .string ⟨#[]⟩, .string ⟨#[]⟩, .int .i64 0, .int .i64 0, .string ⟨#[]⟩, (.slice none 0 0), .bool false, .int .i64 0, .int .i64 0, .bool false, (.slice none 0 0), .bool false, .int .i64 0] 31)) = x at T0 |-
 have HR0 : Hid (SnB x w.heap.size sn0) := hide (T0.out.hp 0 _ _ rfl)
 have HS0 : Hid (SnB x (w.heap.size + 1) sn0) := hide (T0.out.hp 1 _ _ rfl)
 have HB0 := hide T0.out.b
 clear T0
 go_wp2_with fail
 go_loopw [10] (fun u wr => ∃ i N : Nat, i <= 8 /\ N <= l.length /\ u = .int .i64 (i : Int) /\ Hid (Below w.heap.size w wr) /\ Hid (SnB wr w.heap.size sn0) /\ ((Hid (SnB wr (w.heap.size + 1) (snN (N : Int))) /\ Hid (X = uHd me most (9 - i) N (l.drop N))) ∨ (∃ p fo la lc, Hid (SnB wr (w.heap.size + 1) (snT p (N : Int) (.slice la p.fs.length lc) true fo.k fo.n fo.b (.slice none 0 0) false 0)) /\ Hid (FRow wr (w.heap.size + 2) (.slice la p.fs.length lc) p.fs) /\ Hid (X = .got N p fo)))) (fun u W => 2 * (9 - (intOf u).toNat) + thr W (w.heap.size + 1))
 case atStart => exact ⟨0, 0, by omega, by omega, rfl, HB0, HR0, .inl ⟨HS0, hide (by rw [<- HX.out]; rfl)⟩⟩
 case round =>
  clear HB0 HR0 HS0
  obtain ⟨i, N, hi, hN, rfl, HB, HR0, hcase⟩ := hrel
  rcases hcase with ⟨HS, HU⟩ | ⟨p, fo, la, lc, HS, HF, HU⟩
  ·have hf : 9 - i = (8 - i) + 1 := by omega
   rw [hf] at HU
   have hNl : (N : Int) <= (l.length : Int) := by omega
   have hkc2 : N <= cp := by omega
   have M8 := hide (thr_f (cell_at HS.out 8))
   have c0 : wr.cell? ⟨(w.heap.size + 1), 0, none⟩ = some (.int .i64 (N : Int)) := cell_at HS.out 0
   have c8 : wr.cell? ⟨(w.heap.size + 1), 8, none⟩ = some (.bool false) := cell_at HS.out 8
   by_cases hkc : cp = N
   ·have hrs : w.heap.size + 2 <= wr.heap.size := by have := lt_heap HS.out; omega
    obtain ⟨er, n, p, HP⟩ : ∃ er n p, Hid (pBytes (pNew false most) (l.drop N) = (er, n, p)) := ⟨_, _, _, hide rfl⟩
    have hn : N + n <= l.length := by have := by_le (l.drop N) (pNew false most); rw [HP.out, List.length_drop] at this; dsimp only at this; omega
    have HC := hide (HRD.out wr N (.slice (some ⟨bk, o, none⟩) 0 0) er n p hN HB.out (by have e0 : l.drop N = [] := List.drop_of_length_le (by omega); rw [e0]; exact Bs.zero _ _ _ _) HP.out)
    unfold hxV at HC
    have hkl : l.length = N := by omega
    have hlN : (l.length : Int) - (N : Int) = 0 := by omega
    have hcN : (cp : Int) - (N : Int) = 0 := by omega
    have hq : er = 0 /\ n = 0 /\ p.whole = false := by have e0 : l.drop N = [] := List.drop_of_length_le (by omega); have h0 := HP.out; rw [e0] at h0; rw [pBytes] at h0; simp only [Prod.mk.injEq] at h0; obtain ⟨a, b, c⟩ := h0; exact ⟨a.symm, b.symm, by rw [<- c]; rfl⟩
    obtain ⟨rfl, rfl, hw⟩ := hq
    go_upto_region 5 with (go_at_call 17; refine HC.out.mono ?_; rintro e w1 ⟨h, u, rfl, y1, y2, y3⟩; obtain ⟨ua, uc, rfl, -⟩ := y1.shape; have HF1 := hide y1; have HH1 := hide y2; have HB1 := hide y3; clear y1 y2 y3)
    have hw1 : wr.heap.size <= w1.heap.size := HB1.out.size
    have HS1 : Hid (SnB w1 (w.heap.size + 1) (snN (N : Int))) := hide ((HB1.out.block (w.heap.size + 1) (by omega)).trans HS.out)
    have HR1 : Hid (SnB w1 w.heap.size sn0) := hide ((HB1.out.block w.heap.size (by omega)).trans HR0.out)
    have HBl1 := hide (HB.out.trans (HB1.out.mono HB.out.size))
    have b2 := (Below.refl w1.heap.size w1).alloc (Nat.le_refl _) (.cells #[.bool h.r, .string h.me, .string h.ta, .int .i64 (h.mi : Int), .int .i64 (h.st : Int), .string h.re, .slice ua h.fs.length uc] 27)
    have F2 := hide (hp_new w1 (.cells #[.bool h.r, .string h.me, .string h.ta, .int .i64 (h.mi : Int), .int .i64 (h.st : Int), .string h.re, .slice ua h.fs.length uc] 27))
    have HS2 : Hid (SnB _ (w.heap.size + 1) (snN (N : Int))) := hide ((b2.block (w.heap.size + 1) (by omega)).trans HS1.out)
    have HR2 : Hid (SnB _ w.heap.size sn0) := hide ((b2.block w.heap.size (by omega)).trans HR1.out)
    have HBl2 := hide (HBl1.out.trans (b2.mono HBl1.out.size))
    have HF2 := hide (HF1.out.below b2)
    clear b2 HF1 HB1 HS1 HR1 HBl1 HC c0 c8 HS HR0 HB
    generalize w1.alloc _ = w2 at *
    have hw2 : w1.heap.size < w2.heap.size := lt_heap F2.out
    have c0 : w2.cell? ⟨(w.heap.size + 1), 0, none⟩ = some (.int .i64 (N : Int)) := cell_at HS2.out 0
    have z0 : w2.frozen? ⟨(w.heap.size + 1), 0, none⟩ = false := by rw [frozen_at HS2.out]; simp
    have HS3 : Hid (SnB (w2.setCell ⟨w.heap.size + 1, 0, none⟩ (.int .i64 (N : Int))) (w.heap.size + 1) (snN (N : Int))) := hide (hp_set HS2.out 0 _)
    have C3 := hide (CK.set w2 (w.heap.size + 1) 0 (.int .i64 (N : Int)))
    have HR3 : Hid (SnB (w2.setCell ⟨w.heap.size + 1, 0, none⟩ (.int .i64 (N : Int))) w.heap.size sn0) := hide ((C3.out.block w.heap.size (lt_heap HR2.out) (by omega)).trans HR2.out)
    have HBl3 := hide (HBl2.out.trans (C3.out.low (by omega) HBl2.out.size))
    have HF3 := hide (HF2.out.frame (W' := (w2.setCell ⟨w.heap.size + 1, 0, none⟩ (.int .i64 (N : Int)))) fun j e => C3.out.block j (HF2.out.lt e).2 (by have := (HF2.out.lt e).1; omega))
    have F3 := hide ((C3.out.block w1.heap.size (lt_heap F2.out) (by omega)).trans F2.out)
    go_upto_region 6 with fail
    clear c0 z0 HS2 HR2 HBl2 HF2 F2 C3
    generalize (w2.setCell ⟨w.heap.size + 1, 0, none⟩ (.int .i64 (N : Int))) = w3 at *
    rw [hw] at HH1
    have hX : X = .cut (N + 0) := HU.out.trans (uHd_cut HP.out hw)
    clear HH1
    cases en
    ·have HS := HS3
     have HR0 := HR3
     have HB := HBl3
     clear HS3 HR3 HBl3 HF3 F3
     go_upto_region 12 with fail
     refine wp_region_lit ?_
     refine wpList_load_mid rfl 31 _ rfl (w.heap.size + 1) 0 rfl (snC (snN (N : Int))).toList _ (range_of HS.out) Tryz.underlying31 rfl (by kernel_rfl) ?_
     simp only [Act.put, sl_]
     refine wpList_store_row rfl 31 _ _ rfl w.heap.size (snC (snN (N : Int))) rfl rfl _ _ HR0.out (by kernel_rfl) rfl (snC_one _ rfl rfl) ?_
     simp only [Act.put]
     refine wpList_nil ?_
     have P : Hid (SnB (w3.setRow w.heap.size (snC (snN (N : Int)))) w.heap.size (snN (N : Int))) := hide (setRow_heap _ _ _ _ _ _ HR0.out)
     have BP := hide (HB.out.trans ((CK.setRow w3 w.heap.size (snC (snN (N : Int)))).low (Nat.le_refl _) HB.out.size))
     clear HS HR0 HB
     generalize w3.setRow w.heap.size (snC (snN (N : Int))) = y9 at P BP |-
     go_wp2_with fail
     exact bodyPost_ret (v := snV (snN (N : Int))) (seen_results P.out _ rfl) rfl (by (try rw [hX]); exact ⟨by simp; rfl, BP.out⟩)
    ·have c14 : w3.cell? ⟨(w.heap.size + 1), 14, none⟩ = some (.int .i64 0) := cell_at HS3.out 14
     have z14 : w3.frozen? ⟨(w.heap.size + 1), 14, none⟩ = false := by rw [frozen_at HS3.out]; simp
     have HS4 : Hid (SnB (w3.setCell ⟨w.heap.size + 1, 14, none⟩ (.int .i64 110)) (w.heap.size + 1) (snE (N : Int) 110)) := hide (hp_set HS3.out 14 _)
     have C4 := hide (CK.set w3 (w.heap.size + 1) 14 (.int .i64 110))
     have HR4 : Hid (SnB (w3.setCell ⟨w.heap.size + 1, 14, none⟩ (.int .i64 110)) w.heap.size sn0) := hide ((C4.out.block w.heap.size (lt_heap HR3.out) (by omega)).trans HR3.out)
     have HBl4 := hide (HBl3.out.trans (C4.out.low (by omega) HBl3.out.size))
     go_upto_region 12 with fail
     clear c14 z14 HS3 HR3 HBl3 HF3 F3 C4
     generalize (w3.setCell ⟨w.heap.size + 1, 14, none⟩ (.int .i64 110)) = w4 at *
     have HS := HS4
     have HR0 := HR4
     have HB := HBl4
     clear HS4 HR4 HBl4
     refine wp_region_lit ?_
     refine wpList_load_mid rfl 31 _ rfl (w.heap.size + 1) 0 rfl (snC (snE (N : Int) 110)).toList _ (range_of HS.out) Tryz.underlying31 rfl (by kernel_rfl) ?_
     simp only [Act.put, sl_]
     refine wpList_store_row rfl 31 _ _ rfl w.heap.size (snC (snE (N : Int) 110)) rfl rfl _ _ HR0.out (by kernel_rfl) rfl (snC_one _ rfl rfl) ?_
     simp only [Act.put]
     refine wpList_nil ?_
     have P : Hid (SnB (w4.setRow w.heap.size (snC (snE (N : Int) 110))) w.heap.size (snE (N : Int) 110)) := hide (setRow_heap _ _ _ _ _ _ HR0.out)
     have BP := hide (HB.out.trans ((CK.setRow w4 w.heap.size (snC (snE (N : Int) 110))).low (Nat.le_refl _) HB.out.size))
     clear HS HR0 HB
     generalize w4.setRow w.heap.size (snC (snE (N : Int) 110)) = y9 at P BP |-
     go_wp2_with fail
     exact bodyPost_ret (v := snV (snE (N : Int) 110)) (seen_results P.out _ rfl) rfl (by (try rw [hX]); exact ⟨by simp, BP.out⟩)
   ·have hrs : w.heap.size + 2 <= wr.heap.size := by have := lt_heap HS.out; omega
    obtain ⟨er, n, p, HP⟩ : ∃ er n p, Hid (pBytes (pNew false most) (l.drop N) = (er, n, p)) := ⟨_, _, _, hide rfl⟩
    have hn : N + n <= l.length := by have := by_le (l.drop N) (pNew false most); rw [HP.out, List.length_drop] at this; dsimp only at this; omega
    have HC := hide (HRD.out wr N (.slice (some ⟨bk, o + N, none⟩) (l.length - N) (cp - N)) er n p hN HB.out ((HV.out.from N hN).below (Nat.le_refl _) HB.out) HP.out)
    unfold hxV at HC
    go_upto_region 5 with (go_at_call 17; refine HC.out.mono ?_; rintro e w1 ⟨h, u, rfl, y1, y2, y3⟩; obtain ⟨ua, uc, rfl, -⟩ := y1.shape; have HF1 := hide y1; have HH1 := hide y2; have HB1 := hide y3; clear y1 y2 y3)
    have hw1 : wr.heap.size <= w1.heap.size := HB1.out.size
    have HS1 : Hid (SnB w1 (w.heap.size + 1) (snN (N : Int))) := hide ((HB1.out.block (w.heap.size + 1) (by omega)).trans HS.out)
    have HR1 : Hid (SnB w1 w.heap.size sn0) := hide ((HB1.out.block w.heap.size (by omega)).trans HR0.out)
    have HBl1 := hide (HB.out.trans (HB1.out.mono HB.out.size))
    have b2 := (Below.refl w1.heap.size w1).alloc (Nat.le_refl _) (.cells #[.bool h.r, .string h.me, .string h.ta, .int .i64 (h.mi : Int), .int .i64 (h.st : Int), .string h.re, .slice ua h.fs.length uc] 27)
    have F2 := hide (hp_new w1 (.cells #[.bool h.r, .string h.me, .string h.ta, .int .i64 (h.mi : Int), .int .i64 (h.st : Int), .string h.re, .slice ua h.fs.length uc] 27))
    have HS2 : Hid (SnB _ (w.heap.size + 1) (snN (N : Int))) := hide ((b2.block (w.heap.size + 1) (by omega)).trans HS1.out)
    have HR2 : Hid (SnB _ w.heap.size sn0) := hide ((b2.block w.heap.size (by omega)).trans HR1.out)
    have HBl2 := hide (HBl1.out.trans (b2.mono HBl1.out.size))
    have HF2 := hide (HF1.out.below b2)
    clear b2 HF1 HB1 HS1 HR1 HBl1 HC c0 c8 HS HR0 HB
    generalize w1.alloc _ = w2 at *
    have hw2 : w1.heap.size < w2.heap.size := lt_heap F2.out
    have c0 : w2.cell? ⟨(w.heap.size + 1), 0, none⟩ = some (.int .i64 (N : Int)) := cell_at HS2.out 0
    have z0 : w2.frozen? ⟨(w.heap.size + 1), 0, none⟩ = false := by rw [frozen_at HS2.out]; simp
    have HS3 : Hid (SnB (w2.setCell ⟨w.heap.size + 1, 0, none⟩ (.int .i64 ((N : Int) + (n : Int)))) (w.heap.size + 1) (snN ((N : Int) + (n : Int)))) := hide (hp_set HS2.out 0 _)
    have C3 := hide (CK.set w2 (w.heap.size + 1) 0 (.int .i64 ((N : Int) + (n : Int))))
    have HR3 : Hid (SnB (w2.setCell ⟨w.heap.size + 1, 0, none⟩ (.int .i64 ((N : Int) + (n : Int)))) w.heap.size sn0) := hide ((C3.out.block w.heap.size (lt_heap HR2.out) (by omega)).trans HR2.out)
    have HBl3 := hide (HBl2.out.trans (C3.out.low (by omega) HBl2.out.size))
    have HF3 := hide (HF2.out.frame (W' := (w2.setCell ⟨w.heap.size + 1, 0, none⟩ (.int .i64 ((N : Int) + (n : Int))))) fun j e => C3.out.block j (HF2.out.lt e).2 (by have := (HF2.out.lt e).1; omega))
    have F3 := hide ((C3.out.block w1.heap.size (lt_heap F2.out) (by omega)).trans F2.out)
    go_upto_region 6 with fail
    clear c0 z0 HS2 HR2 HBl2 HF2 F2 C3
    generalize (w2.setCell ⟨w.heap.size + 1, 0, none⟩ (.int .i64 ((N : Int) + (n : Int)))) = w3 at *
    by_cases her : er = 0
    ·have t1 : (er : Int) = 0 := by omega
     subst her
     cases hw : p.whole
     ·rw [hw] at HH1
      have hX : X = .cut (N + n) := HU.out.trans (uHd_cut HP.out hw)
      clear HH1
      cases en
      ·have HS := HS3
       have HR0 := HR3
       have HB := HBl3
       clear HS3 HR3 HBl3 HF3 F3
       go_upto_region 12 with fail
       refine wp_region_lit ?_
       refine wpList_load_mid rfl 31 _ rfl (w.heap.size + 1) 0 rfl (snC (snN ((N : Int) + (n : Int)))).toList _ (range_of HS.out) Tryz.underlying31 rfl (by kernel_rfl) ?_
       simp only [Act.put, sl_]
       refine wpList_store_row rfl 31 _ _ rfl w.heap.size (snC (snN ((N : Int) + (n : Int)))) rfl rfl _ _ HR0.out (by kernel_rfl) rfl (snC_one _ rfl rfl) ?_
       simp only [Act.put]
       refine wpList_nil ?_
       have P : Hid (SnB (w3.setRow w.heap.size (snC (snN ((N : Int) + (n : Int))))) w.heap.size (snN ((N : Int) + (n : Int)))) := hide (setRow_heap _ _ _ _ _ _ HR0.out)
       have BP := hide (HB.out.trans ((CK.setRow w3 w.heap.size (snC (snN ((N : Int) + (n : Int))))).low (Nat.le_refl _) HB.out.size))
       clear HS HR0 HB
       generalize w3.setRow w.heap.size (snC (snN ((N : Int) + (n : Int)))) = y9 at P BP |-
       go_wp2_with fail
       exact bodyPost_ret (v := snV (snN ((N : Int) + (n : Int)))) (seen_results P.out _ rfl) rfl (by (try rw [hX]); exact ⟨by simp; rfl, BP.out⟩)
      ·have c14 : w3.cell? ⟨(w.heap.size + 1), 14, none⟩ = some (.int .i64 0) := cell_at HS3.out 14
       have z14 : w3.frozen? ⟨(w.heap.size + 1), 14, none⟩ = false := by rw [frozen_at HS3.out]; simp
       have HS4 : Hid (SnB (w3.setCell ⟨w.heap.size + 1, 14, none⟩ (.int .i64 110)) (w.heap.size + 1) (snE ((N : Int) + (n : Int)) 110)) := hide (hp_set HS3.out 14 _)
       have C4 := hide (CK.set w3 (w.heap.size + 1) 14 (.int .i64 110))
       have HR4 : Hid (SnB (w3.setCell ⟨w.heap.size + 1, 14, none⟩ (.int .i64 110)) w.heap.size sn0) := hide ((C4.out.block w.heap.size (lt_heap HR3.out) (by omega)).trans HR3.out)
       have HBl4 := hide (HBl3.out.trans (C4.out.low (by omega) HBl3.out.size))
       go_upto_region 12 with fail
       clear c14 z14 HS3 HR3 HBl3 HF3 F3 C4
       generalize (w3.setCell ⟨w.heap.size + 1, 14, none⟩ (.int .i64 110)) = w4 at *
       have HS := HS4
       have HR0 := HR4
       have HB := HBl4
       clear HS4 HR4 HBl4
       refine wp_region_lit ?_
       refine wpList_load_mid rfl 31 _ rfl (w.heap.size + 1) 0 rfl (snC (snE ((N : Int) + (n : Int)) 110)).toList _ (range_of HS.out) Tryz.underlying31 rfl (by kernel_rfl) ?_
       simp only [Act.put, sl_]
       refine wpList_store_row rfl 31 _ _ rfl w.heap.size (snC (snE ((N : Int) + (n : Int)) 110)) rfl rfl _ _ HR0.out (by kernel_rfl) rfl (snC_one _ rfl rfl) ?_
       simp only [Act.put]
       refine wpList_nil ?_
       have P : Hid (SnB (w4.setRow w.heap.size (snC (snE ((N : Int) + (n : Int)) 110))) w.heap.size (snE ((N : Int) + (n : Int)) 110)) := hide (setRow_heap _ _ _ _ _ _ HR0.out)
       have BP := hide (HB.out.trans ((CK.setRow w4 w.heap.size (snC (snE ((N : Int) + (n : Int)) 110))).low (Nat.le_refl _) HB.out.size))
       clear HS HR0 HB
       generalize w4.setRow w.heap.size (snC (snE ((N : Int) + (n : Int)) 110)) = y9 at P BP |-
       go_wp2_with fail
       exact bodyPost_ret (v := snV (snE ((N : Int) + (n : Int)) 110)) (seen_results P.out _ rfl) rfl (by (try rw [hX]); exact ⟨by simp, BP.out⟩)
     ·rw [hw] at HH1
      have hh := HH1.out rfl
      subst hh
      clear HH1
      unfold Pz.hx at F3 HF3
      dsimp only at F3 HF3
      have e4 : w3.cell? ⟨w1.heap.size, 4, none⟩ = some (.int .i64 (p.status : Int)) := cell_at F3.out 4
      by_cases h200 : 200 <= p.status
      ·have t2 : (200 : Int) <= (p.status : Int) := by omega
       obtain ⟨fk, fl, fp, fe, HQ⟩ : ∃ fk fl fp fe, Hid (uO me p = ⟨fk, fl, fp, fe⟩) := ⟨_, _, _, _, hide rfl⟩
       have hft : Fit p := by have := fit_bytes (l.drop N) _ (fit_new false most hm); rw [HP.out] at this; exact this
       have hsz : Sz p := by have := sz_bytes (l.drop N) _ (fit_new false most hm) (sz_new false most); rw [HP.out] at this; exact this
       have HRE := hide (rres_any w3 p.req p.me p.ta (p.minor : Int) (p.status : Int) p.re (.slice ua p.fs.length uc) p.fs me (Flds.of_row HF3.out) ⟨by have := hft.fs; omega, fun f hf => by have := hsz.fs f hf; omega⟩)
       rw [show resO p.fs p.req (p.minor : Int) (p.status : Int) me = ⟨fk, fl, fp, fe⟩ from HQ.out] at HRE
       unfold hdC foV frVg at HRE
       dsimp only at HRE
       have e0 : w3.cell? ⟨w1.heap.size, 0, none⟩ = some (.bool p.req) := cell_at F3.out 0
       have e1 : w3.cell? ⟨w1.heap.size, 1, none⟩ = some (.string p.me) := cell_at F3.out 1
       have e2 : w3.cell? ⟨w1.heap.size, 2, none⟩ = some (.string p.ta) := cell_at F3.out 2
       have e3 : w3.cell? ⟨w1.heap.size, 3, none⟩ = some (.int .i64 (p.minor : Int)) := cell_at F3.out 3
       have e5 : w3.cell? ⟨w1.heap.size, 5, none⟩ = some (.string p.re) := cell_at F3.out 5
       have e6 : w3.cell? ⟨w1.heap.size, 6, none⟩ = some (.slice ua p.fs.length uc) := cell_at F3.out 6
       clear hft hsz
       go_upto_region 15 with (go_at_call 19; refine HRE.out.mono ?_; rintro e w4 ⟨rfl, y1⟩; have HB4 := hide y1; clear y1)
       have hw3 : w1.heap.size < w3.heap.size := lt_heap F3.out
       have hs4 : w3.heap.size <= w4.heap.size := HB4.out.size
       have b5 := (Below.refl w4.heap.size w4).alloc (Nat.le_refl _) (.cells #[.int .i64 fk, .int .i64 fl, .bool fp] 29)
       have FF5 := hide (hp_new w4 (.cells #[.int .i64 fk, .int .i64 fl, .bool fp] 29))
       have B35 := hide (HB4.out.trans (b5.mono hs4))
       have HS5 : Hid (SnB _ (w.heap.size + 1) (snN ((N : Int) + (n : Int)))) := hide ((B35.out.block (w.heap.size + 1) (by omega)).trans HS3.out)
       have HR5 : Hid (SnB _ w.heap.size sn0) := hide ((B35.out.block w.heap.size (by omega)).trans HR3.out)
       have HBl5 := hide (HBl3.out.trans (B35.out.mono HBl3.out.size))
       have HF5 := hide (HF3.out.below B35.out)
       have F5 := hide ((B35.out.block w1.heap.size hw3).trans F3.out)
       clear b5 HB4 B35 HS3 HR3 HBl3 HF3 F3 HRE e0 e1 e2 e3 e4 e5 e6
       generalize w4.alloc _ = w5 at *
       have hw5 : w4.heap.size < w5.heap.size := lt_heap FF5.out
       by_cases hfe : fe = 0
       ·subst hfe
        have hX : X = .got (N + n) p (uO me p) := HU.out.trans (uHd_got HP.out hw h200 (by rw [HQ.out]))
        have e0 : w5.cell? ⟨w1.heap.size, 0, none⟩ = some (.bool p.req) := cell_at F5.out 0
        have e1 : w5.cell? ⟨w1.heap.size, 1, none⟩ = some (.string p.me) := cell_at F5.out 1
        have e2 : w5.cell? ⟨w1.heap.size, 2, none⟩ = some (.string p.ta) := cell_at F5.out 2
        have e3 : w5.cell? ⟨w1.heap.size, 3, none⟩ = some (.int .i64 (p.minor : Int)) := cell_at F5.out 3
        have e4 : w5.cell? ⟨w1.heap.size, 4, none⟩ = some (.int .i64 (p.status : Int)) := cell_at F5.out 4
        have e5 : w5.cell? ⟨w1.heap.size, 5, none⟩ = some (.string p.re) := cell_at F5.out 5
        have e6 : w5.cell? ⟨w1.heap.size, 6, none⟩ = some (.slice ua p.fs.length uc) := cell_at F5.out 6
        have c1 : w5.cell? ⟨(w.heap.size + 1), 1, none⟩ = some (.bool false) := cell_at HS5.out 1
        have c2 : w5.cell? ⟨(w.heap.size + 1), 2, none⟩ = some (.string ⟨#[]⟩) := cell_at HS5.out 2
        have c3 : w5.cell? ⟨(w.heap.size + 1), 3, none⟩ = some (.string ⟨#[]⟩) := cell_at HS5.out 3
        have c4 : w5.cell? ⟨(w.heap.size + 1), 4, none⟩ = some (.int .i64 0) := cell_at HS5.out 4
        have c5 : w5.cell? ⟨(w.heap.size + 1), 5, none⟩ = some (.int .i64 0) := cell_at HS5.out 5
        have c6 : w5.cell? ⟨(w.heap.size + 1), 6, none⟩ = some (.string ⟨#[]⟩) := cell_at HS5.out 6
        have c7 : w5.cell? ⟨(w.heap.size + 1), 7, none⟩ = some ((.slice none 0 0)) := cell_at HS5.out 7
        have z1 : w5.frozen? ⟨(w.heap.size + 1), 1, none⟩ = false := by rw [frozen_at HS5.out]; simp
        have z2 : w5.frozen? ⟨(w.heap.size + 1), 2, none⟩ = false := by rw [frozen_at HS5.out]; simp
        have z3 : w5.frozen? ⟨(w.heap.size + 1), 3, none⟩ = false := by rw [frozen_at HS5.out]; simp
        have z4 : w5.frozen? ⟨(w.heap.size + 1), 4, none⟩ = false := by rw [frozen_at HS5.out]; simp
        have z5 : w5.frozen? ⟨(w.heap.size + 1), 5, none⟩ = false := by rw [frozen_at HS5.out]; simp
        have z6 : w5.frozen? ⟨(w.heap.size + 1), 6, none⟩ = false := by rw [frozen_at HS5.out]; simp
        have z7 : w5.frozen? ⟨(w.heap.size + 1), 7, none⟩ = false := by rw [frozen_at HS5.out]; simp
        have HPH := hide (putHd_ok HS5.out p.req p.me p.ta (p.minor : Int) (p.status : Int) p.re (.slice ua p.fs.length uc))
        have HS6 : Hid (SnB (putHd w5 (w.heap.size + 1) p.req p.me p.ta (p.minor : Int) (p.status : Int) p.re (.slice ua p.fs.length uc)) (w.heap.size + 1) (snT p ((N : Int) + (n : Int)) (.slice ua p.fs.length uc) false 0 0 false (.slice none 0 0) false 0)) := hide HPH.out.1
        have HR6 : Hid (SnB (putHd w5 (w.heap.size + 1) p.req p.me p.ta (p.minor : Int) (p.status : Int) p.re (.slice ua p.fs.length uc)) w.heap.size sn0) := hide ((HPH.out.2.block w.heap.size (lt_heap HR5.out) (by omega)).trans HR5.out)
        have HBl6 := hide (HBl5.out.trans (HPH.out.2.low (by omega) HBl5.out.size))
        have HF6 := hide (HF5.out.frame (W' := putHd w5 (w.heap.size + 1) p.req p.me p.ta (p.minor : Int) (p.status : Int) p.re (.slice ua p.fs.length uc)) fun j e => HPH.out.2.block j (HF5.out.lt e).2 (by have := (HF5.out.lt e).1; omega))
        have FF6 := hide ((HPH.out.2.block w4.heap.size hw5 (by omega)).trans FF5.out)
        have hs6 := HPH.out.2.size
        clear HPH
        unfold putHd at HS6 HR6 HBl6 HF6 FF6 hs6
        go_upto_region 19 with fail
        clear e0 e1 e2 e3 e4 e5 e6 c1 c2 c3 c4 c5 c6 c7 z1 z2 z3 z4 z5 z6 z7 HS5 HR5 HBl5 HF5 F5 FF5
        generalize ((((((((w5.setCell ⟨w.heap.size + 1, 1, none⟩ (.bool p.req)).setCell ⟨w.heap.size + 1, 2, none⟩ (.string p.me)).setCell ⟨w.heap.size + 1, 3, none⟩ (.string p.ta)).setCell ⟨w.heap.size + 1, 4, none⟩ (.int .i64 (p.minor : Int))).setCell ⟨w.heap.size + 1, 5, none⟩ (.int .i64 (p.status : Int))).setCell ⟨w.heap.size + 1, 6, none⟩ (.string p.re)).setCell ⟨w.heap.size + 1, 7, none⟩ (.slice ua p.fs.length uc))) = w6 at *
        have f0 : w6.cell? ⟨w4.heap.size, 0, none⟩ = some (.int .i64 fk) := cell_at FF6.out 0
        have f1 : w6.cell? ⟨w4.heap.size, 1, none⟩ = some (.int .i64 fl) := cell_at FF6.out 1
        have f2 : w6.cell? ⟨w4.heap.size, 2, none⟩ = some (.bool fp) := cell_at FF6.out 2
        have c9 : w6.cell? ⟨(w.heap.size + 1), 9, none⟩ = some (.int .i64 0) := cell_at HS6.out 9
        have c10 : w6.cell? ⟨(w.heap.size + 1), 10, none⟩ = some (.int .i64 0) := cell_at HS6.out 10
        have c11 : w6.cell? ⟨(w.heap.size + 1), 11, none⟩ = some (.bool false) := cell_at HS6.out 11
        have z9 : w6.frozen? ⟨(w.heap.size + 1), 9, none⟩ = false := by rw [frozen_at HS6.out]; simp
        have z10 : w6.frozen? ⟨(w.heap.size + 1), 10, none⟩ = false := by rw [frozen_at HS6.out]; simp
        have z11 : w6.frozen? ⟨(w.heap.size + 1), 11, none⟩ = false := by rw [frozen_at HS6.out]; simp
        have HPF := hide (putFm_ok HS6.out fk fl fp)
        have HS7 : Hid (SnB (putFm w6 (w.heap.size + 1) fk fl fp) (w.heap.size + 1) (snT p ((N : Int) + (n : Int)) (.slice ua p.fs.length uc) false fk fl fp (.slice none 0 0) false 0)) := hide HPF.out.1
        have HR7 : Hid (SnB (putFm w6 (w.heap.size + 1) fk fl fp) w.heap.size sn0) := hide ((HPF.out.2.block w.heap.size (lt_heap HR6.out) (by omega)).trans HR6.out)
        have HBl7 := hide (HBl6.out.trans (HPF.out.2.low (by omega) HBl6.out.size))
        have HF7 := hide (HF6.out.frame (W' := putFm w6 (w.heap.size + 1) fk fl fp) fun j e => HPF.out.2.block j (HF6.out.lt e).2 (by have := (HF6.out.lt e).1; omega))
        clear HPF
        unfold putFm at HS7 HR7 HBl7 HF7
        go_upto_region 20 with fail
        clear f0 f1 f2 c9 c10 c11 z9 z10 z11 HS6 HR6 HBl6 HF6 FF6
        generalize ((w6.setCell ⟨w.heap.size + 1, 9, none⟩ (.int .i64 fk)).setCell ⟨w.heap.size + 1, 10, none⟩ (.int .i64 fl)).setCell ⟨w.heap.size + 1, 11, none⟩ (.bool fp) = w7 at *
        have c8 : w7.cell? ⟨(w.heap.size + 1), 8, none⟩ = some (.bool false) := cell_at HS7.out 8
        have z8 : w7.frozen? ⟨(w.heap.size + 1), 8, none⟩ = false := by rw [frozen_at HS7.out]; simp
        have HS8 : Hid (SnB (w7.setCell ⟨w.heap.size + 1, 8, none⟩ (.bool true)) (w.heap.size + 1) (snT p ((N : Int) + (n : Int)) (.slice ua p.fs.length uc) true fk fl fp (.slice none 0 0) false 0)) := hide (hp_set HS7.out 8 _)
        have C8 := hide (CK.set w7 (w.heap.size + 1) 8 (.bool true))
        have HR8 : Hid (SnB (w7.setCell ⟨w.heap.size + 1, 8, none⟩ (.bool true)) w.heap.size sn0) := hide ((C8.out.block w.heap.size (lt_heap HR7.out) (by omega)).trans HR7.out)
        have HBl8 := hide (HBl7.out.trans (C8.out.low (by omega) HBl7.out.size))
        have HF8 := hide (HF7.out.frame (W' := (w7.setCell ⟨w.heap.size + 1, 8, none⟩ (.bool true))) fun j e => C8.out.block j (HF7.out.lt e).2 (by have := (HF7.out.lt e).1; omega))
        have M9 := hide (thr_t (cell_at HS8.out 8))
        skip
        go_wp2_with fail
        go_roundw
        case rel => exact ⟨i, N + n, hi, hn, rfl, HBl8, HR8, .inr ⟨p, ⟨fk, fl, fp, 0⟩, ua, uc, hide (by have := HS8.out; simpa using this), hide (HF8.out.lower (by omega)), hide (by rw [hX, HQ.out])⟩⟩
        case measure => rw [M8.out, M9.out]; simp [intOf]
       ·have t5 : (fe == 0) = false := by simpa using hfe
        have hX : X = .bad (N + n) fe := by rw [HU.out, uHd_refused HP.out hw h200 (by rw [HQ.out]; exact hfe), HQ.out]
        have c14 : w5.cell? ⟨(w.heap.size + 1), 14, none⟩ = some (.int .i64 0) := cell_at HS5.out 14
        have z14 : w5.frozen? ⟨(w.heap.size + 1), 14, none⟩ = false := by rw [frozen_at HS5.out]; simp
        have HS6 : Hid (SnB (w5.setCell ⟨w.heap.size + 1, 14, none⟩ (.int .i64 fe)) (w.heap.size + 1) (snE ((N : Int) + (n : Int)) fe)) := hide (hp_set HS5.out 14 _)
        have C6 := hide (CK.set w5 (w.heap.size + 1) 14 (.int .i64 fe))
        have HR6 : Hid (SnB (w5.setCell ⟨w.heap.size + 1, 14, none⟩ (.int .i64 fe)) w.heap.size sn0) := hide ((C6.out.block w.heap.size (lt_heap HR5.out) (by omega)).trans HR5.out)
        have HBl6 := hide (HBl5.out.trans (C6.out.low (by omega) HBl5.out.size))
        go_upto_region 17 with fail
        clear c14 z14 HS5 HR5 HBl5 HF5 F5 FF5 C6
        generalize (w5.setCell ⟨w.heap.size + 1, 14, none⟩ (.int .i64 fe)) = w6 at *
        have HS := HS6
        have HR0 := HR6
        have HB := HBl6
        clear HS6 HR6 HBl6
        refine wp_region_lit ?_
        refine wpList_load_mid rfl 31 _ rfl (w.heap.size + 1) 0 rfl (snC (snE ((N : Int) + (n : Int)) fe)).toList _ (range_of HS.out) Tryz.underlying31 rfl (by kernel_rfl) ?_
        simp only [Act.put, sl_]
        refine wpList_store_row rfl 31 _ _ rfl w.heap.size (snC (snE ((N : Int) + (n : Int)) fe)) rfl rfl _ _ HR0.out (by kernel_rfl) rfl (snC_one _ rfl rfl) ?_
        simp only [Act.put]
        refine wpList_nil ?_
        have P : Hid (SnB (w6.setRow w.heap.size (snC (snE ((N : Int) + (n : Int)) fe))) w.heap.size (snE ((N : Int) + (n : Int)) fe)) := hide (setRow_heap _ _ _ _ _ _ HR0.out)
        have BP := hide (HB.out.trans ((CK.setRow w6 w.heap.size (snC (snE ((N : Int) + (n : Int)) fe))).low (Nat.le_refl _) HB.out.size))
        clear HS HR0 HB
        generalize w6.setRow w.heap.size (snC (snE ((N : Int) + (n : Int)) fe)) = y9 at P BP |-
        go_wp2_with fail
        exact bodyPost_ret (v := snV (snE ((N : Int) + (n : Int)) fe)) (seen_results P.out _ rfl) rfl (by (try rw [hX]); exact ⟨by simp, BP.out⟩)
      ·have t2 : ¬ (200 : Int) <= (p.status : Int) := by omega
       have t3 : (p.status : Int) < 200 := by omega
       have t4 : ¬ (p.status : Int) ≥ 200 := by omega
       by_cases h101 : p.status = 101
       ·have t5 : (p.status : Int) = 101 := by omega
        rw [t5] at e4
        have hX : X = .bad (N + n) 80 := HU.out.trans (uHd_start HP.out hw (by omega) (.inl h101))
        have c14 : w3.cell? ⟨(w.heap.size + 1), 14, none⟩ = some (.int .i64 0) := cell_at HS3.out 14
        have z14 : w3.frozen? ⟨(w.heap.size + 1), 14, none⟩ = false := by rw [frozen_at HS3.out]; simp
        have HS4 : Hid (SnB (w3.setCell ⟨w.heap.size + 1, 14, none⟩ (.int .i64 80)) (w.heap.size + 1) (snE ((N : Int) + (n : Int)) 80)) := hide (hp_set HS3.out 14 _)
        have C4 := hide (CK.set w3 (w.heap.size + 1) 14 (.int .i64 80))
        have HR4 : Hid (SnB (w3.setCell ⟨w.heap.size + 1, 14, none⟩ (.int .i64 80)) w.heap.size sn0) := hide ((C4.out.block w.heap.size (lt_heap HR3.out) (by omega)).trans HR3.out)
        have HBl4 := hide (HBl3.out.trans (C4.out.low (by omega) HBl3.out.size))
        go_upto_region 24 with fail
        clear c14 z14 e4 HS3 HR3 HBl3 HF3 F3 C4
        generalize (w3.setCell ⟨w.heap.size + 1, 14, none⟩ (.int .i64 80)) = w4 at *
        have HS := HS4
        have HR0 := HR4
        have HB := HBl4
        clear HS4 HR4 HBl4
        refine wp_region_lit ?_
        refine wpList_load_mid rfl 31 _ rfl (w.heap.size + 1) 0 rfl (snC (snE ((N : Int) + (n : Int)) 80)).toList _ (range_of HS.out) Tryz.underlying31 rfl (by kernel_rfl) ?_
        simp only [Act.put, sl_]
        refine wpList_store_row rfl 31 _ _ rfl w.heap.size (snC (snE ((N : Int) + (n : Int)) 80)) rfl rfl _ _ HR0.out (by kernel_rfl) rfl (snC_one _ rfl rfl) ?_
        simp only [Act.put]
        refine wpList_nil ?_
        have P : Hid (SnB (w4.setRow w.heap.size (snC (snE ((N : Int) + (n : Int)) 80))) w.heap.size (snE ((N : Int) + (n : Int)) 80)) := hide (setRow_heap _ _ _ _ _ _ HR0.out)
        have BP := hide (HB.out.trans ((CK.setRow w4 w.heap.size (snC (snE ((N : Int) + (n : Int)) 80))).low (Nat.le_refl _) HB.out.size))
        clear HS HR0 HB
        generalize w4.setRow w.heap.size (snC (snE ((N : Int) + (n : Int)) 80)) = y9 at P BP |-
        go_wp2_with fail
        exact bodyPost_ret (v := snV (snE ((N : Int) + (n : Int)) 80)) (seen_results P.out _ rfl) rfl (by (try rw [hX]); exact ⟨by simp, BP.out⟩)
       ·have t5 : ((p.status : Int) == 101) = false := by simp; omega
        by_cases h8 : i = 8
        ·subst h8
         have hX : X = .bad (N + n) 80 := HU.out.trans (uHd_start HP.out hw (by omega) (.inr rfl))
         have c14 : w3.cell? ⟨(w.heap.size + 1), 14, none⟩ = some (.int .i64 0) := cell_at HS3.out 14
         have z14 : w3.frozen? ⟨(w.heap.size + 1), 14, none⟩ = false := by rw [frozen_at HS3.out]; simp
         have HS4 : Hid (SnB (w3.setCell ⟨w.heap.size + 1, 14, none⟩ (.int .i64 80)) (w.heap.size + 1) (snE ((N : Int) + (n : Int)) 80)) := hide (hp_set HS3.out 14 _)
         have C4 := hide (CK.set w3 (w.heap.size + 1) 14 (.int .i64 80))
         have HR4 : Hid (SnB (w3.setCell ⟨w.heap.size + 1, 14, none⟩ (.int .i64 80)) w.heap.size sn0) := hide ((C4.out.block w.heap.size (lt_heap HR3.out) (by omega)).trans HR3.out)
         have HBl4 := hide (HBl3.out.trans (C4.out.low (by omega) HBl3.out.size))
         go_upto_region 24 with fail
         clear c14 z14 e4 HS3 HR3 HBl3 HF3 F3 C4
         generalize (w3.setCell ⟨w.heap.size + 1, 14, none⟩ (.int .i64 80)) = w4 at *
         have HS := HS4
         have HR0 := HR4
         have HB := HBl4
         clear HS4 HR4 HBl4
         refine wp_region_lit ?_
         refine wpList_load_mid rfl 31 _ rfl (w.heap.size + 1) 0 rfl (snC (snE ((N : Int) + (n : Int)) 80)).toList _ (range_of HS.out) Tryz.underlying31 rfl (by kernel_rfl) ?_
         simp only [Act.put, sl_]
         refine wpList_store_row rfl 31 _ _ rfl w.heap.size (snC (snE ((N : Int) + (n : Int)) 80)) rfl rfl _ _ HR0.out (by kernel_rfl) rfl (snC_one _ rfl rfl) ?_
         simp only [Act.put]
         refine wpList_nil ?_
         have P : Hid (SnB (w4.setRow w.heap.size (snC (snE ((N : Int) + (n : Int)) 80))) w.heap.size (snE ((N : Int) + (n : Int)) 80)) := hide (setRow_heap _ _ _ _ _ _ HR0.out)
         have BP := hide (HB.out.trans ((CK.setRow w4 w.heap.size (snC (snE ((N : Int) + (n : Int)) 80))).low (Nat.le_refl _) HB.out.size))
         clear HS HR0 HB
         generalize w4.setRow w.heap.size (snC (snE ((N : Int) + (n : Int)) 80)) = y9 at P BP |-
         go_wp2_with fail
         exact bodyPost_ret (v := snV (snE ((N : Int) + (n : Int)) 80)) (seen_results P.out _ rfl) rfl (by (try rw [hX]); exact ⟨by simp, BP.out⟩)
        ·have t6 : ¬ (8 : Int) < (i : Int) + 1 := by omega
         have M9 := hide (thr_f (cell_at HS3.out 8))
         go_wp2_with fail
         go_roundw
         case rel => exact ⟨i + 1, N + n, by omega, hn, by simp, HBl3, HR3, .inl ⟨hide (by have := HS3.out; simpa using this), hide (by rw [HU.out, uHd_on HP.out hw (by omega) h101 (by omega), List.drop_drop, show 9 - (i + 1) = 8 - i by omega])⟩⟩
         case measure => rw [M8.out, M9.out]; simp [intOf]; omega
    ·have t1 : ((er : Int) == 0) = false := by simp; omega
     have c14 : w3.cell? ⟨(w.heap.size + 1), 14, none⟩ = some (.int .i64 0) := cell_at HS3.out 14
     have z14 : w3.frozen? ⟨(w.heap.size + 1), 14, none⟩ = false := by rw [frozen_at HS3.out]; simp
     have HS4 : Hid (SnB (w3.setCell ⟨w.heap.size + 1, 14, none⟩ (.int .i64 (er : Int))) (w.heap.size + 1) (snE ((N : Int) + (n : Int)) (er : Int))) := hide (hp_set HS3.out 14 _)
     have C4 := hide (CK.set w3 (w.heap.size + 1) 14 (.int .i64 (er : Int)))
     have HR4 : Hid (SnB (w3.setCell ⟨w.heap.size + 1, 14, none⟩ (.int .i64 (er : Int))) w.heap.size sn0) := hide ((C4.out.block w.heap.size (lt_heap HR3.out) (by omega)).trans HR3.out)
     have HBl4 := hide (HBl3.out.trans (C4.out.low (by omega) HBl3.out.size))
     go_upto_region 8 with fail
     clear c14 z14 HS3 HR3 HBl3 HF3 F3 C4
     generalize (w3.setCell ⟨w.heap.size + 1, 14, none⟩ (.int .i64 (er : Int))) = w4 at *
     have HS := HS4
     have HR0 := HR4
     have HB := HBl4
     clear HS4 HR4 HBl4
     have hX : X = .bad (N + n) (er : Int) := HU.out.trans (uHd_bad HP.out her)
     refine wp_region_lit ?_
     refine wpList_load_mid rfl 31 _ rfl (w.heap.size + 1) 0 rfl (snC (snE ((N : Int) + (n : Int)) (er : Int))).toList _ (range_of HS.out) Tryz.underlying31 rfl (by kernel_rfl) ?_
     simp only [Act.put, sl_]
     refine wpList_store_row rfl 31 _ _ rfl w.heap.size (snC (snE ((N : Int) + (n : Int)) (er : Int))) rfl rfl _ _ HR0.out (by kernel_rfl) rfl (snC_one _ rfl rfl) ?_
     simp only [Act.put]
     refine wpList_nil ?_
     have P : Hid (SnB (w4.setRow w.heap.size (snC (snE ((N : Int) + (n : Int)) (er : Int)))) w.heap.size (snE ((N : Int) + (n : Int)) (er : Int))) := hide (setRow_heap _ _ _ _ _ _ HR0.out)
     have BP := hide (HB.out.trans ((CK.setRow w4 w.heap.size (snC (snE ((N : Int) + (n : Int)) (er : Int)))).low (Nat.le_refl _) HB.out.size))
     clear HS HR0 HB
     generalize w4.setRow w.heap.size (snC (snE ((N : Int) + (n : Int)) (er : Int))) = y9 at P BP |-
     go_wp2_with fail
     exact bodyPost_ret (v := snV (snE ((N : Int) + (n : Int)) (er : Int))) (seen_results P.out _ rfl) rfl (by (try rw [hX]); exact ⟨by simp, BP.out⟩)
  ·have hf2 := HB.out.size
   have c0 : wr.cell? ⟨(w.heap.size + 1), 0, none⟩ = some (.int .i64 (N : Int)) := cell_at HS.out 0
   have c8 : wr.cell? ⟨(w.heap.size + 1), 8, none⟩ = some (.bool true) := cell_at HS.out 8
   have c9 : wr.cell? ⟨(w.heap.size + 1), 9, none⟩ = some (.int .i64 fo.k) := cell_at HS.out 9
   have c10 : wr.cell? ⟨(w.heap.size + 1), 10, none⟩ = some (.int .i64 fo.n) := cell_at HS.out 10
   have c11 : wr.cell? ⟨(w.heap.size + 1), 11, none⟩ = some (.bool fo.b) := cell_at HS.out 11
   have hNl : (N : Int) <= (l.length : Int) := by omega
   have hkc2 : N <= cp := by omega
   have hrs : w.heap.size + 2 <= wr.heap.size := by have := lt_heap HS.out; omega
   have HBC : Hid (∀ W v, Below wr.heap.size wr W -> Bs w w.heap.size v (l.drop N) -> Calls Tryz.prog 20 #[.agg #[.int .i64 fo.k, .int .i64 fo.n, .bool fo.b], .int .i64 9007199254740992, v, .bool en] W fun e w' => ∃ r, e = .returned r /\ ∃ bo bN bw bE ov ta tl tc, BQ N fo bo bN bw bE /\ bN <= 70368744177665 /\ r = .agg #[ov, .slice ta tl tc, .int .i64 (bN : Int), .bool bw, .int .i64 (bE : Int)] /\ Row w' W.heap.size 5 ov (bc bo) /\ Below W.heap.size W w' /\ Below wr.heap.size wr w') := hide (fun W v hb hbs => (HBD.out N p fo W v HU.out hN (HB.out.trans (hb.mono hf2)) (hbs.below (Nat.le_refl _) (HB.out.trans (hb.mono hf2)))).mono (by rintro e w' ⟨bo, bN, bw, bE, q1, q2, ov, ta, tl, tc, rfl, q3, q4⟩; exact ⟨_, rfl, bo, bN, bw, bE, ov, ta, tl, tc, q1, q2, rfl, q3, q4, hb.trans (q4.mono hb.size)⟩))
   go_upto_region 25 with fail
   go_cut [17] from 78 to 85 (fun v wc => ∃ (tb : Nat) (oa : Option Addr) (on oc : Nat) (ta : Option Addr) (tl tc bN bE : Nat) (bw : Bool) (bo : List UInt8), v = .pointer (some ⟨tb, 0, none⟩) /\ Hid (BQ N fo bo bN bw bE /\ bN <= 70368744177665 /\ wc.heap[tb]? = some (.cells #[.slice oa on oc, .slice ta tl tc, .int .i64 (bN : Int), .bool bw, .int .i64 (bE : Int)] 54 (0, 0)) /\ w.heap.size + 1 < tb /\ SnB wc (w.heap.size + 1) (snT p (N : Int) (.slice la p.fs.length lc) true fo.k fo.n fo.b (.slice none 0 0) false 0) /\ SnB wc w.heap.size sn0 /\ FRow wc (w.heap.size + 2) (.slice la p.fs.length lc) p.fs /\ Below w.heap.size w wc /\ Row wc (w.heap.size + 2) 5 (.slice oa on oc) (bc bo)))
   case first =>
    by_cases hkc : cp = N
    ·have HBS : Hid (Bs w w.heap.size (.slice (some ⟨bk, o, none⟩) 0 0) (l.drop N)) := hide (by have e0 : l.drop N = [] := List.drop_of_length_le (by omega); rw [e0]; exact Bs.zero _ _ _ _)
     have HKC := hide (And.intro hkc (show l.length = N by omega))
     clear hkc
     have hbw : w.heap.size + 1 < wr.heap.size := by omega
     have cS : Below wr.heap.size wr wr.drew := (Below.refl wr.heap.size wr).drew
     refine wp_region_noPanic ?_
     refine wp_region_held_drew (S := fun W => Below wr.heap.size wr W) (by kernel_rfl) cS (fun hHeld => ?_)
     refine wpAnyH_take (i := 0) (v := ?_) rfl (by kernel_rfl) (by kernel_rfl) (by kernel_rfl) (fun _ _ _ h => h) (Or.inl ⟨by rfl, ?_⟩) (by assumption) ?_
     rotate_left
     ·(intro W hSw; go_simp; try with_reducible rfl)
     simp only [ge_, Act.put, sl_]
     refine wpAnyH_take (i := 1) (v := ?_) rfl (by kernel_rfl) (by kernel_rfl) (by kernel_rfl) (fun _ _ _ h => h) (Or.inl ⟨by rfl, ?_⟩) (by assumption) ?_
     rotate_left
     ·(intro W hSw; have q0 := (hSw.cell (p := ⟨w.heap.size + 1, 0, none⟩) hbw).trans c0; have q9 := (hSw.cell (p := ⟨w.heap.size + 1, 9, none⟩) hbw).trans c9; have q10 := (hSw.cell (p := ⟨w.heap.size + 1, 10, none⟩) hbw).trans c10; have q11 := (hSw.cell (p := ⟨w.heap.size + 1, 11, none⟩) hbw).trans c11; go_simp; try with_reducible rfl)
     simp only [ge_, Act.put, sl_]
     refine wpAnyH_take (i := 2) (v := ?_) rfl (by kernel_rfl) (by kernel_rfl) (by kernel_rfl) (fun _ _ _ h => h) (Or.inl ⟨by rfl, ?_⟩) (by assumption) ?_
     rotate_left
     ·(intro W hSw; go_simp; try with_reducible rfl)
     simp only [ge_, Act.put, sl_]
     refine wpAnyH_take (i := 3) (v := ?_) rfl (by kernel_rfl) (by kernel_rfl) (by kernel_rfl) (fun _ _ _ h => h) (Or.inl ⟨by rfl, ?_⟩) (by assumption) ?_
     rotate_left
     ·(intro W hSw; go_simp; try with_reducible rfl)
     simp only [ge_, Act.put, sl_]
     refine wpAnyH_take (i := 4) (v := ?_) rfl (by kernel_rfl) (by kernel_rfl) (by kernel_rfl) (fun _ _ _ h => h) (Or.inl ⟨by rfl, ?_⟩) (by assumption) ?_
     rotate_left
     ·(intro W hSw; have q0 := (hSw.cell (p := ⟨w.heap.size + 1, 0, none⟩) hbw).trans c0; have q9 := (hSw.cell (p := ⟨w.heap.size + 1, 9, none⟩) hbw).trans c9; have q10 := (hSw.cell (p := ⟨w.heap.size + 1, 10, none⟩) hbw).trans c10; have q11 := (hSw.cell (p := ⟨w.heap.size + 1, 11, none⟩) hbw).trans c11; go_simp; try with_reducible rfl)
     simp only [ge_, Act.put, sl_]
     refine wpAnyH_take (i := 5) (v := ?_) rfl (by kernel_rfl) (by kernel_rfl) (by kernel_rfl) (fun _ _ _ h => h) (Or.inl ⟨by rfl, ?_⟩) (by assumption) ?_
     rotate_left
     ·(intro W hSw; have hkc := HKC.out.1; have hkl := HKC.out.2; have hlN : (l.length : Int) - (N : Int) = 0 := (by omega); have hcN : (cp : Int) - (N : Int) = 0 := (by omega); go_simp; try with_reducible rfl)
     simp only [ge_, Act.put, sl_]
     refine wpAnyH_take (i := 6) (v := ?_) rfl (by kernel_rfl) (by kernel_rfl) (by kernel_rfl) (fun _ _ _ h => h) (Or.inl ⟨by rfl, ?_⟩) (by assumption) ?_
     rotate_left
     ·(intro W hSw; go_simp; try with_reducible rfl)
     simp only [ge_, Act.put, sl_]
     refine wpAnyH_ready (rs := [7, 8]) (by kernel_rfl) (by simp) ?_
     refine AllReadyH.cons rfl (fun K hK => ?_) (AllReadyH.cons rfl (fun K hK => ?_) AllReadyH.nil)
     ·go_simp
      refine (HBC.out _ _ (cS) HBS.out).mono ?_
      rintro e y ⟨r, rfl, bo, bN, bw, bE, ov, ta, tl, tc, q1, q2, rfl, q3, q4, q5⟩
      obtain ⟨oa, on, oc, rfl⟩ : ∃ a n c, ov = .slice a n c := (by obtain ⟨a, c, e, -⟩ := q3.shape; exact ⟨a, _, c, e⟩)
      have HQ := hide q1
      have hbn := q2
      have HOV := hide q3
      have HY := hide q4
      have HYW := hide q5
      clear q1 q2 q3 q4 q5
      (try go_wp2_with fail)
      refine hK.out _ _ (HYW.out) (fun hHeld => ?_)
      clear hK K
      try simp only [ge_, Act.put, sl_]
      refine wpAnyH_ready (rs := [8]) (by kernel_rfl) (by simp) ?_
      refine AllReadyH.cons rfl (fun K hK => ?_) AllReadyH.nil
      go_simp
      refine hK.out _ _ (HYW.out.alloc HYW.out.size _) (fun hHeld => ?_)
      clear hK K
      try simp only [ge_, Act.put, sl_]
      refine wpAnyH_ready (rs := [9]) (by kernel_rfl) (by simp) ?_
      refine AllReadyH.cons rfl (fun K hK => ?_) AllReadyH.nil
      go_simp
      refine hK.out _ _ (HYW.out.alloc HYW.out.size _) (fun hHeld => ?_)
      clear hK K
      try simp only [ge_, Act.put, sl_]
      refine wpAnyH_done (by kernel_rfl) ?_ _
      refine NoPanic.normal ?_
      have hys : wr.heap.size <= y.heap.size := HYW.out.size
      have HSy : Hid (SnB y (w.heap.size + 1) (snT p (N : Int) (.slice la p.fs.length lc) true fo.k fo.n fo.b (.slice none 0 0) false 0)) := hide ((HYW.out.block (w.heap.size + 1) (by omega)).trans HS.out)
      have HRy : Hid (SnB y w.heap.size sn0) := hide ((HYW.out.block w.heap.size (by omega)).trans HR0.out)
      have HFy : Hid (FRow y (w.heap.size + 2) (.slice la p.fs.length lc) p.fs) := hide (HF.out.frame fun j e => HYW.out.block j (HF.out.lt e).2)
      have HBy : Hid (Below w.heap.size w y) := hide (HB.out.trans (HYW.out.mono hf2))
      have HOy : Hid (Row y (w.heap.size + 2) 5 (.slice oa on oc) (bc bo)) := hide (HOV.out.low (by show _ <= wr.heap.size; omega))
      have b5 := (Below.refl y.heap.size y).alloc (Nat.le_refl _) (.cells #[.slice oa on oc, .slice ta tl tc, .int .i64 (bN : Int), .bool bw, .int .i64 (bE : Int)] 54)
      have F5 := hide (hp_new y (.cells #[.slice oa on oc, .slice ta tl tc, .int .i64 (bN : Int), .bool bw, .int .i64 (bE : Int)] 54))
      have HS5 : Hid (SnB _ (w.heap.size + 1) (snT p (N : Int) (.slice la p.fs.length lc) true fo.k fo.n fo.b (.slice none 0 0) false 0)) := hide ((b5.block (w.heap.size + 1) (by omega)).trans HSy.out)
      have HR5 : Hid (SnB _ w.heap.size sn0) := hide ((b5.block w.heap.size (by omega)).trans HRy.out)
      have HF5 := hide (HFy.out.frame fun j e => b5.block j (HFy.out.lt e).2)
      have HB5 := hide (HBy.out.trans (b5.mono HBy.out.size))
      have HO5 := hide (HOy.out.frame fun j e => b5.block j (HOy.out.lt e).2)
      clear b5 HSy HRy HFy HBy HOy HOV HY HYW HS HR0 HF HB c0 c8 c9 c10 c11
      generalize y.alloc (.cells #[.slice oa on oc, .slice ta tl tc, .int .i64 (bN : Int), .bool bw, .int .i64 (bE : Int)] 54) = w5 at F5 HS5 HR5 HF5 HB5 HO5 |-
      have hw5 : y.heap.size < w5.heap.size := lt_heap F5.out
      obtain ⟨tb, htb⟩ : ∃ tb, y.heap.size = tb := ⟨_, rfl⟩
      rw [htb] at F5 |-
      have htb2 : w.heap.size + 1 < tb := by omega
      clear htb
      go_wp2_with fail
      go_meet
      exact ⟨tb, oa, on, oc, ta, tl, tc, bN, bE, bw, bo, rfl, hide ⟨HQ.out, hbn, F5.out, htb2, HS5.out, HR5.out, HF5.out, HB5.out, HO5.out⟩⟩
     ·go_simp
      refine hK.out _ _ (((Below.refl wr.heap.size wr).alloc (Nat.le_refl _) _).drew) (fun hHeld => ?_)
      clear hK K
      try simp only [ge_, Act.put, sl_]
      refine wpAnyH_ready (rs := [7]) (by kernel_rfl) (by simp) ?_
      refine AllReadyH.cons rfl (fun K hK => ?_) AllReadyH.nil
      go_simp
      refine (HBC.out _ _ (((Below.refl wr.heap.size wr).alloc (Nat.le_refl _) _).drew) HBS.out).mono ?_
      rintro e y ⟨r, rfl, bo, bN, bw, bE, ov, ta, tl, tc, q1, q2, rfl, q3, q4, q5⟩
      obtain ⟨oa, on, oc, rfl⟩ : ∃ a n c, ov = .slice a n c := (by obtain ⟨a, c, e, -⟩ := q3.shape; exact ⟨a, _, c, e⟩)
      have HQ := hide q1
      have hbn := q2
      have HOV := hide q3
      have HY := hide q4
      have HYW := hide q5
      clear q1 q2 q3 q4 q5
      (try go_wp2_with fail)
      have hlt0 : wr.heap.size < (wr.alloc (.cells #[.slice none 0 0, .slice none 0 0, .int .i64 0, .bool false, .int .i64 0] 54)).heap.size := (by simp)
      have hlt1 : wr.heap.size < (wr.alloc (.cells #[.slice none 0 0, .slice none 0 0, .int .i64 0, .bool false, .int .i64 0] 54)).drew.heap.size := hlt0
      have T0 := hide ((HY.out.block _ hlt0).trans (hp_new wr (.cells #[.slice none 0 0, .slice none 0 0, .int .i64 0, .bool false, .int .i64 0] 54)))
      have q0 : y.cell? ⟨wr.heap.size, 0, none⟩ = some (.slice none 0 0) := cell_at T0.out 0
      have q1 : y.cell? ⟨wr.heap.size, 1, none⟩ = some (.slice none 0 0) := cell_at T0.out 1
      have q2 : y.cell? ⟨wr.heap.size, 2, none⟩ = some (.int .i64 0) := cell_at T0.out 2
      have q3 : y.cell? ⟨wr.heap.size, 3, none⟩ = some (.bool false) := cell_at T0.out 3
      have q4 : y.cell? ⟨wr.heap.size, 4, none⟩ = some (.int .i64 0) := cell_at T0.out 4
      have x0 : y.frozen? ⟨wr.heap.size, 0, none⟩ = false := (by rw [frozen_at T0.out]; simp)
      have x1 : y.frozen? ⟨wr.heap.size, 1, none⟩ = false := (by rw [frozen_at T0.out]; simp)
      have x2 : y.frozen? ⟨wr.heap.size, 2, none⟩ = false := (by rw [frozen_at T0.out]; simp)
      have x3 : y.frozen? ⟨wr.heap.size, 3, none⟩ = false := (by rw [frozen_at T0.out]; simp)
      have x4 : y.frozen? ⟨wr.heap.size, 4, none⟩ = false := (by rw [frozen_at T0.out]; simp)
      refine hK.out _ _ (HYW.out) (fun hHeld => ?_)
      clear hK K
      try simp only [ge_, Act.put, sl_]
      refine wpAnyH_ready (rs := [9]) (by kernel_rfl) (by simp) ?_
      refine AllReadyH.cons rfl (fun K hK => ?_) AllReadyH.nil
      go_simp
      have hys : wr.heap.size <= y.heap.size := HYW.out.size
      have HSy : Hid (SnB y (w.heap.size + 1) (snT p (N : Int) (.slice la p.fs.length lc) true fo.k fo.n fo.b (.slice none 0 0) false 0)) := hide ((HYW.out.block (w.heap.size + 1) (by omega)).trans HS.out)
      have HRy : Hid (SnB y w.heap.size sn0) := hide ((HYW.out.block w.heap.size (by omega)).trans HR0.out)
      have HFy : Hid (FRow y (w.heap.size + 2) (.slice la p.fs.length lc) p.fs) := hide (HF.out.frame fun j e => HYW.out.block j (HF.out.lt e).2)
      have HBy : Hid (Below w.heap.size w y) := hide (HB.out.trans (HYW.out.mono hf2))
      have HOy : Hid (Row y (w.heap.size + 2) 5 (.slice oa on oc) (bc bo)) := hide (HOV.out.low (by have := hlt1; omega))
      have a0 : (_ : World).heap[wr.heap.size]? = some (.cells #[.slice oa on oc, .slice none 0 0, .int .i64 0, .bool false, .int .i64 0] 54 (0, 0)) := hp_set T0.out 0 (.slice oa on oc)
      have a1 : (_ : World).heap[wr.heap.size]? = some (.cells #[.slice oa on oc, .slice ta tl tc, .int .i64 0, .bool false, .int .i64 0] 54 (0, 0)) := hp_set a0 1 (.slice ta tl tc)
      have a2 : (_ : World).heap[wr.heap.size]? = some (.cells #[.slice oa on oc, .slice ta tl tc, .int .i64 (bN : Int), .bool false, .int .i64 0] 54 (0, 0)) := hp_set a1 2 (.int .i64 (bN : Int))
      have a3 : (_ : World).heap[wr.heap.size]? = some (.cells #[.slice oa on oc, .slice ta tl tc, .int .i64 (bN : Int), .bool bw, .int .i64 0] 54 (0, 0)) := hp_set a2 3 (.bool bw)
      have F5 : Hid (((((((y.setCell ⟨wr.heap.size, 0, none⟩ (.slice oa on oc)).setCell ⟨wr.heap.size, 1, none⟩ (.slice ta tl tc)).setCell ⟨wr.heap.size, 2, none⟩ (.int .i64 (bN : Int))).setCell ⟨wr.heap.size, 3, none⟩ (.bool bw)).setCell ⟨wr.heap.size, 4, none⟩ (.int .i64 (bE : Int))) : World).heap[wr.heap.size]? = some (.cells #[.slice oa on oc, .slice ta tl tc, .int .i64 (bN : Int), .bool bw, .int .i64 (bE : Int)] 54 (0, 0))) := hide (hp_set a3 4 (.int .i64 (bE : Int)))
      have K5 : CK y (((((y.setCell ⟨wr.heap.size, 0, none⟩ (.slice oa on oc)).setCell ⟨wr.heap.size, 1, none⟩ (.slice ta tl tc)).setCell ⟨wr.heap.size, 2, none⟩ (.int .i64 (bN : Int))).setCell ⟨wr.heap.size, 3, none⟩ (.bool bw)).setCell ⟨wr.heap.size, 4, none⟩ (.int .i64 (bE : Int))) wr.heap.size := ((((CK.set y wr.heap.size 0 _).trans (CK.set _ wr.heap.size 1 _)).trans (CK.set _ wr.heap.size 2 _)).trans (CK.set _ wr.heap.size 3 _)).trans (CK.set _ wr.heap.size 4 _)
      refine hK.out _ _ (HYW.out.trans (K5.low (Nat.le_refl _) HYW.out.size)) (fun hHeld => ?_)
      clear hK K
      try simp only [ge_, Act.put, sl_]
      refine wpAnyH_done (by kernel_rfl) ?_ _
      refine NoPanic.normal ?_
      have HS5 : Hid (SnB (((((y.setCell ⟨wr.heap.size, 0, none⟩ (.slice oa on oc)).setCell ⟨wr.heap.size, 1, none⟩ (.slice ta tl tc)).setCell ⟨wr.heap.size, 2, none⟩ (.int .i64 (bN : Int))).setCell ⟨wr.heap.size, 3, none⟩ (.bool bw)).setCell ⟨wr.heap.size, 4, none⟩ (.int .i64 (bE : Int))) (w.heap.size + 1) (snT p (N : Int) (.slice la p.fs.length lc) true fo.k fo.n fo.b (.slice none 0 0) false 0)) := hide ((K5.block (w.heap.size + 1) (lt_heap HSy.out) (by omega)).trans HSy.out)
      have HR5 : Hid (SnB (((((y.setCell ⟨wr.heap.size, 0, none⟩ (.slice oa on oc)).setCell ⟨wr.heap.size, 1, none⟩ (.slice ta tl tc)).setCell ⟨wr.heap.size, 2, none⟩ (.int .i64 (bN : Int))).setCell ⟨wr.heap.size, 3, none⟩ (.bool bw)).setCell ⟨wr.heap.size, 4, none⟩ (.int .i64 (bE : Int))) w.heap.size sn0) := hide ((K5.block w.heap.size (lt_heap HRy.out) (by omega)).trans HRy.out)
      have HF5 := hide (HFy.out.frame (W' := ((((y.setCell ⟨wr.heap.size, 0, none⟩ (.slice oa on oc)).setCell ⟨wr.heap.size, 1, none⟩ (.slice ta tl tc)).setCell ⟨wr.heap.size, 2, none⟩ (.int .i64 (bN : Int))).setCell ⟨wr.heap.size, 3, none⟩ (.bool bw)).setCell ⟨wr.heap.size, 4, none⟩ (.int .i64 (bE : Int))) fun j e => K5.block j (HFy.out.lt e).2 (by have := (HF.out.lt e).2; omega))
      have HB5 := hide (HBy.out.trans (K5.low (by omega) HBy.out.size))
      have HO5 := hide (HOy.out.frame (W' := ((((y.setCell ⟨wr.heap.size, 0, none⟩ (.slice oa on oc)).setCell ⟨wr.heap.size, 1, none⟩ (.slice ta tl tc)).setCell ⟨wr.heap.size, 2, none⟩ (.int .i64 (bN : Int))).setCell ⟨wr.heap.size, 3, none⟩ (.bool bw)).setCell ⟨wr.heap.size, 4, none⟩ (.int .i64 (bE : Int))) fun j e => K5.block j (HOy.out.lt e).2 (by have := (HOV.out.lt e).1; have := hlt1; omega))
      clear a0 a1 a2 a3 K5 q0 q1 q2 q3 q4 x0 x1 x2 x3 x4 hlt0 hlt1 T0 HSy HRy HFy HBy HOy HOV HY HYW HS HR0 HF HB c0 c8 c9 c10 c11
      generalize ((((y.setCell ⟨wr.heap.size, 0, none⟩ (.slice oa on oc)).setCell ⟨wr.heap.size, 1, none⟩ (.slice ta tl tc)).setCell ⟨wr.heap.size, 2, none⟩ (.int .i64 (bN : Int))).setCell ⟨wr.heap.size, 3, none⟩ (.bool bw)).setCell ⟨wr.heap.size, 4, none⟩ (.int .i64 (bE : Int)) = w5 at F5 HS5 HR5 HF5 HB5 HO5 |-
      obtain ⟨tb, htb⟩ : ∃ tb, wr.heap.size = tb := ⟨_, rfl⟩
      rw [htb] at F5 |-
      have htb2 : w.heap.size + 1 < tb := by omega
      clear htb
      go_wp2_with fail
      go_meet
      exact ⟨tb, oa, on, oc, ta, tl, tc, bN, bE, bw, bo, rfl, hide ⟨HQ.out, hbn, F5.out, htb2, HS5.out, HR5.out, HF5.out, HB5.out, HO5.out⟩⟩
    ·have HBS := hide (HV.out.from N hN)
     have hbw : w.heap.size + 1 < wr.heap.size := by omega
     have cS : Below wr.heap.size wr wr.drew := (Below.refl wr.heap.size wr).drew
     refine wp_region_noPanic ?_
     refine wp_region_held_drew (S := fun W => Below wr.heap.size wr W) (by kernel_rfl) cS (fun hHeld => ?_)
     refine wpAnyH_take (i := 0) (v := ?_) rfl (by kernel_rfl) (by kernel_rfl) (by kernel_rfl) (fun _ _ _ h => h) (Or.inl ⟨by rfl, ?_⟩) (by assumption) ?_
     rotate_left
     ·(intro W hSw; go_simp; try with_reducible rfl)
     simp only [ge_, Act.put, sl_]
     refine wpAnyH_take (i := 1) (v := ?_) rfl (by kernel_rfl) (by kernel_rfl) (by kernel_rfl) (fun _ _ _ h => h) (Or.inl ⟨by rfl, ?_⟩) (by assumption) ?_
     rotate_left
     ·(intro W hSw; have q0 := (hSw.cell (p := ⟨w.heap.size + 1, 0, none⟩) hbw).trans c0; have q9 := (hSw.cell (p := ⟨w.heap.size + 1, 9, none⟩) hbw).trans c9; have q10 := (hSw.cell (p := ⟨w.heap.size + 1, 10, none⟩) hbw).trans c10; have q11 := (hSw.cell (p := ⟨w.heap.size + 1, 11, none⟩) hbw).trans c11; go_simp; try with_reducible rfl)
     simp only [ge_, Act.put, sl_]
     refine wpAnyH_take (i := 2) (v := ?_) rfl (by kernel_rfl) (by kernel_rfl) (by kernel_rfl) (fun _ _ _ h => h) (Or.inl ⟨by rfl, ?_⟩) (by assumption) ?_
     rotate_left
     ·(intro W hSw; go_simp; try with_reducible rfl)
     simp only [ge_, Act.put, sl_]
     refine wpAnyH_take (i := 3) (v := ?_) rfl (by kernel_rfl) (by kernel_rfl) (by kernel_rfl) (fun _ _ _ h => h) (Or.inl ⟨by rfl, ?_⟩) (by assumption) ?_
     rotate_left
     ·(intro W hSw; go_simp; try with_reducible rfl)
     simp only [ge_, Act.put, sl_]
     refine wpAnyH_take (i := 4) (v := ?_) rfl (by kernel_rfl) (by kernel_rfl) (by kernel_rfl) (fun _ _ _ h => h) (Or.inl ⟨by rfl, ?_⟩) (by assumption) ?_
     rotate_left
     ·(intro W hSw; have q0 := (hSw.cell (p := ⟨w.heap.size + 1, 0, none⟩) hbw).trans c0; have q9 := (hSw.cell (p := ⟨w.heap.size + 1, 9, none⟩) hbw).trans c9; have q10 := (hSw.cell (p := ⟨w.heap.size + 1, 10, none⟩) hbw).trans c10; have q11 := (hSw.cell (p := ⟨w.heap.size + 1, 11, none⟩) hbw).trans c11; go_simp; try with_reducible rfl)
     simp only [ge_, Act.put, sl_]
     refine wpAnyH_take (i := 5) (v := ?_) rfl (by kernel_rfl) (by kernel_rfl) (by kernel_rfl) (fun _ _ _ h => h) (Or.inl ⟨by rfl, ?_⟩) (by assumption) ?_
     rotate_left
     ·(intro W hSw; go_simp; try with_reducible rfl)
     simp only [ge_, Act.put, sl_]
     refine wpAnyH_take (i := 6) (v := ?_) rfl (by kernel_rfl) (by kernel_rfl) (by kernel_rfl) (fun _ _ _ h => h) (Or.inl ⟨by rfl, ?_⟩) (by assumption) ?_
     rotate_left
     ·(intro W hSw; go_simp; try with_reducible rfl)
     simp only [ge_, Act.put, sl_]
     refine wpAnyH_ready (rs := [7, 8]) (by kernel_rfl) (by simp) ?_
     refine AllReadyH.cons rfl (fun K hK => ?_) (AllReadyH.cons rfl (fun K hK => ?_) AllReadyH.nil)
     ·go_simp
      refine (HBC.out _ _ (cS) HBS.out).mono ?_
      rintro e y ⟨r, rfl, bo, bN, bw, bE, ov, ta, tl, tc, q1, q2, rfl, q3, q4, q5⟩
      obtain ⟨oa, on, oc, rfl⟩ : ∃ a n c, ov = .slice a n c := (by obtain ⟨a, c, e, -⟩ := q3.shape; exact ⟨a, _, c, e⟩)
      have HQ := hide q1
      have hbn := q2
      have HOV := hide q3
      have HY := hide q4
      have HYW := hide q5
      clear q1 q2 q3 q4 q5
      (try go_wp2_with fail)
      refine hK.out _ _ (HYW.out) (fun hHeld => ?_)
      clear hK K
      try simp only [ge_, Act.put, sl_]
      refine wpAnyH_ready (rs := [8]) (by kernel_rfl) (by simp) ?_
      refine AllReadyH.cons rfl (fun K hK => ?_) AllReadyH.nil
      go_simp
      refine hK.out _ _ (HYW.out.alloc HYW.out.size _) (fun hHeld => ?_)
      clear hK K
      try simp only [ge_, Act.put, sl_]
      refine wpAnyH_ready (rs := [9]) (by kernel_rfl) (by simp) ?_
      refine AllReadyH.cons rfl (fun K hK => ?_) AllReadyH.nil
      go_simp
      refine hK.out _ _ (HYW.out.alloc HYW.out.size _) (fun hHeld => ?_)
      clear hK K
      try simp only [ge_, Act.put, sl_]
      refine wpAnyH_done (by kernel_rfl) ?_ _
      refine NoPanic.normal ?_
      have hys : wr.heap.size <= y.heap.size := HYW.out.size
      have HSy : Hid (SnB y (w.heap.size + 1) (snT p (N : Int) (.slice la p.fs.length lc) true fo.k fo.n fo.b (.slice none 0 0) false 0)) := hide ((HYW.out.block (w.heap.size + 1) (by omega)).trans HS.out)
      have HRy : Hid (SnB y w.heap.size sn0) := hide ((HYW.out.block w.heap.size (by omega)).trans HR0.out)
      have HFy : Hid (FRow y (w.heap.size + 2) (.slice la p.fs.length lc) p.fs) := hide (HF.out.frame fun j e => HYW.out.block j (HF.out.lt e).2)
      have HBy : Hid (Below w.heap.size w y) := hide (HB.out.trans (HYW.out.mono hf2))
      have HOy : Hid (Row y (w.heap.size + 2) 5 (.slice oa on oc) (bc bo)) := hide (HOV.out.low (by show _ <= wr.heap.size; omega))
      have b5 := (Below.refl y.heap.size y).alloc (Nat.le_refl _) (.cells #[.slice oa on oc, .slice ta tl tc, .int .i64 (bN : Int), .bool bw, .int .i64 (bE : Int)] 54)
      have F5 := hide (hp_new y (.cells #[.slice oa on oc, .slice ta tl tc, .int .i64 (bN : Int), .bool bw, .int .i64 (bE : Int)] 54))
      have HS5 : Hid (SnB _ (w.heap.size + 1) (snT p (N : Int) (.slice la p.fs.length lc) true fo.k fo.n fo.b (.slice none 0 0) false 0)) := hide ((b5.block (w.heap.size + 1) (by omega)).trans HSy.out)
      have HR5 : Hid (SnB _ w.heap.size sn0) := hide ((b5.block w.heap.size (by omega)).trans HRy.out)
      have HF5 := hide (HFy.out.frame fun j e => b5.block j (HFy.out.lt e).2)
      have HB5 := hide (HBy.out.trans (b5.mono HBy.out.size))
      have HO5 := hide (HOy.out.frame fun j e => b5.block j (HOy.out.lt e).2)
      clear b5 HSy HRy HFy HBy HOy HOV HY HYW HS HR0 HF HB c0 c8 c9 c10 c11
      generalize y.alloc (.cells #[.slice oa on oc, .slice ta tl tc, .int .i64 (bN : Int), .bool bw, .int .i64 (bE : Int)] 54) = w5 at F5 HS5 HR5 HF5 HB5 HO5 |-
      have hw5 : y.heap.size < w5.heap.size := lt_heap F5.out
      obtain ⟨tb, htb⟩ : ∃ tb, y.heap.size = tb := ⟨_, rfl⟩
      rw [htb] at F5 |-
      have htb2 : w.heap.size + 1 < tb := by omega
      clear htb
      go_wp2_with fail
      go_meet
      exact ⟨tb, oa, on, oc, ta, tl, tc, bN, bE, bw, bo, rfl, hide ⟨HQ.out, hbn, F5.out, htb2, HS5.out, HR5.out, HF5.out, HB5.out, HO5.out⟩⟩
     ·go_simp
      refine hK.out _ _ (((Below.refl wr.heap.size wr).alloc (Nat.le_refl _) _).drew) (fun hHeld => ?_)
      clear hK K
      try simp only [ge_, Act.put, sl_]
      refine wpAnyH_ready (rs := [7]) (by kernel_rfl) (by simp) ?_
      refine AllReadyH.cons rfl (fun K hK => ?_) AllReadyH.nil
      go_simp
      refine (HBC.out _ _ (((Below.refl wr.heap.size wr).alloc (Nat.le_refl _) _).drew) HBS.out).mono ?_
      rintro e y ⟨r, rfl, bo, bN, bw, bE, ov, ta, tl, tc, q1, q2, rfl, q3, q4, q5⟩
      obtain ⟨oa, on, oc, rfl⟩ : ∃ a n c, ov = .slice a n c := (by obtain ⟨a, c, e, -⟩ := q3.shape; exact ⟨a, _, c, e⟩)
      have HQ := hide q1
      have hbn := q2
      have HOV := hide q3
      have HY := hide q4
      have HYW := hide q5
      clear q1 q2 q3 q4 q5
      (try go_wp2_with fail)
      have hlt0 : wr.heap.size < (wr.alloc (.cells #[.slice none 0 0, .slice none 0 0, .int .i64 0, .bool false, .int .i64 0] 54)).heap.size := (by simp)
      have hlt1 : wr.heap.size < (wr.alloc (.cells #[.slice none 0 0, .slice none 0 0, .int .i64 0, .bool false, .int .i64 0] 54)).drew.heap.size := hlt0
      have T0 := hide ((HY.out.block _ hlt0).trans (hp_new wr (.cells #[.slice none 0 0, .slice none 0 0, .int .i64 0, .bool false, .int .i64 0] 54)))
      have q0 : y.cell? ⟨wr.heap.size, 0, none⟩ = some (.slice none 0 0) := cell_at T0.out 0
      have q1 : y.cell? ⟨wr.heap.size, 1, none⟩ = some (.slice none 0 0) := cell_at T0.out 1
      have q2 : y.cell? ⟨wr.heap.size, 2, none⟩ = some (.int .i64 0) := cell_at T0.out 2
      have q3 : y.cell? ⟨wr.heap.size, 3, none⟩ = some (.bool false) := cell_at T0.out 3
      have q4 : y.cell? ⟨wr.heap.size, 4, none⟩ = some (.int .i64 0) := cell_at T0.out 4
      have x0 : y.frozen? ⟨wr.heap.size, 0, none⟩ = false := (by rw [frozen_at T0.out]; simp)
      have x1 : y.frozen? ⟨wr.heap.size, 1, none⟩ = false := (by rw [frozen_at T0.out]; simp)
      have x2 : y.frozen? ⟨wr.heap.size, 2, none⟩ = false := (by rw [frozen_at T0.out]; simp)
      have x3 : y.frozen? ⟨wr.heap.size, 3, none⟩ = false := (by rw [frozen_at T0.out]; simp)
      have x4 : y.frozen? ⟨wr.heap.size, 4, none⟩ = false := (by rw [frozen_at T0.out]; simp)
      refine hK.out _ _ (HYW.out) (fun hHeld => ?_)
      clear hK K
      try simp only [ge_, Act.put, sl_]
      refine wpAnyH_ready (rs := [9]) (by kernel_rfl) (by simp) ?_
      refine AllReadyH.cons rfl (fun K hK => ?_) AllReadyH.nil
      go_simp
      have hys : wr.heap.size <= y.heap.size := HYW.out.size
      have HSy : Hid (SnB y (w.heap.size + 1) (snT p (N : Int) (.slice la p.fs.length lc) true fo.k fo.n fo.b (.slice none 0 0) false 0)) := hide ((HYW.out.block (w.heap.size + 1) (by omega)).trans HS.out)
      have HRy : Hid (SnB y w.heap.size sn0) := hide ((HYW.out.block w.heap.size (by omega)).trans HR0.out)
      have HFy : Hid (FRow y (w.heap.size + 2) (.slice la p.fs.length lc) p.fs) := hide (HF.out.frame fun j e => HYW.out.block j (HF.out.lt e).2)
      have HBy : Hid (Below w.heap.size w y) := hide (HB.out.trans (HYW.out.mono hf2))
      have HOy : Hid (Row y (w.heap.size + 2) 5 (.slice oa on oc) (bc bo)) := hide (HOV.out.low (by have := hlt1; omega))
      have a0 : (_ : World).heap[wr.heap.size]? = some (.cells #[.slice oa on oc, .slice none 0 0, .int .i64 0, .bool false, .int .i64 0] 54 (0, 0)) := hp_set T0.out 0 (.slice oa on oc)
      have a1 : (_ : World).heap[wr.heap.size]? = some (.cells #[.slice oa on oc, .slice ta tl tc, .int .i64 0, .bool false, .int .i64 0] 54 (0, 0)) := hp_set a0 1 (.slice ta tl tc)
      have a2 : (_ : World).heap[wr.heap.size]? = some (.cells #[.slice oa on oc, .slice ta tl tc, .int .i64 (bN : Int), .bool false, .int .i64 0] 54 (0, 0)) := hp_set a1 2 (.int .i64 (bN : Int))
      have a3 : (_ : World).heap[wr.heap.size]? = some (.cells #[.slice oa on oc, .slice ta tl tc, .int .i64 (bN : Int), .bool bw, .int .i64 0] 54 (0, 0)) := hp_set a2 3 (.bool bw)
      have F5 : Hid (((((((y.setCell ⟨wr.heap.size, 0, none⟩ (.slice oa on oc)).setCell ⟨wr.heap.size, 1, none⟩ (.slice ta tl tc)).setCell ⟨wr.heap.size, 2, none⟩ (.int .i64 (bN : Int))).setCell ⟨wr.heap.size, 3, none⟩ (.bool bw)).setCell ⟨wr.heap.size, 4, none⟩ (.int .i64 (bE : Int))) : World).heap[wr.heap.size]? = some (.cells #[.slice oa on oc, .slice ta tl tc, .int .i64 (bN : Int), .bool bw, .int .i64 (bE : Int)] 54 (0, 0))) := hide (hp_set a3 4 (.int .i64 (bE : Int)))
      have K5 : CK y (((((y.setCell ⟨wr.heap.size, 0, none⟩ (.slice oa on oc)).setCell ⟨wr.heap.size, 1, none⟩ (.slice ta tl tc)).setCell ⟨wr.heap.size, 2, none⟩ (.int .i64 (bN : Int))).setCell ⟨wr.heap.size, 3, none⟩ (.bool bw)).setCell ⟨wr.heap.size, 4, none⟩ (.int .i64 (bE : Int))) wr.heap.size := ((((CK.set y wr.heap.size 0 _).trans (CK.set _ wr.heap.size 1 _)).trans (CK.set _ wr.heap.size 2 _)).trans (CK.set _ wr.heap.size 3 _)).trans (CK.set _ wr.heap.size 4 _)
      refine hK.out _ _ (HYW.out.trans (K5.low (Nat.le_refl _) HYW.out.size)) (fun hHeld => ?_)
      clear hK K
      try simp only [ge_, Act.put, sl_]
      refine wpAnyH_done (by kernel_rfl) ?_ _
      refine NoPanic.normal ?_
      have HS5 : Hid (SnB (((((y.setCell ⟨wr.heap.size, 0, none⟩ (.slice oa on oc)).setCell ⟨wr.heap.size, 1, none⟩ (.slice ta tl tc)).setCell ⟨wr.heap.size, 2, none⟩ (.int .i64 (bN : Int))).setCell ⟨wr.heap.size, 3, none⟩ (.bool bw)).setCell ⟨wr.heap.size, 4, none⟩ (.int .i64 (bE : Int))) (w.heap.size + 1) (snT p (N : Int) (.slice la p.fs.length lc) true fo.k fo.n fo.b (.slice none 0 0) false 0)) := hide ((K5.block (w.heap.size + 1) (lt_heap HSy.out) (by omega)).trans HSy.out)
      have HR5 : Hid (SnB (((((y.setCell ⟨wr.heap.size, 0, none⟩ (.slice oa on oc)).setCell ⟨wr.heap.size, 1, none⟩ (.slice ta tl tc)).setCell ⟨wr.heap.size, 2, none⟩ (.int .i64 (bN : Int))).setCell ⟨wr.heap.size, 3, none⟩ (.bool bw)).setCell ⟨wr.heap.size, 4, none⟩ (.int .i64 (bE : Int))) w.heap.size sn0) := hide ((K5.block w.heap.size (lt_heap HRy.out) (by omega)).trans HRy.out)
      have HF5 := hide (HFy.out.frame (W' := ((((y.setCell ⟨wr.heap.size, 0, none⟩ (.slice oa on oc)).setCell ⟨wr.heap.size, 1, none⟩ (.slice ta tl tc)).setCell ⟨wr.heap.size, 2, none⟩ (.int .i64 (bN : Int))).setCell ⟨wr.heap.size, 3, none⟩ (.bool bw)).setCell ⟨wr.heap.size, 4, none⟩ (.int .i64 (bE : Int))) fun j e => K5.block j (HFy.out.lt e).2 (by have := (HF.out.lt e).2; omega))
      have HB5 := hide (HBy.out.trans (K5.low (by omega) HBy.out.size))
      have HO5 := hide (HOy.out.frame (W' := ((((y.setCell ⟨wr.heap.size, 0, none⟩ (.slice oa on oc)).setCell ⟨wr.heap.size, 1, none⟩ (.slice ta tl tc)).setCell ⟨wr.heap.size, 2, none⟩ (.int .i64 (bN : Int))).setCell ⟨wr.heap.size, 3, none⟩ (.bool bw)).setCell ⟨wr.heap.size, 4, none⟩ (.int .i64 (bE : Int))) fun j e => K5.block j (HOy.out.lt e).2 (by have := (HOV.out.lt e).1; have := hlt1; omega))
      clear a0 a1 a2 a3 K5 q0 q1 q2 q3 q4 x0 x1 x2 x3 x4 hlt0 hlt1 T0 HSy HRy HFy HBy HOy HOV HY HYW HS HR0 HF HB c0 c8 c9 c10 c11
      generalize ((((y.setCell ⟨wr.heap.size, 0, none⟩ (.slice oa on oc)).setCell ⟨wr.heap.size, 1, none⟩ (.slice ta tl tc)).setCell ⟨wr.heap.size, 2, none⟩ (.int .i64 (bN : Int))).setCell ⟨wr.heap.size, 3, none⟩ (.bool bw)).setCell ⟨wr.heap.size, 4, none⟩ (.int .i64 (bE : Int)) = w5 at F5 HS5 HR5 HF5 HB5 HO5 |-
      obtain ⟨tb, htb⟩ : ∃ tb, wr.heap.size = tb := ⟨_, rfl⟩
      rw [htb] at F5 |-
      have htb2 : w.heap.size + 1 < tb := by omega
      clear htb
      go_wp2_with fail
      go_meet
      exact ⟨tb, oa, on, oc, ta, tl, tc, bN, bE, bw, bo, rfl, hide ⟨HQ.out, hbn, F5.out, htb2, HS5.out, HR5.out, HF5.out, HB5.out, HO5.out⟩⟩
   case rest =>
   obtain ⟨tb, oa, on, oc, ta, tl, tc, bN, bE, bw, bo, rfl, HX9⟩ := hcut
   clear c0 c8 c9 c10 c11 HS HR0 HF HB HBC
   obtain ⟨q1, hbn, q3, htb2, q5, q6, q7, q8, q9⟩ := HX9.out
   have HQ := hide q1
   have F5 := hide q3
   have HS5 := hide q5
   have HR5 := hide q6
   have HF5 := hide q7
   have HB5 := hide q8
   have HO5 := hide q9
   clear q1 q3 q5 q6 q7 q8 q9 HX9
   have f0 : wc.cell? ⟨tb, 0, none⟩ = some (.slice oa on oc) := cell_at F5.out 0
   have f1 : wc.cell? ⟨tb, 1, none⟩ = some (.slice ta tl tc) := cell_at F5.out 1
   have f2 : wc.cell? ⟨tb, 2, none⟩ = some (.int .i64 (bN : Int)) := cell_at F5.out 2
   have f3 : wc.cell? ⟨tb, 3, none⟩ = some (.bool bw) := cell_at F5.out 3
   have f4 : wc.cell? ⟨tb, 4, none⟩ = some (.int .i64 (bE : Int)) := cell_at F5.out 4
   have c0 : wc.cell? ⟨(w.heap.size + 1), 0, none⟩ = some (.int .i64 (N : Int)) := cell_at HS5.out 0
   have c12 : wc.cell? ⟨(w.heap.size + 1), 12, none⟩ = some ((.slice none 0 0)) := cell_at HS5.out 12
   have c13 : wc.cell? ⟨(w.heap.size + 1), 13, none⟩ = some (.bool false) := cell_at HS5.out 13
   have c14 : wc.cell? ⟨(w.heap.size + 1), 14, none⟩ = some (.int .i64 0) := cell_at HS5.out 14
   have z0 : wc.frozen? ⟨(w.heap.size + 1), 0, none⟩ = false := by rw [frozen_at HS5.out]; simp
   have z12 : wc.frozen? ⟨(w.heap.size + 1), 12, none⟩ = false := by rw [frozen_at HS5.out]; simp
   have z13 : wc.frozen? ⟨(w.heap.size + 1), 13, none⟩ = false := by rw [frozen_at HS5.out]; simp
   have z14 : wc.frozen? ⟨(w.heap.size + 1), 14, none⟩ = false := by rw [frozen_at HS5.out]; simp
   have HPB := hide (putBd_ok HS5.out ((N : Int) + (bN : Int)) (.slice oa on oc) bw (bE : Int))
   have HS : Hid (SnB (putBd wc (w.heap.size + 1) ((N : Int) + (bN : Int)) (.slice oa on oc) bw (bE : Int)) (w.heap.size + 1) (snT p ((N : Int) + (bN : Int)) (.slice la p.fs.length lc) true fo.k fo.n fo.b (.slice oa on oc) bw (bE : Int))) := hide HPB.out.1
   have HR0 : Hid (SnB (putBd wc (w.heap.size + 1) ((N : Int) + (bN : Int)) (.slice oa on oc) bw (bE : Int)) w.heap.size sn0) := hide ((HPB.out.2.block w.heap.size (lt_heap HR5.out) (by omega)).trans HR5.out)
   have HB := hide (HB5.out.trans (HPB.out.2.low (by omega) HB5.out.size))
   have HF6 := hide (HF5.out.frame (W' := putBd wc (w.heap.size + 1) ((N : Int) + (bN : Int)) (.slice oa on oc) bw (bE : Int)) fun j e => HPB.out.2.block j (HF5.out.lt e).2 (by have := (HF5.out.lt e).1; omega))
   have HO6 := hide (HO5.out.frame (W' := putBd wc (w.heap.size + 1) ((N : Int) + (bN : Int)) (.slice oa on oc) bw (bE : Int)) fun j e => HPB.out.2.block j (HO5.out.lt e).2 (by have := (HO5.out.lt e).1; omega))
   clear HPB HS5 HR5 HB5 HF5 HO5
   unfold putBd at HS HR0 HB HF6 HO6
   go_upto_region 30 with fail
   clear f0 f1 f2 f3 f4 c0 c12 c13 c14 z0 z12 z13 z14 F5
   generalize (((wc.setCell ⟨w.heap.size + 1, 0, none⟩ (.int .i64 ((N : Int) + (bN : Int)))).setCell ⟨w.heap.size + 1, 12, none⟩ (.slice oa on oc)).setCell ⟨w.heap.size + 1, 13, none⟩ (.bool bw)).setCell ⟨w.heap.size + 1, 14, none⟩ (.int .i64 (bE : Int)) = w6 at *
   refine wp_region_lit ?_
   refine wpList_load_mid rfl 31 _ rfl (w.heap.size + 1) 0 rfl (snC (snT p ((N : Int) + (bN : Int)) (.slice la p.fs.length lc) true fo.k fo.n fo.b (.slice oa on oc) bw (bE : Int))).toList _ (range_of HS.out) Tryz.underlying31 rfl (by kernel_rfl) ?_
   simp only [Act.put, sl_]
   refine wpList_store_row rfl 31 _ _ rfl w.heap.size (snC (snT p ((N : Int) + (bN : Int)) (.slice la p.fs.length lc) true fo.k fo.n fo.b (.slice oa on oc) bw (bE : Int))) rfl rfl _ _ HR0.out (by kernel_rfl) rfl (snC_one _ rfl rfl) ?_
   simp only [Act.put]
   refine wpList_nil ?_
   have P : Hid (SnB (w6.setRow w.heap.size (snC (snT p ((N : Int) + (bN : Int)) (.slice la p.fs.length lc) true fo.k fo.n fo.b (.slice oa on oc) bw (bE : Int)))) w.heap.size (snT p ((N : Int) + (bN : Int)) (.slice la p.fs.length lc) true fo.k fo.n fo.b (.slice oa on oc) bw (bE : Int))) := hide (setRow_heap _ _ _ _ _ _ HR0.out)
   have BP := hide (HB.out.trans ((CK.setRow w6 w.heap.size (snC (snT p ((N : Int) + (bN : Int)) (.slice la p.fs.length lc) true fo.k fo.n fo.b (.slice oa on oc) bw (bE : Int)))).low (Nat.le_refl _) HB.out.size))
   have HF7 := hide (HF6.out.frame (W' := (w6.setRow w.heap.size (snC (snT p ((N : Int) + (bN : Int)) (.slice la p.fs.length lc) true fo.k fo.n fo.b (.slice oa on oc) bw (bE : Int))))) fun j e => setRow_other _ _ _ _ (by have := (HF6.out.lt e).1; omega))
   have HO7 := hide (HO6.out.frame (W' := (w6.setRow w.heap.size (snC (snT p ((N : Int) + (bN : Int)) (.slice la p.fs.length lc) true fo.k fo.n fo.b (.slice oa on oc) bw (bE : Int))))) fun j e => setRow_other _ _ _ _ (by have := (HO6.out.lt e).1; omega))
   clear HF6 HO6
   clear HS HR0 HB
   generalize w6.setRow w.heap.size (snC (snT p ((N : Int) + (bN : Int)) (.slice la p.fs.length lc) true fo.k fo.n fo.b (.slice oa on oc) bw (bE : Int))) = y9 at P BP HF7 HO7 |-
   go_wp2_with fail
   exact bodyPost_ret (v := snV (snT p ((N : Int) + (bN : Int)) (.slice la p.fs.length lc) true fo.k fo.n fo.b (.slice oa on oc) bw (bE : Int))) (seen_results P.out _ rfl) rfl (by rw [HU.out]; exact ⟨bo, bN, bw, bE, .slice oa on oc, la, lc, HQ.out, rfl, HO7.out.low (by omega), HF7.out.lower (by omega), BP.out⟩)
end Go.Proofs.YtecjlcjaccijpaaGreatDoor
