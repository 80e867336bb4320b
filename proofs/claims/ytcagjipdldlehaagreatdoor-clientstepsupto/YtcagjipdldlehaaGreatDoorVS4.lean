/- VS4. -/
import Derived.Test.YtcagjipdldlehaaGreatDoorVS1
import Derived.Test.YtcagjipdldlehaaGreatDoorVR3
import Derived.Test.YtcagjipdldlehaaGreatDoorVO
import Derived.Test.YtcagjipdldlehaaGreatDoorVQ
namespace Go.Proofs.YtcagjipdldlehaaGreatDoor
open Go.ChangeShapes Go.WideShapes Go.ChangeAt Go.RowKit
set_option linter.unusedVariables false
set_option maxHeartbeats 16000000
set_option maxRecDepth 100000
section
variable {w : World} {c M bd : Nat} {B : Value} {wt sh : Bool} {st : Int} {hr : Bool} {me9 ta9 : ByteArray} {mi hs : Int} {re : ByteArray} {fl dv : Value}
theorem rlook_any (hc : w.heap[c]? = some (.cells (rcC M bd B wt sh st hr me9 ta9 mi hs re fl dv) 70 (0, 0))) (hM : M <= 65536) (hbd : bd <= 1048576) (v : Value) (l : List UInt8) (hB : Bs w w.heap.size v l) (hl : l.length <= 70368744177664) :
  Calls Tryz.prog 27 #[.pointer (some ⟨c,0,none⟩),v] w fun e w' => e = .returned (.tuple #[.int .i64 ((csRun bd (csNew M) l).1 : Int),.bool (csRun bd (csNew M) l).2.told,.int .i64 (csRun bd (csNew M) l).2.wr]) /\ LkS w w' c M bd B wt sh st (csRun bd (csNew M) l).2 := by
 obtain ⟨er,k,q,hP⟩ : ∃ er k q,pBytes (pNew true M) l = (er,k,q) := ⟨_,_,_,rfl⟩
 by_cases hw : er ≠ 0 ∨ q.whole = false
 ·obtain ⟨r1, r2, r3⟩ := new_no (bd := bd) hP hw
  rw [r1,r2,r3];refine (look_head hc hM v l hB (by omega) hP hw).mono ?_;rintro e w' ⟨rfl,b⟩;exact ⟨rfl,fun _ => b,fun h => by rw [r2] at h;cases h⟩
 ·obtain ⟨h0,hwt⟩ : er = 0 /\ q.whole = true := by
   constructor
   ·exact Classical.byContradiction fun h => hw (.inl h)
   ·cases h : q.whole
    ·exact absurd (.inr h) hw
    ·rfl
  subst h0;have hrun := new_yes (bd := bd) hP hwt;have hft : Fit q := by have := fit_bytes l _ (fit_new true M hM);rw [hP] at this;exact this
  have hsz : Sz q := by have := sz_bytes l _ (fit_new true M hM) (sz_new true M);rw [hP] at this;exact this
  have hS := sm_ofy hft hsz;have hkl : k <= l.length := by have := by_le l (pNew true M);rw [hP] at this;exact this
  have hne : 0 < l.length := by
   cases l with
   | nil =>
    simp only [pBytes,Prod.mk.injEq] at hP;obtain ⟨-,-,e⟩ := hP;rw [<- e] at hwt;cases hwt
   | cons x r => simp
  obtain ⟨bk,ofs,vc,rfl⟩ : ∃ bk ofs vc,v = .slice (some ⟨bk,ofs,none⟩) l.length vc := by
   obtain ⟨a,c',rfl,_,h2⟩ := hB;obtain ⟨g,o,rfl,-⟩ := h2 0 hne;exact ⟨g,o,c',rfl⟩
  have hdl : (l.drop k).length = l.length - k := List.length_drop;rw [hrun];rcases reqO_cases q.fs q.req (q.minor : Int) with z | ⟨b,z⟩ | ⟨m,b,z,hm9⟩ | ⟨b,z⟩
  ·obtain ⟨fk, fn, fb, fe, hq⟩ : ∃ fk fn fb fe, reqO q.fs q.req (q.minor : Int) = ⟨fk, fn, fb, fe⟩ := ⟨_, _, _, _, rfl⟩
   have e1 : csBegin bd (pShut q) = .shut 400 := by unfold csBegin;exact if_pos z
   rw [hq] at z;rw [e1,run_stop bd rfl];refine (look_refused hc hM hbd _ l hB (by omega) hP hwt hS hq z).mono ?_;rintro e w' ⟨rfl,b⟩;exact ⟨rfl,fun _ => b,fun h => by cases h⟩
  ·have e1 : csBegin bd (pShut q) = .waits (pShut q) [] := by
    have z' : reqO (pShut q).fs (pShut q).req ((pShut q).minor : Int) = ⟨1,0,b,0⟩ := z;unfold csBegin;rw [z'];simp
   rw [e1,run_stop bd rfl];refine (rlook_body hc hM hbd bk ofs vc l hB (by omega) hP hwt hS z (.inl rfl) (by omega) (by omega) (fun _ => rfl) rfl (N := 0) (E := 0) (wh := true) (o := []) (by omega) (fun W v2 _ => ball_to (ball_none 0 b (bd : Int) v2 false (hide rfl) W)) hkl (fun _ => rfl)).mono ?_;rintro e w' ⟨rfl,h1,h2⟩;exact ⟨rfl,lks_of rfl (fun _ => rfl) h1 h2⟩
  ·by_cases hlong : (bd : Int) < (m : Int)
   ·have e1 : csBegin bd (pShut q) = .shut 413 := by
     have z' : reqO (pShut q).fs (pShut q).req ((pShut q).minor : Int) = ⟨2,(m : Int),b,0⟩ := z;unfold csBegin;rw [z'];simp;omega
    rw [e1,run_stop bd rfl];refine (look_long hc hM hbd _ l hB (by omega) hP hwt hS z rfl rfl (by omega) (by omega) hlong).mono ?_;rintro e w' ⟨rfl,b⟩;exact ⟨rfl,fun _ => b,fun h => by cases h⟩
   ·have hH : ∀ W v2,Bs W W.heap.size v2 (l.drop k) -> Calls Tryz.prog 41 #[.agg #[.int .i64 2,.int .i64 (m : Int),.bool b],.int .i64 (bd : Int),v2,.bool false] W fun e w' => ∃ oa on oc ta tl tc,e = .returned (.agg #[.slice oa on oc,.slice ta tl tc,.int .i64 ((min (l.drop k).length m : Nat) : Int),.bool (decide (min (l.drop k).length m = m)),.int .i64 ((0 : Nat) : Int)]) /\ Row w' W.heap.size 5 (.slice oa on oc) (bc ((l.drop k).take (min (l.drop k).length m))) /\ Below W.heap.size W w' := fun W v2 hb => by
     have h := ball_len (m : Int) b (bd : Int) v2 (l.drop k) false (hide rfl) W hb (by omega) (min (l.drop k).length m) (by rw [Int.toNat_natCast]) (decide (min (l.drop k).length m = m)) (by
      by_cases h : min (l.drop k).length m = m
      ·rw [decide_eq_true h,beq_iff_eq];omega
      ·rw [decide_eq_false h,beq_eq_false_iff_ne];omega)
     rw [if_neg (by simp)] at h;exact ball_to h
    have hb := rlook_body hc hM hbd bk ofs vc l hB (by omega) hP hwt hS z (.inr (.inr rfl)) (by omega) (by omega) (fun h => absurd rfl h) rfl (by omega) hH hkl (fun _ => rfl);by_cases hm0 : m = 0
    ·subst hm0
     have e1 : csBegin bd (pShut q) = .waits (pShut q) [] := by
      have z' : reqO (pShut q).fs (pShut q).req ((pShut q).minor : Int) = ⟨2,0,b,0⟩ := z;unfold csBegin;rw [z'];simp
     rw [e1,run_stop bd rfl];simp only [Nat.min_zero,decide_true,List.take_zero] at hb;refine hb.mono ?_;rintro e w' ⟨rfl,h1,h2⟩;exact ⟨rfl,lks_of rfl (fun _ => rfl) h1 h2⟩
    ·have e1 : csBegin bd (pShut q) = .meas (pShut q) m [] := by
      have z' : reqO (pShut q).fs (pShut q).req ((pShut q).minor : Int) = ⟨2,(m : Int),b,0⟩ := z;have h1 : ¬ bd < m := by omega
      unfold csBegin;rw [z'];simp [hm0,h1]
     rw [e1];obtain ⟨r1,r2,r3,r4⟩ := body_meas (bd := bd) (pShut q) (l.drop k) (show 0 < m by omega);dsimp only;rw [r1,r2,r3];refine hb.mono ?_;rintro e w' ⟨rfl,h1,h2⟩;refine ⟨by simp,lks_of (q := q) (o := (l.drop k).take m) r2 (fun h => ?_) (fun h => h1 (by simpa using h)) (fun h => ?_)⟩
     ·exact r4 (of_decide_eq_true h)
     ·have h3 := h2 (by simpa using h)
      rw [of_decide_eq_true h] at h3;exact h3
  ·have e1 : csBegin bd (pShut q) = .part (pShut q) (dNew bd) [] := by
    have z' : reqO (pShut q).fs (pShut q).req ((pShut q).minor : Int) = ⟨3,0,b,0⟩ := z;unfold csBegin;rw [z'];simp
   rw [e1];obtain ⟨E,N,o,d',hd⟩ : ∃ E N o d',dBytes (dNew bd) (l.drop k) = (E,N,o,d') := ⟨_,_,_,_,rfl⟩
   have hF : Fin' bd (l.drop k) o (if d'.whole then d'.tr else []) N d'.whole E := ⟨d',hd,rfl,rfl⟩;have hNl : N <= (l.drop k).length := by have := d_le2 (l.drop k) (dNew bd);rw [hd] at this;exact this
   obtain ⟨r1,r2,r3,r4⟩ := body_part (pShut q) _ _ _ _ _ _ hF;dsimp only;rw [r1,r2,r3];refine (rlook_body hc hM hbd bk ofs vc l hB (by omega) hP hwt hS z (.inr (.inl rfl)) (by omega) (by omega) (fun _ => rfl) rfl (N := N) (E := E) (wh := d'.whole) (o := o) (by omega) (fun W v2 hb => ?_) hkl (fun h => ?_)).mono ?_
   ·refine ball_to ((ball_part 0 b bd v2 (l.drop k) false (hide rfl) W hb (by omega) (by omega)).mono ?_)
    rintro e w' ⟨o1,t1,N1,wh1,E1,E',⟨d1,a1,a2,-⟩,a4,a5⟩;rw [hd] at a1;simp only [Prod.mk.injEq] at a1;obtain ⟨rfl,rfl,rfl,rfl⟩ := a1;rw [if_neg (by simp)] at a4;subst a4 a2;exact a5
   ·have : l.drop k = [] := List.drop_of_length_le (by omega)
    rw [this,dBytes] at hd;simp only [Prod.mk.injEq] at hd;exact hd.1.symm
   ·rintro e w' ⟨rfl, h1, h2⟩
    refine ⟨rfl,lks_of r2 (fun h => ?_) h1 h2⟩;simp only [Bool.and_eq_true,decide_eq_true_eq] at h;exact r4 h.1 h.2
end
theorem asked_any (most : Int) (w : World) : Calls Tryz.prog 26 #[.int .i64 most] w fun e w' => e = .returned (.bool (decide (16 <= most /\ most <= 65536))) /\ w = w' := by
 obtain ⟨D,hD⟩ : ∃ D,decide (16 <= most /\ most <= 65536) = D := ⟨_,rfl⟩
 rw [hD];by_cases h1 : 16 <= most
 ·by_cases h2 : most <= 65536
  ·rw [decide_eq_true (And.intro h1 h2)] at hD
   subst hD;go_enter Tryz.func26,Tryz.ntmps26
   go_wp2
   go_ret
   exact ⟨ret_bool (by first | rfl | (simp;omega)),rfl⟩
  ·rw [decide_eq_false (fun h => h2 h.2)] at hD
   subst hD;go_enter Tryz.func26,Tryz.ntmps26
   go_wp2
   go_ret
   exact ⟨ret_bool (by first | rfl | (simp;omega)),rfl⟩
 ·rw [decide_eq_false (fun h => h1 h.1)] at hD
  subst hD;go_enter Tryz.func26,Tryz.ntmps26
  go_wp2
  go_ret
  exact ⟨ret_bool (by first | rfl | (simp;omega)),rfl⟩
theorem rnew_good (w : World) (M bd : Nat) (h1 : 16 <= M) (h2 : M <= 65536) (h4 : bd <= 1048576) :
  Calls Tryz.prog 9 #[.int .i64 (M : Int),.int .i64 (bd : Int)] w fun e w' => e = .returned (.tuple #[.pointer (some ⟨w.heap.size,0,none⟩),.int .i64 0]) /\ w'.heap[w.heap.size]? = some (.cells (rcC M bd (.slice none 0 0) false false 0 false ⟨#[]⟩ ⟨#[]⟩ 0 0 ⟨#[]⟩ (.slice none 0 0) (.slice none 0 0)) 70 (0,0)) /\ Below w.heap.size w w' := by
 have HA := hide (asked_any (M : Int) w);rw [decide_eq_true (show (16 : Int) <= (M : Int) /\ (M : Int) <= 65536 by omega)] at HA;have t1 : ¬ (bd : Int) < 0 := by omega
 have t2 : ¬ (1048576 : Int) < (bd : Int) := by omega
 have G := hide (hp_new w (.cells (rcC M bd (.slice none 0 0) false false 0 false ⟨#[]⟩ ⟨#[]⟩ 0 0 ⟨#[]⟩ (.slice none 0 0) (.slice none 0 0)) 70));have B0 := hide ((Below.refl w.heap.size w).alloc (Nat.le_refl _) (.cells (rcC M bd (.slice none 0 0) false false 0 false ⟨#[]⟩ ⟨#[]⟩ 0 0 ⟨#[]⟩ (.slice none 0 0) (.slice none 0 0)) 70));unfold rcC at G B0 |-
 go_enter Tryz.func9,Tryz.ntmps9
 go_wp2_with (go_at_call 26;refine HA.out.mono ?_;rintro e w1 ⟨rfl,rfl⟩)
 go_ret2
 exact ⟨rfl,G.out,B0.out⟩
theorem rnew_bad (w : World) (M bd : Int) (h : M < 16 ∨ 65536 < M ∨ bd < 0 ∨ 1048576 < bd) :
  Calls Tryz.prog 9 #[.int .i64 M,.int .i64 bd] w fun e w' => e = .returned (.tuple #[.pointer none,.int .i64 1]) /\ w = w' := by
 have HA := hide (asked_any M w);by_cases h1 : 16 <= M /\ M <= 65536
 ·rw [decide_eq_true h1] at HA
  by_cases h2 : bd < 0
  ·clear h h1
   go_enter Tryz.func9,Tryz.ntmps9
   go_wp2_with (go_at_call 26;refine HA.out.mono ?_;rintro e w1 ⟨rfl,rfl⟩)
   go_ret2
   exact ⟨rfl,rfl⟩
  ·have h3 : 1048576 < bd := by omega
   clear h h1;go_enter Tryz.func9,Tryz.ntmps9
   go_wp2_with (go_at_call 26;refine HA.out.mono ?_;rintro e w1 ⟨rfl,rfl⟩)
   go_ret2
   exact ⟨rfl,rfl⟩
 ·rw [decide_eq_false h1] at HA
  clear h h1;go_enter Tryz.func9,Tryz.ntmps9
  go_wp2_with (go_at_call 26;refine HA.out.mono ?_;rintro e w1 ⟨rfl,rfl⟩)
  go_ret2
  exact ⟨rfl,rfl⟩
theorem listen_bad {w : World} {c : Nat} {h0 b0 : Int} {st : Value} {bg wt : Bool} {pv rv bv : Value} {wr : Int} (h : ClB w c h0 b0 st bg wt pv rv bv wr) (hd : Int) (bd : Int) (h1 : hd < 16 ∨ 65536 < hd) :
  Calls Tryz.prog 25 #[.pointer (some ⟨c,0,none⟩),.agg #[.int .i64 hd,.int .i64 bd]] w fun e w' => e = .returned (.int .i64 1) /\ CK w w' c := by
 have HH := hide h;have hcl := lt_heap h;clear h;have HN := hide (fun W => hnew_bad true hd W h1);go_enter Tryz.func25,Tryz.ntmps25
 go_upto_region 1 with fail
 have B0 := hide (Bl.one w #[.int .i64 hd,.int .i64 bd] 61);generalize (w.alloc (.cells #[.int .i64 hd,.int .i64 bd] 61)) = w1 at B0 |-
 have e0 : w1.cell? ⟨w.heap.size,0,none⟩ = some (.int .i64 hd) := B0.out.cell 0 rfl 0;go_wp2_with fail
 refine (HN.out w1).mono ?_;rintro e w1 ⟨rfl,rfl⟩;have B1 := hide B0.out;have hw1 : w.heap.size < w1.heap.size := by have := lt_heap (B0.out.hp 0 _ _ rfl);omega
 clear B0 e0 HN;have e0 : w1.cell? ⟨w.heap.size,0,none⟩ = some (.int .i64 hd) := B1.out.cell 0 rfl 0;have e1 : w1.cell? ⟨w.heap.size,1,none⟩ = some (.int .i64 bd) := B1.out.cell 0 rfl 1;have HH2 := hide ((B1.out.b.block c hcl).trans HH.out);obtain ⟨k0,k1,k2,k3,k4,k5,k6,k7,k8⟩ := cl_cells HH2.out;have z := cl_fz HH2.out;obtain ⟨y1,y2⟩ := put9_ok HH2.out hd bd .nilFunc false false (.pointer none) (.pointer none) (.slice none 0 0) 0;have H3 := hide y1;have K3 := hide ((CK.of_below c B1.out.b).trans y2);clear y1 y2;have z0 := z 0;have z1 := z 1;have z2 := z 2;have z3 := z 3;have z4 := z 4;have z5 := z 5;have z6 := z 6;have z7 := z 7;have z8 := z 8;clear z;unfold put9 at H3 K3;go_upto_region 3 with fail
 clear k0 k1 k2 k3 k4 k5 k6 k7 k8 z0 z1 z2 z3 z4 z5 z6 z7 z8 e0 e1 HH2;generalize ((((((((w1.setCell ⟨c,0,none⟩ (.int .i64 hd)).setCell ⟨c,1,none⟩ (.int .i64 bd)).setCell ⟨c,2,none⟩ .nilFunc).setCell ⟨c,3,none⟩ (.bool false)).setCell ⟨c,4,none⟩ (.bool false)).setCell ⟨c,5,none⟩ (.pointer none)).setCell ⟨c,6,none⟩ (.pointer none)).setCell ⟨c,7,none⟩ (.slice none 0 0)).setCell ⟨c,8,none⟩ (.int .i64 0) = w3 at *;have k2 : w3.cell? ⟨c,2,none⟩ = some .nilFunc := (cl_cells H3.out).2.2.1;have z2 := cl_fz H3.out 2;have H4 : Hid (ClB (w3.setCell ⟨c,2,none⟩ (stH c)) c hd bd (stH c) false false (.pointer none) (.pointer none) (.slice none 0 0) 0) := hide (hp_set H3.out 2 _);have K4 := hide (K3.out.trans (CK.set w3 c 2 (stH c)));unfold stH at H4 K4;go_wp2_with fail
 go_ret
 exact ⟨rfl,K4.out⟩
theorem cnew_bad (w : World) (M bd : Int) (h : M < 16 ∨ 65536 < M ∨ bd < 0 ∨ 1048576 < bd) :
  Calls Tryz.prog 8 #[.int .i64 M,.int .i64 bd] w fun e w' => e = .returned (.tuple #[.pointer none,.int .i64 1]) /\ Below w.heap.size w w' := by
 by_cases h1 : bd < 0
 ·clear h
  go_enter Tryz.func8,Tryz.ntmps8
  go_wp2
  go_ret2
  exact ⟨rfl,Below.refl _ _⟩
 ·by_cases h2 : 1048576 < bd
  ·clear h
   go_enter Tryz.func8,Tryz.ntmps8
   go_wp2
   go_ret2
   exact ⟨rfl,Below.refl _ _⟩
  ·have h3 : M < 16 ∨ 65536 < M := by omega
   clear h;have H0 : Hid (ClB (w.alloc (.cells (clC 0 0 .nilFunc false false (.pointer none) (.pointer none) (.slice none 0 0) 0) 66)) w.heap.size 0 0 .nilFunc false false (.pointer none) (.pointer none) (.slice none 0 0) 0) := hide (hp_new w _);have B0 := hide ((Below.refl w.heap.size w).alloc (Nat.le_refl _) (.cells (clC 0 0 .nilFunc false false (.pointer none) (.pointer none) (.slice none 0 0) 0) 66));unfold clC at H0 B0;go_enter Tryz.func8,Tryz.ntmps8
   go_upto_region 4 with fail
   generalize w.alloc _ = w1 at *;have H0 : Hid (ClB w1 w.heap.size 0 0 .nilFunc false false (.pointer none) (.pointer none) (.slice none 0 0) 0) := H0;have HC := hide (listen_bad H0.out M bd h3);have hs : w.heap.size < w1.heap.size := lt_heap H0.out;go_wp2_with fail
   refine HC.out.mono ?_;rintro e w2 ⟨rfl,ck⟩;have HE := hide (B0.out.trans (ck.low (Nat.le_refl _) (by omega)));clear ck HC;go_wp2_with fail
   go_ret2
   exact ⟨rfl,HE.out⟩
section
variable {w : World} {d M bd : Nat} {B : Value} {wt sh : Bool} {st : Int} {hr : Bool} {me ta : ByteArray} {mi hs : Int} {re : ByteArray} {fl dv : Value}
theorem rbegun_any {a : Option Addr} {n cp : Nat} (hc : w.heap[d]? = some (.cells (rcC M bd (.slice a n cp) wt sh st hr me ta mi hs re fl dv) 70 (0, 0))) :
  Calls Tryz.prog 30 #[.pointer (some ⟨d,0,none⟩)] w fun e w' => e = .returned (.bool (!wt && (!sh && decide (0 < n)))) /\ w = w' := by
 have c2 : w.cell? ⟨d,2,none⟩ = some (.slice a n cp) := cell_at hc 2;have c3 : w.cell? ⟨d,3,none⟩ = some (.bool wt) := cell_at hc 3;have c4 : w.cell? ⟨d,4,none⟩ = some (.bool sh) := cell_at hc 4;clear hc;obtain ⟨D,hD⟩ : ∃ D,decide (0 < n) = D := ⟨_,rfl⟩
 rw [hD];cases wt
 ·cases sh
  ·by_cases hn : 0 < n
   ·rw [decide_eq_true hn] at hD
    subst hD;have t : (0 : Int) < (n : Int) := by omega
    go_enter Tryz.func30,Tryz.ntmps30
    go_wp2
    go_ret
    exact ⟨rfl,rfl⟩
   ·rw [decide_eq_false hn] at hD
    subst hD;have t : ¬ (0 : Int) < (n : Int) := by omega
    go_enter Tryz.func30,Tryz.ntmps30
    go_wp2
    go_ret
    exact ⟨rfl,rfl⟩
  ·clear hD
   go_enter Tryz.func30,Tryz.ntmps30
   go_wp2
   go_ret
   exact ⟨rfl,rfl⟩
 ·clear hD
  go_enter Tryz.func30,Tryz.ntmps30
  go_wp2
  go_ret
  exact ⟨rfl,rfl⟩
theorem rend_w (hc : w.heap[d]? = some (.cells (rcC M bd B true sh st hr me ta mi hs re fl dv) 70 (0, 0))) :
  Calls Tryz.prog 14 #[.pointer (some ⟨d,0,none⟩)] w fun e w' => e = .returned (.bool false) /\ w = w' := by
 have c3 : w.cell? ⟨d,3,none⟩ = some (.bool true) := cell_at hc 3;clear hc;go_enter Tryz.func14,Tryz.ntmps14
 go_wp2
 go_ret
 exact ⟨rfl,rfl⟩
theorem rend_s {a : Option Addr} {n cp : Nat} (hc : w.heap[d]? = some (.cells (rcC M bd (.slice a n cp) false true st hr me ta mi hs re fl dv) 70 (0, 0))) :
  Calls Tryz.prog 14 #[.pointer (some ⟨d,0,none⟩)] w fun e w' => e = .returned (.bool true) /\ w'.heap[d]? = some (.cells (rcC M bd (.slice a n cp) false true st hr me ta mi hs re fl dv) 70 (0,0)) /\ CK w w' d := by
 have c2 : w.cell? ⟨d,2,none⟩ = some (.slice a n cp) := cell_at hc 2;have c3 : w.cell? ⟨d,3,none⟩ = some (.bool false) := cell_at hc 3;have c4 : w.cell? ⟨d,4,none⟩ = some (.bool true) := cell_at hc 4;have c5 : w.cell? ⟨d,5,none⟩ = some (.int .i64 st) := cell_at hc 5;have z4 : w.frozen? ⟨d,4,none⟩ = false := (by rw [frozen_at hc];simp);have z5 : w.frozen? ⟨d,5,none⟩ = false := (by rw [frozen_at hc];simp);have P0 : (_ : World).heap[d]? = some (.cells (rcC M bd (.slice a n cp) false true st hr me ta mi hs re fl dv) 70 (0,0)) := hp_set hc 4 (.bool true);replace P0 := hide P0;have KK := hide (CK.set w d 4 (.bool true));clear hc;go_enter Tryz.func14,Tryz.ntmps14
 go_wp2
 go_ret
 exact ⟨rfl,P0.out,KK.out⟩
theorem rend_g {a : Option Addr} {n cp : Nat} (hc : w.heap[d]? = some (.cells (rcC M bd (.slice a n cp) false false st hr me ta mi hs re fl dv) 70 (0, 0))) (hn : 0 < n) :
  Calls Tryz.prog 14 #[.pointer (some ⟨d,0,none⟩)] w fun e w' => e = .returned (.bool true) /\ w'.heap[d]? = some (.cells (rcC M bd (.slice a n cp) false true 400 hr me ta mi hs re fl dv) 70 (0,0)) /\ CK w w' d := by
 have c2 : w.cell? ⟨d,2,none⟩ = some (.slice a n cp) := cell_at hc 2;have c3 : w.cell? ⟨d,3,none⟩ = some (.bool false) := cell_at hc 3;have c4 : w.cell? ⟨d,4,none⟩ = some (.bool false) := cell_at hc 4;have c5 : w.cell? ⟨d,5,none⟩ = some (.int .i64 st) := cell_at hc 5;have z4 : w.frozen? ⟨d,4,none⟩ = false := (by rw [frozen_at hc];simp);have z5 : w.frozen? ⟨d,5,none⟩ = false := (by rw [frozen_at hc];simp);have P0 : (_ : World).heap[d]? = some (.cells (rcC M bd (.slice a n cp) false false 400 hr me ta mi hs re fl dv) 70 (0,0)) := hp_set hc 5 (.int .i64 400);have P1 : (_ : World).heap[d]? = some (.cells (rcC M bd (.slice a n cp) false true 400 hr me ta mi hs re fl dv) 70 (0,0)) := hp_set P0 4 (.bool true);replace P1 := hide P1;have KK := hide ((CK.set w d 5 (.int .i64 400)).trans (CK.set _ d 4 (.bool true)));clear P0;have t : (0 : Int) < (n : Int) := by omega
 clear hc;go_enter Tryz.func14,Tryz.ntmps14
 go_wp2
 go_ret
 exact ⟨rfl,P1.out,KK.out⟩
theorem rend_e {a : Option Addr} {n cp : Nat} (hc : w.heap[d]? = some (.cells (rcC M bd (.slice a n cp) false false st hr me ta mi hs re fl dv) 70 (0, 0))) (hn : ¬ 0 < n) :
  Calls Tryz.prog 14 #[.pointer (some ⟨d,0,none⟩)] w fun e w' => e = .returned (.bool true) /\ w'.heap[d]? = some (.cells (rcC M bd (.slice a n cp) false true st hr me ta mi hs re fl dv) 70 (0,0)) /\ CK w w' d := by
 have c2 : w.cell? ⟨d,2,none⟩ = some (.slice a n cp) := cell_at hc 2;have c3 : w.cell? ⟨d,3,none⟩ = some (.bool false) := cell_at hc 3;have c4 : w.cell? ⟨d,4,none⟩ = some (.bool false) := cell_at hc 4;have c5 : w.cell? ⟨d,5,none⟩ = some (.int .i64 st) := cell_at hc 5;have z4 : w.frozen? ⟨d,4,none⟩ = false := (by rw [frozen_at hc];simp);have z5 : w.frozen? ⟨d,5,none⟩ = false := (by rw [frozen_at hc];simp);have P0 : (_ : World).heap[d]? = some (.cells (rcC M bd (.slice a n cp) false true st hr me ta mi hs re fl dv) 70 (0,0)) := hp_set hc 4 (.bool true);replace P0 := hide P0;have KK := hide (CK.set w d 4 (.bool true));have t : ¬ (0 : Int) < (n : Int) := by omega
 clear hn;clear hc;go_enter Tryz.func14,Tryz.ntmps14
 go_wp2
 go_ret
 exact ⟨rfl,P0.out,KK.out⟩
theorem rans_no (hc : w.heap[d]? = some (.cells (rcC M bd B false sh st hr me ta mi hs re fl dv) 70 (0, 0))) (keep : Bool) :
  Calls Tryz.prog 16 #[.pointer (some ⟨d,0,none⟩),.bool keep] w fun e w' => e = .returned (.int .i64 7) /\ w = w' := by
 have c3 : w.cell? ⟨d,3,none⟩ = some (.bool false) := cell_at hc 3;clear hc;go_enter Tryz.func16,Tryz.ntmps16
 go_wp2
 go_ret
 exact ⟨rfl,rfl⟩
theorem rans_yes (hc : w.heap[d]? = some (.cells (rcC M bd B true sh st hr me ta mi hs re fl dv) 70 (0, 0))) (keep : Bool) :
  Calls Tryz.prog 16 #[.pointer (some ⟨d,0,none⟩),.bool keep] w fun e w' => e = .returned (.int .i64 0) /\ w'.heap[d]? = some (.cells (rcC M bd (.slice none 0 0) false (!keep) st false ⟨#[]⟩ ⟨#[]⟩ 0 0 ⟨#[]⟩ (.slice none 0 0) (.slice none 0 0)) 70 (0,0)) /\ CK w w' d := by
 have c3 : w.cell? ⟨d,3,none⟩ = some (.bool true) := cell_at hc 3;have z := (fun i => (by rw [frozen_at hc];simp : w.frozen? ⟨d,i,none⟩ = false));have z2 := z 2;obtain ⟨o2,d2⟩ : ∃ x,w.cell? ⟨d,2,none⟩ = some x := ⟨_,cell_at hc 2⟩
 have z3 := z 3;have z4 := z 4;obtain ⟨o4,d4⟩ : ∃ x,w.cell? ⟨d,4,none⟩ = some x := ⟨_,cell_at hc 4⟩
 have z6 := z 6;obtain ⟨o6,d6⟩ : ∃ x,w.cell? ⟨d,6,none⟩ = some x := ⟨_,cell_at hc 6⟩
 have z7 := z 7;obtain ⟨o7,d7⟩ : ∃ x,w.cell? ⟨d,7,none⟩ = some x := ⟨_,cell_at hc 7⟩
 have z8 := z 8;obtain ⟨o8,d8⟩ : ∃ x,w.cell? ⟨d,8,none⟩ = some x := ⟨_,cell_at hc 8⟩
 have z9 := z 9;obtain ⟨o9,d9⟩ : ∃ x,w.cell? ⟨d,9,none⟩ = some x := ⟨_,cell_at hc 9⟩
 have z10 := z 10;obtain ⟨o10,d10⟩ : ∃ x,w.cell? ⟨d,10,none⟩ = some x := ⟨_,cell_at hc 10⟩
 have z11 := z 11;obtain ⟨o11,d11⟩ : ∃ x,w.cell? ⟨d,11,none⟩ = some x := ⟨_,cell_at hc 11⟩
 have z12 := z 12;obtain ⟨o12,d12⟩ : ∃ x,w.cell? ⟨d,12,none⟩ = some x := ⟨_,cell_at hc 12⟩
 have z13 := z 13;obtain ⟨o13,d13⟩ : ∃ x,w.cell? ⟨d,13,none⟩ = some x := ⟨_,cell_at hc 13⟩
 clear z;have P0 : (_ : World).heap[d]? = some (.cells (rcC M bd B false sh st hr me ta mi hs re fl dv) 70 (0,0)) := hp_set hc 3 (.bool false);have P1 : (_ : World).heap[d]? = some (.cells (rcC M bd (.slice none 0 0) false sh st hr me ta mi hs re fl dv) 70 (0,0)) := hp_set P0 2 ((.slice none 0 0));have P2 : (_ : World).heap[d]? = some (.cells (rcC M bd (.slice none 0 0) false sh st false me ta mi hs re fl dv) 70 (0,0)) := hp_set P1 6 (.bool false);have P3 : (_ : World).heap[d]? = some (.cells (rcC M bd (.slice none 0 0) false sh st false ⟨#[]⟩ ta mi hs re fl dv) 70 (0,0)) := hp_set P2 7 (.string ⟨#[]⟩);have P4 : (_ : World).heap[d]? = some (.cells (rcC M bd (.slice none 0 0) false sh st false ⟨#[]⟩ ⟨#[]⟩ mi hs re fl dv) 70 (0,0)) := hp_set P3 8 (.string ⟨#[]⟩);have P5 : (_ : World).heap[d]? = some (.cells (rcC M bd (.slice none 0 0) false sh st false ⟨#[]⟩ ⟨#[]⟩ 0 hs re fl dv) 70 (0,0)) := hp_set P4 9 (.int .i64 0);have P6 : (_ : World).heap[d]? = some (.cells (rcC M bd (.slice none 0 0) false sh st false ⟨#[]⟩ ⟨#[]⟩ 0 0 re fl dv) 70 (0,0)) := hp_set P5 10 (.int .i64 0);have P7 : (_ : World).heap[d]? = some (.cells (rcC M bd (.slice none 0 0) false sh st false ⟨#[]⟩ ⟨#[]⟩ 0 0 ⟨#[]⟩ fl dv) 70 (0,0)) := hp_set P6 11 (.string ⟨#[]⟩);have P8 : (_ : World).heap[d]? = some (.cells (rcC M bd (.slice none 0 0) false sh st false ⟨#[]⟩ ⟨#[]⟩ 0 0 ⟨#[]⟩ (.slice none 0 0) dv) 70 (0,0)) := hp_set P7 12 ((.slice none 0 0));have P9 : (_ : World).heap[d]? = some (.cells (rcC M bd (.slice none 0 0) false sh st false ⟨#[]⟩ ⟨#[]⟩ 0 0 ⟨#[]⟩ (.slice none 0 0) (.slice none 0 0)) 70 (0,0)) := hp_set P8 13 ((.slice none 0 0));have P10 : (_ : World).heap[d]? = some (.cells (rcC M bd (.slice none 0 0) false (!keep) st false ⟨#[]⟩ ⟨#[]⟩ 0 0 ⟨#[]⟩ (.slice none 0 0) (.slice none 0 0)) 70 (0,0)) := hp_set P9 4 (.bool (!keep));replace P10 := hide P10
 have KK := hide (((((((((((CK.set w d 3 (.bool false)).trans (CK.set _ d 2 ((.slice none 0 0)))).trans (CK.set _ d 6 (.bool false))).trans (CK.set _ d 7 (.string ⟨#[]⟩))).trans (CK.set _ d 8 (.string ⟨#[]⟩))).trans (CK.set _ d 9 (.int .i64 0))).trans (CK.set _ d 10 (.int .i64 0))).trans (CK.set _ d 11 (.string ⟨#[]⟩))).trans (CK.set _ d 12 ((.slice none 0 0)))).trans (CK.set _ d 13 ((.slice none 0 0)))).trans (CK.set _ d 4 (.bool (!keep))));clear P0 P1 P2 P3 P4 P5 P6 P7 P8 P9;clear hc;go_enter Tryz.func16,Tryz.ntmps16
 go_wp2
 go_ret
 exact ⟨rfl,P10.out,KK.out⟩
end
theorem FRow.low2 {W : World} {base b : Nat} {v : Value} {A : List (ByteArray × ByteArray)} (h : FRow W base v A) (hb : b <= base) : FRow W b v A := by
 rcases h with ⟨h1,h2⟩
 refine ⟨h1,?_⟩;rcases h2 with h2 | ⟨g,cap,cur,q1,q2,q3⟩
 ·exact .inl h2
 ·exact .inr ⟨g,cap,cur,q1,Nat.le_trans hb q2,q3⟩
section
variable {w : World} {d M bd : Nat} {B : Value} {wt sh : Bool} {st : Int} {hr : Bool} {me ta : ByteArray} {mi hs : Int} {re : ByteArray} {fl dv : Value}
theorem rread_no (hc : w.heap[d]? = some (.cells (rcC M bd B wt sh st hr me ta mi hs re fl dv) 70 (0, 0))) (h : wt = true ∨ sh = true) (v : Value) :
  Calls Tryz.prog 12 #[.pointer (some ⟨d,0,none⟩),v] w fun e w' => e = .returned (.tuple #[.int .i64 0,.bool wt]) /\ Below w.heap.size w w' := by
 have c3 : w.cell? ⟨d,3,none⟩ = some (.bool wt) := cell_at hc 3;have c4 : w.cell? ⟨d,4,none⟩ = some (.bool sh) := cell_at hc 4;clear hc;cases wt
 ·obtain rfl : sh = true := by simpa using h
  clear h;go_enter Tryz.func12,Tryz.ntmps12
  go_wp2
  go_quiet (fail)
  go_wp2
  go_ret2
  exact ⟨rfl,below_drewN w _⟩
 ·clear h
  go_enter Tryz.func12,Tryz.ntmps12
  go_wp2
  go_quiet (fail)
  go_wp2
  go_ret2
  exact ⟨rfl,below_drewN w _⟩
theorem bf_row {w : World} {base : Nat} {a : Option Addr} {k c : Nat} {x : List UInt8} (h : Row w base 5 (.slice a k c) (bc x)) (n : Nat) (hn : n <= x.length) : Bf w (fun i => base <= i) (.slice a n c) (x.take n) := by
 have hs := h.shape;obtain ⟨a',c',e,h1,h2⟩ := hs;rw [bc_len] at e h1;simp only [Value.slice.injEq] at e;obtain ⟨rfl,rfl,rfl⟩ := e;have hlen : (x.take n).length = n := by rw [List.length_take];omega
 refine ⟨a,c,by rw [hlen],by rw [hlen];omega,fun j hj => ?_⟩;rw [hlen] at hj;obtain ⟨g,e1,e2⟩ := h.cell (j := j) (by rw [bc_len];omega);subst e1;have hlt := h.lt (g := g) rfl;refine ⟨g,0,rfl,hlt.1,hlt.2,?_⟩;rw [Nat.zero_add,e2];have hj2 : j < x.length := by omega
 simp [bc,hj2]
theorem lks_all {w w' : World} {c : Nat} {s : CS} (hc : w.heap[c]? = some (.cells (rcC M bd B wt sh st hr me ta mi hs re fl dv) 70 (0, 0))) (h : LkS w w' c M bd B wt sh st s) :
  ∃ hr' me' ta' mi' hs' re' fl' dv',w'.heap[c]? = some (.cells (rcC M bd B wt sh st hr' me' ta' mi' hs' re' fl' dv') 70 (0,0)) /\ (s.told = true -> hr' = s.hi.r /\ me' = s.hi.me /\ ta' = s.hi.ta /\ mi' = s.hi.mi /\ hs' = s.hi.st /\ re' = s.hi.re /\ FRow w' w.heap.size fl' s.hi.fs /\ Row w' w.heap.size 5 dv' (bc s.ob)) /\ CK w w' c := by
 cases ht : s.told with
 | false =>
  have b := h.1 ht;exact ⟨hr,me,ta,mi,hs,re,fl,dv,(b.block c (lt_heap' hc)).trans hc,(fun e => by cases e),CK.of_below c b⟩
 | true =>
  obtain ⟨ua,uc,oa,on,oc,h1,h2,h3,h4⟩ := h.2 ht;exact ⟨_,_,_,_,_,_,_,_,h1,fun _ => ⟨rfl,rfl,rfl,rfl,rfl,rfl,h2,h3⟩,h4⟩
theorem rread_go {ba : Option Addr} {bn bk : Nat} {b l : List UInt8} (hc : w.heap[d]? = some (.cells (rcC M bd (.slice ba bn bk) false false 0 hr me ta mi hs re fl dv) 70 (0, 0))) (hM : M <= 65536) (hbd : bd <= 1048576) (hBb : Bs w w.heap.size (.slice ba bn bk) b) (hSb : Shp (.slice ba bn bk)) (va : Option Addr) (vn vc : Nat) (hB : Bs w w.heap.size (.slice va vn vc) l) (hS : Shp (.slice va vn vc)) (hl : b.length + l.length <= 70368744177664) {n : Nat} {s : CS} (hrun : csRun bd (csNew M) (b ++ l) = (n, s)) (hn : b.length <= n) (hnl : n <= b.length + l.length) :
  Calls Tryz.prog 12 #[.pointer (some ⟨d,0,none⟩),.slice va vn vc] w fun e w' => e = .returned (.tuple #[.int .i64 ((n - b.length : Nat) : Int),.bool s.told]) /\ ∃ ua uc hr' me' ta' mi' hs' re' fl' dv',w'.heap[d]? = some (.cells (rcC M bd (.slice ua n uc) s.told (decide (s.wr ≠ 0)) s.wr hr' me' ta' mi' hs' re' fl' dv') 70 (0,0)) /\ Bf w' (fun k => w.heap.size <= k) (.slice ua n uc) ((b ++ l).take n) /\ Shp (.slice ua n uc) /\ (s.told = true -> hr' = s.hi.r /\ me' = s.hi.me /\ ta' = s.hi.ta /\ mi' = s.hi.mi /\ hs' = s.hi.st /\ re' = s.hi.re /\ FRow w' w.heap.size fl' s.hi.fs /\ Row w' w.heap.size 5 dv' (bc s.ob)) /\ CK w w' d := by
 have HC := hide hc;have hdl : d < w.heap.size := lt_heap' hc;obtain rfl : bn = b.length := by obtain ⟨a,c,e,-⟩ := hBb;simp only [Value.slice.injEq] at e;exact e.2.1
 obtain rfl : vn = l.length := by obtain ⟨a,c,e,-⟩ := hB;simp only [Value.slice.injEq] at e;exact e.2.1
 have c2 : w.cell? ⟨d,2,none⟩ = some (.slice ba b.length bk) := cell_at hc 2;have c3 : w.cell? ⟨d,3,none⟩ = some (.bool false) := cell_at hc 3;have c4 : w.cell? ⟨d,4,none⟩ = some (.bool false) := cell_at hc 4;have HBb := hide hBb;have HSb := hide hSb;have HB := hide hB;have HS := hide hS;have HRUN := hide hrun;clear hc hB hBb hSb hS hrun;obtain ⟨T,HT⟩ : ∃ T,Hid (s.told = T) := ⟨_,hide rfl⟩
 obtain ⟨R,HR⟩ : ∃ R,Hid (s.wr = R) := ⟨_,hide rfl⟩
 rw [HT.out,HR.out];go_enter Tryz.func12,Tryz.ntmps12
 go_wp2_with (at_builtin;apply Hid.out)
 unfold Hid;refine wpList_append_bs_k rfl _ _ rfl w w.heap.size w.heap.size (.slice none 0 0) (.slice ba b.length bk) [] b rfl rfl (Row.nil _ _ _) HBb.out HSb.out (by simp;omega) (Nat.le_refl _) ?_;intro u1 W1 O1 B1 _;rw [List.nil_append] at O1;obtain ⟨a1,k1,rfl⟩ : ∃ a c,u1 = .slice a b.length c := by obtain ⟨a,c,h,_⟩ := O1.shape;rw [bc_len] at h;exact ⟨a,c,h⟩
 have R1 := hide O1;have BB1 := hide B1;have hw1 := B1.size;clear O1 B1 c2 c3 c4;go_wp2_with (at_builtin;apply Hid.out)
 unfold Hid;refine wpList_append_bs_k rfl _ _ rfl W1 w.heap.size W1.heap.size (.slice a1 b.length k1) (.slice va l.length vc) b l rfl rfl R1.out (HB.out.below hw1 BB1.out) HS.out (by omega) hw1 ?_;intro u2 W2 O2 B2 _;obtain ⟨a2,k2,rfl,hk2⟩ : ∃ a c,u2 = .slice a (b ++ l).length c /\ (b ++ l).length <= c := by obtain ⟨a,c,h,h1,_⟩ := O2.shape;rw [bc_len] at h h1;exact ⟨a,c,h,h1⟩
 have R2 := hide O2;have BB2 := hide (BB1.out.trans B2);have hw2 := BB2.out.size;have C2 := hide ((BB2.out.block d hdl).trans HC.out);clear O2 B2 R1 BB1;have HLK := hide (rlook_any C2.out hM hbd _ (b ++ l) (Bs.of_row R2.out) (by simp;omega));rw [HRUN.out] at HLK;dsimp only at HLK;have hbl : (b ++ l).length = b.length + l.length := List.length_append;have HSP := hide (Shp.of_row R2.out);rw [HT.out,HR.out] at HLK;rw [hbl] at HLK HSP hk2;have R2' := hide R2.out;rw [hbl] at R2';clear R2;go_wp2_with fail
 refine HLK.out.mono ?_;rintro e W3 ⟨rfl,q⟩;obtain ⟨hr',me',ta',mi',hs',re',fl',dv',x1,x2,x3⟩ := lks_all C2.out q;have C3 := hide x1;have X3 := hide x2;have K3 := hide x3;have hw3 := x3.size;clear x1 x2 x3 q HLK C2;have R3 := hide (R2'.out.frame fun g hg => K3.out.block g (R2'.out.lt hg).2 (fun e => by have := (R2'.out.lt hg).1;omega));clear R2';have hsub : IntKind.i64.wrap ((n : Int) - (b.length : Int)) = ((n - b.length : Nat) : Int) := (IntWalk.i64_in _ ⟨by omega,by omega⟩).trans (by omega);have hn0 : ¬ (n : Int) < 0 := by omega
 have hnk : (n : Int) <= (k2 : Int) := by omega
 have hnk2 : n <= k2 := by omega
 by_cases hR : R = 0
 ·subst hR
  rcases HSP.out with he | ⟨ad,n',c',he⟩
  ·simp only [Value.slice.injEq] at he
   obtain ⟨rfl,hm0,rfl⟩ := he;obtain rfl : n = 0 := by omega
   have P0 : (_ : World).heap[d]? = some (.cells (rcC M bd (.slice none 0 0) false false 0 hr' me' ta' mi' hs' re' fl' dv') 70 (0,0)) := hp_set C3.out 2 ((.slice none 0 0));have P1 : (_ : World).heap[d]? = some (.cells (rcC M bd (.slice none 0 0) T false 0 hr' me' ta' mi' hs' re' fl' dv') 70 (0,0)) := hp_set P0 3 (.bool T);replace P1 := hide P1;have KK := hide ((CK.set W3 d 2 ((.slice none 0 0))).trans (CK.set _ d 3 (.bool T)));clear P0;have z := (fun i => (by rw [frozen_at C3.out];simp : W3.frozen? ⟨d,i,none⟩ = false));have z3 := z 3;obtain ⟨o3,d3⟩ : ∃ x,W3.cell? ⟨d,3,none⟩ = some x := ⟨_,cell_at C3.out 3⟩
   have z4 := z 4;obtain ⟨o4,d4⟩ : ∃ x,W3.cell? ⟨d,4,none⟩ = some x := ⟨_,cell_at C3.out 4⟩
   have z5 := z 5;obtain ⟨o5,d5⟩ : ∃ x,W3.cell? ⟨d,5,none⟩ = some x := ⟨_,cell_at C3.out 5⟩
   clear z;have z2 : W3.frozen? ⟨d,2,none⟩ = false := (by rw [frozen_at C3.out];simp);have c2 : W3.cell? ⟨d,2,none⟩ = some (.slice ba b.length bk) := cell_at C3.out 2;go_wp2_with fail
   go_ret2
   rw [show decide ((0 : Int) ≠ 0) = false from rfl];refine ⟨by show Ending.returned (.tuple #[.int .i64 (-(b.length : Int)),.bool T]) = _;rw [show (-(b.length : Int)) = ((0 - b.length : Nat) : Int) by omega],none,0,hr',me',ta',mi',hs',re',fl',dv',P1.out,(bf_row R3.out 0 (by rw [hbl];omega)).keep KK.out.size (fun k hk hk2 => KK.out.block k hk2 (fun e => by have e2 : w.heap.size <= k := hk;omega)),.inl rfl,fun h => ?_,(CK.of_below d BB2.out).trans (K3.out.trans KK.out)⟩;obtain ⟨y1,y2,y3,y4,y5,y6,y7,y8⟩ := X3.out (HT.out.trans h);exact ⟨y1,y2,y3,y4,y5,y6,y7.low2 hw2 |>.frame fun g hg => KK.out.block g (y7.lt hg).2 (fun e => by have := (y7.lt hg).1;omega),(y8.lowx hw2).frame fun g hg => KK.out.block g (y8.lt hg).2 (fun e => by have := (y8.lt hg).1;omega)⟩
  ·simp only [Value.slice.injEq] at he
   obtain ⟨rfl,-,-⟩ := he;have P0 : (_ : World).heap[d]? = some (.cells (rcC M bd (.slice (some ad) n k2) false false 0 hr' me' ta' mi' hs' re' fl' dv') 70 (0,0)) := hp_set C3.out 2 ((.slice (some ad) n k2));have P1 : (_ : World).heap[d]? = some (.cells (rcC M bd (.slice (some ad) n k2) T false 0 hr' me' ta' mi' hs' re' fl' dv') 70 (0,0)) := hp_set P0 3 (.bool T);replace P1 := hide P1;have KK := hide ((CK.set W3 d 2 ((.slice (some ad) n k2))).trans (CK.set _ d 3 (.bool T)));clear P0;have z := (fun i => (by rw [frozen_at C3.out];simp : W3.frozen? ⟨d,i,none⟩ = false));have z3 := z 3;obtain ⟨o3,d3⟩ : ∃ x,W3.cell? ⟨d,3,none⟩ = some x := ⟨_,cell_at C3.out 3⟩
   have z4 := z 4;obtain ⟨o4,d4⟩ : ∃ x,W3.cell? ⟨d,4,none⟩ = some x := ⟨_,cell_at C3.out 4⟩
   have z5 := z 5;obtain ⟨o5,d5⟩ : ∃ x,W3.cell? ⟨d,5,none⟩ = some x := ⟨_,cell_at C3.out 5⟩
   clear z;have z2 : W3.frozen? ⟨d,2,none⟩ = false := (by rw [frozen_at C3.out];simp);have c2 : W3.cell? ⟨d,2,none⟩ = some (.slice ba b.length bk) := cell_at C3.out 2;go_wp2_with fail
   go_ret2
   rw [show decide ((0 : Int) ≠ 0) = false from rfl];refine ⟨rfl,(some ad),k2,hr',me',ta',mi',hs',re',fl',dv',P1.out,(bf_row R3.out n (by rw [hbl];omega)).keep KK.out.size (fun k hk hk2 => KK.out.block k hk2 (fun e => by have e2 : w.heap.size <= k := hk;omega)),.inr ⟨_,_,_,rfl⟩,fun h => ?_,(CK.of_below d BB2.out).trans (K3.out.trans KK.out)⟩;obtain ⟨y1,y2,y3,y4,y5,y6,y7,y8⟩ := X3.out (HT.out.trans h);exact ⟨y1,y2,y3,y4,y5,y6,y7.low2 hw2 |>.frame fun g hg => KK.out.block g (y7.lt hg).2 (fun e => by have := (y7.lt hg).1;omega),(y8.lowx hw2).frame fun g hg => KK.out.block g (y8.lt hg).2 (fun e => by have := (y8.lt hg).1;omega)⟩
 ·have tR : (R != 0) = true := by simpa using hR
  have HDR := hide (decide_eq_true hR);clear hR;rcases HSP.out with he | ⟨ad,n',c',he⟩
  ·simp only [Value.slice.injEq] at he
   obtain ⟨rfl,hm0,rfl⟩ := he;obtain rfl : n = 0 := by omega
   have P0 : (_ : World).heap[d]? = some (.cells (rcC M bd (.slice none 0 0) false false 0 hr' me' ta' mi' hs' re' fl' dv') 70 (0,0)) := hp_set C3.out 2 ((.slice none 0 0));have P1 : (_ : World).heap[d]? = some (.cells (rcC M bd (.slice none 0 0) T false 0 hr' me' ta' mi' hs' re' fl' dv') 70 (0,0)) := hp_set P0 3 (.bool T);have P2 : (_ : World).heap[d]? = some (.cells (rcC M bd (.slice none 0 0) T false R hr' me' ta' mi' hs' re' fl' dv') 70 (0,0)) := hp_set P1 5 (.int .i64 R);have P3 : (_ : World).heap[d]? = some (.cells (rcC M bd (.slice none 0 0) T true R hr' me' ta' mi' hs' re' fl' dv') 70 (0,0)) := hp_set P2 4 (.bool true);replace P3 := hide P3;have KK := hide ((((CK.set W3 d 2 ((.slice none 0 0))).trans (CK.set _ d 3 (.bool T))).trans (CK.set _ d 5 (.int .i64 R))).trans (CK.set _ d 4 (.bool true)));clear P0 P1 P2;have z := (fun i => (by rw [frozen_at C3.out];simp : W3.frozen? ⟨d,i,none⟩ = false));have z3 := z 3;obtain ⟨o3,d3⟩ : ∃ x,W3.cell? ⟨d,3,none⟩ = some x := ⟨_,cell_at C3.out 3⟩
   have z4 := z 4;obtain ⟨o4,d4⟩ : ∃ x,W3.cell? ⟨d,4,none⟩ = some x := ⟨_,cell_at C3.out 4⟩
   have z5 := z 5;obtain ⟨o5,d5⟩ : ∃ x,W3.cell? ⟨d,5,none⟩ = some x := ⟨_,cell_at C3.out 5⟩
   clear z;have z2 : W3.frozen? ⟨d,2,none⟩ = false := (by rw [frozen_at C3.out];simp);have c2 : W3.cell? ⟨d,2,none⟩ = some (.slice ba b.length bk) := cell_at C3.out 2;go_wp2_with fail
   go_ret2
   rw [HDR.out];refine ⟨by show Ending.returned (.tuple #[.int .i64 (-(b.length : Int)),.bool T]) = _;rw [show (-(b.length : Int)) = ((0 - b.length : Nat) : Int) by omega],none,0,hr',me',ta',mi',hs',re',fl',dv',P3.out,(bf_row R3.out 0 (by rw [hbl];omega)).keep KK.out.size (fun k hk hk2 => KK.out.block k hk2 (fun e => by have e2 : w.heap.size <= k := hk;omega)),.inl rfl,fun h => ?_,(CK.of_below d BB2.out).trans (K3.out.trans KK.out)⟩;obtain ⟨y1,y2,y3,y4,y5,y6,y7,y8⟩ := X3.out (HT.out.trans h);exact ⟨y1,y2,y3,y4,y5,y6,y7.low2 hw2 |>.frame fun g hg => KK.out.block g (y7.lt hg).2 (fun e => by have := (y7.lt hg).1;omega),(y8.lowx hw2).frame fun g hg => KK.out.block g (y8.lt hg).2 (fun e => by have := (y8.lt hg).1;omega)⟩
  ·simp only [Value.slice.injEq] at he
   obtain ⟨rfl,-,-⟩ := he;have P0 : (_ : World).heap[d]? = some (.cells (rcC M bd (.slice (some ad) n k2) false false 0 hr' me' ta' mi' hs' re' fl' dv') 70 (0,0)) := hp_set C3.out 2 ((.slice (some ad) n k2));have P1 : (_ : World).heap[d]? = some (.cells (rcC M bd (.slice (some ad) n k2) T false 0 hr' me' ta' mi' hs' re' fl' dv') 70 (0,0)) := hp_set P0 3 (.bool T);have P2 : (_ : World).heap[d]? = some (.cells (rcC M bd (.slice (some ad) n k2) T false R hr' me' ta' mi' hs' re' fl' dv') 70 (0,0)) := hp_set P1 5 (.int .i64 R);have P3 : (_ : World).heap[d]? = some (.cells (rcC M bd (.slice (some ad) n k2) T true R hr' me' ta' mi' hs' re' fl' dv') 70 (0,0)) := hp_set P2 4 (.bool true);replace P3 := hide P3;have KK := hide ((((CK.set W3 d 2 ((.slice (some ad) n k2))).trans (CK.set _ d 3 (.bool T))).trans (CK.set _ d 5 (.int .i64 R))).trans (CK.set _ d 4 (.bool true)));clear P0 P1 P2;have z := (fun i => (by rw [frozen_at C3.out];simp : W3.frozen? ⟨d,i,none⟩ = false));have z3 := z 3;obtain ⟨o3,d3⟩ : ∃ x,W3.cell? ⟨d,3,none⟩ = some x := ⟨_,cell_at C3.out 3⟩
   have z4 := z 4;obtain ⟨o4,d4⟩ : ∃ x,W3.cell? ⟨d,4,none⟩ = some x := ⟨_,cell_at C3.out 4⟩
   have z5 := z 5;obtain ⟨o5,d5⟩ : ∃ x,W3.cell? ⟨d,5,none⟩ = some x := ⟨_,cell_at C3.out 5⟩
   clear z;have z2 : W3.frozen? ⟨d,2,none⟩ = false := (by rw [frozen_at C3.out];simp);have c2 : W3.cell? ⟨d,2,none⟩ = some (.slice ba b.length bk) := cell_at C3.out 2;go_wp2_with fail
   go_ret2
   rw [HDR.out];refine ⟨rfl,(some ad),k2,hr',me',ta',mi',hs',re',fl',dv',P3.out,(bf_row R3.out n (by rw [hbl];omega)).keep KK.out.size (fun k hk hk2 => KK.out.block k hk2 (fun e => by have e2 : w.heap.size <= k := hk;omega)),.inr ⟨_,_,_,rfl⟩,fun h => ?_,(CK.of_below d BB2.out).trans (K3.out.trans KK.out)⟩;obtain ⟨y1,y2,y3,y4,y5,y6,y7,y8⟩ := X3.out (HT.out.trans h);exact ⟨y1,y2,y3,y4,y5,y6,y7.low2 hw2 |>.frame fun g hg => KK.out.block g (y7.lt hg).2 (fun e => by have := (y7.lt hg).1;omega),(y8.lowx hw2).frame fun g hg => KK.out.block g (y8.lt hg).2 (fun e => by have := (y8.lt hg).1;omega)⟩
end
/-! ### Pure -/
theorem begin_shb (bd : Nat) (p : Pz) : decide ((csBegin bd p).wr ≠ 0) = (csBegin bd p).shb := by
 unfold csBegin;repeat' split
 all_goals rfl
theorem headst_ne (e : Nat) : headSt e ≠ 0 := by unfold headSt;split <;> decide
theorem bodys_ne (e : Int) : bodyS e ≠ 0 := by unfold bodyS;split <;> decide
theorem one_shb (bd : Nat) (s : CS) (x : UInt8) (h : s.goes = true) : decide ((csOne bd s x).wr ≠ 0) = (csOne bd s x).shb := by
 cases s with
 | head p bg =>
  rw [csOne];split
  ·exact decide_eq_true (headst_ne _)
  ·split
   ·exact begin_shb bd _
   ·rfl
 | meas p L O => rw [csOne];split <;> rfl
 | part p d O =>
  rw [csOne];split
  ·exact decide_eq_true (bodys_ne _)
  ·split <;> rfl
 | waits p O => cases h
 | shut s => cases h
theorem run_shb (bd : Nat) : ∀ (l : List UInt8) (s : CS), decide (s.wr ≠ 0) = s.shb -> decide ((csRun bd s l).2.wr ≠ 0) = (csRun bd s l).2.shb
 | [],s,h => by rw [run_nil];exact h
 | x :: r,s,h => by
  cases g : s.goes with
  | false => rw [run_stop bd g];exact h
  | true => rw [run_cons bd g];exact run_shb bd r _ (one_shb bd s x g)
theorem goes_shb {s : CS} (h : s.goes = true) : s.told = false /\ s.shb = false /\ s.wr = 0 := by cases s <;> first | exact ⟨rfl,rfl,rfl⟩ | cases h
theorem begin_bgb (bd : Nat) (p : Pz) (h : (csBegin bd p).goes = true) : (csBegin bd p).bgb = true := by
 have e : (csBegin bd p).goes = false ∨ (csBegin bd p).bgb = true := by
  unfold csBegin;repeat' split
  all_goals first | exact .inl rfl | exact .inr rfl
 rcases e with e | e
 ·rw [e] at h;cases h
 ·exact e
theorem one_bgb (bd : Nat) (s : CS) (x : UInt8) (h : (csOne bd s x).goes = true) : (csOne bd s x).bgb = true := by
 cases s with
 | head p bg =>
  rw [csOne] at h |-
  split at h
  ·cases h
  ·rename_i q
   rw [if_neg q];split at h
   ·rename_i q2;rw [if_pos q2];exact begin_bgb bd _ h
   ·rename_i q2;rw [if_neg q2];rfl
 | meas p L O =>
  rw [csOne] at h |-
  split at h
  ·cases h
  ·rename_i q;rw [if_neg q];rfl
 | part p d O =>
  rw [csOne] at h |-
  split at h
  ·cases h
  ·rename_i q
   rw [if_neg q];split at h
   ·cases h
   ·rename_i q2;rw [if_neg q2];rfl
 | waits p O => cases h
 | shut s => cases h
theorem run_bgb (bd : Nat) : ∀ (l : List UInt8) (s : CS), s.bgb = true -> (csRun bd s l).2.goes = true -> (csRun bd s l).2.bgb = true
 | [],s,h,_ => by rw [run_nil];exact h
 | x :: r,s,h,q => by
  cases g : s.goes with
  | false => rw [run_stop bd g];exact h
  | true =>
   rw [run_cons bd g] at q |-
   dsimp only at q |-
   cases g2 : (csOne bd s x).goes with
   | false => rw [run_stop bd g2] at q;rw [g2] at q;cases q
   | true => exact run_bgb bd r _ (one_bgb bd s x g2) q
theorem new_bgb {bd M : Nat} {l : List UInt8} {s : CS} (h : csRun bd (csNew M) l = (l.length,s)) (g : s.goes = true) : s.bgb = decide (0 < l.length) := by
 cases l with
 | nil =>
  rw [run_nil] at h;simp only [Prod.mk.injEq] at h;rw [<- h.2];rfl
 | cons x r =>
  have e := run_cons bd (show (csNew M).goes = true from rfl) x r;rw [e] at h;simp only [Prod.mk.injEq] at h;rw [decide_eq_true (by simp),<- h.2];rw [<- h.2] at g;cases g2 : (csOne bd (csNew M) x).goes with
  | false => rw [run_stop bd g2] at g;rw [g2] at g;cases g
  | true => exact run_bgb bd r _ (one_bgb bd _ x g2) g
theorem not_told {s : CS} (h : s.told = false) : s.hi = ⟨false,⟨#[]⟩,⟨#[]⟩,0,0,⟨#[]⟩,[]⟩ /\ s.ob = [] := by cases s <;> first | exact ⟨rfl,rfl⟩ | cases h
/-! ### In the world -/
theorem Bf.growx {w w' : World} {P P' : Nat -> Prop} {v : Value} {l : List UInt8} (h : Bf w P v l) (hs : w.heap.size <= w'.heap.size) (b : ∀ k,P k -> k < w.heap.size -> P' k /\ w'.heap[k]? = w.heap[k]?) : Bf w' P' v l := by
 obtain ⟨a,n,e,h1,h2⟩ := h;refine ⟨a,n,e,h1,fun j hj => ?_⟩;obtain ⟨g,o,q1,q2,q3,q4⟩ := h2 j hj;obtain ⟨b1,b2⟩ := b g q2 q3;exact ⟨g,o,q1,b1,by omega,by unfold World.cell? at q4 |-;rw [show (⟨g,o + j,none⟩ : Addr).block = g from rfl] at q4 |-;rw [b2];exact q4⟩
theorem Ow.up {w w' : World} {c : Nat} {A : Nat -> Prop} (h : Ow w c A) (hs : w.heap.size <= w'.heap.size) : Ow w' c A := ⟨fun k hk => ⟨(h.lo k hk).1,Nat.lt_of_lt_of_le (h.lo k hk).2 hs⟩,h.me⟩
def RD (w : World) (d M bd : Nat) (A : Nat -> Prop) (s : CS) (b : List UInt8) : Prop :=
 ¬ A d /\ (s.goes = true -> csRun bd (csNew M) b = (b.length,s)) /\
 ∃ ba bk hr me ta mi hs re fl dv, w.heap[d]? = some (.cells (rcC M bd (.slice ba b.length bk) s.told s.shb s.wr hr me ta mi hs re fl dv) 70 (0, 0)) /\ Bf w (fun k => ¬ A k /\ k ≠ d) (.slice ba b.length bk) b /\ Shp (.slice ba b.length bk) /\
  (s.told = true -> hr = s.hi.r /\ me = s.hi.me /\ ta = s.hi.ta /\ mi = s.hi.mi /\ hs = s.hi.st /\ re = s.hi.re /\ FRow w (d + 1) fl s.hi.fs /\ (∀ k,fl.ownBlock = some k -> ¬ A k) /\ Row w (d + 1) 5 dv (bc s.ob) /\ ∀ k,dv.ownBlock = some k -> ¬ A k)
section
variable {w w' : World} {d M bd : Nat} {A : Nat -> Prop} {s : CS} {b : List UInt8}
theorem RD.lt (h : RD w d M bd A s b) : d < w.heap.size := by
 obtain ⟨-,-,ba,bk,hr,me,ta,mi,hs,re,fl,dv,h1,-⟩ := h;exact lt_heap' h1
theorem RD.bgn (h : RD w d M bd A s b) : s.bgb = (!s.told && (!s.shb && decide (0 < b.length))) := by
 obtain ⟨-,h1,-⟩ := h;cases g : s.goes with
 | true =>
  obtain ⟨e1,e2,-⟩ := goes_shb g;rw [new_bgb (h1 g) g,e1,e2];rfl
 | false => cases s <;> first | rfl | cases g
theorem RD.ak (h : RD w d M bd A s b) (k : AK w w' A) : RD w' d M bd (grow A w w') s b := by
 have hd := h.lt;obtain ⟨h0,h1,ba,bk,hr,me,ta,mi,hs,re,fl,dv,h2,h3,h4,h5⟩ := h;have hg : ∀ i,¬ A i -> i < w.heap.size -> ¬ grow A w w' i := fun i hi hl q => by rcases q with q | q;exact hi q;omega
 refine ⟨hg d h0 hd,h1,ba,bk,hr,me,ta,mi,hs,re,fl,dv,(k.block d hd h0).trans h2,h3.growx k.size (fun i hi hl => ⟨⟨hg i hi.1 hl,hi.2⟩,k.block i hl hi.1⟩),h4,fun ht => ?_⟩;obtain ⟨y1,y2,y3,y4,y5,y6,y7,y8,y9,y10⟩ := h5 ht;exact ⟨y1,y2,y3,y4,y5,y6,y7.frame fun g q => k.block g (y7.lt q).2 (y8 g q),fun g q => hg g (y8 g q) (y7.lt q).2,y9.frame fun g q => k.block g (y9.lt q).2 (y10 g q),fun g q => hg g (y10 g q) (y9.lt q).2⟩
theorem RD.on (h : RD w d M bd A s b) (k : Below w.heap.size w w') : RD w' d M bd A s b := by
 have hd := h.lt;obtain ⟨h0,h1,ba,bk,hr,me,ta,mi,hs,re,fl,dv,h2,h3,h4,h5⟩ := h;refine ⟨h0,h1,ba,bk,hr,me,ta,mi,hs,re,fl,dv,(k.block d hd).trans h2,h3.growx k.size (fun i hi hl => ⟨hi,k.block i hl⟩),h4,fun ht => ?_⟩;obtain ⟨y1,y2,y3,y4,y5,y6,y7,y8,y9,y10⟩ := h5 ht;exact ⟨y1,y2,y3,y4,y5,y6,y7.below k,y8,y9.below k,y10⟩
theorem RD.new (hd : d < w.heap.size) (hA : ¬ A d) (h : w.heap[d]? = some (.cells (rcC M bd (.slice none 0 0) false false 0 false ⟨#[]⟩ ⟨#[]⟩ 0 0 ⟨#[]⟩ (.slice none 0 0) (.slice none 0 0)) 70 (0,0))) : RD w d M bd A (csNew M) [] :=
 ⟨hA,fun _ => run_nil _ _,none,0,_,_,_,_,_,_,_,_,h,⟨none,0,rfl,Nat.le_refl _,fun j hj => by simp at hj⟩,.inl rfl,fun e => by cases e⟩
theorem RD.read (h : RD w d M bd A s b) (hM : M <= 65536) (hbd : bd <= 1048576) (hA : ∀ k, A k -> k < w.heap.size) (va : Option Addr) (vn vc : Nat) (l : List UInt8) (hB : Bs w w.heap.size (.slice va vn vc) l) (hS : Shp (.slice va vn vc)) (hl : b.length + l.length <= 70368744177664) :
  Calls Tryz.prog 12 #[.pointer (some ⟨d,0,none⟩),.slice va vn vc] w fun e w' => e = .returned (.tuple #[.int .i64 ((csRun bd s l).1 : Int),.bool (csRun bd s l).2.told]) /\ RD w' d M bd A (csRun bd s l).2 (b ++ l.take (csRun bd s l).1) /\ CK w w' d := by
 have hd := h.lt;obtain ⟨h0,h1,ba,bk,hr,me,ta,mi,hs,re,fl,dv,h2,h3,h4,h5⟩ := id h;cases g : s.goes with
 | false =>
  rw [run_stop bd g];refine (rread_no h2 (by cases s <;> first | exact .inl rfl | exact .inr rfl | cases g) _).mono ?_;rintro e w' ⟨rfl,k⟩;refine ⟨rfl,?_,CK.of_below _ k⟩;dsimp only;rw [List.take_zero,List.append_nil];exact h.on k
 | true =>
  obtain ⟨e1,e2,e3⟩ := goes_shb g;rw [e1,e2,e3] at h2;have hle := run_le bd l s
  have hrun : csRun bd (csNew M) (b ++ l) = (b.length + (csRun bd s l).1,(csRun bd s l).2) := by
   have := run_app bd b (csNew M) l;rw [h1 g] at this;rw [this,if_pos rfl]
  refine (rread_go h2 hM hbd (Bs.of_bfx h3) h4 va vn vc hB hS hl hrun (by omega) (by omega)).mono ?_;rintro e w' ⟨rfl,ua,uc,hr',me',ta',mi',hs',re',fl',dv',x1,x2,x3,x4,x5⟩;have hlen : (b ++ l.take (csRun bd s l).1).length = b.length + (csRun bd s l).1 := by rw [List.length_append,List.length_take];omega
  have htk : (b ++ l).take (b.length + (csRun bd s l).1) = b ++ l.take (csRun bd s l).1 := List.take_length_add_append _;rw [run_shb bd l s (by rw [e2,e3];rfl)] at x1;rw [htk] at x2;rw [<- hlen] at x1 x2 x3;refine ⟨by rw [Nat.add_sub_cancel_left],⟨h0,fun g' => ?_,ua,uc,hr',me',ta',mi',hs',re',fl',dv',x1,x2.growx (Nat.le_refl _) (fun k hk hl2 => ⟨⟨fun q => by have := hA k q;have : w.heap.size <= k := hk;omega,fun q => by have : w.heap.size <= k := hk;omega⟩,rfl⟩),x3,fun ht => ?_⟩,x5⟩
  ·have hk : (csRun bd s l).1 = l.length := by
    rcases Nat.lt_or_ge (csRun bd s l).1 l.length with q | q
    ·rw [run_less bd l s q] at g';cases g'
    ·omega
   rw [hk,List.take_length,hrun,hk,List.length_append]
  ·obtain ⟨y1, y2, y3, y4, y5, y6, y7, y8⟩ := x4 ht
   exact ⟨y1,y2,y3,y4,y5,y6,y7.low2 (by omega),fun k q => fun z => by have := hA k z;have := (y7.lt q).1;omega,y8.lowx (by omega),fun k q => fun z => by have := hA k z;have := (y8.lt q).1;omega⟩
theorem RD.end_ (h : RD w d M bd A s b) : Calls Tryz.prog 14 #[.pointer (some ⟨d,0,none⟩)] w fun e w' => e = .returned (.bool (!s.told)) /\ RD w' d M bd A (csEnd s) b /\ CK w w' d := by
 have hd := h.lt;have hbg := h.bgn;obtain ⟨h0,h1,ba,bk,hr,me,ta,mi,hs,re,fl,dv,h2,h3,h4,h5⟩ := id h
 have up : ∀ {w' : World} {n : Int},w'.heap[d]? = some (.cells (rcC M bd (.slice ba b.length bk) false true n hr me ta mi hs re fl dv) 70 (0,0)) -> CK w w' d -> RD w' d M bd A (.shut n) b := fun q k =>
  ⟨h0,(fun e => by cases e),ba,bk,hr,me,ta,mi,hs,re,fl,dv,q,h3.growx k.size (fun i hi hl => ⟨hi,k.block i hl hi.2⟩),h4,(fun e => by cases e)⟩
 cases g : s.goes with
 | true =>
  obtain ⟨e1,e2,e3⟩ := goes_shb g;rw [e1,e2,e3] at h2;rw [e1,e2] at hbg;rw [e1];by_cases hn : 0 < b.length
  ·rw [decide_eq_true hn] at hbg
   have ee : csEnd s = .shut 400 := by
    cases s with
    | head p bg => have q : bg = true := hbg;rw [q];rfl
    | meas p L O => rfl
    | part p d O => rfl
    | waits p O => cases g
    | shut s => cases g
   rw [ee];refine (rend_g h2 hn).mono ?_;rintro e w' ⟨rfl,q,k⟩;exact ⟨rfl,up q k,k⟩
  ·rw [decide_eq_false hn] at hbg
   have ee : csEnd s = .shut 0 := by
    cases s with
    | head p bg => have q : bg = false := hbg;rw [q];rfl
    | meas p L O => cases hbg
    | part p d O => cases hbg
    | waits p O => cases g
    | shut s => cases g
   rw [ee];refine (rend_e h2 hn).mono ?_;rintro e w' ⟨rfl,q,k⟩;exact ⟨rfl,up q k,k⟩
 | false =>
  cases s with
  | waits p O =>
   refine (rend_w h2).mono ?_;rintro e w' ⟨rfl,rfl⟩;exact ⟨rfl,h,CK.refl _ _⟩
  | shut n =>
   refine (rend_s h2).mono ?_;rintro e w' ⟨rfl,q,k⟩;exact ⟨rfl,up q k,k⟩
  | head p bg => cases g
  | meas p L O => cases g
  | part p d O => cases g
theorem RD.answered (h : RD w d M bd A s b) (keep : Bool) : Calls Tryz.prog 16 #[.pointer (some ⟨d,0,none⟩),.bool keep] w fun e w' => e = .returned (.int .i64 (if s.told then 0 else 7)) /\ (∃ b' : List UInt8,b'.length <= b.length /\ RD w' d M bd A (csAns M keep s) b') /\ CK w w' d := by
 have hd := h.lt;obtain ⟨h0,h1,ba,bk,hr,me,ta,mi,hs,re,fl,dv,h2,h3,h4,h5⟩ := id h;cases ht : s.told with
 | false =>
  rw [ht] at h2;have ee : csAns M keep s = s := by cases s <;> first | rfl | cases ht
  rw [ee];refine (rans_no h2 keep).mono ?_;rintro e w' ⟨rfl,rfl⟩;exact ⟨rfl,⟨b,Nat.le_refl _,h⟩,CK.refl _ _⟩
 | true =>
  cases s with
  | waits p O =>
   refine (rans_yes h2 keep).mono ?_;rintro e w' ⟨rfl,q,k⟩;have hd' : d < w'.heap.size := Nat.lt_of_lt_of_le hd k.size;refine ⟨rfl,⟨[],Nat.zero_le _,?_⟩,k⟩;cases keep with
   | true => exact RD.new hd' h0 q
   | false => exact ⟨h0,(fun e => by cases e),none,0,_,_,_,_,_,_,_,_,q,⟨none,0,rfl,Nat.le_refl _,fun j hj => by simp at hj⟩,.inl rfl,fun e => by cases e⟩
  | head p bg => cases ht
  | meas p L O => cases ht
  | part p d O => cases ht
  | shut n => cases ht
end
theorem stands_any {w : World} {c d M bd : Nat} {hd : Int} {A : Nat -> Prop} {s : CS} {b : List UInt8} (h : At w c hd bd A s) (ho : Ow w c A) (r : RD w d M bd A s b) (hO : s.ob.length <= 70368744177664) :
  Calls Tryz.prog 17 #[.pointer (some ⟨c,0,none⟩),.pointer (some ⟨d,0,none⟩)] w fun e w' => e = .returned (.bool true) /\ Below w.heap.size w w' := by
 have hdl := r.lt;have HAT : Hid (∀ W,Below w.heap.size w W -> At W c hd bd A s) := hide (fun W k => h.on ho.me (fun i q => (ho.lo i q).2) k);have HFL := hide h.hi_len;have HBG := hide r.bgn;have HRQ := hide (h.request hO);have HNT := hide (fun e : s.told = false => not_told e);obtain ⟨h0,-,ba,bk,kr,kme,kta,kmi,khs,kre,fl,dv,h2,h3,h4,h5⟩ := id r;have HD := hide h2;have H5 := hide h5;clear h ho r hO h0 h2 h3 h4 h5;obtain ⟨tt,HTT⟩ : ∃ tt,Hid (s.told = tt) := ⟨_,hide rfl⟩
 obtain ⟨wv,HWV⟩ : ∃ x,Hid (s.wr = x) := ⟨_,hide rfl⟩
 obtain ⟨bv,HBV⟩ : ∃ x,Hid (s.bgb = x) := ⟨_,hide rfl⟩
 obtain ⟨sv,HSV⟩ : ∃ x,Hid (s.shb = x) := ⟨_,hide rfl⟩
 have HW1 : Hid (∀ W,Below w.heap.size w W -> Calls Tryz.prog 22 #[.pointer (some ⟨c,0,none⟩)] W fun e w' => e = .returned (.int .i64 wv) /\ Below W.heap.size W w') := hide (fun W k => by rw [<- HWV.out];exact (HAT.out W k).wrong.mono fun e w' ⟨e1,e2⟩ => ⟨e1,by rw [<- e2];exact Below.refl _ _⟩);have HS1 : Hid (∀ W,Below w.heap.size w W -> Calls Tryz.prog 23 #[.pointer (some ⟨c,0,none⟩)] W fun e w' => e = .returned (.bool sv) /\ Below W.heap.size W w') := hide (fun W k => by rw [<- HSV.out];exact (HAT.out W k).sht.mono fun e w' ⟨e1,e2⟩ => ⟨e1,by rw [<- e2];exact Below.refl _ _⟩);have HB1 : Hid (∀ W,Below w.heap.size w W -> Calls Tryz.prog 24 #[.pointer (some ⟨c,0,none⟩)] W fun e w' => e = .returned (.bool bv) /\ Below W.heap.size W w') := hide (fun W k => by rw [<- HBV.out];exact (HAT.out W k).bgn.mono fun e w' ⟨e1,e2⟩ => ⟨e1,by rw [<- e2];exact Below.refl _ _⟩);rw [HTT.out,HSV.out,HBV.out] at HBG;rw [HTT.out,HSV.out,HWV.out] at HD
 have HB2 : Hid (∀ W,Below w.heap.size w W -> Calls Tryz.prog 30 #[.pointer (some ⟨d,0,none⟩)] W fun e w' => e = .returned (.bool bv) /\ Below W.heap.size W w') := hide (fun W k => by
  rw [HBG.out];exact (rbegun_any ((k.block d hdl).trans HD.out)).mono fun e w' ⟨e1,e2⟩ => ⟨e1,by rw [<- e2];exact Below.refl _ _⟩)
 rw [HTT.out] at H5 HNT HRQ;obtain ⟨⟨hr,hme,hta,hmi,hst,hre,hfs⟩,HHI⟩ : ∃ H,Hid (s.hi = H) := ⟨_,hide rfl⟩
 obtain ⟨ob,HOB⟩ : ∃ O,Hid (s.ob = O) := ⟨_,hide rfl⟩
 rw [HHI.out] at HFL;rw [HHI.out,HOB.out] at HRQ H5 HNT
 have HRQ2 : Hid (Calls Tryz.prog 20 #[.pointer (some ⟨c,0,none⟩)] w fun e w' => ∃ la ln lc ua un uc,e = .returned (.tuple #[.agg #[.bool hr,.string hme,.string hta,.int .i64 hmi,.int .i64 hst,.string hre,.slice la ln lc],.slice ua un uc,.bool tt]) /\ Flds w' (.slice la ln lc) hfs /\ (∃ b1,Row w' b1 5 (.slice ua un uc) (bc ob)) /\ Below w.heap.size w w') := hide (by
  refine HRQ.out.mono ?_;rintro e w' ⟨l',u',rfl,a1,⟨b1,a2⟩,a3⟩;obtain ⟨la,lc,rfl,-⟩ := id a1;obtain ⟨ua,uc,rfl,-⟩ := a2.shape;exact ⟨la,_,lc,ua,_,uc,rfl,a1,⟨b1,a2⟩,a3⟩)
 clear HRQ HAT HBG;go_enter Tryz.func17,Tryz.ntmps17
 go_upto_region 4 with (go_at_call 20;refine HRQ2.out.mono ?_;rintro e w4 ⟨la,ln,lc,ua,un,uc,rfl,a1,⟨b1,a2⟩,a3⟩;have LF4 := hide a1;have RX4 := hide a2;have Y4 := hide a3;clear a1 a2 a3)
 have T5 := hide (Bl.two w4 #[.bool hr,.string hme,.string hta,.int .i64 hmi,.int .i64 hst,.string hre,.slice la ln lc] 45 #[.bool false,.string ⟨#[]⟩,.string ⟨#[]⟩,.int .i64 0,.int .i64 0,.string ⟨#[]⟩,.slice none 0 0] 45);generalize ((w4.alloc (.cells #[.bool hr,.string hme,.string hta,.int .i64 hmi,.int .i64 hst,.string hre,.slice la ln lc] 45)).alloc (.cells #[.bool false,.string ⟨#[]⟩,.string ⟨#[]⟩,.int .i64 0,.int .i64 0,.string ⟨#[]⟩,.slice none 0 0] 45)) = w5 at T5 |-
 have LF5 := hide (LF4.out.below T5.out.b);have RX5 := hide (RX4.out.below T5.out.b);have hs4 := Y4.out.size;have Y5 := hide (Y4.out.trans (T5.out.b.mono hs4));have D5 := hide ((Y5.out.block d hdl).trans HD.out);have hd4 : d < w4.heap.size := by omega
 clear HRQ2 HD;obtain ⟨hz,HZ⟩ : ∃ z,w4.heap.size = z := ⟨_,rfl⟩
 cases tt with
 | false =>
  obtain ⟨e1,rfl⟩ := HNT.out rfl;obtain ⟨rfl,rfl,rfl,rfl,rfl,rfl,rfl⟩ := Hi.mk.inj e1;have c3 : w5.cell? ⟨d,3,none⟩ = some (.bool false) := cell_at D5.out 3;go_upto_region 7 with fail
  clear c3;have G6 : Hid (w5.heap[hz]? = some (.cells #[.bool false,.string ⟨#[]⟩,.string ⟨#[]⟩,.int .i64 0,.int .i64 0,.string ⟨#[]⟩,.slice la ln lc] 45 (0,0))) := hide (by rw [<- HZ];exact T5.out.hp 0 _ _ rfl);have P6 : Hid (w5.heap[hz + 1]? = some (.cells #[.bool false,.string ⟨#[]⟩,.string ⟨#[]⟩,.int .i64 0,.int .i64 0,.string ⟨#[]⟩,.slice none 0 0] 45 (0,0))) := hide (by rw [<- HZ];exact T5.out.hp 1 _ _ rfl);have B6 := hide Y5.out;have D6 := hide D5.out;have LF6 := hide LF5.out;have RX6 := hide RX5.out;clear T5 LF4 RX4 Y4 LF5 RX5 Y5 D5
  have HG : Hid (∀ u : Sw w5,Calls Tryz.prog 21 #[.agg #[.bool false,.string ⟨#[]⟩,.string ⟨#[]⟩,.int .i64 0,.int .i64 0,.string ⟨#[]⟩,.slice la ln lc],.agg #[.bool false,.string ⟨#[]⟩,.string ⟨#[]⟩,.int .i64 0,.int .i64 0,.string ⟨#[]⟩,.slice none 0 0]] (cw u) fun e w' => e = .returned (.bool true) /\ ∃ u' : Sw w5,w' = cw u') := hide (fun u => call_cw (u := u) (by
   have q := plainH_any (cw u) ⟨false,⟨#[]⟩,⟨#[]⟩,0,0,⟨#[]⟩,[]⟩ ⟨false,⟨#[]⟩,⟨#[]⟩,0,0,⟨#[]⟩,[]⟩ (.slice la ln lc) (.slice none 0 0) (LF6.out.below (cw_b u)) (flds_nil _) (Nat.le_trans HFL.out (by decide)) (Nat.le_trans HFL.out (by decide));rw [hiEq_iff.2 rfl] at q;exact q))
  have HWq : Hid (∀ u : Sw w5,Calls Tryz.prog 22 #[.pointer (some ⟨c,0,none⟩)] (cw u) fun e w' => e = .returned (.int .i64 wv) /\ ∃ u' : Sw w5,w' = cw u') := hide (fun u => call_cw (u := u) (HW1.out (cw u) (B6.out.trans ((cw_b u).mono B6.out.size))));have HSq : Hid (∀ u : Sw w5,Calls Tryz.prog 23 #[.pointer (some ⟨c,0,none⟩)] (cw u) fun e w' => e = .returned (.bool sv) /\ ∃ u' : Sw w5,w' = cw u') := hide (fun u => call_cw (u := u) (HS1.out (cw u) (B6.out.trans ((cw_b u).mono B6.out.size))));have HBq : Hid (∀ u : Sw w5,Calls Tryz.prog 24 #[.pointer (some ⟨c,0,none⟩)] (cw u) fun e w' => e = .returned (.bool bv) /\ ∃ u' : Sw w5,w' = cw u') := hide (fun u => call_cw (u := u) (HB1.out (cw u) (B6.out.trans ((cw_b u).mono B6.out.size))));have HEq : Hid (∀ u : Sw w5,Calls Tryz.prog 30 #[.pointer (some ⟨d,0,none⟩)] (cw u) fun e w' => e = .returned (.bool bv) /\ ∃ u' : Sw w5,w' = cw u') := hide (fun u => call_cw (u := u) (HB2.out (cw u) (B6.out.trans ((cw_b u).mono B6.out.size))));have g0 := cw_cell (show w5.cell? ⟨hz,0,none⟩ = some (.bool false) from cell_at G6.out 0);have g1 := cw_cell (show w5.cell? ⟨hz,1,none⟩ = some (.string ⟨#[]⟩) from cell_at G6.out 1);have g2 := cw_cell (show w5.cell? ⟨hz,2,none⟩ = some (.string ⟨#[]⟩) from cell_at G6.out 2);have g3 := cw_cell (show w5.cell? ⟨hz,3,none⟩ = some (.int .i64 0) from cell_at G6.out 3);have g4 := cw_cell (show w5.cell? ⟨hz,4,none⟩ = some (.int .i64 0) from cell_at G6.out 4);have g5 := cw_cell (show w5.cell? ⟨hz,5,none⟩ = some (.string ⟨#[]⟩) from cell_at G6.out 5);have g6 := cw_cell (show w5.cell? ⟨hz,6,none⟩ = some (.slice la ln lc) from cell_at G6.out 6);have m0 := cw_cell (show w5.cell? ⟨hz + 1,0,none⟩ = some (.bool false) from cell_at P6.out 0);have m1 := cw_cell (show w5.cell? ⟨hz + 1,1,none⟩ = some (.string ⟨#[]⟩) from cell_at P6.out 1);have m2 := cw_cell (show w5.cell? ⟨hz + 1,2,none⟩ = some (.string ⟨#[]⟩) from cell_at P6.out 2)
  have m3 := cw_cell (show w5.cell? ⟨hz + 1,3,none⟩ = some (.int .i64 0) from cell_at P6.out 3);have m4 := cw_cell (show w5.cell? ⟨hz + 1,4,none⟩ = some (.int .i64 0) from cell_at P6.out 4);have m5 := cw_cell (show w5.cell? ⟨hz + 1,5,none⟩ = some (.string ⟨#[]⟩) from cell_at P6.out 5);have m6 := cw_cell (show w5.cell? ⟨hz + 1,6,none⟩ = some (.slice none 0 0) from cell_at P6.out 6);have c3 := cw_cell (show w5.cell? ⟨d,3,none⟩ = some (.bool false) from cell_at D6.out 3);have c4 := cw_cell (show w5.cell? ⟨d,4,none⟩ = some (.bool sv) from cell_at D6.out 4);have c5 := cw_cell (show w5.cell? ⟨d,5,none⟩ = some (.int .i64 wv) from cell_at D6.out 5);have hx : ∀ u : Sw w5,(convert 31 9 (.slice ua un uc)).run Tryz.prog (cw u) = .ok (.string ⟨#[]⟩) (cw u) := fun u => (RX6.out.below (cw_b u)).text
  clear G6 P6 D6 LF6 RX6 HW1 HS1 HB1 HB2;refine wp_region_cw (by kernel_rfl) (by kernel_rfl) ?_;repeat (go_big_quiet_step ((first | (go_at_call 21;refine HG.out _) | (go_at_call 22;refine HWq.out _) | (go_at_call 23;refine HSq.out _) | (go_at_call 24;refine HBq.out _) | (go_at_call 30;refine HEq.out _))))
  refine wpQuiet_nil ?_;intro _ hw';obtain ⟨z,hw''⟩ := hw';subst hw'';have BZ := hide (B6.out.trans ((cw_b z).mono B6.out.size));clear g0 g1 g2 g3 g4 g5 g6 m0 m1 m2 m3 m4 m5 m6 c3 c4 c5 hx HG HWq HSq HBq HEq;generalize cw z = wz at *;go_wp2_with fail
  go_ret
  exact ⟨rfl,BZ.out⟩
 | true =>
  obtain ⟨rfl,rfl,rfl,rfl,rfl,rfl,y7,y8,y9,y10⟩ := H5.out rfl;obtain ⟨fa,fc,rfl,-⟩ := id y7.shape;obtain ⟨xa,xc,e9,-⟩ := id y9.shape;rw [bc_len] at e9;subst e9;have HY7 := hide (Flds.of_row y7);have HY9 := hide y9;clear y7 y8 y9 y10;have c3 : w5.cell? ⟨d,3,none⟩ = some (.bool true) := cell_at D5.out 3;have c6 : w5.cell? ⟨d,6,none⟩ = some (.bool kr) := cell_at D5.out 6;have c7 : w5.cell? ⟨d,7,none⟩ = some (.string kme) := cell_at D5.out 7;have c8 : w5.cell? ⟨d,8,none⟩ = some (.string kta) := cell_at D5.out 8;have c9 : w5.cell? ⟨d,9,none⟩ = some (.int .i64 kmi) := cell_at D5.out 9;have c10 : w5.cell? ⟨d,10,none⟩ = some (.int .i64 khs) := cell_at D5.out 10;have c11 : w5.cell? ⟨d,11,none⟩ = some (.string kre) := cell_at D5.out 11;have c12 : w5.cell? ⟨d,12,none⟩ = some (.slice fa hfs.length fc) := cell_at D5.out 12;have c13 : w5.cell? ⟨d,13,none⟩ = some (.slice xa ob.length xc) := cell_at D5.out 13;have W5 : Hid (w5.heap[hz + 1]? = some (.cells #[.bool false,.string ⟨#[]⟩,.string ⟨#[]⟩,.int .i64 0,.int .i64 0,.string ⟨#[]⟩,.slice none 0 0] 45 (0,0))) := hide (by rw [<- HZ];exact T5.out.hp 1 _ _ rfl);have m0 : w5.cell? ⟨hz + 1,0,none⟩ = some (.bool false) := cell_at W5.out 0;have z0 : w5.frozen? ⟨hz + 1,0,none⟩ = false := (by rw [frozen_at W5.out];simp);have m1 : w5.cell? ⟨hz + 1,1,none⟩ = some (.string ⟨#[]⟩) := cell_at W5.out 1;have z1 : w5.frozen? ⟨hz + 1,1,none⟩ = false := (by rw [frozen_at W5.out];simp);have m2 : w5.cell? ⟨hz + 1,2,none⟩ = some (.string ⟨#[]⟩) := cell_at W5.out 2;have z2 : w5.frozen? ⟨hz + 1,2,none⟩ = false := (by rw [frozen_at W5.out];simp);have m3 : w5.cell? ⟨hz + 1,3,none⟩ = some (.int .i64 0) := cell_at W5.out 3;have z3 : w5.frozen? ⟨hz + 1,3,none⟩ = false := (by rw [frozen_at W5.out];simp);have m4 : w5.cell? ⟨hz + 1,4,none⟩ = some (.int .i64 0) := cell_at W5.out 4;have z4 : w5.frozen? ⟨hz + 1,4,none⟩ = false := (by rw [frozen_at W5.out];simp)
  have m5 : w5.cell? ⟨hz + 1,5,none⟩ = some (.string ⟨#[]⟩) := cell_at W5.out 5;have z5 : w5.frozen? ⟨hz + 1,5,none⟩ = false := (by rw [frozen_at W5.out];simp);have m6 : w5.cell? ⟨hz + 1,6,none⟩ = some (.slice none 0 0) := cell_at W5.out 6;have z6 : w5.frozen? ⟨hz + 1,6,none⟩ = false := (by rw [frozen_at W5.out];simp);have P0 : (_ : World).heap[hz + 1]? = some (.cells #[.bool kr,.string ⟨#[]⟩,.string ⟨#[]⟩,.int .i64 0,.int .i64 0,.string ⟨#[]⟩,.slice none 0 0] 45 (0,0)) := hp_set W5.out 0 (.bool kr);have P1 : (_ : World).heap[hz + 1]? = some (.cells #[.bool kr,.string kme,.string ⟨#[]⟩,.int .i64 0,.int .i64 0,.string ⟨#[]⟩,.slice none 0 0] 45 (0,0)) := hp_set P0 1 (.string kme);have P2 : (_ : World).heap[hz + 1]? = some (.cells #[.bool kr,.string kme,.string kta,.int .i64 0,.int .i64 0,.string ⟨#[]⟩,.slice none 0 0] 45 (0,0)) := hp_set P1 2 (.string kta);have P3 : (_ : World).heap[hz + 1]? = some (.cells #[.bool kr,.string kme,.string kta,.int .i64 kmi,.int .i64 0,.string ⟨#[]⟩,.slice none 0 0] 45 (0,0)) := hp_set P2 3 (.int .i64 kmi);have P4 : (_ : World).heap[hz + 1]? = some (.cells #[.bool kr,.string kme,.string kta,.int .i64 kmi,.int .i64 khs,.string ⟨#[]⟩,.slice none 0 0] 45 (0,0)) := hp_set P3 4 (.int .i64 khs);have P5 : (_ : World).heap[hz + 1]? = some (.cells #[.bool kr,.string kme,.string kta,.int .i64 kmi,.int .i64 khs,.string kre,.slice none 0 0] 45 (0,0)) := hp_set P4 5 (.string kre);have P6 : (_ : World).heap[hz + 1]? = some (.cells #[.bool kr,.string kme,.string kta,.int .i64 kmi,.int .i64 khs,.string kre,.slice fa hfs.length fc] 45 (0,0)) := hp_set P5 6 (.slice fa hfs.length fc);replace P6 := hide P6
  have KK := hide (((((((CK.set w5 (hz + 1) 0 (.bool kr)).trans (CK.set _ (hz + 1) 1 (.string kme))).trans (CK.set _ (hz + 1) 2 (.string kta))).trans (CK.set _ (hz + 1) 3 (.int .i64 kmi))).trans (CK.set _ (hz + 1) 4 (.int .i64 khs))).trans (CK.set _ (hz + 1) 5 (.string kre))).trans (CK.set _ (hz + 1) 6 (.slice fa hfs.length fc)));clear P0 P1 P2 P3 P4 P5;go_upto_region 6 with fail
  generalize (((((((w5.setCell ⟨hz + 1,0,none⟩ (.bool kr)).setCell ⟨hz + 1,1,none⟩ (.string kme)).setCell ⟨hz + 1,2,none⟩ (.string kta)).setCell ⟨hz + 1,3,none⟩ (.int .i64 kmi)).setCell ⟨hz + 1,4,none⟩ (.int .i64 khs)).setCell ⟨hz + 1,5,none⟩ (.string kre)).setCell ⟨hz + 1,6,none⟩ (.slice fa hfs.length fc)) = w6 at P6 KK |-
  have hw5 := T5.out.b.size;have hw5z : hz + 1 < w5.heap.size := lt_heap W5.out;have BK := hide (KK.out.low (base := hz + 1) (Nat.le_refl _) (by omega));have B6 := hide (Y5.out.trans (BK.out.mono (show w.heap.size <= hz + 1 by omega)));have G6 : Hid (w6.heap[hz]? = some (.cells #[.bool kr,.string kme,.string kta,.int .i64 kmi,.int .i64 khs,.string kre,.slice la ln lc] 45 (0,0))) := hide ((BK.out.block hz (by omega)).trans (by rw [<- HZ];exact T5.out.hp 0 _ _ rfl));have D6 := hide ((BK.out.block d (by omega)).trans D5.out);have B46 := hide (T5.out.b.trans (BK.out.mono (show w4.heap.size <= hz + 1 by omega)));have LF6 := hide (LF4.out.below B46.out);have RX6 := hide (RX4.out.below B46.out);have FL6 := hide (HY7.out.below B6.out);have hx0 : (convert 31 9 (.slice xa ob.length xc)).run Tryz.prog w6 = .ok (.string ⟨ob.toArray⟩) w6 := (HY9.out.below B6.out).text;have c7 : w6.cell? ⟨d,13,none⟩ = some (.slice xa ob.length xc) := cell_at D6.out 13;clear c3 c6 c8 c9 c10 c11 c12 c13 m0 m1 m2 m3 m4 m5 m6 z0 z1 z2 z3 z4 z5 z6 T5 LF4 RX4 Y4 LF5 RX5 Y5 D5 W5 KK BK B46 HY7 HY9;go_upto_region 7 with fail
  clear c7 hx0
  have HG : Hid (∀ u : Sw w6,Calls Tryz.prog 21 #[.agg #[.bool kr,.string kme,.string kta,.int .i64 kmi,.int .i64 khs,.string kre,.slice la ln lc],.agg #[.bool kr,.string kme,.string kta,.int .i64 kmi,.int .i64 khs,.string kre,.slice fa hfs.length fc]] (cw u) fun e w' => e = .returned (.bool true) /\ ∃ u' : Sw w6,w' = cw u') := hide (fun u => call_cw (u := u) (by
   have q := plainH_any (cw u) ⟨kr,kme,kta,kmi,khs,kre,hfs⟩ ⟨kr,kme,kta,kmi,khs,kre,hfs⟩ (.slice la ln lc) (.slice fa hfs.length fc) (LF6.out.below (cw_b u)) (FL6.out.below (cw_b u)) (Nat.le_trans HFL.out (by decide)) (Nat.le_trans HFL.out (by decide));rw [hiEq_iff.2 rfl] at q;exact q))
  have HWq : Hid (∀ u : Sw w6,Calls Tryz.prog 22 #[.pointer (some ⟨c,0,none⟩)] (cw u) fun e w' => e = .returned (.int .i64 wv) /\ ∃ u' : Sw w6,w' = cw u') := hide (fun u => call_cw (u := u) (HW1.out (cw u) (B6.out.trans ((cw_b u).mono B6.out.size))));have HSq : Hid (∀ u : Sw w6,Calls Tryz.prog 23 #[.pointer (some ⟨c,0,none⟩)] (cw u) fun e w' => e = .returned (.bool sv) /\ ∃ u' : Sw w6,w' = cw u') := hide (fun u => call_cw (u := u) (HS1.out (cw u) (B6.out.trans ((cw_b u).mono B6.out.size))));have HBq : Hid (∀ u : Sw w6,Calls Tryz.prog 24 #[.pointer (some ⟨c,0,none⟩)] (cw u) fun e w' => e = .returned (.bool bv) /\ ∃ u' : Sw w6,w' = cw u') := hide (fun u => call_cw (u := u) (HB1.out (cw u) (B6.out.trans ((cw_b u).mono B6.out.size))));have HEq : Hid (∀ u : Sw w6,Calls Tryz.prog 30 #[.pointer (some ⟨d,0,none⟩)] (cw u) fun e w' => e = .returned (.bool bv) /\ ∃ u' : Sw w6,w' = cw u') := hide (fun u => call_cw (u := u) (HB2.out (cw u) (B6.out.trans ((cw_b u).mono B6.out.size))));have g0 := cw_cell (show w6.cell? ⟨hz,0,none⟩ = some (.bool kr) from cell_at G6.out 0);have g1 := cw_cell (show w6.cell? ⟨hz,1,none⟩ = some (.string kme) from cell_at G6.out 1);have g2 := cw_cell (show w6.cell? ⟨hz,2,none⟩ = some (.string kta) from cell_at G6.out 2);have g3 := cw_cell (show w6.cell? ⟨hz,3,none⟩ = some (.int .i64 kmi) from cell_at G6.out 3);have g4 := cw_cell (show w6.cell? ⟨hz,4,none⟩ = some (.int .i64 khs) from cell_at G6.out 4);have g5 := cw_cell (show w6.cell? ⟨hz,5,none⟩ = some (.string kre) from cell_at G6.out 5);have g6 := cw_cell (show w6.cell? ⟨hz,6,none⟩ = some (.slice la ln lc) from cell_at G6.out 6);have m0 := cw_cell (show w6.cell? ⟨hz + 1,0,none⟩ = some (.bool kr) from cell_at P6.out 0);have m1 := cw_cell (show w6.cell? ⟨hz + 1,1,none⟩ = some (.string kme) from cell_at P6.out 1);have m2 := cw_cell (show w6.cell? ⟨hz + 1,2,none⟩ = some (.string kta) from cell_at P6.out 2)
  have m3 := cw_cell (show w6.cell? ⟨hz + 1,3,none⟩ = some (.int .i64 kmi) from cell_at P6.out 3);have m4 := cw_cell (show w6.cell? ⟨hz + 1,4,none⟩ = some (.int .i64 khs) from cell_at P6.out 4);have m5 := cw_cell (show w6.cell? ⟨hz + 1,5,none⟩ = some (.string kre) from cell_at P6.out 5);have m6 := cw_cell (show w6.cell? ⟨hz + 1,6,none⟩ = some (.slice fa hfs.length fc) from cell_at P6.out 6);have c3 := cw_cell (show w6.cell? ⟨d,3,none⟩ = some (.bool true) from cell_at D6.out 3);have c4 := cw_cell (show w6.cell? ⟨d,4,none⟩ = some (.bool sv) from cell_at D6.out 4);have c5 := cw_cell (show w6.cell? ⟨d,5,none⟩ = some (.int .i64 wv) from cell_at D6.out 5);have hx : ∀ u : Sw w6,(convert 31 9 (.slice ua un uc)).run Tryz.prog (cw u) = .ok (.string ⟨ob.toArray⟩) (cw u) := fun u => (RX6.out.below (cw_b u)).text
  clear G6 P6 D6 LF6 RX6 HW1 HS1 HB1 HB2 FL6;refine wp_region_cw (by kernel_rfl) (by kernel_rfl) ?_;repeat (go_big_quiet_step ((first | (go_at_call 21;refine HG.out _) | (go_at_call 22;refine HWq.out _) | (go_at_call 23;refine HSq.out _) | (go_at_call 24;refine HBq.out _) | (go_at_call 30;refine HEq.out _))))
  refine wpQuiet_nil ?_;intro _ hw';obtain ⟨z,hw''⟩ := hw';subst hw'';have BZ := hide (B6.out.trans ((cw_b z).mono B6.out.size));clear g0 g1 g2 g3 g4 g5 g6 m0 m1 m2 m3 m4 m5 m6 c3 c4 c5 hx HG HWq HSq HBq HEq;generalize cw z = wz at *;go_wp2_with fail
  go_ret
  exact ⟨rfl,BZ.out⟩
def SI (w : World) (c d M bd T : Nat) : Prop := ∃ A s b,At w c (M : Int) bd A s /\ Ow w c A /\ RD w d M bd A s b /\ (∀ k,A k -> c <= k) /\ b.length <= T /\ s.bl <= T
theorem SI.mono {w : World} {c d M bd T T' : Nat} (h : SI w c d M bd T) (hT : T <= T') : SI w c d M bd T' := by
 obtain ⟨A,s,b,h1,h2,h3,h4,h5,h6⟩ := h;exact ⟨A,s,b,h1,h2,h3,h4,by omega,by omega⟩
theorem SI.stands {w : World} {c d M bd T : Nat} (h : SI w c d M bd T) (hT : T <= 70368744177664) : Calls Tryz.prog 17 #[.pointer (some ⟨c,0,none⟩),.pointer (some ⟨d,0,none⟩)] w fun e w' => e = .returned (.bool true) /\ SI w' c d M bd T /\ Below w.heap.size w w' := by
 obtain ⟨A,s,b,h1,h2,h3,h4,h5,h6⟩ := h;have ho := ob_bl s;exact (stands_any h1 h2 h3 (by omega)).mono fun e w' ⟨e1,e2⟩ => ⟨e1,⟨A,s,b,h1.on h2.me (fun i q => (h2.lo i q).2) e2,h2.up e2.size,h3.on e2,h4,h5,h6⟩,e2⟩
theorem AK.mono {w w' : World} {A B : Nat -> Prop} (h : AK w w' A) (m : ∀ k,A k -> B k) : AK w w' B := ⟨h.os,h.tape,h.output,h.size,fun k hk n => h.block k hk (fun q => n (m k q))⟩
theorem AK.of_ckd {w w' : World} {d : Nat} {A : Nat -> Prop} (h : CK w w' d) : AK w w' (fun k => A k ∨ k = d) := ⟨h.os,h.tape,h.output,h.size,fun k hk n => h.block k hk (fun q => n (.inr q))⟩
theorem end_bl (s : CS) : (csEnd s).bl <= s.bl := by
 cases s with
 | head p bg => cases bg <;> exact Nat.zero_le _
 | meas p L O => exact Nat.zero_le _
 | part p d O => exact Nat.zero_le _
 | waits p O => exact Nat.le_refl _
 | shut s => exact Nat.le_refl _
theorem ans_bl (M : Nat) (keep : Bool) (s : CS) : (csAns M keep s).bl <= s.bl := by
 cases s with
 | waits p O => cases keep <;> exact Nat.zero_le _
 | _ => exact Nat.le_refl _
section
variable {w : World} {c d M bd T : Nat} {A : Nat -> Prop} {s : CS} {b : List UInt8}
theorem both_read (h : At w c (M : Int) bd A s) (ho : Ow w c A) (r : RD w d M bd A s b) (hlo : ∀ k, A k -> c <= k) (hb : b.length <= T) (hs : s.bl <= T) (hM : M <= 65536) (hbd : bd <= 1048576) (hcd : c <= d) (hm : MX w) (he : ET w) (va : Option Addr) (vn vc : Nat) (l : List UInt8) (hB : Bf w (fun k => k < c) (.slice va vn vc) l) (hS : Shp (.slice va vn vc)) (hl : T + l.length <= 70368744177664) :
  Calls Tryz.prog 11 #[.pointer (some ⟨c, 0, none⟩), .slice va vn vc] w fun e w1 => e = .returned (.tuple #[.int .i64 ((csRun bd s l).1 : Int), .bool (csRun bd s l).2.told]) /\ AK w w1 A /\
   Calls Tryz.prog 12 #[.pointer (some ⟨d,0,none⟩),.slice va vn vc] w1 fun e w2 => e = .returned (.tuple #[.int .i64 ((csRun bd s l).1 : Int),.bool (csRun bd s l).2.told]) /\ AK w w2 (fun k => A k ∨ k = d) /\ SI w2 c d M bd (T + l.length) := by
 refine (cread_all h ho hbd hm he _ l (hB.impx fun k q z => by have := hlo k z;omega) hS (by omega)).mono ?_;rintro e w1 ⟨rfl,a1,k1⟩;refine ⟨rfl,k1,?_⟩;have r1 := r.ak k1;have ho1 := ho.grow k1;refine (r1.read hM hbd (fun k q => (ho1.lo k q).2) va vn vc l (Bs.of_bfx (hB.growx (P' := fun k => k < c) k1.size fun k q hk => ⟨q,k1.block k hk fun z => by have := hlo k z;omega⟩)) hS (by omega)).mono ?_;rintro e w2 ⟨rfl,r2,k2⟩;have hcl := (ho.lo c ho.me).2;refine ⟨rfl,(k1.mono fun k q => .inl q).on ((AK.of_ckd (A := A) k2).mono fun k q => by rcases q with q | q;exact .inl (.inl q);exact .inl (.inr q)),grow A w w1,(csRun bd s l).2,_,a1.keep ho1.me (fun k q => k2.block k (ho1.lo k q).2 (fun z => r1.1 (by rw [<- z];exact q))) k2.size,ho1.up k2.size,r2,fun k q => ?_,?_,?_⟩
 ·rcases q with q | q
  ·exact hlo k q
  ·have := q.1;omega
 ·rw [List.length_append,List.length_take];omega
 ·have := run_bl bd l s;omega
theorem both_end (h : At w c (M : Int) bd A s) (ho : Ow w c A) (r : RD w d M bd A s b) (hlo : ∀ k, A k -> c <= k) (hb : b.length <= T) (hs : s.bl <= T) :
  Calls Tryz.prog 13 #[.pointer (some ⟨c, 0, none⟩)] w fun e w1 => e = .returned (.bool (!s.told)) /\ AK w w1 A /\
   Calls Tryz.prog 14 #[.pointer (some ⟨d,0,none⟩)] w1 fun e w2 => e = .returned (.bool (!s.told)) /\ AK w w2 (fun k => A k ∨ k = d) /\ SI w2 c d M bd T := by
 refine (h.end_ ho.me).mono ?_;rintro e w1 ⟨rfl,a1,k1⟩;refine ⟨rfl,k1,?_⟩;have r1 := r.ak k1;have ho1 := ho.grow k1;refine r1.end_.mono ?_;rintro e w2 ⟨rfl,r2,k2⟩;have hcl := (ho.lo c ho.me).2;have hb2 := end_bl s;refine ⟨rfl,(k1.mono fun k q => .inl q).on ((AK.of_ckd (A := A) k2).mono fun k q => by rcases q with q | q;exact .inl (.inl q);exact .inl (.inr q)),grow A w w1,csEnd s,_,(a1.mono fun k q => .inl q).keep ho1.me (fun k q => k2.block k (ho1.lo k q).2 (fun z => r1.1 (by rw [<- z];exact q))) k2.size,ho1.up k2.size,r2,fun k q => ?_,hb,by omega⟩;rcases q with q | q
 ·exact hlo k q
 ·have := q.1;omega
theorem both_ans (h : At w c (M : Int) bd A s) (ho : Ow w c A) (r : RD w d M bd A s b) (hlo : ∀ k, A k -> c <= k) (hb : b.length <= T) (hs : s.bl <= T) (h1 : 16 <= M) (h2 : M <= 65536) (keep : Bool) :
  Calls Tryz.prog 15 #[.pointer (some ⟨c, 0, none⟩), .bool keep] w fun e w1 => e = .returned (.int .i64 (if s.told then 0 else 7)) /\ AK w w1 (fun k => A k ∨ k = d) /\
   Calls Tryz.prog 16 #[.pointer (some ⟨d,0,none⟩),.bool keep] w1 fun e w2 => e = .returned (.int .i64 (if s.told then 0 else 7)) /\ AK w w2 (fun k => A k ∨ k = d) /\ SI w2 c d M bd T := by
 refine (h.answered ho.me h1 h2 keep).mono ?_;rintro e w1 ⟨rfl,a1,k1⟩;refine ⟨rfl,k1.mono fun k q => .inl q,?_⟩;have r1 := r.ak k1;have ho1 := ho.grow k1;refine (r1.answered keep).mono ?_;rintro e w2 ⟨rfl,⟨b',hb',r2⟩,k2⟩;have hcl := (ho.lo c ho.me).2;have hb2 := ans_bl M keep s;refine ⟨rfl,(k1.mono fun k q => .inl q).on ((AK.of_ckd (A := A) k2).mono fun k q => by rcases q with q | q;exact .inl (.inl q);exact .inl (.inr q)),grow A w w1,csAns M keep s,b',a1.keep ho1.me (fun k q => k2.block k (ho1.lo k q).2 (fun z => r1.1 (by rw [<- z];exact q))) k2.size,ho1.up k2.size,r2,fun k q => ?_,by omega,by omega⟩;rcases q with q | q
 ·exact hlo k q
 ·have := q.1;omega
end
def TL (L : List (Int × List UInt8)) (k : Nat) : Nat := (((L.take k).map (·.2)).flatten).length
theorem tl_succ (L : List (Int × List UInt8)) (k : Nat) (h : k < L.length) : TL L (k + 1) = TL L k + L[k].2.length := by
 unfold TL;rw [List.take_succ_eq_append_getElem h,List.map_append,List.flatten_append,List.length_append];simp
theorem tl_le (L : List (Int × List UInt8)) (k : Nat) : TL L k <= ((L.map (·.2)).flatten).length := by
 unfold TL
 conv => rhs;rw [<- List.take_append_drop k L]
 rw [List.map_append,List.flatten_append,List.length_append];omega
theorem steps_walk (w : World) (most room : Int) (v : Value) (L : List (Int × List UInt8)) (hL : SpR w v L) (hT : ((L.map (·.2)).flatten).length <= 1048576) (hN : L.length <= 1048576) (hm : MX w) (he : ET w) (h3 : 3 <= w.heap.size) :
  Calls Tryz.prog 3 #[.int .i64 most,.int .i64 room,v] w fun e w' => e = .returned (.bool true) /\ Below w.heap.size w w' := by
 obtain ⟨sa,sc,rfl,hcells⟩ := hL;have HC := hide hcells;have HM := hide hm;have HE := hide he;have HP := hide (fun W (b : Below w.heap.size w W) => speaks_any W (hm.below b) (he.below b));clear hcells hm he;by_cases hok : 16 <= most /\ most <= 65536 /\ 0 <= room /\ room <= 1048576
 ·obtain ⟨M, rfl⟩ : ∃ M : Nat, most = (M : Int) := ⟨most.toNat, by omega⟩
  obtain ⟨bd,rfl⟩ : ∃ n : Nat,room = (n : Int) := ⟨room.toNat,by omega⟩
  have hM1 : 16 <= M := by omega
  have hM2 : M <= 65536 := by omega
  have hbd : bd <= 1048576 := by omega
  clear hok;have HN1 := hide (new_at w M bd hM1 hM2 hbd h3);have HN2 := hide (fun W => rnew_good W M bd hM1 hM2 hbd);go_enter Tryz.func3,Tryz.ntmps3
  go_upto_region 2 with (go_at_call 8;refine HN1.out.mono ?_;rintro e w1 ⟨rfl,q1,q2,q3⟩;have C1 := hide q1;have O1 := hide q2;have B1 := hide q3;clear q1 q2 q3)
  have hs1 := B1.out.size;have hc1 := (O1.out.lo _ O1.out.me).2;go_upto_region 3 with (go_at_call 9;refine (HN2.out w1).mono ?_;rintro e w2 ⟨rfl,q1,q2⟩;have D2 := hide q1;have Y2 := hide q2;clear q1 q2)
  have hs2 := Y2.out.size;have S2 : Hid (SI w2 w.heap.size w1.heap.size M bd (TL L 0)) := hide ⟨Nw w w1,_,[],C1.out.keep O1.out.me (fun k hk => Y2.out.block k hk.2) hs2,O1.out.up hs2,RD.new (lt_heap' D2.out) (fun q => by have := q.2;omega) D2.out,fun k q => q.1,Nat.zero_le _,Nat.le_refl _⟩;have B2 := hide (B1.out.trans (Y2.out.mono hs1));have hcd : w.heap.size <= w1.heap.size := hs1;clear C1 O1 D2 Y2 HN1 HN2 B1;go_wp2_with fail
  go_loopw [44] (fun i wr => ∃ k : Nat,k <= L.length /\ i = .int .i64 k /\ Hid (SI wr w.heap.size w1.heap.size M bd (TL L k)) /\ Hid (Below w.heap.size w wr)) (fun i _ => L.length - (intOf i).toNat)
  case atStart => exact ⟨0,Nat.zero_le _,rfl,S2,B2⟩
  case round =>
   clear S2 B2;obtain ⟨k,hk,rfl,HSI,HB⟩ := hrel;by_cases hlt : k < L.length
   ·obtain ⟨g, o, va, vc, rfl, hg, r0, r1, hpb, hps⟩ := HC.out k hlt
    have q0 : wr.cell? ⟨g,o + k * 2,none⟩ = some (.int .i64 L[k].1) := (HB.out.cell (p := ⟨g,o + k * 2,none⟩) hg).trans r0;have q1 : wr.cell? ⟨g,o + k * 2 + 1,none⟩ = some (.slice va L[k].2.length vc) := (HB.out.cell (p := ⟨g,o + k * 2 + 1,none⟩) hg).trans r1;have htl := tl_succ L k hlt;have htm := tl_le L (k + 1);obtain ⟨A,s,b,a1,a2,a3,a4,a5,a6⟩ := HSI.out;have hbs := HB.out.size
    have hpb2 : Bf wr (fun i => i < w.heap.size) (.slice va L[k].2.length vc) L[k].2 := by
     obtain ⟨a,n,e,h1,h2⟩ := hpb;exact ⟨a,n,e,h1,fun j hj => by obtain ⟨g2,o2,y1,y2,y3,y4⟩ := h2 j hj;exact ⟨g2,o2,y1,y2,by omega,(HB.out.cell (p := ⟨g2,o2 + j,none⟩) y2).trans y4⟩⟩
    have HPS := hide hps;clear hpb hps r0 r1 HSI;generalize L[k].1 = x at *;obtain ⟨l,hl⟩ : ∃ l,L[k].2 = l := ⟨_,rfl⟩
    rw [hl] at q1 htl hpb2 HPS;have HTN : Hid (TL L k + l.length <= TL L (k + 1)) := hide (by omega);have hlt2 : TL L k + l.length <= 1048576 := by omega
    have htk1 : TL L (k + 1) <= 1048576 := by omega
    clear hl htl htm;have G3 := hide (hp_new wr (.cells #[.int .i64 x,.slice va l.length vc] 33));have b3 := hide ((Below.refl wr.heap.size wr).alloc (Nat.le_refl _) (.cells #[.int .i64 x,.slice va l.length vc] 33));go_upto_region 10 with fail
    generalize wr.alloc _ = w3 at *;have HZA : Hid (¬ A wr.heap.size) := hide (fun q => by have := (a2.lo _ q).2;omega);have H3 := hide (a1.on a2.me (fun i q => (a2.lo i q).2) b3.out);have O3 := hide (a2.up b3.out.size);have R3 := hide (a3.on b3.out);have HLO := hide a4;have HB0 := hide a5;have HS0 := hide a6;have B3 := hide (HB.out.trans (b3.out.mono hbs));have hs3 := b3.out.size;have HPB := hide (hpb2.growx (P' := fun i => i < w.heap.size) b3.out.size fun i q hi => ⟨q,b3.out.block i hi⟩);have hdw : w1.heap.size < wr.heap.size := a3.lt;clear a1 a2 a3 a4 a5 a6 hpb2 b3 HB q0 q1;have z0 : w3.cell? ⟨wr.heap.size,0,none⟩ = some (.int .i64 x) := cell_at G3.out 0;have z1 : w3.cell? ⟨wr.heap.size,1,none⟩ = some (.slice va l.length vc) := cell_at G3.out 1;by_cases hx0 : x = 0
    ·subst hx0
     have HR1 := hide (both_read H3.out O3.out R3.out HLO.out HB0.out HS0.out hM2 hbd hcd (HM.out.below B3.out) (HE.out.below B3.out) va l.length vc l HPB.out HPS.out (by omega));go_upto_region 15 with fail
     go_wp2_with fail
     refine HR1.out.mono ?_;rintro e w4 ⟨rfl,q1,q2⟩;have K4 := hide q1;have HR2 := hide q2;clear q1 q2 HR1;have z0 : w4.cell? ⟨wr.heap.size,0,none⟩ = some (.int .i64 0) := cell_at ((K4.out.block wr.heap.size (lt_heap G3.out) HZA.out).trans G3.out) 0;have z1 : w4.cell? ⟨wr.heap.size,1,none⟩ = some (.slice va l.length vc) := cell_at ((K4.out.block wr.heap.size (lt_heap G3.out) HZA.out).trans G3.out) 1;go_wp2_with fail
     refine HR2.out.mono ?_;rintro e w5 ⟨rfl,q1,q2⟩;have K5 := hide q1;have S5 := hide q2;clear q1 q2 HR2 K4 z0 z1;have hs5 := K5.out.size;have B5 := hide (B3.out.trans (K5.out.low (B := w.heap.size) (fun i q => by rcases q with q | q;exact HLO.out i q;omega) (by omega)));have HST := hide ((S5.out.mono HTN.out).stands (by omega));clear S5 K5;go_wp2_with fail
     refine HST.out.mono ?_;rintro e w6 ⟨rfl,q1,q2⟩;have S6 := hide q1;have B6 := hide (B5.out.trans (q2.mono B5.out.size));clear q1 q2 HST B5;go_wp2_with fail
     go_roundw
     case rel => exact ⟨k + 1,by omega,by go_num,S6,B6⟩
     case measure => simp [intOf];omega
    ·by_cases hx1 : x = 1
     ·subst hx1
      have HR1 := hide (both_read H3.out O3.out R3.out HLO.out HB0.out HS0.out hM2 hbd hcd (HM.out.below B3.out) (HE.out.below B3.out) va l.length vc l HPB.out HPS.out (by omega));go_upto_region 15 with fail
      go_wp2_with fail
      refine HR1.out.mono ?_;rintro e w4 ⟨rfl,q1,q2⟩;have K4 := hide q1;have HR2 := hide q2;clear q1 q2 HR1;have z0 : w4.cell? ⟨wr.heap.size,0,none⟩ = some (.int .i64 1) := cell_at ((K4.out.block wr.heap.size (lt_heap G3.out) HZA.out).trans G3.out) 0;have z1 : w4.cell? ⟨wr.heap.size,1,none⟩ = some (.slice va l.length vc) := cell_at ((K4.out.block wr.heap.size (lt_heap G3.out) HZA.out).trans G3.out) 1;go_wp2_with fail
      refine HR2.out.mono ?_;rintro e w5 ⟨rfl,q1,q2⟩;have K5 := hide q1;have S5 := hide q2;clear q1 q2 HR2 K4 z0 z1;have hs5 := K5.out.size;have B5 := hide (B3.out.trans (K5.out.low (B := w.heap.size) (fun i q => by rcases q with q | q;exact HLO.out i q;omega) (by omega)));have HST := hide ((S5.out.mono HTN.out).stands (by omega));clear S5 K5;go_wp2_with fail
      refine HST.out.mono ?_;rintro e w6 ⟨rfl,q1,q2⟩;have S6 := hide q1;have B6 := hide (B5.out.trans (q2.mono B5.out.size));clear q1 q2 HST B5;go_wp2_with fail
      go_roundw
      case rel => exact ⟨k + 1,by omega,by go_num,S6,B6⟩
      case measure => simp [intOf];omega
     ·by_cases hx2 : x = 2
      ·subst hx2
       have HR1 := hide ((both_end H3.out O3.out R3.out HLO.out HB0.out HS0.out));go_wp2_with fail
       refine HR1.out.mono ?_;rintro e w4 ⟨rfl,q1,q2⟩;have HR2 := hide q2;clear q1 q2 HR1;go_wp2_with fail
       refine HR2.out.mono ?_;rintro e w5 ⟨rfl,q1,q2⟩;have K5 := hide q1;have S5 := hide (q2.mono (Nat.le_add_right _ l.length));clear q1 q2 HR2;have hs5 := K5.out.size;have B5 := hide (B3.out.trans (K5.out.low (B := w.heap.size) (fun i q => by rcases q with q | q;exact HLO.out i q;omega) (by omega)));have HST := hide ((S5.out.mono HTN.out).stands (by omega));clear S5 K5;go_wp2_with fail
       refine HST.out.mono ?_;rintro e w6 ⟨rfl,q1,q2⟩;have S6 := hide q1;have B6 := hide (B5.out.trans (q2.mono B5.out.size));clear q1 q2 HST B5;go_wp2_with fail
       go_roundw
       case rel => exact ⟨k + 1,by omega,by go_num,S6,B6⟩
       case measure => simp [intOf];omega
      ·have t0 : (x == 0) = false := by simpa using hx0
       have t1 : (x == 1) = false := by simpa using hx1
       have t2 : (x == 2) = false := by simpa using hx2
       have DR := hide (Below.refl w3.heap.size w3).drew;have H3d := hide (H3.out.on O3.out.me (fun i q => (O3.out.lo i q).2) DR.out);have O3d := hide (O3.out.up DR.out.size);have R3d := hide (R3.out.on DR.out);have HA1 := hide (both_ans H3d.out O3d.out R3d.out HLO.out HB0.out HS0.out hM1 hM2 (x == 3));obtain ⟨rr,HRR⟩ : ∃ rr : Int,Hid ((if s.told = true then 0 else 7 : Int) = rr) := ⟨_,hide rfl⟩
       rw [HRR.out] at HA1;have HCL : Hid (∀ W,AK w3.drew W (fun i => A i ∨ i = w1.heap.size) -> W.cell? ⟨wr.heap.size,0,none⟩ = some (.int .i64 x)) := hide (fun W q => cell_at ((q.block wr.heap.size (Nat.lt_of_lt_of_le (lt_heap G3.out) DR.out.size) (fun z => by rcases z with z | z;exact HZA.out z;omega)).trans ((DR.out.block _ (lt_heap G3.out)).trans G3.out)) 0);clear H3d O3d R3d;go_upto_region 11 with fail
       refine wp_region_noPanic ?_;refine wp_region_held_drew (S := fun W => AK w3.drew W (fun i => A i ∨ i = w1.heap.size)) (by kernel_rfl) (AK.refl _ _) (fun hHeld => ?_);refine wpAnyH_take (i := 0) (v := ?_) rfl (by kernel_rfl) (by kernel_rfl) (by kernel_rfl) (fun _ _ _ h => h) (Or.inl ⟨by rfl,?_⟩) (by assumption) ?_;rotate_left
       ·(intro W hSw;have q0 := (HCL.out W hSw);go_simp;try with_reducible rfl)
       try simp only [ge_,Act.put,sl_]
       refine wpAnyH_take (i := 1) (v := ?_) rfl (by kernel_rfl) (by kernel_rfl) (by kernel_rfl) (fun _ _ _ h => h) (Or.inl ⟨by rfl,?_⟩) (by assumption) ?_;rotate_left
       ·(intro W hSw;have q0 := (HCL.out W hSw);go_simp;try with_reducible rfl)
       try simp only [ge_,Act.put,sl_]
       refine wpAnyH_take (i := 2) (v := ?_) rfl (by kernel_rfl) (by kernel_rfl) (by kernel_rfl) (fun _ _ _ h => h) (Or.inl ⟨by rfl,?_⟩) (by assumption) ?_;rotate_left
       ·(intro W hSw;have q0 := (HCL.out W hSw);go_simp;try with_reducible rfl)
       try simp only [ge_,Act.put,sl_]
       refine wpAnyH_take (i := 3) (v := ?_) rfl (by kernel_rfl) (by kernel_rfl) (by kernel_rfl) (fun _ _ _ h => h) (Or.inl ⟨by rfl,?_⟩) (by assumption) ?_;rotate_left
       ·(intro W hSw;have q0 := (HCL.out W hSw);go_simp;try with_reducible rfl)
       try simp only [ge_,Act.put,sl_]
       refine wpAnyH_take (i := 5) (v := ?_) rfl (by kernel_rfl) (by kernel_rfl) (by kernel_rfl) (fun _ _ _ h => h) (Or.inl ⟨by rfl,?_⟩) (by assumption) ?_;rotate_left
       ·(intro W hSw;have q0 := (HCL.out W hSw);go_simp;try with_reducible rfl)
       try simp only [ge_,Act.put,sl_]
       refine wpAnyH_take (i := 6) (v := ?_) rfl (by kernel_rfl) (by kernel_rfl) (by kernel_rfl) (fun _ _ _ h => h) (Or.inl ⟨by rfl,?_⟩) (by assumption) ?_;rotate_left
       ·(intro W hSw;have q0 := (HCL.out W hSw);go_simp;try with_reducible rfl)
       try simp only [ge_,Act.put,sl_]
       refine wpAnyH_take (i := 7) (v := ?_) rfl (by kernel_rfl) (by kernel_rfl) (by kernel_rfl) (fun _ _ _ h => h) (Or.inl ⟨by rfl,?_⟩) (by assumption) ?_;rotate_left
       ·(intro W hSw;have q0 := (HCL.out W hSw);go_simp;try with_reducible rfl)
       try simp only [ge_,Act.put,sl_]
       refine wpAnyH_take (i := 8) (v := ?_) rfl (by kernel_rfl) (by kernel_rfl) (by kernel_rfl) (fun _ _ _ h => h) (Or.inl ⟨by rfl,?_⟩) (by assumption) ?_;rotate_left
       ·(intro W hSw;have q0 := (HCL.out W hSw);go_simp;try with_reducible rfl)
       try simp only [ge_,Act.put,sl_]
       refine wpAnyH_ready (rs := [4]) (by kernel_rfl) (by simp) ?_;refine AllReadyH.cons rfl (fun K hK => ?_) AllReadyH.nil;go_simp
       refine HA1.out.mono ?_;rintro e w4 ⟨rfl,q1,q2⟩;have K4 := hide q1;have HR2 := hide q2;clear q1 q2 HA1
       (try go_wp2_with fail)
       refine hK.out _ _ (K4.out) (fun hHeld => ?_);clear hK K
       try simp only [ge_,Act.put,sl_]
       refine wpAnyH_ready (rs := [9]) (by kernel_rfl) (by simp) ?_;refine AllReadyH.cons rfl (fun K hK => ?_) AllReadyH.nil;go_simp
       refine HR2.out.mono ?_;rintro e w5 ⟨rfl,q1,q2⟩;have K5d := hide q1;have S5 := hide (q2.mono (Nat.le_add_right _ l.length));clear q1 q2 HR2 K4
       (try go_wp2_with fail)
       refine hK.out _ _ (K5d.out) (fun hHeld => ?_);clear hK K
       try simp only [ge_,Act.put,sl_]
       refine wpAnyH_ready (rs := [10]) (by kernel_rfl) (by simp) ?_;refine AllReadyH.cons rfl (fun K hK => ?_) AllReadyH.nil;go_simp
       refine hK.out _ _ (K5d.out) (fun hHeld => ?_);clear hK K
       try simp only [ge_,Act.put,sl_]
       refine wpAnyH_done (by kernel_rfl) ?_ _;refine NoPanic.normal ?_;have K5 := hide ((AK.of_below DR.out).trans K5d.out);clear K5d DR HCL;have hs5 := K5.out.size;have B5 := hide (B3.out.trans (K5.out.low (B := w.heap.size) (fun i q => by rcases q with q | q;exact HLO.out i q;omega) (by omega)));have HST := hide ((S5.out.mono HTN.out).stands (by omega));clear S5 K5;go_wp2_with fail
       refine HST.out.mono ?_;rintro e w6 ⟨rfl,q1,q2⟩;have S6 := hide q1;have B6 := hide (B5.out.trans (q2.mono B5.out.size));clear q1 q2 HST B5;go_wp2_with fail
       go_roundw
       case rel => exact ⟨k + 1,by omega,by go_num,S6,B6⟩
       case measure => simp [intOf];omega
   ·have HB2 := hide HB.out
    have HQ := hide (HP.out _ HB.out);go_wp2_with fail
    refine HQ.out.mono ?_;rintro e w9 ⟨rfl,b9⟩;have BZ := hide (HB2.out.trans (b9.mono HB2.out.size));clear b9;go_wp2_with fail
    go_ret
    exact ⟨rfl,BZ.out⟩
 ·have hbad : most < 16 ∨ 65536 < most ∨ room < 0 ∨ 1048576 < room := by omega
  have HN1 := hide (cnew_bad w most room hbad);have HN2 := hide (fun W => rnew_bad W most room hbad);clear hok hbad;go_enter Tryz.func3,Tryz.ntmps3
  go_upto_region 2 with (go_at_call 8;refine HN1.out.mono ?_;rintro e w1 ⟨rfl,q1⟩;have B1 := hide q1;clear q1)
  go_upto_region 3 with (go_at_call 9;refine (HN2.out w1).mono ?_;rintro e w2 ⟨rfl,rfl⟩)
  have HQ := hide (HP.out _ B1.out);go_wp2_with fail
  refine HQ.out.mono ?_;rintro e w9 ⟨rfl,b9⟩;have BZ := hide (B1.out.trans (b9.mono B1.out.size));clear b9;go_wp2_with fail
  go_ret
  exact ⟨rfl,BZ.out⟩
end Go.Proofs.YtcagjipdldlehaaGreatDoor
