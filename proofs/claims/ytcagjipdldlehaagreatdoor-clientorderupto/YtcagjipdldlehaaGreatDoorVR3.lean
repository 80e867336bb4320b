/- VR3. -/
import Derived.Test.YtcagjipdldlehaaGreatDoorVQ
import Derived.Test.YtcagjipdldlehaaGreatDoorVB
import Derived.Test.YtcagjipdldlehaaGreatDoorVG
import Derived.Test.YtcagjipdldlehaaGreatDoorVA
import Derived.Deep.QuietTactic
import Derived.BigQuiet
namespace Go.Proofs.YtcagjipdldlehaaGreatDoor
open Go.ChangeShapes Go.WideShapes Go.ChangeAt Go.RowKit
set_option linter.unusedVariables false
set_option maxHeartbeats 16000000
set_option maxRecDepth 100000
inductive CS where
 | head (p : Pz) (bg : Bool)
 | meas (p : Pz) (L : Nat) (O : List UInt8)
 | part (p : Pz) (d : Dz) (O : List UInt8)
 | waits (p : Pz) (O : List UInt8)
 | shut (s : Int)
def CS.goes : CS -> Bool
 | .waits _ _ => false
 | .shut _ => false
 | _ => true
def CS.told : CS -> Bool
 | .waits _ _ => true
 | _ => false
def csBegin (bd : Nat) (p : Pz) : CS :=
 if (reqO p.fs p.req (p.minor : Int)).e ≠ 0 then .shut 400
 else if (reqO p.fs p.req (p.minor : Int)).k = 1 then .waits p []
 else if (reqO p.fs p.req (p.minor : Int)).k = 2 then (if (bd : Int) < (reqO p.fs p.req (p.minor : Int)).n then .shut 413 else if (reqO p.fs p.req (p.minor : Int)).n = 0 then .waits p [] else .meas p (reqO p.fs p.req (p.minor : Int)).n.toNat [])
 else .part p (dNew bd) []
def csOne (bd : Nat) : CS -> UInt8 -> CS
 | .head p _,x => if (pNext p x).1 ≠ 0 then .shut (headSt (pNext p x).1) else if (pNext p x).2.whole then csBegin bd (pShut (pNext p x).2) else .head (pNext p x).2 true
 | .meas p L O,x => if O.length + 1 = L then .waits p (O ++ [x]) else .meas p L (O ++ [x])
 | .part p d O,x => if (dNext d x).1 ≠ 0 then .shut (bodyS ((dNext d x).1 : Int)) else if (dNext d x).2.2.whole then .waits p (O ++ (dNext d x).2.1) else .part p (dNext d x).2.2 (O ++ (dNext d x).2.1)
 | .waits p O,_ => .waits p O
 | .shut s,_ => .shut s
def csRun (bd : Nat) : CS -> List UInt8 -> Nat × CS
 | s,[] => (0,s)
 | s,x :: r => if s.goes then ((csRun bd (csOne bd s x) r).1 + 1,(csRun bd (csOne bd s x) r).2) else (0,s)
theorem run_nil (bd : Nat) (s : CS) : csRun bd s [] = (0,s) := by unfold csRun;rfl
theorem run_stop (bd : Nat) {s : CS} (h : s.goes = false) (l : List UInt8) : csRun bd s l = (0,s) := by
 cases l with
 | nil => exact run_nil bd s
 | cons x r => rw [csRun,if_neg (by simp [h])]
theorem run_cons (bd : Nat) {s : CS} (h : s.goes = true) (x : UInt8) (r : List UInt8) : csRun bd s (x :: r) = ((csRun bd (csOne bd s x) r).1 + 1,(csRun bd (csOne bd s x) r).2) := by rw [csRun,if_pos h]
theorem run_le (bd : Nat) : ∀ (l : List UInt8) (s : CS), (csRun bd s l).1 <= l.length
 | [],s => by rw [run_nil];exact Nat.le_refl _
 | x :: r,s => by
  cases h : s.goes with
  | false => rw [run_stop bd h];exact Nat.zero_le _
  | true =>
   rw [run_cons bd h];have := run_le bd r (csOne bd s x);simp only [List.length_cons];omega
theorem run_app (bd : Nat) : ∀ (a : List UInt8) (s : CS) (b : List UInt8), csRun bd s (a ++ b) = if (csRun bd s a).1 = a.length then (a.length + (csRun bd (csRun bd s a).2 b).1, (csRun bd (csRun bd s a).2 b).2) else csRun bd s a
 | [],s,b => by rw [run_nil];simp
 | x :: r,s,b => by
  cases h : s.goes with
  | false => rw [run_stop bd h,run_stop bd h];simp
  | true =>
   rw [List.cons_append,run_cons bd h,run_cons bd h,run_app bd r (csOne bd s x) b];by_cases e : (csRun bd (csOne bd s x) r).1 = r.length
   ·rw [if_pos e, if_pos (by simp [e])]
    simp only [List.length_cons,Prod.mk.injEq,and_true];omega
   ·rw [if_neg e,if_neg (by simpa using e)]
theorem run_less (bd : Nat) : ∀ (l : List UInt8) (s : CS), (csRun bd s l).1 < l.length -> (csRun bd s l).2.goes = false
 | [],s,h => by simp at h
 | x :: r,s,h => by
  cases g : s.goes with
  | false => rw [run_stop bd g];exact g
  | true =>
   rw [run_cons bd g] at h |-
   exact run_less bd r _ (by simpa using h)
theorem run_head (bd : Nat) : ∀ (l : List UInt8) (p : Pz), p.whole = false -> csRun bd (.head p true) l = if (pBytes p l).1 ≠ 0 then ((pBytes p l).2.1, .shut (headSt (pBytes p l).1)) else if (pBytes p l).2.2.whole then ((pBytes p l).2.1 + (csRun bd (csBegin bd (pShut (pBytes p l).2.2)) (l.drop (pBytes p l).2.1)).1, (csRun bd (csBegin bd (pShut (pBytes p l).2.2)) (l.drop (pBytes p l).2.1)).2) else (l.length, .head (pBytes p l).2.2 true)
 | [],p,h => by rw [run_nil];simp [pBytes,h]
 | x :: r,p,h => by
  rw [run_cons bd rfl,csOne,pBytes];by_cases h1 : (pNext p x).1 ≠ 0
  ·rw [if_pos h1,if_pos h1,run_stop bd rfl,if_pos h1]
  ·rw [if_neg h1, if_neg h1]
   cases h2 : (pNext p x).2.whole with
   | true =>
    simp only [if_true,ne_eq,not_true_eq_false,if_false,h2,List.drop_succ_cons,List.drop_zero,Prod.mk.injEq,and_true];omega
   | false =>
    simp only [Bool.false_eq_true,if_false,List.drop_succ_cons,List.length_cons];rw [run_head bd r _ h2];split
    ·rfl
    ·split
     ·simp only [Prod.mk.injEq,and_true];omega
     ·rfl
theorem run_head0 (bd : Nat) (p : Pz) (bg : Bool) (x : UInt8) (r : List UInt8) : csRun bd (.head p bg) (x :: r) = csRun bd (.head p true) (x :: r) := by rw [run_cons bd rfl,run_cons bd rfl];rfl
theorem run_meas (bd : Nat) (p : Pz) (L : Nat) : ∀ (l O : List UInt8), O.length < L -> csRun bd (.meas p L O) l = if O.length + l.length < L then (l.length, .meas p L (O ++ l)) else (L - O.length, .waits p (O ++ l.take (L - O.length)))
 | [],O,h => by rw [run_nil,if_pos (by simpa using h)];simp
 | x :: r,O,h => by
  rw [run_cons bd rfl,csOne];by_cases h1 : O.length + 1 = L
  ·rw [if_pos h1, run_stop bd rfl, if_neg (by simp only [List.length_cons]; omega), show L - O.length = 1 by omega]
   rfl
  ·rw [if_neg h1, run_meas bd p L r (O ++ [x]) (by simp only [List.length_append, List.length_singleton]; omega)]
   simp only [List.length_append,List.length_nil,Nat.zero_add,List.length_cons,List.append_assoc,List.singleton_append];by_cases h2 : O.length + (r.length + 1) < L
   ·rw [if_pos (by omega),if_pos h2]
   ·rw [if_neg (by omega), if_neg h2]
    obtain ⟨m,hm⟩ : ∃ m,L - O.length = m + 1 := ⟨L - O.length - 1,by omega⟩
    rw [hm,show L - (O.length + 1) = m by omega,List.take_succ_cons]
theorem run_part (bd : Nat) (p : Pz) : ∀ (l : List UInt8) (d : Dz) (O : List UInt8), d.whole = false -> csRun bd (.part p d O) l = if (dBytes d l).1 ≠ 0 then ((dBytes d l).2.1, .shut (bodyS ((dBytes d l).1 : Int))) else if (dBytes d l).2.2.2.whole then ((dBytes d l).2.1, .waits p (O ++ (dBytes d l).2.2.1)) else (l.length, .part p (dBytes d l).2.2.2 (O ++ (dBytes d l).2.2.1))
 | [],d,O,h => by rw [run_nil];simp [dBytes,h]
 | x :: r,d,O,h => by
  rw [run_cons bd rfl,csOne,dBytes];by_cases h1 : (dNext d x).1 ≠ 0
  ·rw [if_pos h1,if_pos h1,run_stop bd rfl,if_pos h1]
  ·rw [if_neg h1, if_neg h1]
   cases h2 : (dNext d x).2.2.whole with
   | true =>
    simp only [if_true,ne_eq,not_true_eq_false,if_false,h2];rw [run_stop bd rfl]
   | false =>
    simp only [Bool.false_eq_true,if_false,List.length_cons];rw [run_part bd p r _ _ h2];simp only [List.append_assoc];split
    ·rfl
    ·split <;> rfl
theorem all_head : ∀ (l : List UInt8) (p : Pz), (pBytes p l).1 = 0 -> (pBytes p l).2.2.whole = false -> (pBytes p l).2.1 = l.length
 | [],p,_,_ => rfl
 | x :: r,p,h0,h => by
  rw [pBytes] at h0 h |-
  split at h0
  ·rename_i q;exact absurd h0 q
  ·rename_i q
   rw [if_neg q] at h |-
   split at h0
   ·rename_i q2;rw [if_pos q2] at h;dsimp only at h;rw [h] at q2;simp at q2
   ·rename_i q2
    rw [if_neg q2] at h |-
    dsimp only at h0 h |-
    rw [all_head r _ h0 h,List.length_cons]
theorem all_part : ∀ (l : List UInt8) (d : Dz), (dBytes d l).1 = 0 -> (dBytes d l).2.2.2.whole = false -> (dBytes d l).2.1 = l.length
 | [],d,_,_ => rfl
 | x :: r,d,h0,h => by
  rw [dBytes] at h0 h |-
  split at h0
  ·rename_i q;exact absurd h0 q
  ·rename_i q
   rw [if_neg q] at h |-
   split at h0
   ·rename_i q2;rw [if_pos q2] at h;dsimp only at h;rw [h] at q2;simp at q2
   ·rename_i q2
    rw [if_neg q2] at h |-
    dsimp only at h0 h |-
    rw [all_part r _ h0 h,List.length_cons]
theorem dnext_wrong (d : Dz) (c : UInt8) : (dNext d c).2.2.wrong = d.wrong := by
 unfold dNext dEnd dSized dRead dTrl;repeat' split
 all_goals rfl
theorem dbytes_wrong : ∀ (l : List UInt8) (d : Dz), (dBytes d l).2.2.2.wrong = d.wrong
 | [],d => rfl
 | x :: r,d => by
  rw [dBytes];split
  ·exact dnext_wrong d x
  ·split
   ·exact dnext_wrong d x
   ·exact (dbytes_wrong r _).trans (dnext_wrong d x)
theorem begin_ofx {w : World} {c : Nat} {hd bd : Int} {bg wt : Bool} {rv bv : Value} {wr : Int} {base g : Nat} {lv fv : Value} {p : Pz} {k n : Int} {b : Bool} (h : ClB w c hd bd (stH c) bg wt (.pointer (some ⟨g, 0, none⟩)) rv bv wr) (hp : Par w base g lv fv p) (hw : p.whole = true) (hz : Sz p) (hf : Fit p) (hq : reqO p.fs p.req (p.minor : Int) = ⟨k, n, b, 0⟩) (hS : Sm p.fs)
  (R : World -> World -> Option Addr -> Int -> Prop) (hN : ∀ W,Calls Tryz.prog 63 #[frV k n b,.int .i64 bd] W fun e w' => ∃ r,e = .returned r /\ ∃ ro er,r = .tuple #[.pointer ro,.int .i64 er] /\ R W w' ro er /\ Below W.heap.size W w')
  (Post : World -> Prop) (hL : ∀ W y y3 ro er,w.heap.size <= W.heap.size -> R W y ro er -> CK y y3 c -> ClB y3 c hd bd (stB c) bg wt (.pointer (some ⟨g,0,none⟩)) (.pointer ro) bv wr -> Calls Tryz.prog 65 #[.pointer (some ⟨c,0,none⟩),.int .i64 er] y3 fun e w' => e = .returned (.tuple #[]) /\ Post w' /\ CK y3 w' c) :
  Calls Tryz.prog 47 #[.pointer (some ⟨c,0,none⟩)] w fun e w' => e = .returned (.tuple #[]) /\ Post w' /\ CK w w' c := by
 have HH := hide h;have HD := hide (head_whole hp hw hz hf);have HQ := hide (fun W l (hl : Flds W l p.fs) => req_any W p.req p.me p.ta (p.minor : Int) (p.status : Int) p.re l p.fs hl hS);rw [hq] at HQ;unfold hdC foV frVg at HQ;unfold hdV at HD;have HN := hide hN;have HLK := hide hL;unfold frV at HN;obtain ⟨-,-,-,-,-,k5,-,-,-⟩ := cl_cells h;have hcl : c < w.heap.size := lt_heap h;clear h hp hw hz hf hq hS hN hL;go_enter Tryz.func47,Tryz.ntmps47
 go_wp2_with (go_at_call 34;refine HD.out.mono ?_;rintro e w1 ⟨l,rfl,hl,bb⟩;have HL := hide (HQ.out w1 l (Flds.of_row hl));have B1 := hide bb;have hll := hl.shape)
 refine HL.out.mono ?_;rintro e w2 ⟨rfl,b2⟩;have B2 := hide (B1.out.trans (b2.mono B1.out.size));clear b2 HL B1 HD HQ k5 bb hl hll;have B3 := hide (B2.out.alloc B2.out.size (.cells #[.int .i64 k,.int .i64 n,.bool b] 83));have F3 := hide (hp_new w2 (.cells #[.int .i64 k,.int .i64 n,.bool b] 83));go_upto_region 3 with fail
 clear B2;generalize w2.alloc _ = w3 at *;generalize w2.heap.size = ff at *;have H3 := hide ((B3.out.block c hcl).trans HH.out);have f0 : w3.cell? ⟨ff,0,none⟩ = some (.int .i64 k) := cell_at F3.out 0;have f1 : w3.cell? ⟨ff,1,none⟩ = some (.int .i64 n) := cell_at F3.out 1;have f2 : w3.cell? ⟨ff,2,none⟩ = some (.bool b) := cell_at F3.out 2;obtain ⟨k0,k1,k2,k3,k4,k5,k6,k7,k8⟩ := cl_cells H3.out;have hc3 : c < w3.heap.size := lt_heap H3.out;clear k2 k3 k4 k5 k6 k7 k8;go_region_law (refine step_callg rfl 63 _ _ rfl (enters_of Tryz.func63 (by kernel_rfl) rfl) #[.agg #[.int .i64 k,.int .i64 n,.bool b],.int .i64 bd] (by simp [Act.eval]) _ (HN.out _) ?_;rintro v y ⟨ro,er,rfl,y1,y4⟩;have HY : Hid (ClB y c hd bd (stH c) bg wt (.pointer (some ⟨g,0,none⟩)) rv bv wr) := hide ((y4.block c hc3).trans H3.out);have HRD := hide (fun y3 => HLK.out w3.drew y y3 ro er B3.out.size y1);have HBY : Hid (Below w.heap.size w y) := hide (by first | exact B3.out.trans (y4.mono B3.out.size) | exact B3.out.drew.trans (y4.mono B3.out.size));have q6 := (cl_cells HY.out).2.2.2.2.2.2.1;have qz := cl_fz HY.out 6;clear y1 y4)
 all_goals
  have H4 : Hid (ClB (y.setCell ⟨c,6,none⟩ (.pointer ro)) c hd bd (stH c) bg wt (.pointer (some ⟨g,0,none⟩)) (.pointer ro) bv wr) := hide (hp_set HY.out 6 _);have C4 := hide (CK.set y c 6 (.pointer ro));have K4 := hide ((CK.of_below c HBY.out).trans C4.out);go_upto_region 4 with fail
  clear q6 qz HY HBY f0 f1 f2 k0 k1 H3 F3 B3;generalize y.setCell ⟨c,6,none⟩ (.pointer ro) = y2 at *;have q2 := (cl_cells H4.out).2.2.1;have qz := cl_fz H4.out 2;have H5 : Hid (ClB (y2.setCell ⟨c,2,none⟩ (stB c)) c hd bd (stB c) bg wt (.pointer (some ⟨g,0,none⟩)) (.pointer ro) bv wr) := hide (hp_set H4.out 2 _);have C5 := hide (C4.out.trans (CK.set y2 c 2 (stB c)));have K5 := hide (K4.out.trans (CK.set y2 c 2 (stB c)));have HL := hide (HRD.out _ C5.out H5.out);unfold stH at q2;clear H5 C4 C5 HRD;unfold stB at K5 HL;go_upto_region 5 with fail
  clear q2 qz H4 K4;generalize y2.setCell ⟨c,2,none⟩ _ = y3 at *;go_wp2_with fail
  refine HL.out.mono ?_;rintro e y4 ⟨rfl,z1,z2⟩;have HZ := hide z1;have HZ2 := hide (K5.out.trans z2);clear z1 z2 HL K5;go_wp2_with fail
  go_end0
  exact ⟨rfl,HZ.out,HZ2.out⟩
section
variable {w : World} {c : Nat} {hd bd : Int} {bg wt : Bool} {rv bv : Value} {wr : Int} {base g : Nat} {lv fv : Value} {p : Pz} {b : Bool}
theorem begin_lenx {n : Nat} (h : ClB w c hd bd (stH c) bg wt (.pointer (some ⟨g, 0, none⟩)) rv bv wr) (hp : Par w base g lv fv p) (hw : p.whole = true) (hz : Sz p) (hf : Fit p) (hq : reqO p.fs p.req (p.minor : Int) = ⟨2, (n : Int), b, 0⟩) (hS : Sm p.fs) (h0 : 0 <= bd) (hm : bd <= 9007199254740992) (hl : (n : Int) <= bd) (hn : 0 < n) :
  Calls Tryz.prog 47 #[.pointer (some ⟨c,0,none⟩)] w fun e w' => e = .returned (.tuple #[]) /\ (∃ gr g',ClB w' c hd bd (stB c) bg wt (.pointer (some ⟨g,0,none⟩)) (.pointer (some ⟨gr,0,none⟩)) bv wr /\ w.heap.size <= gr /\ w.heap.size <= g' /\ Rdr w' w.heap.size gr g' 199 203 ⟨0,false,0⟩ [.int .i64 (n : Int)]) /\ CK w w' c := by
 refine begin_ofx h hp hw hz hf hq hS (fun W y ro er => er = 0 /\ ∃ gr g',ro = some ⟨gr,0,none⟩ /\ W.heap.size <= gr /\ W.heap.size <= g' /\ Rdr y W.heap.size gr g' 199 203 ⟨0,false,0⟩ [.int .i64 (n : Int)]) (fun W => ?_) (fun w' => ∃ gr g',ClB w' c hd bd (stB c) bg wt (.pointer (some ⟨g,0,none⟩)) (.pointer (some ⟨gr,0,none⟩)) bv wr /\ w.heap.size <= gr /\ w.heap.size <= g' /\ Rdr w' w.heap.size gr g' 199 203 ⟨0,false,0⟩ [.int .i64 (n : Int)]) (fun W y y3 ro er hcW r k3 hc => ?_)
 ·have hd0 : decide (n = 0) = false := decide_eq_false (by omega)
  refine (new_of (it := 199) (ct := 203) (t := ⟨0,decide (n = 0),0⟩) (X := [.int .i64 (n : Int)]) (k := 2) (len := (n : Int)) (x := b) (most := bd) (w := W) (.inl rfl) h0 hm (by simp [isR];omega) hl (fun V => framed_len n b bd V)).mono ?_;rintro e w' ⟨gr,g2,rfl,a1,a2,a3,-,a5⟩;rw [hd0] at a5;exact ⟨_,rfl,_,_,rfl,⟨rfl,gr,g2,rfl,a1,a2,a5 rfl⟩,a3⟩
 ·obtain ⟨rfl, gr, g', rfl, a1, a2, a3⟩ := r
  have hcl : c < w.heap.size := lt_heap h;have a4 := a3.ck k3 (by omega) (by omega);refine (look_part hc a4 (.inl rfl) rfl).mono ?_;rintro e w' ⟨rfl,rfl⟩;exact ⟨rfl,⟨gr,g',hc,by omega,by omega,a4.rd,a4.fr,a4.ne,by omega,by omega⟩,CK.refl _ _⟩
theorem begin_partx {bd : Nat} (h : ClB w c hd (bd : Int) (stH c) bg wt (.pointer (some ⟨g, 0, none⟩)) rv bv wr) (hp : Par w base g lv fv p) (hw : p.whole = true) (hz : Sz p) (hf : Fit p) (hq : reqO p.fs p.req (p.minor : Int) = ⟨3, 0, b, 0⟩) (hS : Sm p.fs) (hm : bd <= 9007199254740992) :
  Calls Tryz.prog 47 #[.pointer (some ⟨c,0,none⟩)] w fun e w' => e = .returned (.tuple #[]) /\ (∃ b2 gr g' gd,ClB w' c hd (bd : Int) (stB c) bg wt (.pointer (some ⟨g,0,none⟩)) (.pointer (some ⟨gr,0,none⟩)) bv wr /\ w.heap.size <= b2 /\ PRd w' b2 gr g' gd (.slice none 0 0) (.slice none 0 0) ⟨0,false,0⟩ (dNew bd)) /\ CK w w' c := by
 refine begin_ofx h hp hw hz hf hq hS (fun W y ro er => er = 0 /\ ∃ gr g' gd,ro = some ⟨gr,0,none⟩ /\ PRd y W.heap.size gr g' gd (.slice none 0 0) (.slice none 0 0) ⟨0,false,0⟩ (dNew bd)) (fun W => ?_) (fun w' => ∃ b2 gr g' gd,ClB w' c hd (bd : Int) (stB c) bg wt (.pointer (some ⟨g,0,none⟩)) (.pointer (some ⟨gr,0,none⟩)) bv wr /\ w.heap.size <= b2 /\ PRd w' b2 gr g' gd (.slice none 0 0) (.slice none 0 0) ⟨0,false,0⟩ (dNew bd)) (fun W y y3 ro er hcW r k3 hc => ?_)
 ·refine (new_part b bd W hm).mono ?_
  rintro e w' ⟨gr,g2,gd,rfl,a1,a2,a3⟩;exact ⟨_,rfl,_,_,rfl,⟨rfl,gr,g2,gd,rfl,a2⟩,a3⟩
 ·obtain ⟨rfl, gr, g', gd, rfl, a3⟩ := r
  have hcl : c < w.heap.size := lt_heap h;have a4 := a3.keep (w' := y3) (fun k q1 q2 => k3.block k q2 (by omega));refine (look_part hc a4.rdr (.inr (.inl rfl)) rfl).mono ?_;rintro e w' ⟨rfl,rfl⟩;exact ⟨rfl,⟨_,gr,g',gd,hc,hcW,a4⟩,CK.refl _ _⟩
end
structure AK (w w' : World) (A : Nat -> Prop) : Prop where
 os : w'.os = w.os
 tape : w'.tape = w.tape
 output : w'.output = w.output
 size : w.heap.size <= w'.heap.size
 block : ∀ k,k < w.heap.size -> ¬ A k -> w'.heap[k]? = w.heap[k]?
def grow (A : Nat -> Prop) (w w' : World) (k : Nat) : Prop := A k ∨ (w.heap.size <= k /\ k < w'.heap.size)
theorem AK.refl (w : World) (A : Nat -> Prop) : AK w w A := ⟨rfl,rfl,rfl,Nat.le_refl _,fun _ _ _ => rfl⟩
theorem AK.trans {a b d : World} {A : Nat -> Prop} (h : AK a b A) (k : AK b d A) : AK a d A := ⟨k.os.trans h.os,k.tape.trans h.tape,k.output.trans h.output,Nat.le_trans h.size k.size,fun i hi hc => (k.block i (Nat.lt_of_lt_of_le hi h.size) hc).trans (h.block i hi hc)⟩
theorem AK.on {a b d : World} {A : Nat -> Prop} (h : AK a b A) (k : AK b d (grow A a b)) : AK a d A := ⟨k.os.trans h.os,k.tape.trans h.tape,k.output.trans h.output,Nat.le_trans h.size k.size,fun i hi hc => (k.block i (Nat.lt_of_lt_of_le hi h.size) (fun q => by rcases q with q | q;exact hc q;omega)).trans (h.block i hi hc)⟩
theorem AK.of_ck {w w' : World} {c : Nat} {A : Nat -> Prop} (k : CK w w' c) (h : A c) : AK w w' A := ⟨k.os,k.tape,k.output,k.size,fun i hi hA => k.block i hi (fun e => hA (by rw [e];exact h))⟩
theorem AK.of_below {w w' : World} {A : Nat -> Prop} (b : Below w.heap.size w w') : AK w w' A := ⟨b.os,b.tape,b.output,b.size,fun i hi _ => b.block i hi⟩
theorem AK.of_pk {w w' : World} {g : Nat} {lv fv lv' fv' : Value} {A : Nat -> Prop} (k : PKh w w' g lv fv lv' fv') (h : ∀ k,¬ Ap g lv fv k -> A k) : AK w w' A :=
 ⟨k.os,k.tape,k.output,k.size,fun i hi hA => by have q : Ap g lv fv i := Classical.byContradiction fun n => hA (h i n);exact k.block i hi q.1 q.2.1 q.2.2⟩
theorem AK.low {w w' : World} {A : Nat -> Prop} {B : Nat} (k : AK w w' A) (h : ∀ i,A i -> B <= i) (hB : B <= w.heap.size) : Below B w w' := ⟨k.os,k.tape,k.output,k.size,fun i hi => k.block i (by omega) (fun q => by have := h i q;omega)⟩
structure Ow (w : World) (c : Nat) (A : Nat -> Prop) : Prop where
 lo : ∀ k,A k -> 3 <= k /\ k < w.heap.size
 me : A c
theorem Ow.grow {w w' : World} {c : Nat} {A B : Nat -> Prop} (h : Ow w c A) (k : AK w w' B) : Ow w' c (grow A w w') :=
 ⟨fun i hi => by rcases hi with hi | hi;exact ⟨(h.lo i hi).1,Nat.lt_of_lt_of_le (h.lo i hi).2 k.size⟩;have := h.lo c h.me;omega,.inl h.me⟩
theorem MX.ak {w w' : World} {A : Nat -> Prop} {c : Nat} (h : MX w) (k : AK w w' A) (o : Ow w c A) : MX w' := by
 have := o.lo c o.me;exact h.of (k.block _ (by omega) (fun q => by have := (o.lo _ q).1;omega)) k.size
theorem ET.ak {w w' : World} {A : Nat -> Prop} {c : Nat} (h : ET w) (k : AK w w' A) (o : Ow w c A) : ET w' := by
 have := o.lo c o.me;exact h.of (k.block 0 (by omega) (fun q => by have := (o.lo _ q).1;omega))
theorem Bf.ak {w w' : World} {A : Nat -> Prop} {v : Value} {l : List UInt8} (h : Bf w (fun k => ¬ A k) v l) (k : AK w w' A) : Bf w' (fun k => ¬ A k) v l := by
 obtain ⟨a,n,e,h1,h2⟩ := h;refine ⟨a,n,e,h1,fun j hj => ?_⟩;obtain ⟨b,o,q1,q2,q3,q4⟩ := h2 j hj;exact ⟨b,o,q1,q2,Nat.lt_of_lt_of_le q3 k.size,by unfold World.cell? at q4 |-;rw [show (⟨b,o + j,none⟩ : Addr).block = b from rfl] at q4 |-;rw [k.block b q3 q2];exact q4⟩
theorem Par.own {w : World} {base g : Nat} {lv fv : Value} {p : Pz} (h : Par w base g lv fv p) {k : Nat} (n : ¬ Ap g lv fv k) : base <= k /\ k < w.heap.size := by
 by_cases h1 : k = g
 ·rw [h1];exact ⟨h.gb,h.lt⟩
 by_cases h2 : lv.ownBlock = some k
 ·exact h.line.lt h2
 by_cases h3 : fv.ownBlock = some k
 ·exact h.flds.lt h3
 exact absurd ⟨h1,h2,h3⟩ n
theorem Par.samex {w w' : World} {base g : Nat} {lv fv : Value} {p : Pz} (h : Par w base g lv fv p) (b : ∀ k,¬ Ap g lv fv k -> w'.heap[k]? = w.heap[k]?) : Par w' base g lv fv p :=
 ⟨(b g (fun a => a.1 rfl)).trans h.blk,h.line.frame fun k e => b k (fun a => a.2.1 e),h.flds.frame fun k e => b k (fun a => a.2.2 e),h.gb,h.gl,h.gf,h.lf⟩
def PW (w : World) (c bp g : Nat) (A : Nat -> Prop) (p : Pz) : Prop := ∃ base lv fv,Par w base g lv fv p /\ Fit p /\ Sz p /\ p.whole = true /\ c < base /\ (∀ k,¬ Ap g lv fv k -> k < bp /\ A k)
theorem PW.keep {w w' : World} {c bp g : Nat} {A : Nat -> Prop} {p : Pz} (h : PW w c bp g A p) (b : ∀ k,k < bp -> c < k -> A k -> k < w.heap.size -> w'.heap[k]? = w.heap[k]?) : PW w' c bp g A p := by
 obtain ⟨base,lv,fv,h1,h2,h3,h4,h5,h6⟩ := h;exact ⟨base,lv,fv,h1.samex fun k n => b k (h6 k n).1 (by have := (h1.own n).1;omega) (h6 k n).2 (h1.own n).2,h2,h3,h4,h5,h6⟩
theorem PW.mono {w : World} {c bp g : Nat} {A A' : Nat -> Prop} {p : Pz} (h : PW w c bp g A p) (m : ∀ k,A k -> A' k) : PW w c bp g A' p := by
 obtain ⟨base,lv,fv,h1,h2,h3,h4,h5,h6⟩ := h;exact ⟨base,lv,fv,h1,h2,h3,h4,h5,fun k n => ⟨(h6 k n).1,m k (h6 k n).2⟩⟩
theorem PW.lt {w : World} {c bp g : Nat} {A : Nat -> Prop} {p : Pz} (h : PW w c bp g A p) : c < bp := by
 obtain ⟨base,lv,fv,h1,h2,h3,h4,h5,h6⟩ := h;have := (h6 g (fun a => a.1 rfl)).1;have := h1.gb;omega
abbrev ptr (g : Nat) : Value := .pointer (some ⟨g,0,none⟩)
abbrev nils : Value := .slice none 0 0
def At (w : World) (c : Nat) (hd : Int) (bd : Nat) (A : Nat -> Prop) : CS -> Prop
 | .head p bg => ∃ base g lv fv,ClB w c hd (bd : Int) (stH c) bg false (ptr g) (.pointer none) nils 0 /\ Par w base g lv fv p /\ Fit p /\ Sz p /\ (p.whole = false /\ p.wrong = 0) /\ c < base /\ (∀ k,¬ Ap g lv fv k -> A k)
 | .meas p L O => ∃ g bp b2 gr g' bv,ClB w c hd (bd : Int) (stB c) true false (ptr g) (ptr gr) bv 0 /\ PW w c bp g A p /\ Rdr w b2 gr g' 199 203 ⟨O.length,false,0⟩ [.int .i64 ((L : Nat) : Int)] /\ Row w bp 5 bv (bc O) /\ (bp <= b2 /\ bp <= w.heap.size /\ b2 <= w.heap.size) /\ (∀ k,bv.ownBlock = some k -> k ≠ gr /\ k ≠ g') /\ (A gr /\ A g' /\ ∀ k,bv.ownBlock = some k -> A k) /\ O.length < L /\ L <= bd
 | .part p d O => ∃ g bp b2 gr g' gd lv tv bv,ClB w c hd (bd : Int) (stB c) true false (ptr g) (ptr gr) bv 0 /\ PW w c bp g A p /\ PRd w b2 gr g' gd lv tv ⟨O.length,false,0⟩ d /\ FitD d /\ (d.whole = false /\ d.wrong = 0) /\ Row w bp 5 bv (bc O) /\ (bp <= b2 /\ bp <= w.heap.size) /\ (∀ k,bv.ownBlock = some k -> ¬ fiv gr g' gd lv tv k) /\ ((∀ k,fiv gr g' gd lv tv k -> A k) /\ ∀ k,bv.ownBlock = some k -> A k) /\ O.length + (d.left + d.room) <= bd
 | .waits p O => ∃ g bp bv,ClB w c hd (bd : Int) .nilFunc false true (ptr g) (.pointer none) bv 0 /\ PW w c bp g A p /\ Row w bp 5 bv (bc O) /\ bp <= w.heap.size /\ (∀ k,bv.ownBlock = some k -> A k)
 | .shut s => ClB w c 0 0 .nilFunc false false (.pointer none) (.pointer none) nils s
theorem At.keep {w w' : World} {c : Nat} {hd : Int} {bd : Nat} {A : Nat -> Prop} {s : CS} (h : At w c hd bd A s) (hc : A c) (b : ∀ k,A k -> w'.heap[k]? = w.heap[k]?) (hs : w.heap.size <= w'.heap.size) : At w' c hd bd A s := by
 cases s with
 | head p bg =>
  obtain ⟨base,g,lv,fv,h1,h2,h3,h4,h5,h6,h7⟩ := h;exact ⟨base,g,lv,fv,(b c hc).trans h1,h2.samex fun k n => b k (h7 k n),h3,h4,h5,h6,h7⟩
 | meas p L O =>
  obtain ⟨g,bp,b2,gr,g',bv,h1,h2,h3,h4,⟨h5,h6,h7⟩,h8,⟨h9,h10,h11⟩,h12⟩ := h;exact ⟨g,bp,b2,gr,g',bv,(b c hc).trans h1,h2.keep fun k _ _ q _ => b k q,h3.same (b gr h9) (b g' h10),h4.frame fun k e => b k (h11 k e),⟨h5,by omega,by omega⟩,h8,⟨h9,h10,h11⟩,h12⟩
 | part p d O =>
  obtain ⟨g,bp,b2,gr,g',gd,lv,tv,bv,h1,h2,h3,h3a,h3b,h4,⟨h5,h6⟩,h8,⟨h10,h11⟩,h12⟩ := h;exact ⟨g,bp,b2,gr,g',gd,lv,tv,bv,(b c hc).trans h1,h2.keep fun k _ _ q _ => b k q,h3.same (fun k e => b k (h10 k e)),h3a,h3b,h4.frame fun k e => b k (h11 k e),⟨h5,by omega⟩,h8,⟨h10,h11⟩,h12⟩
 | waits p O =>
  obtain ⟨g,bp,bv,h1,h2,h4,h6,h11⟩ := h;exact ⟨g,bp,bv,(b c hc).trans h1,h2.keep fun k _ _ q _ => b k q,h4.frame fun k e => b k (h11 k e),by omega,h11⟩
 | shut s => exact (b c hc).trans h
theorem At.mono {w : World} {c : Nat} {hd : Int} {bd : Nat} {A A' : Nat -> Prop} {s : CS} (h : At w c hd bd A s) (m : ∀ k,A k -> A' k) : At w c hd bd A' s := by
 cases s with
 | head p bg =>
  obtain ⟨base,g,lv,fv,h1,h2,h3,h4,h5,h6,h7⟩ := h;exact ⟨base,g,lv,fv,h1,h2,h3,h4,h5,h6,fun k n => m k (h7 k n)⟩
 | meas p L O =>
  obtain ⟨g,bp,b2,gr,g',bv,h1,h2,h3,h4,h5,h8,⟨h9,h10,h11⟩,h12⟩ := h;exact ⟨g,bp,b2,gr,g',bv,h1,h2.mono m,h3,h4,h5,h8,⟨m _ h9,m _ h10,fun k e => m k (h11 k e)⟩,h12⟩
 | part p d O =>
  obtain ⟨g,bp,b2,gr,g',gd,lv,tv,bv,h1,h2,h3,h3a,h3b,h4,h5,h8,⟨h10,h11⟩,h12⟩ := h;exact ⟨g,bp,b2,gr,g',gd,lv,tv,bv,h1,h2.mono m,h3,h3a,h3b,h4,h5,h8,⟨fun k e => m k (h10 k e),fun k e => m k (h11 k e)⟩,h12⟩
 | waits p O =>
  obtain ⟨g,bp,bv,h1,h2,h4,h6,h11⟩ := h;exact ⟨g,bp,bv,h1,h2.mono m,h4,h6,fun k e => m k (h11 k e)⟩
 | shut s => exact h
theorem readHead_wrongx {w : World} {c : Nat} {hd bd : Int} {st : Value} {bg wt : Bool} {rv bv : Value} {wr : Int} {base g : Nat} {lv fv : Value} {p p' : Pz} {n e : Nat} {wh : Bool} (h : ClB w c hd bd st bg wt (.pointer (some ⟨g, 0, none⟩)) rv bv wr) (hp : Par w base g lv fv p) (hf : Fit p) (hm : MX w) (he : ET w) (hb : 3 <= base) (hc : c < base) (v : Value) (l : List UInt8) (hv : Bf w (Ap g lv fv) v l) (hl : l.length <= 140737488355328) (hF : pFeed p l = (n, wh, e, p')) (h0 : e ≠ 0) {A : Nat -> Prop} (hA : ∀ k, ¬ Ap g lv fv k -> A k) (hAc : A c) :
  Calls Tryz.prog 37 #[.pointer (some ⟨c,0,none⟩),v] w fun e' w' => e' = .returned (.int .i64 (n : Int)) /\ ClB w' c 0 0 .nilFunc false false (.pointer none) (.pointer none) (.slice none 0 0) (headSt e) /\ AK w w' A := by
 have HF := hide (hfeed_any hp hf hm he hb v l hv hl);rw [hF] at HF;unfold fdV at HF;dsimp only at HF;obtain ⟨-,-,-,-,-,k5,-,-,-⟩ := cl_cells h;have HH := hide h;have hcl : c < w.heap.size := lt_heap h;have HC : Hid (∀ w' lv' fv',PKh w w' g lv fv lv' fv' -> w'.heap[c]? = w.heap[c]? /\ AK w w' A) := hide (fun w' lv' fv' k => ⟨k.block c hcl (by have := hp.gb;omega) (fun e => by have := (hp.line.lt e).1;omega) (fun e => by have := (hp.flds.lt e).1;omega),AK.of_pk k hA⟩);clear h hp hf hm he hv hF hA;have t0 : ((e : Int) == 0) = false := by simpa using h0
 unfold headSt;by_cases h85 : e = 85
 ·subst h85
  rw [if_pos rfl];rw [show ((85 : Nat) : Int) = 85 from rfl] at HF;go_enter Tryz.func37,Tryz.ntmps37
  go_wp2_with (first | (go_at_call 46;refine HF.out.mono ?_;rintro e w1 ⟨rfl,lv',fv',y1,y2⟩;have HL := hide (HC.out _ _ _ y2).2;have HW := hide (refuse_any ((HC.out _ _ _ y2).1.trans HH.out) 431);have hs1 := y2.size;clear y1 y2) | (go_at_call 28;refine HW.out.mono ?_;rintro e w2 ⟨rfl,z1,z2⟩;have HZ := hide z1;have HZ3 := hide (HL.out.trans (AK.of_ck z2 hAc));clear z1 z2))
  go_ret
  exact ⟨rfl,HZ.out,HZ3.out⟩
 ·rw [if_neg h85]
  have t85 : ((e : Int) == 85) = false := by
   have : ¬ (e : Int) = 85 := by omega
   simpa using this
  have n85 : ¬ (e : Int) = 85 := by omega
  go_enter Tryz.func37,Tryz.ntmps37
  go_wp2_with (first | (go_at_call 46;refine HF.out.mono ?_;rintro e w1 ⟨rfl,lv',fv',y1,y2⟩;have HL := hide (HC.out _ _ _ y2).2;have HW := hide (refuse_any ((HC.out _ _ _ y2).1.trans HH.out) 400);have hs1 := y2.size;clear y1 y2) | (go_at_call 28;refine HW.out.mono ?_;rintro e w2 ⟨rfl,z1,z2⟩;have HZ := hide z1;have HZ3 := hide (HL.out.trans (AK.of_ck z2 hAc));clear z1 z2))
  go_ret
  exact ⟨rfl,HZ.out,HZ3.out⟩
theorem readHead_ofx {w : World} {c : Nat} {hd bd : Int} {bg wt : Bool} {rv bv : Value} {wr : Int} {base g : Nat} {lv fv : Value} {p p' : Pz} {n : Nat} (h : ClB w c hd bd (stH c) bg wt (.pointer (some ⟨g, 0, none⟩)) rv bv wr) (hp : Par w base g lv fv p) (hf : Fit p) (hm : MX w) (he : ET w) (hb : 3 <= base) (hc : c < base) (v : Value) (l : List UInt8) (hv : Bf w (Ap g lv fv) v l) (hl : l.length <= 140737488355328) (hF : pFeed p l = (n, true, 0, p'))
  {A : Nat -> Prop} (hA : ∀ k,¬ Ap g lv fv k -> A k) (hAc : A c) (Post : World -> Prop) (hB : ∀ (w1 : World) (lv' fv' : Value),Par w1 base g lv' fv' p' -> PKh w w1 g lv fv lv' fv' -> ClB w1 c hd bd (stH c) bg wt (.pointer (some ⟨g,0,none⟩)) rv bv wr -> Calls Tryz.prog 47 #[.pointer (some ⟨c,0,none⟩)] w1 fun e w' => e = .returned (.tuple #[]) /\ Post w' /\ CK w1 w' c) :
  Calls Tryz.prog 37 #[.pointer (some ⟨c,0,none⟩),v] w fun e w' => e = .returned (.int .i64 (n : Int)) /\ Post w' /\ AK w w' A := by
 have HF := hide (hfeed_any hp hf hm he hb v l hv hl);rw [hF] at HF;unfold fdV at HF;dsimp only at HF;obtain ⟨-,-,-,-,-,k5,-,-,-⟩ := cl_cells h;have HH := hide h;have hcl : c < w.heap.size := lt_heap h;have HC : Hid (∀ w' lv' fv',PKh w w' g lv fv lv' fv' -> w'.heap[c]? = w.heap[c]? /\ AK w w' A) := hide (fun w' lv' fv' k => ⟨k.block c hcl (by have := hp.gb;omega) (fun e => by have := (hp.line.lt e).1;omega) (fun e => by have := (hp.flds.lt e).1;omega),AK.of_pk k hA⟩);have HB := hide hB;clear h hp hf hm he hv hF hB hA;go_enter Tryz.func37,Tryz.ntmps37
 go_wp2_with (go_at_call 46;refine HF.out.mono ?_;rintro e w1 ⟨rfl,lv',fv',y1,y2⟩;have HY := hide y1;have HX := hide (HB.out w1 lv' fv' y1 y2 ((HC.out _ _ _ y2).1.trans HH.out));have HL := hide (HC.out _ _ _ y2).2;have hs1 := y2.size;clear y1 y2)
 refine HX.out.mono ?_;rintro e w2 ⟨rfl,z1,z2⟩;have HZ := hide z1;have HZ3 := hide (HL.out.trans (AK.of_ck z2 hAc));clear z1 z2 HX HL HY;go_wp2_with fail
 go_ret
 exact ⟨rfl,HZ.out,HZ3.out⟩
theorem Par.up {w w' : World} {base g : Nat} {lv fv : Value} {p : Pz} {c bp : Nat} {A : Nat -> Prop} (h : Par w base g lv fv p) (k : CK w w' c) (hc : c < base) (hf : Fit p) (hz : Sz p) (hw : p.whole = true) (hA : ∀ k,¬ Ap g lv fv k -> A k) (hb : w.heap.size <= bp) : PW w' c bp g A p :=
 ⟨base,lv,fv,h.ck k hc,hf,hz,hw,hc,fun i n => ⟨Nat.lt_of_lt_of_le (h.own n).2 hb,hA i n⟩⟩
theorem PRd.base_le2 {w : World} {base gr g gd : Nat} {lv tv : Value} {t : Tal} {d : Dz} (h : PRd w base gr g gd lv tv t d) {k : Nat} (hk : fiv gr g gd lv tv k) : base <= k := by
 rcases hk with rfl | rfl | rfl | e | e
 ·exact h.rdr.rb
 ·exact h.rdr.fb
 ·exact h.pt.dec.gb
 ·exact (h.pt.dec.line.lt e).1
 ·exact (h.pt.dec.trs.lt e).1
theorem d_le2 : ∀ (l : List UInt8) (d : Dz), (dBytes d l).2.1 <= l.length
 | [],d => by simp [dBytes]
 | x :: r,d => by
  unfold dBytes;have := d_le2 r (dNext d x).2.2;split
  ·simp
  ·split
   ·simp
   ·simp only [List.length_cons];omega
theorem d_pos2 (x : UInt8) (r : List UInt8) (d : Dz) : 1 <= (dBytes d (x :: r)).2.1 := by
 unfold dBytes;split
 ·exact Nat.le_refl _
 ·split
  ·exact Nat.le_refl _
  ·simp only;omega
theorem forget_isx (d : Dz) (h : d.whole = false) (h0 : d.wrong = 0) : dForget { d with wrong := 0 } = d := by
 unfold dForget overB;cases d
 simp_all
theorem Bs.of_bfx {w : World} {A : Nat -> Prop} {v : Value} {l : List UInt8} (h : Bf w A v l) : Bs w w.heap.size v l := by
 obtain ⟨a,n,e,h1,h2⟩ := h;refine ⟨a,n,e,h1,fun j hj => ?_⟩;obtain ⟨b,o,q1,q2,q3,q4⟩ := h2 j hj;exact ⟨b,o,q1,q3,q3,q4⟩
theorem Bf.impx {w : World} {A B : Nat -> Prop} {v : Value} {l : List UInt8} (h : Bf w A v l) (m : ∀ k,A k -> B k) : Bf w B v l := by
 obtain ⟨a,n,e,h1,h2⟩ := h;refine ⟨a,n,e,h1,fun j hj => ?_⟩;obtain ⟨b,o,q1,q2,q3⟩ := h2 j hj;exact ⟨b,o,q1,m b q2,q3⟩
theorem sm_ofy {p : Pz} (hf : Fit p) (hz : Sz p) : Sm p.fs := ⟨by have := hf.fs;omega,fun f hfm => by have := hz.fs f hfm;omega⟩
theorem begin_at {w : World} {c base g : Nat} {hd : Int} {bd : Nat} {lv fv : Value} {p : Pz} {A : Nat -> Prop} (hbd : bd <= 1048576) (h : ClB w c hd (bd : Int) (stH c) true false (ptr g) (.pointer none) nils 0) (hp : Par w base g lv fv p) (hf : Fit p) (hz : Sz p) (hw : p.whole = true) (hcb : c < base) (hA : ∀ k, ¬ Ap g lv fv k -> A k) :
  Calls Tryz.prog 47 #[.pointer (some ⟨c,0,none⟩)] w fun e w' => e = .returned (.tuple #[]) /\ At w' c hd bd (grow A w w') (csBegin bd p) /\ CK w w' c := by
 have hS := sm_ofy hf hz;have hcl := lt_heap h;have mo : ∀ (w' : World) k,A k -> grow A w w' k := fun w' k q => .inl q
 rcases reqO_cases p.fs p.req (p.minor : Int) with q | ⟨b,q⟩ | ⟨m,b,q,hm9⟩ | ⟨b,q⟩
 ·obtain ⟨k, m, b, e, hq⟩ : ∃ k m b e, reqO p.fs p.req (p.minor : Int) = ⟨k, m, b, e⟩ := ⟨_, _, _, _, rfl⟩
  have e1 : csBegin bd p = .shut 400 := by unfold csBegin;rw [if_pos q]
  rw [hq] at q;rw [e1];exact begin_wrong h hp hw hz hf hq q hS
 ·have e1 : csBegin bd p = .waits p [] := by unfold csBegin; rw [q]; simp
  rw [e1];refine (begin_none h hp hw hz hf q hS (by omega) (by omega)).mono ?_;rintro e w' ⟨rfl,y1,y2⟩;exact ⟨rfl,⟨g,w.heap.size,nils,y1,(hp.up y2 hcb hf hz hw hA (Nat.le_refl _)).mono (mo w'),Row.nil _ _ _,y2.size,fun k e => by simp [Value.ownBlock] at e⟩,y2⟩
 ·by_cases hlong : (bd : Int) < (m : Int)
  ·have e1 : csBegin bd p = .shut 413 := by unfold csBegin; rw [q]; simp; omega
   rw [e1];exact begin_long h hp hw hz hf q hS (by omega) (by omega) (by omega) hlong
  ·by_cases hm0 : m = 0
   ·subst hm0
    have e1 : csBegin bd p = .waits p [] := by unfold csBegin;rw [q];simp
    rw [e1];refine (begin_len0 h hp hw hz hf q hS (by omega) (by omega)).mono ?_;rintro e w' ⟨rfl,y1,y2⟩;exact ⟨rfl,⟨g,w.heap.size,nils,y1,(hp.up y2 hcb hf hz hw hA (Nat.le_refl _)).mono (mo w'),Row.nil _ _ _,y2.size,fun k e => by simp [Value.ownBlock] at e⟩,y2⟩
   ·have e1 : csBegin bd p = .meas p m [] := by
     have h1 : ¬ bd < m := by omega
     unfold csBegin;rw [q];simp [hm0,h1]
    rw [e1];refine (begin_lenx h hp hw hz hf q hS (by omega) (by omega) (by omega) (by omega)).mono ?_;rintro e w' ⟨rfl,⟨gr,g',y1,y3,y4,y5⟩,y2⟩;exact ⟨rfl,⟨g,w.heap.size,w.heap.size,gr,g',nils,y1,(hp.up y2 hcb hf hz hw hA (Nat.le_refl _)).mono (mo w'),y5,Row.nil _ _ _,⟨Nat.le_refl _,y2.size,y2.size⟩,fun k e => by simp [Value.ownBlock] at e,⟨.inr ⟨y3,lt_heap' y5.rd⟩,.inr ⟨y4,lt_heap' y5.fr⟩,fun k e => by simp [Value.ownBlock] at e⟩,by show 0 < m;omega,by omega⟩,y2⟩
 ·have e1 : csBegin bd p = .part p (dNew bd) [] := by unfold csBegin; rw [q]; simp
  rw [e1];refine (begin_partx h hp hw hz hf q hS (by omega)).mono ?_;rintro e w' ⟨rfl,⟨b2,gr,g',gd,y1,y3,y4⟩,y2⟩;exact ⟨rfl,⟨g,w.heap.size,b2,gr,g',gd,_,_,nils,y1,(hp.up y2 hcb hf hz hw hA (Nat.le_refl _)).mono (mo w'),y4,fit_dnew bd (by omega),⟨rfl,rfl⟩,Row.nil _ _ _,⟨y3,y2.size⟩,fun k e => by simp [Value.ownBlock] at e,⟨fun k z => .inr ⟨by have := y4.base_le2 z;omega,y4.fiv_lt z⟩,fun k e => by simp [Value.ownBlock] at e⟩,by show 0 + (0 + bd) <= bd;omega⟩,y2⟩
def StQ (w : World) (c : Nat) (hd : Int) (bd : Nat) (A : Nat -> Prop) (s : CS) (l : List UInt8) (e : Ending) (w' : World) : Prop :=
 ∃ (k : Nat) (s' : CS),e = .returned (.int .i64 (k : Int)) /\ (1 <= k /\ k <= l.length) /\ csRun bd s l = (k + (csRun bd s' (l.drop k)).1,(csRun bd s' (l.drop k)).2) /\ At w' c hd bd (grow A w w') s' /\ AK w w' A
section
variable {w : World} {c : Nat} {hd : Int} {bd : Nat} {A : Nat -> Prop} {p : Pz}
theorem hd_at (hbd : bd <= 1048576) (h : At w c hd bd A (.head p true)) (ho : Ow w c A) (hm : MX w) (he : ET w) (va : Option Addr) (vc : Nat) (x : UInt8) (r : List UInt8) (hv : Bf w (fun k => ¬ A k) (.slice va (x :: r).length vc) (x :: r)) (hl : (x :: r).length <= 70368744177664) :
  Calls Tryz.prog 37 #[.pointer (some ⟨c,0,none⟩),.slice va (x :: r).length vc] w (StQ w c hd bd A (.head p true) (x :: r)) := by
 obtain ⟨base,g,lv,fv,hc,hp,hf,hz,⟨hw0,hw1⟩,hcb,hA⟩ := h;have h3 := (ho.lo c ho.me).1;have hV : Bf w (Ap g lv fv) (.slice va (x :: r).length vc) (x :: r) := hv.impx fun k n => Classical.byContradiction fun q => n (hA k q)
 have hrun := run_head bd (x :: r) p hw0;have hk1 := by_pos x r p;have hk2 := by_le (x :: r) p;have hall := all_head (x :: r) p;have hf2 := hf.feed (x :: r);have hz2 := hz.feed hf (x :: r);have hwr := bytes_wrong (x :: r) p hf;generalize hL : x :: r = l at *;obtain ⟨er,n,q,hB⟩ : ∃ er n q,pBytes p l = (er,n,q) := ⟨_,_,_,rfl⟩
 have hF : pFeed p l = (n,q.whole,er,if er = 0 then (if q.whole then pShut q else q) else pBad q er) := by
  unfold pFeed;rw [if_neg (by simp [hw0,hw1]),hB];dsimp only;by_cases h0 : er = 0
  ·rw [if_pos h0,if_pos h0,h0]
  ·rw [if_neg h0,if_neg h0]
 rw [hB] at hrun hk1 hk2 hall hwr;rw [hF] at hf2 hz2;dsimp only at hrun hk1 hk2 hall hwr hf2 hz2;by_cases h0 : er = 0
 ·subst h0
  rw [if_neg (by simp)] at hrun;rw [if_pos rfl] at hF hf2 hz2;cases hw : q.whole with
  | false =>
   rw [hw] at hF hrun hf2 hz2;simp only [Bool.false_eq_true,if_false] at hF hrun hf2 hz2;have hn := hall rfl hw;refine (readHead_part hc hp hf hm he (by omega) hcb _ _ hV (by omega) hF).mono ?_;rintro e w' ⟨rfl,y1,lv',fv',y2,y3⟩;refine ⟨n,.head q true,rfl,⟨hk1,hk2⟩,?_,⟨base,g,lv',fv',y1,y2,hf2,hz2,⟨hw,hwr.trans hw1⟩,hcb,fun k nk => ?_⟩,AK.of_pk y3 hA⟩
   ·rw [hrun, hn, List.drop_length, run_nil]
    rfl
   ·by_cases hk : k < w.heap.size
    ·left
     refine hA k fun a => nk ⟨a.1,y3.la k hk a.2.1,y3.fa k hk a.2.2⟩
    ·exact .inr ⟨by omega,(y2.own nk).2⟩
  | true =>
   rw [hw] at hF hrun hf2 hz2;simp only [if_true] at hF hrun hf2 hz2;refine (readHead_ofx hc hp hf hm he (by omega) hcb _ _ hV (by omega) hF hA ho.me (fun w' => At w' c hd bd (grow A w w') (csBegin bd (pShut q))) fun w1 lv' fv' y1 y2 y3 => ?_).mono ?_
   ·refine (begin_at (A := grow A w w1) hbd y3 y1 hf2 hz2 (by exact hw) hcb fun k nk => ?_).mono ?_
    ·by_cases hk : k < w.heap.size
     ·left
      refine hA k fun a => nk ⟨a.1,y2.la k hk a.2.1,y2.fa k hk a.2.2⟩
     ·exact .inr ⟨by omega,(y1.own nk).2⟩
    ·rintro e w' ⟨rfl, z1, z2⟩
     refine ⟨rfl,z1.mono fun k hk => ?_,z2⟩;have s1 := y2.size;have s2 := z2.size;rcases hk with (hk | hk) | hk
     ·exact .inl hk
     ·exact .inr ⟨hk.1,by omega⟩
     ·exact .inr ⟨by omega,hk.2⟩
   ·rintro e w' ⟨rfl, y1, y2⟩
    exact ⟨n,_,rfl,⟨hk1,hk2⟩,hrun,y1,y2⟩
 ·rw [if_pos h0] at hrun
  rw [if_neg h0] at hF;refine (readHead_wrongx hc hp hf hm he (by omega) hcb _ _ hV (by omega) hF h0 hA ho.me).mono ?_;rintro e' w' ⟨rfl,y1,y2⟩;refine ⟨n,.shut (headSt er),rfl,⟨hk1,hk2⟩,?_,y1,y2⟩;rw [hrun,run_stop bd rfl];rfl
theorem ms_at {L : Nat} {O : List UInt8} (hbd : bd <= 1048576) (h : At w c hd bd A (.meas p L O)) (ho : Ow w c A) (va : Option Addr) (vc : Nat) (x : UInt8) (r : List UInt8) (hv : Bf w (fun k => ¬ A k) (.slice va (x :: r).length vc) (x :: r)) (hs : Shp (.slice va (x :: r).length vc)) (hl : (x :: r).length <= 70368744177664) :
  Calls Tryz.prog 64 #[.pointer (some ⟨c,0,none⟩),.slice va (x :: r).length vc] w (StQ w c hd bd A (.meas p L O) (x :: r)) := by
 obtain ⟨g,bp,b2,gr,g',bv,hc,hp,hr,hrow,⟨c1,c2,c3⟩,hap,⟨a1,a2,a3⟩,hO,hL⟩ := h;have hcp := hp.lt;have hb1 := hr.rb;have hb2 := hr.fb;have hrun := run_meas bd p L (x :: r) O hO;refine (readBody_meas hc hr hrow hcp (by omega) (by omega) hap c2 c3 _ (x :: r) (Bs.of_bfx hv) hs (by omega) (by show O.length <= L;omega) rfl (by omega) (by omega)).mono ?_;rintro e w' ⟨rfl,v',y1,y2,y3,y4,y5⟩;have hk : tkN (x :: r) L O.length = min (x :: r).length (L - O.length) := rfl;have hlen : 1 <= (x :: r).length := by simp
 have hB : AK w w' A := ⟨y5.os,y5.tape,y5.output,y5.size,fun k hk n => y5.block k hk (fun e => n (by rw [e];exact ho.me)) (fun e => n (by rw [e];exact a1)) (fun e => n (by rw [e];exact a2)) (fun e => n (a3 k e))⟩;have hP : PW w' c bp g (grow A w w') p := (hp.keep fun k k1 k2 _ k4 => y5.block k k4 (by omega) (by omega) (by omega) (fun e => by have := (hrow.lt e).1;omega)).mono fun k q => .inl q
 have hv' : ∀ k,v'.ownBlock = some k -> grow A w w' k := fun k e => by
  by_cases hk : k < w.heap.size
  ·by_cases hb : bv.ownBlock = some k
   ·exact .inl (a3 k hb)
   ·exact absurd e (y2 k hk hb)
  ·exact .inr ⟨by omega,(y1.lt e).2⟩
 by_cases hd' : O.length + tkN (x :: r) L O.length = L
 ·refine ⟨_, .waits p (O ++ (x :: r).take (L - O.length)), rfl, ⟨by show 1 <= tkN (x :: r) L O.length; omega, by show tkN (x :: r) L O.length <= _; omega⟩, ?_, ⟨g, bp, v', y3 hd', hP, ?_, Nat.le_trans c2 y5.size, hv'⟩, hB⟩
  ·rw [hrun, if_neg (by omega), run_stop bd rfl]
   show (L - O.length,_) = (tkN (x :: r) L O.length + 0,_)
   rw [show tkN (x :: r) L O.length = L - O.length by omega];rfl
  ·rw [show tkN (x :: r) L (Tal.got ⟨O.length, false, 0⟩) = L - O.length from by show tkN (x :: r) L O.length = _; omega] at y1
   exact y1
 ·obtain ⟨z1, z2⟩ := y4 hd'
  have ht : tkN (x :: r) L O.length = (x :: r).length := by omega
  rw [show tkN (x :: r) L (Tal.got ⟨O.length,false,0⟩) = (x :: r).length from ht,List.take_length] at y1;rw [show (⟨O.length,false,0⟩ : Tal).got + tkN (x :: r) L (Tal.got ⟨O.length,false,0⟩) = (O ++ (x :: r)).length from by rw [List.length_append];show O.length + tkN (x :: r) L O.length = _;omega] at z2;refine ⟨_,.meas p L (O ++ (x :: r)),rfl,⟨by show 1 <= tkN (x :: r) L O.length;omega,by show tkN (x :: r) L O.length <= _;omega⟩,?_,⟨g,bp,b2,gr,g',v',z1,hP,z2,y1,⟨c1,Nat.le_trans c2 y5.size,Nat.le_trans c3 y5.size⟩,fun k e => ⟨fun q => ?_,fun q => ?_⟩,⟨.inl a1,.inl a2,hv'⟩,by rw [List.length_append];omega,hL⟩,hB⟩
  ·rw [hrun, if_pos (by omega)]
   show _ = (tkN (x :: r) L O.length + _,_)
   rw [ht,List.drop_length,run_nil];rfl
  ·subst q
   exact y2 k (lt_heap' hr.rd) (fun z => (hap k z).1 rfl) e
  ·subst q
   exact y2 k (lt_heap' hr.fr) (fun z => (hap k z).2 rfl) e
theorem pt_at {d : Dz} {O : List UInt8} (hbd : bd <= 1048576) (h : At w c hd bd A (.part p d O)) (ho : Ow w c A) (hm : MX w) (va : Option Addr) (vc : Nat) (x : UInt8) (r : List UInt8) (hv : Bf w (fun k => ¬ A k) (.slice va (x :: r).length vc) (x :: r)) (hs : Shp (.slice va (x :: r).length vc)) (hl : (x :: r).length <= 70368744177664) :
  Calls Tryz.prog 64 #[.pointer (some ⟨c,0,none⟩),.slice va (x :: r).length vc] w (StQ w c hd bd A (.part p d O) (x :: r)) := by
 obtain ⟨g,bp,b2,gr,g',gd,lv,tv,bv,hc,hp,hr,hf,⟨hw,hwr⟩,hrow,⟨c1,c2⟩,hap,⟨a1,a3⟩,t1⟩ := h;have hcp := hp.lt;have h3 := (ho.lo c ho.me).1;have hroom := bytes_room (x :: r) d;have hrun := run_part bd p (x :: r) d O hw;have hall := all_part (x :: r) d;have hdw := dbytes_wrong (x :: r) d;have f2 := fit_dbytes (x :: r) d hf;have k1 := d_pos2 x r d;have k2 := d_le2 (x :: r) d
 refine (readBody_part hc hr hf hw hwr hm (by omega) hrow hcp (fun z => by have := hr.base_le2 z;omega) hap c2 (A := fun k => ¬ A k /\ k < w.heap.size) va vc (x :: r) (by
   obtain ⟨a,n,e,h1,h2⟩ := hv;refine ⟨a,n,e,h1,fun j hj => ?_⟩;obtain ⟨b,o,q1,q2,q3⟩ := h2 j hj;exact ⟨b,o,q1,⟨q2,q3.1⟩,q3⟩) hs (fun k z q => q.1 (a1 k z)) (fun k q => q.2) hl (by show O.length <= _;omega) (by omega)).mono ?_
 rintro e w' ⟨rfl,y1,y2,y3⟩;have hB : AK w w' A := ⟨y1.os,y1.tape,y1.output,y1.size,fun k hk n => y1.block k hk (fun e => n (by rw [e];exact ho.me)) (fun z => n (a1 k z)) (fun e => n (a3 k e))⟩;have hP : PW w' c bp g (grow A w w') p := (hp.keep fun k k1 k2 _ k4 => y1.block k k4 (by omega) (fun z => by have := hr.base_le2 z;omega) (fun e => by have := (hrow.lt e).1;omega)).mono fun k q => .inl q
 by_cases h0 : (dBytes d (x :: r)).1 = 0
 ·obtain ⟨v', z1, z2, z3, z4⟩ := y3 h0
  rw [if_neg (by simpa using h0)] at hrun
  have hv' : ∀ k,v'.ownBlock = some k -> grow A w w' k := fun k e => by
   by_cases hk : k < w.heap.size
   ·by_cases hb : bv.ownBlock = some k
    ·exact .inl (a3 k hb)
    ·exact absurd e (z2 k hk hb)
   ·exact .inr ⟨by omega,(z1.lt e).2⟩
  cases hwh : (dBytes d (x :: r)).2.2.2.whole with
  | true =>
   rw [if_pos hwh] at hrun;refine ⟨_,.waits p (O ++ (dBytes d (x :: r)).2.2.1),rfl,⟨k1,k2⟩,?_,⟨g,bp,v',z3 hwh,hP,z1,Nat.le_trans c2 y1.size,hv'⟩,hB⟩;rw [hrun,run_stop bd rfl];rfl
  | false =>
   rw [if_neg (by simp [hwh])] at hrun;obtain ⟨q1,lv',tv',q2,q3,q4⟩ := z4 hwh;rw [forget_isx _ hwh (hdw.trans hwr)] at q2;rw [show (⟨O.length,false,0⟩ : Tal).got + (dBytes d (x :: r)).2.2.1.length = (O ++ (dBytes d (x :: r)).2.2.1).length from by rw [List.length_append]] at q2;refine ⟨_,.part p (dBytes d (x :: r)).2.2.2 (O ++ (dBytes d (x :: r)).2.2.1),rfl,⟨k1,k2⟩,?_,⟨g,bp,b2,gr,g',gd,lv',tv',v',q1,hP,q2,f2,⟨hwh,hdw.trans hwr⟩,z1,⟨c1,Nat.le_trans c2 y1.size⟩,q4,⟨fun k z => ?_,hv'⟩,?_⟩,hB⟩
   ·rw [hrun, hall h0 hwh, List.drop_length, run_nil]
    rfl
   ·by_cases hk : k < w.heap.size
    ·left
     exact a1 k (Classical.byContradiction fun n => q3 k hk n z)
    ·exact .inr ⟨by omega,q2.fiv_lt z⟩
   ·rw [List.length_append]
    omega
 ·rw [if_pos h0] at hrun
  refine ⟨_,.shut (bodyS ((dBytes d (x :: r)).1 : Int)),rfl,⟨k1,k2⟩,?_,y2 h0,hB⟩;rw [hrun,run_stop bd rfl];rfl
end
theorem Bf.fromx {w : World} {A : Nat -> Prop} {bk o vc : Nat} {l : List UInt8} (h : Bf w A (.slice (some ⟨bk,o,none⟩) l.length vc) l) (k : Nat) (hk : k <= l.length) : Bf w A (.slice (some ⟨bk,o + k,none⟩) (l.drop k).length (vc - k)) (l.drop k) := by
 obtain ⟨a,n,e,h1,h2⟩ := h;simp only [Value.slice.injEq,true_and] at e;obtain ⟨rfl,rfl⟩ := e;refine ⟨_,_,rfl,by rw [List.length_drop];omega,fun j hj => ?_⟩;rw [List.length_drop] at hj;obtain ⟨b,o',q1,q2,q3,q4⟩ := h2 (k + j) (by omega);simp only [Option.some.injEq,Addr.mk.injEq,and_true] at q1;obtain ⟨rfl,rfl⟩ := q1;exact ⟨bk,o + k,rfl,q2,q3,by rw [Nat.add_assoc];simpa using q4⟩
theorem Bf.grow {w w' : World} {A : Nat -> Prop} {v : Value} {l : List UInt8} (h : Bf w (fun k => ¬ A k) v l) (k : AK w w' A) : Bf w' (fun k => ¬ grow A w w' k) v l := by
 obtain ⟨a,n,e,h1,h2⟩ := h.ak k;obtain ⟨a',n',e',h1',h2'⟩ := h;rw [e] at e';simp only [Value.slice.injEq,true_and] at e';obtain ⟨rfl,rfl⟩ := e';refine ⟨a,n,e,h1,fun j hj => ?_⟩;obtain ⟨b,o,q1,q2,q3,q4⟩ := h2 j hj;obtain ⟨b',o',p1,p2,p3,p4⟩ := h2' j hj;rw [q1] at p1;simp only [Option.some.injEq,Addr.mk.injEq,and_true] at p1;obtain ⟨rfl,rfl⟩ := p1;exact ⟨b,o,q1,fun g => by rcases g with g | g;exact q2 g;omega,q3,q4⟩
def CS.bgn : CS -> CS
 | .head p _ => .head p true
 | s => s
theorem run_bgn (bd : Nat) (s : CS) (x : UInt8) (r : List UInt8) : csRun bd s.bgn (x :: r) = csRun bd s (x :: r) := by
 cases s with
 | head p bg => exact (run_head0 bd p bg x r).symm
 | _ => rfl
section
variable {w : World} {c : Nat} {hd : Int} {bd : Nat} {A : Nat -> Prop} {s : CS}
theorem At.cl (h : At w c hd bd A s) (g : s.goes = true) : ∃ f st bg pv rv bv,(f = 37 ∨ f = 64) /\ st = .func (.func f) #[.pointer (some ⟨c,0,none⟩)] #[] /\ ClB w c hd (bd : Int) st bg false pv rv bv 0 := by
 cases s with
 | head p bg => obtain ⟨base,g,lv,fv,hc,-⟩ := h;exact ⟨_,_,_,_,_,_,.inl rfl,rfl,hc⟩
 | meas p L O => obtain ⟨g,bp,b2,gr,g',bv,hc,-⟩ := h;exact ⟨_,_,_,_,_,_,.inr rfl,rfl,hc⟩
 | part p d O => obtain ⟨g,bp,b2,gr,g',gd,lv,tv,bv,hc,-⟩ := h;exact ⟨_,_,_,_,_,_,.inr rfl,rfl,hc⟩
 | waits p O => cases g
 | shut s => cases g
theorem At.nil (h : At w c hd bd A s) (g : s.goes = false) : w.cell? ⟨c,2,none⟩ = some .nilFunc /\ w.cell? ⟨c,4,none⟩ = some (.bool s.told) := by
 cases s with
 | head p bg => cases g
 | meas p L O => cases g
 | part p d O => cases g
 | waits p O => obtain ⟨g,bp,bv,hc,-⟩ := h;exact ⟨(cl_cells hc).2.2.1,(cl_cells hc).2.2.2.2.1⟩
 | shut s => exact ⟨(cl_cells h).2.2.1,(cl_cells h).2.2.2.2.1⟩
theorem told_goes (g : s.goes = true) : s.told = false := by cases s <;> first | rfl | cases g
theorem At.begun {W : World} (h : At w c hd bd A s) (g : s.goes = true) (hW : W.heap = (w.setCell ⟨c,3,none⟩ (.bool true)).heap) : At W c hd bd A s.bgn := by
 have ck : ∀ k,k ≠ c -> W.heap[k]? = w.heap[k]? := fun k hkc => by rw [hW];exact Below.heap_setCell w ⟨c,3,none⟩ (.bool true) k hkc
 have hs : w.heap.size <= W.heap.size := by rw [hW];exact (CK.set w c 3 (.bool true)).size
 cases s with
 | head p bg =>
  obtain ⟨base,g,lv,fv,h1,h2,h3,h4,h5,h6,h7⟩ := h;exact ⟨base,g,lv,fv,by show W.heap[c]? = _;rw [hW];exact hp_set h1 3 _,h2.samex fun k n => ck k (by have := (h2.own n).1;omega),h3,h4,h5,h6,h7⟩
 | meas p L O =>
  obtain ⟨g,bp,b2,gr,g',bv,h1,h2,h3,h4,⟨h5,h6,h7⟩,h8,h9,h12⟩ := h;have hcp := h2.lt;exact ⟨g,bp,b2,gr,g',bv,by show W.heap[c]? = _;rw [hW];exact hp_set h1 3 _,h2.keep fun k _ q _ _ => ck k (by omega),h3.same (ck gr (by have := h3.rb;omega)) (ck g' (by have := h3.fb;omega)),h4.frame fun k e => ck k (by have := (h4.lt e).1;omega),⟨h5,by omega,by omega⟩,h8,h9,h12⟩
 | part p d O =>
  obtain ⟨g,bp,b2,gr,g',gd,lv,tv,bv,h1,h2,h3,h3a,h3b,h4,⟨h5,h6⟩,h8,h10,h12⟩ := h;have hcp := h2.lt;exact ⟨g,bp,b2,gr,g',gd,lv,tv,bv,by show W.heap[c]? = _;rw [hW];exact hp_set h1 3 _,h2.keep fun k _ q _ _ => ck k (by omega),h3.same (fun k e => ck k (by have := h3.base_le2 e;omega)),h3a,h3b,h4.frame fun k e => ck k (by have := (h4.lt e).1;omega),⟨h5,by omega⟩,h8,h10,h12⟩
 | waits p O => cases g
 | shut s => cases g
theorem At.step (h : At w c hd bd A s.bgn) (g : s.goes = true) (ho : Ow w c A) (hbd : bd <= 1048576) (hm : MX w) (he : ET w) : ∃ f pv rv bv, (∀ args W, (callFunc f args).run Tryz.prog W = .ok (.enter f args) W) /\ (∀ W, (binOp BinOp.neq 62 (.func (.func f) #[.pointer (some ⟨c, 0, none⟩)] #[]) .nilFunc).run Tryz.prog W = .ok (.bool true) W) /\ ClB w c hd (bd : Int) (.func (.func f) #[.pointer (some ⟨c, 0, none⟩)] #[]) true false pv rv bv 0 /\
  ∀ (va : Option Addr) (vc : Nat) (x : UInt8) (r : List UInt8),Bf w (fun k => ¬ A k) (.slice va (x :: r).length vc) (x :: r) -> Shp (.slice va (x :: r).length vc) -> (x :: r).length <= 70368744177664 -> Calls Tryz.prog f #[.pointer (some ⟨c,0,none⟩),.slice va (x :: r).length vc] w (StQ w c hd bd A s.bgn (x :: r)) := by
 cases s with
 | head p bg =>
  have h' := h;obtain ⟨base,g,lv,fv,hc,-⟩ := h';exact ⟨37,_,_,_,enters_of Tryz.func37 (by kernel_rfl) rfl,ne_fun _ c,hc,fun va vc x r a1 a2 a3 => hd_at hbd h ho hm he va vc x r a1 a3⟩
 | meas p L O =>
  have h' := h;obtain ⟨g,bp,b2,gr,g',bv,hc,-⟩ := h';exact ⟨64,_,_,_,enters_of Tryz.func64 (by kernel_rfl) rfl,ne_fun _ c,hc,fun va vc x r a1 a2 a3 => ms_at hbd h ho va vc x r a1 a2 a3⟩
 | part p d O =>
  have h' := h;obtain ⟨g,bp,b2,gr,g',gd,lv,tv,bv,hc,-⟩ := h';exact ⟨64,_,_,_,enters_of Tryz.func64 (by kernel_rfl) rfl,ne_fun _ c,hc,fun va vc x r a1 a2 a3 => pt_at hbd h ho hm va vc x r a1 a2 a3⟩
 | waits p O => cases g
 | shut s => cases g
end
theorem ak_set {w : World} {c : Nat} {A : Nat -> Prop} (i : Nat) (v : Value) (h : A c) : AK w (w.setCell ⟨c,i,none⟩ v).drew A := ⟨rfl,rfl,rfl,(CK.set w c i v).size,fun k hk n => (CK.set w c i v).block k hk (fun e => n (by rw [e];exact h))⟩
def RI (bd : Nat) (s : CS) (l : List UInt8) (k : Nat) (t : CS) : Prop := csRun bd s l = (k + (csRun bd t (l.drop k)).1,(csRun bd t (l.drop k)).2)
theorem RI.go {bd : Nat} {s t t' : CS} {l : List UInt8} {k j : Nat} (h : RI bd s l k t) (q : csRun bd t (l.drop k) = (j + (csRun bd t' ((l.drop k).drop j)).1,(csRun bd t' ((l.drop k).drop j)).2)) : RI bd s l (k + j) t' := by
 unfold RI at h |-
 rw [h,q,List.drop_drop];dsimp only;rw [Nat.add_assoc]
theorem RI.fin {bd : Nat} {s t : CS} {l : List UInt8} {k : Nat} (h : RI bd s l k t) (q : l.length <= k ∨ t.goes = false) : csRun bd s l = (k,t) := by
 unfold RI at h
 have e : csRun bd t (l.drop k) = (0,t) := by
  rcases q with q | q
  ·rw [List.drop_eq_nil_of_le q];exact run_nil bd t
  ·exact run_stop bd q _
 rw [h,e];rfl
theorem cread_at {w : World} {c : Nat} {hd : Int} {bd : Nat} {A : Nat -> Prop} {s : CS} (h : At w c hd bd A s) (ho : Ow w c A) (hbd : bd <= 1048576) (hm : MX w) (he : ET w) (bk o vc : Nat) (l : List UInt8) (hv : Bf w (fun k => ¬ A k) (.slice (some ⟨bk, o, none⟩) l.length vc) l) (hvc : l.length <= vc) (hl : l.length <= 70368744177664) :
  Calls Tryz.prog 11 #[.pointer (some ⟨c,0,none⟩),.slice (some ⟨bk,o,none⟩) l.length vc] w fun e w' => e = .returned (.tuple #[.int .i64 ((csRun bd s l).1 : Int),.bool (csRun bd s l).2.told]) /\ At w' c hd bd (grow A w w') (csRun bd s l).2 /\ AK w w' A := by
 have HS := hide (h.mono (A' := grow A w w) fun k q => .inl q);have HO := hide ho;have HM := hide hm;have HE := hide he;have HV := hide hv;have HBD := hide hbd;have HR0 : Hid (RI bd s l 0 s) := hide (by unfold RI;simp)
 suffices H : Calls Tryz.prog 11 #[.pointer (some ⟨c,0,none⟩),.slice (some ⟨bk,o,none⟩) l.length vc] w fun e w' => ∃ (n : Nat) (ok : Bool) (t : CS),e = .returned (.tuple #[.int .i64 (n : Int),.bool ok]) /\ csRun bd s l = (n,t) /\ ok = t.told /\ At w' c hd bd (grow A w w') t /\ AK w w' A by
  refine H.mono ?_;rintro e w' ⟨n,ok,t,rfl,q1,rfl,q3,q4⟩;rw [q1];exact ⟨rfl,q3,q4⟩
 obtain ⟨m,Hm⟩ : ∃ m,Hid (l.length = m) := ⟨_,hide rfl⟩
 rw [Hm.out] at HV hvc hl |-
 have HA := hide ho.me;clear h hm he hv hbd ho;have E2 := ne_nil;go_enter Tryz.func11,Tryz.ntmps11
 go_wp2_with fail
 go_loopw [6] (fun u wr => ∃ (k : Nat) (t : CS),k <= m /\ u = .int .i64 (k : Int) /\ Hid (RI bd s l k t) /\ Hid (At wr c hd bd (grow A w wr) t) /\ Hid (AK w wr A)) (fun u _ => m - (intOf u).toNat)
 case atStart => exact ⟨0,s,Nat.zero_le _,rfl,HR0,HS,hide (AK.refl _ _)⟩
 case round =>
  clear HS HR0;obtain ⟨k,t,hk,rfl,HRI,HS,HB⟩ := hrel;obtain ⟨gb,Hg⟩ : ∃ gb,Hid (t.goes = gb) := ⟨_,hide rfl⟩
  cases gb with
  | true =>
   obtain ⟨f,st,bg,pv,rv,bv,hf,rfl,hc⟩ := HS.out.cl Hg.out;have E1 := ne_fun f c;obtain ⟨-,-,k2,k3,k4,-,-,-,-⟩ := cl_cells hc;have z3 := cl_fz hc 3;have hcs : c < wr.heap.size := lt_heap hc;clear hc;by_cases hlt : k < m
   ·have hlti : (k : Int) < (m : Int) := by omega
    have hkc : ¬ vc = k := by omega
    have hkc2 : k <= vc := by omega
    obtain ⟨x,r,Hxr⟩ : ∃ x r,Hid (l.drop k = x :: r) := by
     cases hd' : l.drop k with
     | nil => have := congrArg List.length hd';rw [List.length_drop,Hm.out] at this;simp at this;omega
     | cons x r => exact ⟨x,r,hide rfl⟩
    have hxl : (x :: r).length = m - k := by rw [<- Hxr.out,List.length_drop,Hm.out]
    have HB1 : Hid (AK w (wr.setCell ⟨c,3,none⟩ (.bool true)).drew A) := hide (HB.out.trans (ak_set 3 (.bool true) HA.out));have HO1 := hide (HO.out.grow HB1.out)
    have HA1 : Hid (At (wr.setCell ⟨c,3,none⟩ (.bool true)).drew c hd bd (grow A w (wr.setCell ⟨c,3,none⟩ (.bool true)).drew) t.bgn) := hide ((HS.out.begun (W := (wr.setCell ⟨c,3,none⟩ (.bool true)).drew) Hg.out rfl).mono fun i q => by
     rcases q with q | q
     ·exact .inl q
     ·exact .inr ⟨q.1,Nat.lt_of_lt_of_le q.2 (CK.set wr c 3 (.bool true)).size⟩)
    obtain ⟨f2,pv2,rv2,bv2,hen,-,hc2,hst⟩ := HA1.out.step Hg.out HO1.out HBD.out (HM.out.ak HB1.out HO.out) (HE.out.ak HB1.out HO.out)
    have HC := hide (hst (some ⟨bk,o + k,none⟩) (vc - k) x r (by
     have q := HV.out.grow HB1.out;rw [<- Hm.out] at q;have q2 := q.fromx k (by rw [Hm.out];omega);rw [Hxr.out] at q2;exact q2) (.inr ⟨_,_,_,rfl⟩) (by omega))
    rw [hxl] at HC;have HEN := hide hen;have k2' : (wr.setCell ⟨c,3,none⟩ (.bool true)).cell? ⟨c,2,none⟩ = some (.func (.func f2) #[.pointer (some ⟨c,0,none⟩)] #[]) := (cl_cells hc2).2.2.1;have HQ : Hid (∀ (j : Nat) (t' : CS) (w' : World),csRun bd t.bgn (x :: r) = (j + (csRun bd t' ((x :: r).drop j)).1,(csRun bd t' ((x :: r).drop j)).2) -> RI bd s l (k + j) t') := hide (fun j t' w' q => HRI.out.go (by rw [Hxr.out,<- run_bgn];exact q));have HC2 : Hid (Calls Tryz.prog f2 #[.pointer (some ⟨c,0,none⟩),.slice (some ⟨bk,o + k,none⟩) (m - k) (vc - k)] (wr.setCell ⟨c,3,none⟩ (.bool true)).drew fun e w' => ∃ r,e = .returned r /\ ∃ (j : Nat) (t' : CS),r = .int .i64 (j : Int) /\ 1 <= j /\ j <= m - k /\ Hid (RI bd s l (k + j) t') /\ Hid (At w' c hd bd (grow (grow A w (wr.setCell ⟨c,3,none⟩ (.bool true)).drew) (wr.setCell ⟨c,3,none⟩ (.bool true)).drew w') t') /\ Hid (AK (wr.setCell ⟨c,3,none⟩ (.bool true)).drew w' (grow A w (wr.setCell ⟨c,3,none⟩ (.bool true)).drew))) := hide (HC.out.mono (fun e w' ⟨j,t',a1,a2,a3,a4,a5⟩ => ⟨_,a1,j,t',rfl,a2.1,by have := a2.2;omega,hide (HQ.out j t' w' a3),hide a4,hide a5⟩));clear hen hc2 hst HC HQ HO1 HA1 HS HB HRI;go_upto_region 6 with fail
    clear k2 k3 k4 z3;generalize wr.setCell ⟨c,3,none⟩ (.bool true) = w1 at *;go_region_law (refine step_callv rfl _ _ _ rfl f2 (.pointer (some ⟨c,0,none⟩)) (by simp [Act.eval]) HEN.out (.slice (some ⟨bk,o + k,none⟩) (m - k) (vc - k)) (by simp [Act.eval]) _ HC2.out ?_;rintro v y ⟨j,t',rfl,y1,y2,y5,y3,y4⟩;have HBY := hide (HB1.out.on y4.out);have HY : Hid (At y c hd bd (grow A w y) t') := hide (y3.out.mono fun i q => by rcases q with (q | q) | q;exact .inl q;exact .inr ⟨q.1,Nat.lt_of_lt_of_le q.2 y4.out.size⟩;exact .inr ⟨Nat.le_trans HB1.out.size q.1,q.2⟩);clear y3 y4)
    all_goals
     have hji : (k : Int) + (j : Int) <= 70368744177664 := by omega
     go_wp2_with fail
     have hwr : IntKind.i64.wrap ((k : Int) + (j : Int)) = ((k + j : Nat) : Int) := (IntWalk.i64_in _ ⟨by omega,by omega⟩).trans (by omega);simp only [ge_,Act.put,sl_,hwr];go_roundw
     case rel => exact ⟨k + j,t',by omega,rfl,y5,HY,HBY⟩
     case measure => simp [intOf];omega
   ·have hlti : ¬ (k : Int) < (m : Int) := by omega
    go_wp2_with fail
    go_quiet (fail)
    have HZ := hide (HB.out.trans (⟨rfl,rfl,rfl,Nat.le_refl _,fun _ _ _ => rfl⟩ : AK wr (wr.drewN nq) A));have HRZ : Hid (At (wr.drewN nq) c hd bd (grow A w (wr.drewN nq)) t) := hide (HS.out.keep (w' := wr.drewN nq) (.inl HA.out) (fun _ _ => rfl) (Nat.le_refl _));go_wp2_with fail
    go_ret2
    exact ⟨k,false,t,rfl,HRI.out.fin (.inl (by rw [Hm.out];omega)),(told_goes Hg.out).symm,HRZ.out,HZ.out⟩
  | false =>
   obtain ⟨k2,k4⟩ := HS.out.nil Hg.out;obtain ⟨wt,Hwt⟩ : ∃ wt,Hid (t.told = wt) := ⟨_,hide rfl⟩
   rw [Hwt.out] at k4;by_cases hlt : k < m
   ·have hlti : (k : Int) < (m : Int) := by omega
    go_wp2_with fail
    go_quiet (fail)
    have HZ := hide (HB.out.trans (⟨rfl,rfl,rfl,Nat.le_refl _,fun _ _ _ => rfl⟩ : AK wr (wr.drewN nq) A));have HRZ : Hid (At (wr.drewN nq) c hd bd (grow A w (wr.drewN nq)) t) := hide (HS.out.keep (w' := wr.drewN nq) (.inl HA.out) (fun _ _ => rfl) (Nat.le_refl _));go_wp2_with fail
    go_ret2
    exact ⟨k,wt,t,rfl,HRI.out.fin (.inr Hg.out),Hwt.out.symm,HRZ.out,HZ.out⟩
   ·have hlti : ¬ (k : Int) < (m : Int) := by omega
    go_wp2_with fail
    go_quiet (fail)
    have HZ := hide (HB.out.trans (⟨rfl,rfl,rfl,Nat.le_refl _,fun _ _ _ => rfl⟩ : AK wr (wr.drewN nq) A));have HRZ : Hid (At (wr.drewN nq) c hd bd (grow A w (wr.drewN nq)) t) := hide (HS.out.keep (w' := wr.drewN nq) (.inl HA.out) (fun _ _ => rfl) (Nat.le_refl _));go_wp2_with fail
    go_ret2
    exact ⟨k,wt,t,rfl,HRI.out.fin (.inr Hg.out),Hwt.out.symm,HRZ.out,HZ.out⟩
structure Hi where
 r : Bool
 me : ByteArray
 ta : ByteArray
 mi : Int
 st : Int
 re : ByteArray
 fs : List (ByteArray × ByteArray)
def hiV (h : Hi) (l : Value) : Value := .agg #[.bool h.r,.string h.me,.string h.ta,.int .i64 h.mi,.int .i64 h.st,.string h.re,l]
def hiEq (a b : Hi) : Bool := (a.r == b.r) && (decide (a.me = b.me) && (decide (a.ta = b.ta) && (decide (a.mi = b.mi) && (decide (a.st = b.st) && (decide (a.re = b.re) && decide (a.fs = b.fs))))))
theorem hiEq_iff {a b : Hi} : hiEq a b = true ↔ a = b := by
 unfold hiEq;simp only [Bool.and_eq_true,beq_iff_eq,decide_eq_true_eq];constructor
 ·rintro ⟨h1, h2, h3, h4, h5, h6, h7⟩
  cases a;cases b;simp only at h1 h2 h3 h4 h5 h6 h7;subst h1 h2 h3 h4 h5 h6 h7;rfl
 ·rintro rfl;exact ⟨rfl,rfl,rfl,rfl,rfl,rfl,rfl⟩
theorem take_snocP {α : Type} (A : List α) (k : Nat) (h : k < A.length) : A.take (k + 1) = A.take k ++ [A[k]] := List.take_succ_eq_append_getElem h
theorem plainF_any (w : World) (a b : Value) (A B : List (ByteArray × ByteArray)) (hA : Flds w a A) (hB : Flds w b B) (hl : A.length <= 1099511627776) (hl2 : B.length <= 1099511627776) :
  Calls Tryz.prog 35 #[a,b] w fun e w' => e = .returned (.bool (decide (A = B))) /\ Below w.heap.size w w' := by
 obtain ⟨a0,c0,rfl,_,hca⟩ := hA;obtain ⟨b0,d0,rfl,_,hcb⟩ := hB;have HA := hide hca;have HB := hide hcb;clear hca hcb;obtain ⟨D,hD⟩ : ∃ D,decide (A = B) = D := ⟨_,rfl⟩
 rw [hD];have HD := hide hD;clear hD;by_cases hn : A.length = B.length
 ·have t : ((A.length : Int) != (B.length : Int)) = false := by rw [bne_eq_false_iff_eq]; omega
  have hl3 : B.length <= A.length := by omega
  have hl4 : A.length <= B.length := by omega
  clear hn;go_enter Tryz.func35,Tryz.ntmps35
  go_wp2
  go_loopw [13] (fun i wr => ∃ k : Nat,k <= A.length /\ i = .int .i64 k /\ Hid (A.take k = B.take k) /\ Hid (∃ n,wr = w.drewN n)) (fun i _ => A.length - (intOf i).toNat)
  case atStart => exact ⟨0,Nat.zero_le _,rfl,hide rfl,hide ⟨0,rfl⟩⟩
  case round =>
   obtain ⟨k,hk,rfl,H,HW⟩ := hrel;by_cases hlt : k < A.length
   ·have hlb : k < B.length := by omega
    obtain ⟨g1,o1,rfl,_,q1,q2⟩ := HA.out k hlt;obtain ⟨g2,o2,rfl,_,q3,q4⟩ := HB.out k hlb;obtain ⟨n,hwn⟩ := HW.out;subst hwn;have hsa := hide (take_snocP A k hlt);have hsb := hide (take_snocP B k hlb);obtain ⟨⟨fa,fb⟩,hf⟩ : ∃ f,A[k] = f := ⟨_,rfl⟩
    obtain ⟨⟨ga,gb⟩,hg⟩ : ∃ f,B[k] = f := ⟨_,rfl⟩
    have HNE : Hid ((fa,fb) ≠ (ga,gb) -> A ≠ B) := hide (by rintro hne rfl;exact hne (hf.symm.trans hg));rw [hf] at q1 q2 hsa;rw [hg] at q3 q4 hsb;dsimp only at q1 q2 q3 q4;clear hf hg;have e1 := bytes_eq fa ga;have e2 := bytes_eq fb gb;by_cases h1 : fa = ga
    ·subst h1
     clear e1;by_cases h2 : fb = gb
     ·subst h2
      clear e2;have HT : Hid (A.take (k + 1) = B.take (k + 1)) := hide (by rw [hsa.out,hsb.out,H.out]);go_wp2
      go_quiet (fail)
      go_wp2
      exact ⟨⟨k + 1,by omega,by go_num,HT,hide ⟨n + nq,rfl⟩⟩,by simp [intOf];omega⟩
     ·have t2 : (fb.toList == gb.toList) = false := by rw [e2]; exact decide_eq_false h2
      have HE : Hid (A ≠ B) := hide (HNE.out (fun e => h2 (Prod.mk.inj e).2));clear e2 h2;go_wp2
      go_quiet (fail)
      go_wp2
      go_ret
      exact ⟨ret_bool (by rw [<- HD.out];exact (decide_eq_false HE.out).symm),by rw [World.drewN_drewN];exact below_drewN w _⟩
    ·have t1 : (fa.toList == ga.toList) = false := by rw [e1]; exact decide_eq_false h1
     have HE : Hid (A ≠ B) := hide (HNE.out (fun e => h1 (Prod.mk.inj e).1));clear e1 e2 h1;go_wp2
     go_quiet (fail)
     go_wp2
     go_ret
     exact ⟨ret_bool (by rw [<- HD.out];exact (decide_eq_false HE.out).symm),by rw [World.drewN_drewN];exact below_drewN w _⟩
   ·have HE : Hid (A = B) := hide (by
     have := H.out;rw [List.take_of_length_le (by omega),List.take_of_length_le (by omega)] at this;exact this)
    obtain ⟨n,hwn⟩ := HW.out;subst hwn;go_wp2
    go_ret
    exact ⟨ret_bool (by rw [<- HD.out];exact (decide_eq_true HE.out).symm),below_drewN w _⟩
 ·have t : ((A.length : Int) != (B.length : Int)) = true := by rw [bne_iff_ne]; omega
  have HE : Hid (A ≠ B) := hide (by rintro rfl;exact hn rfl);clear hn;go_enter Tryz.func35,Tryz.ntmps35
  go_wp2
  go_ret
  exact ⟨ret_bool (by rw [<- HD.out];exact (decide_eq_false HE.out).symm),Below.refl _ _⟩
theorem plainH_any (w : World) (X Y : Hi) (la lb : Value) (hA : Flds w la X.fs) (hB : Flds w lb Y.fs) (hl : X.fs.length <= 1099511627776) (hl2 : Y.fs.length <= 1099511627776) :
  Calls Tryz.prog 21 #[hiV X la,hiV Y lb] w fun e w' => e = .returned (.bool (hiEq X Y)) /\ Below w.heap.size w w' := by
 have FA := hide hA;have FB := hide hB;obtain ⟨D,hD⟩ : ∃ D,hiEq X Y = D := ⟨_,rfl⟩
 rw [hD];unfold hiEq at hD;have HC := hide (fun W (h1 : Flds W la X.fs) (h2 : Flds W lb Y.fs) => plainF_any W la lb X.fs Y.fs h1 h2 hl hl2);unfold hiV;obtain ⟨aa,ac,rfl,_,_⟩ := hA;obtain ⟨ba,bc,rfl,_,_⟩ := hB;clear hl hl2;obtain ⟨ar,ame,ata,ami,ast,are,A⟩ := X;obtain ⟨br,bme,bta,bmi,bst,bre,B⟩ := Y;dsimp only at *;generalize decide (A = B) = d7 at hD HC;generalize A.length = an at FA HC;generalize B.length = bn at FB HC;have HD := hide hD;clear hD;have e1 := bytes_eq ame bme;have e2 := bytes_eq ata bta;have e5 := bytes_eq are bre;by_cases h0 : ar = br
 ·subst h0
  by_cases h1 : ame = bme
  ·subst h1
   clear e1;by_cases h2 : ata = bta
   ·subst h2
    clear e2;by_cases h3 : ami = bmi
    ·subst h3
     by_cases h4 : ast = bst
     ·subst h4
      by_cases h5 : are = bre
      ·subst h5
       clear e5;go_enter Tryz.func21,Tryz.ntmps21
       go_wp2_with fail
       have T0 := hide (Bl.two w #[.bool ar,.string ame,.string ata,.int .i64 ami,.int .i64 ast,.string are,.slice aa an ac] 45 #[.bool ar,.string ame,.string ata,.int .i64 ami,.int .i64 ast,.string are,.slice ba bn bc] 45);generalize ((w.alloc (.cells #[.bool ar,.string ame,.string ata,.int .i64 ami,.int .i64 ast,.string are,.slice aa an ac] 45)).alloc (.cells #[.bool ar,.string ame,.string ata,.int .i64 ami,.int .i64 ast,.string are,.slice ba bn bc] 45)) = x at T0 |-
       refine (HC.out _ (FA.out.below T0.out.b) (FB.out.below T0.out.b)).mono ?_;rintro e w1 ⟨rfl,bb⟩;have T1 := hide (T0.out.below bb);clear bb;go_wp2
       go_ret
       exact ⟨ret_bool (by rw [<- HD.out];simp),T1.out.b⟩
      ·have t5 : (are.toList == bre.toList) = false := by rw [e5]; exact decide_eq_false h5
       have HN := hide h5;clear e5 h5;go_enter Tryz.func21,Tryz.ntmps21
       go_wp2
       go_ret
       exact ⟨ret_bool (by rw [<- HD.out];simp [HN.out]),(Bl.two w _ _ _ _).b⟩
     ·have HN := hide h4
      clear e5;have t4 : (ast == bst) = false := beq_eq_false_iff_ne.2 h4;go_enter Tryz.func21,Tryz.ntmps21
      go_wp2
      go_ret
      exact ⟨ret_bool (by rw [<- HD.out];simp [HN.out]),(Bl.two w _ _ _ _).b⟩
    ·have HN := hide h3
     clear e5;have t3 : (ami == bmi) = false := beq_eq_false_iff_ne.2 h3;go_enter Tryz.func21,Tryz.ntmps21
     go_wp2
     go_ret
     exact ⟨ret_bool (by rw [<- HD.out];simp [HN.out]),(Bl.two w _ _ _ _).b⟩
   ·have t2 : (ata.toList == bta.toList) = false := by rw [e2]; exact decide_eq_false h2
    have HN := hide h2;clear e2 e5 h2;go_enter Tryz.func21,Tryz.ntmps21
    go_wp2
    go_ret
    exact ⟨ret_bool (by rw [<- HD.out];simp [HN.out]),(Bl.two w _ _ _ _).b⟩
  ·have t1 : (ame.toList == bme.toList) = false := by rw [e1]; exact decide_eq_false h1
   have HN := hide h1;clear e1 e2 e5 h1;go_enter Tryz.func21,Tryz.ntmps21
   go_wp2
   go_ret
   exact ⟨ret_bool (by rw [<- HD.out];simp [HN.out]),(Bl.two w _ _ _ _).b⟩
 ·have t0 : (ar == br) = false := beq_eq_false_iff_ne.2 h0
  have HN := hide h0;clear e1 e2 e5;cases ar <;> cases br <;> first | exact absurd rfl h0 | skip
  all_goals (clear h0 t0)
  all_goals (go_enter Tryz.func21,Tryz.ntmps21)
  all_goals (go_wp2)
  all_goals (go_ret)
  all_goals (exact ⟨ret_bool (by rw [<- HD.out];rfl),(Bl.two w _ _ _ _).b⟩)
theorem request_no {w : World} {c : Nat} {hd bd : Int} {st : Value} {bg : Bool} {pv rv bv : Value} {wr : Int} (h : ClB w c hd bd st bg false pv rv bv wr) : Calls Tryz.prog 20 #[.pointer (some ⟨c,0,none⟩)] w fun e w' => e = .returned (.tuple #[hd0,.slice none 0 0,.bool false]) /\ Below w.heap.size w w' := by
 have hcl : c < w.heap.size := lt_heap h;have B0 := hide ((Below.refl w.heap.size w).alloc (Nat.le_refl _) (.cells #[.bool false,.string ⟨#[]⟩,.string ⟨#[]⟩,.int .i64 0,.int .i64 0,.string ⟨#[]⟩,.slice none 0 0] 45));obtain ⟨-,-,-,-,k4,-,-,-,-⟩ := cl_cells h;unfold hd0;clear h;go_enter Tryz.func20,Tryz.ntmps20
 go_wp2
 refine bodyPost_ret (v := .tuple #[.agg #[.bool false,.string ⟨#[]⟩,.string ⟨#[]⟩,.int .i64 0,.int .i64 0,.string ⟨#[]⟩,.slice none 0 0],.slice none 0 0,.bool false]) (by simp [results,Tryz.results20,go_sem]) rfl ⟨rfl,B0.out⟩
theorem request_all {w : World} {c b0 : Nat} {O : List UInt8} {bv : Value} {hd bd : Int} {st : Value} {bg : Bool} {rv : Value} {wr : Int} {base g : Nat} {lv fv : Value} {p : Pz} (h : ClB w c hd bd st bg true (.pointer (some ⟨g, 0, none⟩)) rv bv wr) (hrow : Row w b0 5 bv (bc O)) (hO : O.length <= 70368744177664) (hp : Par w base g lv fv p) (hw : p.whole = true) (hz : Sz p) (hf : Fit p) :
  Calls Tryz.prog 20 #[.pointer (some ⟨c,0,none⟩)] w fun e w' => ∃ l u,e = .returned (.tuple #[hdV p l,u,.bool true]) /\ Flds w' l p.fs /\ (∃ b1,Row w' b1 5 u (bc O)) /\ Below w.heap.size w w' := by
 have HH := hide h;obtain ⟨ba,bn,bk,rfl⟩ : ∃ a n k,bv = .slice a n k := by obtain ⟨a,k,e,_⟩ := hrow.shape;exact ⟨a,_,k,e⟩
 have HD := hide (fun W (b : Below w.heap.size w W) => head_whole (hp.below b) hw hz hf);unfold hdV at HD |-
 have hcl : c < w.heap.size := lt_heap h;clear h hp hw hz hf;have B0 := hide ((Below.refl w.heap.size w).alloc (Nat.le_refl _) (.cells #[.bool false,.string ⟨#[]⟩,.string ⟨#[]⟩,.int .i64 0,.int .i64 0,.string ⟨#[]⟩,.slice none 0 0] 45));have F0 := hide (hp_new w (.cells #[.bool false,.string ⟨#[]⟩,.string ⟨#[]⟩,.int .i64 0,.int .i64 0,.string ⟨#[]⟩,.slice none 0 0] 45));have H0 := hide ((B0.out.block c hcl).trans HH.out);obtain ⟨-,-,-,-,k4,-,-,-,-⟩ := cl_cells HH.out;go_enter Tryz.func20,Tryz.ntmps20
 go_upto_region 1 with fail
 clear k4;generalize w.alloc _ = w1 at *;obtain ⟨-,-,-,-,k4,k5,-,k7,-⟩ := cl_cells H0.out;have BX : Hid (Below w.heap.size w w1.drew) := hide B0.out.drew;go_upto_region 3 with fail
 have HA : Hid (∀ (ty : TypeId) (W : World),Below w1.drew.heap.size w1.drew W -> ∃ a n k W',(Builtin.append_ #[31,31] ty #[.slice none 0 0,.slice ba bn bk]).run Tryz.prog W = .ok (.slice a n k) W' /\ Row W' W.heap.size 5 (.slice a n k) (bc O) /\ Below W.heap.size W W') := hide (fun ty W b => by
  have hr : Row W b0 5 (.slice ba bn bk) (bc O) := hrow.below (BX.out.trans (b.mono BX.out.size));obtain ⟨v',W',q1,q2,q3,-⟩ := append_bs_k W W.heap.size W.heap.size ty (.slice none 0 0) (.slice ba bn bk) [] O (Row.nil _ _ _) (Bs.of_row hr) (Shp.of_row hr) (by simp;omega) (Nat.le_refl _);obtain ⟨a',k',e',-⟩ := q2.shape;subst e';exact ⟨_,_,_,W',q1,q2,q3⟩)
 have hcl1 : c < w1.heap.size := lt_heap H0.out;have hbl1 : w.heap.size < w1.heap.size := lt_heap F0.out;have HD2 : Hid (Calls Tryz.prog 34 #[.pointer (some ⟨g,0,none⟩)] w1.drew fun e w' => ∃ r,e = .returned r /\ ∃ l,r = .agg #[.bool p.req,.string p.me,.string p.ta,.int .i64 (p.minor : Int),.int .i64 (p.status : Int),.string p.re,l] /\ FRow w' w1.drew.heap.size l p.fs /\ Below w1.drew.heap.size w1.drew w') := hide ((HD.out w1.drew B0.out.drew).mono (fun e w' ⟨l,a1,a2,a3⟩ => ⟨_,a1,l,rfl,a2,a3⟩))
 have HAF : Hid (∀ (y : World) (l : Value),FRow y w1.drew.heap.size l p.fs -> Below w1.drew.heap.size w1.drew y -> ClB y c hd bd st bg true (.pointer (some ⟨g,0,none⟩)) rv (.slice ba bn bk) wr /\ y.heap[w.heap.size]? = some (.cells (hdA false ⟨#[]⟩ ⟨#[]⟩ 0 0 ⟨#[]⟩ (.slice none 0 0)) 45 (0,0)) /\ Below w.heap.size w y /\ (∃ a n k,l = .slice a n k) /\ Flds (put7 y w.heap.size p.req p.me p.ta (p.minor : Int) (p.status : Int) p.re l) l p.fs) := hide (fun y l y1 y2 => by
  have hF : y.heap[w.heap.size]? = some (.cells (hdA false ⟨#[]⟩ ⟨#[]⟩ 0 0 ⟨#[]⟩ (.slice none 0 0)) 45 (0,0)) := (y2.block w.heap.size hbl1).trans F0.out;refine ⟨(y2.block c hcl1).trans H0.out,hF,B0.out.drew.trans (y2.mono B0.out.size),?_,?_⟩
  ·obtain ⟨a, k, e, -⟩ := y1.shape
   exact ⟨a,_,k,e⟩
  ·have ck := (put7_ok hF p.req p.me p.ta (p.minor : Int) (p.status : Int) p.re l).2
   refine Flds.of_row (base := w1.drew.heap.size) (y1.frame fun k hk => ck.block k (y1.lt hk).2 (fun e => ?_));have := (y1.lt hk).1;rw [e] at this;exact absurd this (Nat.not_le_of_lt hbl1))
 clear HD
 go_region_law (first
  | (refine step_callg rfl 34 _ _ rfl (enters_of Tryz.func34 (by kernel_rfl) rfl) #[.pointer (some ⟨g,0,none⟩)] (by simp [Act.eval]) _ HD2.out ?_;rintro v y ⟨l,rfl,y1,y2⟩;have HFR := hide y1;have HBD := hide y2;obtain ⟨aa1,aa2,aa3,⟨la,ln,lk,rfl⟩,aa5⟩ := HAF.out y l y1 y2;have HY := hide aa1;have FY := hide aa2;have HBY := hide aa3;have HFL := hide aa5;have q7 := (cl_cells aa1).2.2.2.2.2.2.2.1;obtain ⟨r0,r1,r2,r3,r4,r5,r6⟩ := hd_cells aa2;have rz := (fun i => (by rw [frozen_at aa2];simp : y.frozen? ⟨w.heap.size,i,none⟩ = false));have rz0 := rz 0;have rz1 := rz 1;have rz2 := rz 2;have rz3 := rz 3;have rz4 := rz 4;have rz5 := rz 5;have rz6 := rz 6;clear y1 y2 rz aa1 aa2 aa3 aa5)
  | (obtain ⟨xa,xn,xk,z,hz,hz1,hz2⟩ := HA.out _ y HBD.out;refine step_append_is rfl _ _ 31 rfl (.slice none 0 0) (.slice ba bn bk) (.slice xa xn xk) (by simp [Act.eval]) (by simp [Act.eval]) hz ?_;obtain ⟨aa1,aa2,aa3,-,aa5⟩ := HAF.out z _ (HFR.out.below hz2) (HBD.out.trans (hz2.mono HBD.out.size));have hwy : w.heap.size < y.heap.size := Nat.lt_of_lt_of_le hbl1 HBD.out.size;have FZ := hide aa2;have HBZ := hide aa3;have HFZ := hide aa5;clear r0 r1 r2 r3 r4 r5 r6 rz0 rz1 rz2 rz3 rz4 rz5 rz6;obtain ⟨r0,r1,r2,r3,r4,r5,r6⟩ := hd_cells aa2;have rz := (fun i => (by rw [frozen_at aa2];simp : z.frozen? ⟨w.heap.size,i,none⟩ = false));have rz0 := rz 0;have rz1 := rz 1;have rz2 := rz 2;have rz3 := rz 3;have rz4 := rz 4;have rz5 := rz 5;have rz6 := rz 6;have HXR := hide hz1;clear hz hz1 hz2 rz aa1 aa2 aa3 aa5))
 all_goals
  have P7 := hide (put7_ok FZ.out p.req p.me p.ta (p.minor : Int) (p.status : Int) p.re (.slice la ln lk));have BP := hide (HBZ.out.trans (P7.out.2.low (Nat.le_refl _) HBZ.out.size));have HXZ : Hid (∃ b1,Row (put7 z w.heap.size p.req p.me p.ta (p.minor : Int) (p.status : Int) p.re (.slice la ln lk)) b1 5 (.slice xa xn xk) (bc O)) := hide ⟨_,HXR.out.frame fun k hk => P7.out.2.block k (HXR.out.lt hk).2 (fun e => by have := (HXR.out.lt hk).1;omega)⟩;unfold put7 at P7 BP HFZ HXZ;clear r0 r1 r2 r3 r4 r5 r6 rz0 rz1 rz2 rz3 rz4 rz5 rz6 q7 k4 k5 k7 HY FY HBY HD2 HAF HA HFL HXR FZ HBZ HFR HBD;generalize ((((((z.setCell ⟨w.heap.size,0,none⟩ (.bool p.req)).setCell ⟨w.heap.size,1,none⟩ (.string p.me)).setCell ⟨w.heap.size,2,none⟩ (.string p.ta)).setCell ⟨w.heap.size,3,none⟩ (.int .i64 (p.minor : Int))).setCell ⟨w.heap.size,4,none⟩ (.int .i64 (p.status : Int))).setCell ⟨w.heap.size,5,none⟩ (.string p.re)).setCell ⟨w.heap.size,6,none⟩ (.slice la ln lk) = y9 at *;obtain ⟨s0,s1,s2,s3,s4,s5,s6⟩ := hd_cells P7.out.1;go_wp2
  exact bodyPost_ret (v := .tuple #[.agg #[.bool p.req,.string p.me,.string p.ta,.int .i64 (p.minor : Int),.int .i64 (p.status : Int),.string p.re,.slice la ln lk],.slice xa xn xk,.bool true]) (by simp [results,Tryz.results20,go_sem,s0,s1,s2,s3,s4,s5,s6]) rfl ⟨_,_,rfl,HFZ.out,HXZ.out,BP.out⟩
def CS.wr : CS -> Int
 | .shut s => s
 | _ => 0
def CS.bgb : CS -> Bool
 | .head _ bg => bg
 | .meas _ _ _ => true
 | .part _ _ _ => true
 | _ => false
def CS.shb (s : CS) : Bool := !s.goes && !s.told
def CS.hi : CS -> Hi
 | .waits p _ => ⟨p.req,p.me,p.ta,(p.minor : Int),(p.status : Int),p.re,p.fs⟩
 | _ => ⟨false,⟨#[]⟩,⟨#[]⟩,0,0,⟨#[]⟩,[]⟩
def CS.ob : CS -> List UInt8
 | .waits _ O => O
 | _ => []
section
variable {w : World} {c : Nat} {hd : Int} {bd : Nat} {A : Nat -> Prop} {s : CS}
theorem At.wrong (h : At w c hd bd A s) : Calls Tryz.prog 22 #[.pointer (some ⟨c,0,none⟩)] w fun e w' => e = .returned (.int .i64 s.wr) /\ w = w' := by
 cases s with
 | head p bg => obtain ⟨base,g,lv,fv,hc,-⟩ := h;exact wrong_any hc
 | meas p L O => obtain ⟨g,bp,b2,gr,g',bv,hc,-⟩ := h;exact wrong_any hc
 | part p d O => obtain ⟨g,bp,b2,gr,g',gd,lv,tv,bv,hc,-⟩ := h;exact wrong_any hc
 | waits p O => obtain ⟨g,bp,bv,hc,-⟩ := h;exact wrong_any hc
 | shut s => exact wrong_any h
theorem At.bgn (h : At w c hd bd A s) : Calls Tryz.prog 24 #[.pointer (some ⟨c,0,none⟩)] w fun e w' => e = .returned (.bool s.bgb) /\ w = w' := by
 cases s with
 | head p bg => obtain ⟨base,g,lv,fv,hc,-⟩ := h;exact begun_cl hc
 | meas p L O => obtain ⟨g,bp,b2,gr,g',bv,hc,-⟩ := h;exact begun_cl hc
 | part p d O => obtain ⟨g,bp,b2,gr,g',gd,lv,tv,bv,hc,-⟩ := h;exact begun_cl hc
 | waits p O => obtain ⟨g,bp,bv,hc,-⟩ := h;exact begun_cl hc
 | shut s => exact begun_cl h
theorem At.sht (h : At w c hd bd A s) : Calls Tryz.prog 23 #[.pointer (some ⟨c,0,none⟩)] w fun e w' => e = .returned (.bool s.shb) /\ w = w' := by
 cases s with
 | head p bg => obtain ⟨base,g,lv,fv,hc,-⟩ := h;exact shut_open hc
 | meas p L O => obtain ⟨g,bp,b2,gr,g',bv,hc,-⟩ := h;exact shut_open hc
 | part p d O => obtain ⟨g,bp,b2,gr,g',gd,lv,tv,bv,hc,-⟩ := h;exact shut_open hc
 | waits p O => obtain ⟨g,bp,bv,hc,-⟩ := h;exact shut_nil' hc
 | shut s => exact shut_nil' h
theorem flds_nil (w : World) : Flds w (.slice none 0 0) [] := ⟨none,0,rfl,⟨Nat.le_refl _,fun _ => rfl⟩,fun j hj => by simp at hj⟩
theorem At.request (h : At w c hd bd A s) (hO : s.ob.length <= 70368744177664) : Calls Tryz.prog 20 #[.pointer (some ⟨c,0,none⟩)] w fun e w' => ∃ l u,e = .returned (.tuple #[hiV s.hi l,u,.bool s.told]) /\ Flds w' l s.hi.fs /\ (∃ b1,Row w' b1 5 u (bc s.ob)) /\ Below w.heap.size w w' := by
 have none : ∀ {hd bd : Int} {st : Value} {bg : Bool} {pv rv bv : Value} {wr : Int},ClB w c hd bd st bg false pv rv bv wr -> Calls Tryz.prog 20 #[.pointer (some ⟨c,0,none⟩)] w fun e w' => ∃ l u,e = .returned (.tuple #[hiV ⟨false,⟨#[]⟩,⟨#[]⟩,0,0,⟨#[]⟩,[]⟩ l,u,.bool false]) /\ Flds w' l [] /\ (∃ b1,Row w' b1 5 u (bc [])) /\ Below w.heap.size w w' := fun h => (request_no h).mono (fun e w' ⟨e1,e2⟩ => ⟨_,_,e1,flds_nil w',⟨0,Row.nil _ _ _⟩,e2⟩)
 cases s with
 | head p bg => obtain ⟨base,g,lv,fv,hc,-⟩ := h;exact none hc
 | meas p L O => obtain ⟨g,bp,b2,gr,g',bv,hc,-⟩ := h;exact none hc
 | part p d O => obtain ⟨g,bp,b2,gr,g',gd,lv,tv,bv,hc,-⟩ := h;exact none hc
 | waits p O =>
  obtain ⟨g,bp,bv,hc,⟨base,lv,fv,h1,h2,h3,h4,h5,h6⟩,hrow,-⟩ := h;exact request_all hc hrow hO h1 h4 h3 h2
 | shut s => exact none h
end
def Nw (w w' : World) (k : Nat) : Prop := w.heap.size <= k /\ k < w'.heap.size
theorem new_at (w : World) (hd bd : Nat) (h1 : 16 <= hd) (h2 : hd <= 65536) (h4 : bd <= 1048576) (h3 : 3 <= w.heap.size) :
  Calls Tryz.prog 8 #[.int .i64 (hd : Int),.int .i64 (bd : Int)] w fun e w' => e = .returned (.tuple #[.pointer (some ⟨w.heap.size,0,none⟩),.int .i64 0]) /\ At w' w.heap.size hd bd (Nw w w') (.head (pNew true hd) false) /\ Ow w' w.heap.size (Nw w w') /\ Below w.heap.size w w' := by
 refine (cnew_any w hd (bd : Int) h1 h2 (by omega) (by omega)).mono ?_;rintro e w' ⟨rfl,g,hg,hp,hc,hb⟩;have hgl := hp.lt;refine ⟨rfl,⟨g,g,_,_,hc,hp,fit_new true hd h2,sz_new true hd,⟨rfl,rfl⟩,hg,fun k n => ?_⟩,⟨fun k hk => ⟨by have := hk.1;omega,hk.2⟩,Nat.le_refl _,by have := lt_heap hc;omega⟩,hb⟩;have := hp.own n;exact ⟨by omega,this.2⟩
theorem cread_zat {w : World} {c : Nat} {hd : Int} {bd : Nat} {A : Nat -> Prop} {s : CS} (h : At w c hd bd A s) (ho : Ow w c A) (a : Option Addr) (vc : Nat) :
  Calls Tryz.prog 11 #[.pointer (some ⟨c,0,none⟩),.slice a 0 vc] w fun e w' => e = .returned (.tuple #[.int .i64 0,.bool s.told]) /\ At w' c hd bd A s /\ AK w w' A := by
 have E2 := ne_nil;have HA := hide ho.me;have HS := hide h;clear ho;obtain ⟨gb,Hg⟩ : ∃ gb,Hid (s.goes = gb) := ⟨_,hide rfl⟩
 cases gb with
 | true =>
  obtain ⟨f,st,bg,pv,rv,bv,hf,rfl,hc⟩ := h.cl Hg.out;have E1 := ne_fun f c;obtain ⟨-,-,k2,k3,k4,-,-,-,-⟩ := cl_cells hc;rw [<- told_goes Hg.out] at k4;generalize htd : s.told = td at k4 |-
  clear hc h htd;go_enter Tryz.func11,Tryz.ntmps11
  go_wp2_with fail
  refine wp_loop_rounds 1 ?_;rw [rounds_succ];go_wp2_with fail
  go_quiet (fail)
  have HZ := hide (⟨rfl,rfl,rfl,Nat.le_refl _,fun _ _ _ => rfl⟩ : AK w (w.drewN nq) A);have HRZ : Hid (At (w.drewN nq) c hd bd A s) := hide (HS.out.keep (w' := w.drewN nq) HA.out (fun _ _ => rfl) (Nat.le_refl _));go_wp2_with fail
  go_ret2
  exact ⟨rfl,HRZ.out,HZ.out⟩
 | false =>
  obtain ⟨k2,k4⟩ := h.nil Hg.out;generalize htd : s.told = td at k4 |-
  clear h htd;go_enter Tryz.func11,Tryz.ntmps11
  go_wp2_with fail
  refine wp_loop_rounds 1 ?_;rw [rounds_succ];go_wp2_with fail
  go_quiet (fail)
  have HZ := hide (⟨rfl,rfl,rfl,Nat.le_refl _,fun _ _ _ => rfl⟩ : AK w (w.drewN nq) A);have HRZ : Hid (At (w.drewN nq) c hd bd A s) := hide (HS.out.keep (w' := w.drewN nq) HA.out (fun _ _ => rfl) (Nat.le_refl _));go_wp2_with fail
  go_ret2
  exact ⟨rfl,HRZ.out,HZ.out⟩
theorem cread_all {w : World} {c : Nat} {hd : Int} {bd : Nat} {A : Nat -> Prop} {s : CS} (h : At w c hd bd A s) (ho : Ow w c A) (hbd : bd <= 1048576) (hm : MX w) (he : ET w) (v : Value) (l : List UInt8) (hv : Bf w (fun k => ¬ A k) v l) (hs : Shp v) (hl : l.length <= 70368744177664) :
  Calls Tryz.prog 11 #[.pointer (some ⟨c,0,none⟩),v] w fun e w' => e = .returned (.tuple #[.int .i64 ((csRun bd s l).1 : Int),.bool (csRun bd s l).2.told]) /\ At w' c hd bd (grow A w w') (csRun bd s l).2 /\ AK w w' A := by
 rcases hs with rfl | ⟨⟨bk,o,sp⟩,n,vc,rfl⟩
 ·obtain ⟨a, m, e, -⟩ := hv
  simp only [Value.slice.injEq] at e;obtain rfl := List.length_eq_zero_iff.1 e.2.1.symm;rw [run_nil];exact (cread_zat h ho none 0).mono fun e w' ⟨e1,e2,e3⟩ => ⟨e1,e2.mono fun k q => .inl q,e3⟩
 ·obtain ⟨a, m, e, h1, h2⟩ := id hv
  simp only [Value.slice.injEq] at e;obtain ⟨rfl,rfl,rfl⟩ := e;by_cases h0 : l = []
  ·subst h0
   rw [run_nil];exact (cread_zat h ho _ vc).mono fun e w' ⟨e1,e2,e3⟩ => ⟨e1,e2.mono fun k q => .inl q,e3⟩
  ·obtain ⟨g, o', q1, -⟩ := h2 0 (List.length_pos_iff.2 h0)
   simp only [Option.some.injEq,Addr.mk.injEq] at q1;obtain ⟨rfl,rfl,rfl⟩ := q1;exact cread_at h ho hbd hm he _ _ vc l hv h1 hl
def CS.bl : CS -> Nat
 | .meas _ _ O => O.length
 | .part _ _ O => O.length
 | .waits _ O => O.length
 | _ => 0
theorem next_out (d : Dz) (c : UInt8) : (dNext d c).2.1.length <= 1 := by
 unfold dNext;repeat' split
 all_goals simp
theorem begin_bl (bd : Nat) (p : Pz) : (csBegin bd p).bl = 0 := by
 unfold csBegin;repeat' split
 all_goals rfl
theorem one_bl (bd : Nat) (s : CS) (x : UInt8) : (csOne bd s x).bl <= s.bl + 1 := by
 cases s with
 | head p bg =>
  rw [csOne];split
  ·exact Nat.zero_le _
  ·split
   ·rw [begin_bl];exact Nat.zero_le _
   ·exact Nat.zero_le _
 | meas p L O =>
  rw [csOne];split <;> (show (O ++ [x]).length <= O.length + 1;simp)
 | part p d O =>
  have := next_out d x;rw [csOne];split
  ·exact Nat.zero_le _
  ·split <;> (show (O ++ (dNext d x).2.1).length <= O.length + 1;rw [List.length_append];omega)
 | waits p O => show O.length <= O.length + 1;omega
 | shut s => exact Nat.zero_le _
theorem run_bl (bd : Nat) : ∀ (l : List UInt8) (s : CS), (csRun bd s l).2.bl <= s.bl + l.length
 | [],s => by rw [run_nil];simp
 | x :: r,s => by
  cases h : s.goes with
  | false => rw [run_stop bd h];show s.bl <= _;omega
  | true =>
   rw [run_cons bd h];have h1 := run_bl bd r (csOne bd s x);have h2 := one_bl bd s x;simp only [List.length_cons];omega
theorem ob_bl (s : CS) : s.ob.length <= s.bl := by cases s <;> first | exact Nat.le_refl _ | exact Nat.zero_le _
theorem At.hi_len {w : World} {c : Nat} {hd : Int} {bd : Nat} {A : Nat -> Prop} {s : CS} (h : At w c hd bd A s) : s.hi.fs.length <= 100 := by
 cases s with
 | waits p O =>
  obtain ⟨g,bp,bv,hc,⟨base,lv,fv,h1,h2,-⟩,-⟩ := h;exact h2.fs
 | _ => exact Nat.zero_le _
theorem At.on {w W : World} {c : Nat} {hd : Int} {bd : Nat} {A : Nat -> Prop} {s : CS} (h : At w c hd bd A s) (hc : A c) (hA : ∀ k,A k -> k < w.heap.size) (b : Below w.heap.size w W) : At W c hd bd A s := h.keep hc (fun k q => b.block k (hA k q)) b.size
def s0 : CS := .head (pNew true 200) false
def csEnd : CS -> CS
 | .head _ false => .shut 0
 | .head _ true => .shut 400
 | .meas _ _ _ => .shut 400
 | .part _ _ _ => .shut 400
 | s => s
def csAns (hd : Nat) (keep : Bool) : CS -> CS
 | .waits _ _ => if keep then .head (pNew true hd) false else .shut 0
 | s => s
theorem end_go {w : World} {c : Nat} {hd bd : Int} {fn : Nat} {bg : Bool} {pv rv bv : Value} {wr : Int} (h : ClB w c hd bd (.func (.func fn) #[.pointer (some ⟨c, 0, none⟩)] #[]) bg false pv rv bv wr) :
  Calls Tryz.prog 13 #[.pointer (some ⟨c,0,none⟩)] w fun e w' => e = .returned (.bool true) /\ ClB w' c 0 0 .nilFunc false false (.pointer none) (.pointer none) (.slice none 0 0) (if bg then 400 else 0) /\ CK w w' c := by
 have HS := hide (shut_open h);have HR := hide (refuse_any h 400);have HL := hide (leave_any h);obtain ⟨-,-,-,k3,k4,-,-,-,-⟩ := cl_cells h;clear h;cases bg with
 | true =>
  go_enter Tryz.func13,Tryz.ntmps13
  go_wp2_with fail
  refine HS.out.mono ?_;rintro e w1 ⟨rfl,rfl⟩;go_wp2_with fail
  refine HR.out.mono ?_;rintro e w1 ⟨rfl,y1,y2⟩;have HZ := hide y1;have HK := hide y2;clear y1 y2 HS HR HL k3 k4;go_wp2_with fail
  go_ret
  exact ⟨rfl,HZ.out,HK.out⟩
 | false =>
  go_enter Tryz.func13,Tryz.ntmps13
  go_wp2_with fail
  refine HS.out.mono ?_;rintro e w1 ⟨rfl,rfl⟩;go_wp2_with fail
  refine HL.out.mono ?_;rintro e w1 ⟨rfl,y1,y2⟩;have HZ := hide y1;have HK := hide y2;clear y1 y2 HS HR HL k3 k4;go_wp2_with fail
  go_ret
  exact ⟨rfl,HZ.out,HK.out⟩
theorem end_nil {w : World} {c : Nat} {hd bd : Int} {bg wt : Bool} {pv rv bv : Value} {wr : Int} (h : ClB w c hd bd .nilFunc bg wt pv rv bv wr) :
  Calls Tryz.prog 13 #[.pointer (some ⟨c,0,none⟩)] w fun e w' => e = .returned (.bool (!wt)) /\ w = w' := by
 have HS := hide (shut_nil' h);obtain ⟨-,-,-,k3,k4,-,-,-,-⟩ := cl_cells h;clear h;cases wt with
 | true =>
  go_enter Tryz.func13,Tryz.ntmps13
  go_wp2_with fail
  refine HS.out.mono ?_;rintro e w1 ⟨rfl,rfl⟩;go_wp2_with fail
  go_ret
  exact ⟨rfl,rfl⟩
 | false =>
  go_enter Tryz.func13,Tryz.ntmps13
  go_wp2_with fail
  refine HS.out.mono ?_;rintro e w1 ⟨rfl,rfl⟩;go_wp2_with fail
  go_ret
  exact ⟨rfl,rfl⟩
section
variable {w : World} {c : Nat} {hd : Int} {bd : Nat} {A : Nat -> Prop} {s : CS}
theorem At.end_ (h : At w c hd bd A s) (hc : A c) : Calls Tryz.prog 13 #[.pointer (some ⟨c,0,none⟩)] w fun e w' => e = .returned (.bool (!s.told)) /\ At w' c hd bd A (csEnd s) /\ AK w w' A := by
 have same : (Calls Tryz.prog 13 #[.pointer (some ⟨c,0,none⟩)] w fun e w' => e = .returned (.bool (!s.told)) /\ w = w') -> csEnd s = s -> Calls Tryz.prog 13 #[.pointer (some ⟨c,0,none⟩)] w fun e w' => e = .returned (.bool (!s.told)) /\ At w' c hd bd A (csEnd s) /\ AK w w' A := fun q e => q.mono fun e' w' ⟨e1,e2⟩ => ⟨e1,by rw [<- e2,e];exact h,by rw [<- e2];exact AK.refl _ _⟩
 cases s with
 | head p bg =>
  obtain ⟨base,g,lv,fv,hcl,-⟩ := h;refine (end_go hcl).mono ?_;rintro e w' ⟨rfl,y1,y2⟩;refine ⟨rfl,?_,AK.of_ck y2 hc⟩;cases bg <;> exact y1
 | meas p L O =>
  obtain ⟨g,bp,b2,gr,g',bv,hcl,-⟩ := h;exact (end_go hcl).mono fun e w' ⟨e1,y1,y2⟩ => ⟨e1,y1,AK.of_ck y2 hc⟩
 | part p d O =>
  obtain ⟨g,bp,b2,gr,g',gd,lv,tv,bv,hcl,-⟩ := h;exact (end_go hcl).mono fun e w' ⟨e1,y1,y2⟩ => ⟨e1,y1,AK.of_ck y2 hc⟩
 | waits p O =>
  obtain ⟨g,bp,bv,hcl,-⟩ := id h;exact same (end_nil hcl) rfl
 | shut s => exact same (end_nil h) rfl
end
theorem answered_leave {w : World} {c : Nat} {hd bd : Int} {st : Value} {bg : Bool} {pv rv bv : Value} {wr : Int} (h : ClB w c hd bd st bg true pv rv bv wr) :
  Calls Tryz.prog 15 #[.pointer (some ⟨c,0,none⟩),.bool false] w fun e w' => e = .returned (.int .i64 0) /\ ClB w' c 0 0 .nilFunc false false (.pointer none) (.pointer none) (.slice none 0 0) 0 /\ CK w w' c := by
 have HL := hide (leave_any h);obtain ⟨-,-,-,-,k4,-,-,-,-⟩ := cl_cells h;clear h;go_enter Tryz.func15,Tryz.ntmps15
 go_wp2_with (go_at_call 29;refine HL.out.mono ?_;rintro e w1 ⟨rfl,y⟩)
 go_ret
 exact ⟨rfl,y⟩
theorem At.answered {w : World} {c hd : Nat} {bd : Nat} {A : Nat -> Prop} {s : CS} (h : At w c (hd : Int) bd A s) (hc : A c) (h1 : 16 <= hd) (h2 : hd <= 65536) (keep : Bool) :
  Calls Tryz.prog 15 #[.pointer (some ⟨c,0,none⟩),.bool keep] w fun e w' => e = .returned (.int .i64 (if s.told then 0 else 7)) /\ At w' c (hd : Int) bd (grow A w w') (csAns hd keep s) /\ AK w w' A := by
 have none : ∀ {h0 b0 : Int} {st : Value} {bg : Bool} {pv rv bv : Value} {wr : Int},ClB w c h0 b0 st bg false pv rv bv wr -> s.told = false -> csAns hd keep s = s -> Calls Tryz.prog 15 #[.pointer (some ⟨c,0,none⟩),.bool keep] w fun e w' => e = .returned (.int .i64 (if s.told then 0 else 7)) /\ At w' c (hd : Int) bd (grow A w w') (csAns hd keep s) /\ AK w w' A := fun q e1 e2 => (answered_no q keep).mono fun e w' ⟨a1,a2⟩ => ⟨by rw [e1];exact a1,by rw [<- a2,e2];exact h.mono fun k z => .inl z,by rw [<- a2];exact AK.refl _ _⟩
 cases s with
 | head p bg => obtain ⟨base,g,lv,fv,hcl,-⟩ := id h;exact none hcl rfl rfl
 | meas p L O => obtain ⟨g,bp,b2,gr,g',bv,hcl,-⟩ := id h;exact none hcl rfl rfl
 | part p d O => obtain ⟨g,bp,b2,gr,g',gd,lv,tv,bv,hcl,-⟩ := id h;exact none hcl rfl rfl
 | waits p O =>
  obtain ⟨g,bp,bv,hcl,-⟩ := id h;cases keep with
  | false => exact (answered_leave hcl).mono fun e w' ⟨e1,y1,y2⟩ => ⟨e1,y1,AK.of_ck y2 hc⟩
  | true =>
   refine (answered_keep hcl h1 h2).mono ?_;rintro e w' ⟨rfl,g2,y1,y2,y3,y4⟩;have hcw := lt_heap hcl;exact ⟨rfl,⟨g2,g2,_,_,y3,y2,fit_new true hd h2,sz_new true hd,⟨rfl,rfl⟩,by omega,fun k n => .inr ⟨by have := (y2.own n).1;omega,(y2.own n).2⟩⟩,AK.of_ck y4 hc⟩
 | shut s => exact none h rfl rfl
def csNew (M : Nat) : CS := .head (pNew true M) false
theorem new_no {M bd : Nat} {l : List UInt8} {er n : Nat} {q : Pz} (hP : pBytes (pNew true M) l = (er,n,q)) (h : er ≠ 0 ∨ q.whole = false) : (csRun bd (csNew M) l).1 = n /\ (csRun bd (csNew M) l).2.told = false /\ (csRun bd (csNew M) l).2.wr = if er = 0 then 0 else headSt er := by
 cases l with
 | nil =>
  simp only [pBytes,Prod.mk.injEq] at hP;obtain ⟨rfl,rfl,-⟩ := hP;unfold csNew;rw [run_nil,if_pos rfl];exact ⟨rfl,rfl,rfl⟩
 | cons x r =>
  have hall := all_head (x :: r) (pNew true M);have hr := run_head bd (x :: r) (pNew true M) rfl;rw [hP] at hr hall;dsimp only at hr hall;unfold csNew;rw [run_head0];by_cases h0 : er = 0
  ·have hw : q.whole = false := h.resolve_left (fun e => e h0)
   rw [if_neg (by simpa using h0),if_neg (by simp [hw])] at hr;rw [hr,if_pos h0];exact ⟨(hall h0 hw).symm,rfl,rfl⟩
  ·rw [if_pos h0] at hr
   rw [hr,if_neg h0];exact ⟨rfl,rfl,rfl⟩
theorem new_yes {M bd : Nat} {l : List UInt8} {n : Nat} {q : Pz} (hP : pBytes (pNew true M) l = (0,n,q)) (hw : q.whole = true) : csRun bd (csNew M) l = (n + (csRun bd (csBegin bd (pShut q)) (l.drop n)).1,(csRun bd (csBegin bd (pShut q)) (l.drop n)).2) := by
 cases l with
 | nil =>
  simp only [pBytes,Prod.mk.injEq] at hP;obtain ⟨-,rfl,rfl⟩ := hP;cases hw
 | cons x r =>
  have hr := run_head bd (x :: r) (pNew true M) rfl;rw [hP] at hr;dsimp only at hr;rw [if_neg (by simp),if_pos hw] at hr;unfold csNew;rw [run_head0,hr]
theorem body_meas {bd L : Nat} (p : Pz) (b : List UInt8) (hL : 0 < L) : (csRun bd (.meas p L []) b).1 = min b.length L /\ (csRun bd (.meas p L []) b).2.told = decide (min b.length L = L) /\ (csRun bd (.meas p L []) b).2.wr = 0 /\ (min b.length L = L -> (csRun bd (.meas p L []) b).2 = .waits p (b.take L)) := by
 have h := run_meas bd p L b [] hL;rw [h];simp only [List.length_nil,Nat.zero_add,List.nil_append,Nat.sub_zero];by_cases h1 : b.length < L
 ·rw [if_pos h1]
  exact ⟨by show b.length = _;omega,by show false = _;rw [decide_eq_false (by omega)],rfl,fun e => by omega⟩
 ·rw [if_neg h1]
  exact ⟨by show L = _;omega,by show true = _;rw [decide_eq_true (by omega)],rfl,fun _ => rfl⟩
theorem body_part {bd : Nat} (p : Pz) (b o : List UInt8) (t : List (ByteArray × ByteArray)) (N E : Nat) (wh : Bool) (h : Fin' bd b o t N wh E) : (csRun bd (.part p (dNew bd) []) b).1 = N /\ (csRun bd (.part p (dNew bd) []) b).2.told = (decide (E = 0) && wh) /\ (csRun bd (.part p (dNew bd) []) b).2.wr = (if E = 0 then 0 else bodyS (E : Int)) /\ (E = 0 -> wh = true -> (csRun bd (.part p (dNew bd) []) b).2 = .waits p o) := by
 obtain ⟨d',h1,h2,h3⟩ := h;have hr := run_part bd p b (dNew bd) [] rfl;have hall := all_part b (dNew bd);rw [h1] at hr hall;dsimp only at hr hall;by_cases h0 : E = 0
 ·rw [if_neg (by simpa using h0)] at hr
  cases hw : d'.whole with
  | true =>
   rw [if_pos hw] at hr;rw [hr,if_pos h0];refine ⟨rfl,?_,rfl,fun _ _ => by simp⟩;show true = _
   simp_all
  | false =>
   rw [if_neg (by simp [hw])] at hr;rw [hr,if_pos h0];refine ⟨(hall h0 hw).symm,?_,rfl,fun _ e => ?_⟩
   ·show false = _
    simp_all
   ·simp_all
 ·rw [if_pos h0] at hr
  rw [hr,if_neg h0];refine ⟨rfl,?_,rfl,fun e => absurd e h0⟩;show false = _
  rw [decide_eq_false h0];rfl
end Go.Proofs.YtcagjipdldlehaaGreatDoor
