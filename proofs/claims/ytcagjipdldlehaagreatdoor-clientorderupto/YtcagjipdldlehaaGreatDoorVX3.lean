/- VX3. -/
import Derived.Test.YtcagjipdldlehaaGreatDoorVX2
import Derived.Deep.Slices
import Derived.Deep.Strs
import Derived.Lib.SmallJoins
import Derived.Test.YtcagjipdldlehaaGreatDoorRows
import Derived.Lib.LaidTab
import Derived.LaidLaws
import Derived.LaidHandle
import Derived.LaidSub
import Derived.Stop.LaidErr
import Derived.Shelf.Vars
import Derived.Lay
import Derived.MakeChecks
namespace Go.Proofs.YtcagjipdldlehaaGreatDoor
open Go.ChangeShapes Go.WideShapes Go.ChangeAt Go.RowKit
set_option linter.unusedVariables false
open Go.ChangeShapes Go.WideShapes Go.ChangeAt Go.RowKit Go.Deep Go.Joins
open Go.ChangeShapes Go.WideShapes Go.ChangeAt Go.RowKit Go.Joins Go.Deep
set_option maxHeartbeats 16000000
set_option maxRecDepth 100000
theorem rsameH_any (w : World) (X Y : Hi) (la lb : Value) (hA : Flds w la X.fs) (hB : Flds w lb Y.fs) (hl : X.fs.length <= 1099511627776) (hl2 : Y.fs.length <= 1099511627776) :
  Calls Tryz.prog 33 #[hiV X la,hiV Y lb] w fun e w' => e = .returned (.bool (hiEq X Y)) /\ Below w.heap.size w w' := by
 have FA := hide hA;have FB := hide hB;obtain ⟨D,hD⟩ : ∃ D,hiEq X Y = D := ⟨_,rfl⟩
 rw [hD];unfold hiEq at hD;unfold hiV;obtain ⟨aa,ac,rfl,_,_⟩ := hA;obtain ⟨ba,bc,rfl,_,_⟩ := hB;obtain ⟨ar,ame,ata,ami,ast,are,A⟩ := X;obtain ⟨br,bme,bta,bmi,bst,bre,B⟩ := Y;dsimp only at *;have HD := hide hD;clear hD;have e1 := bytes_eq ame bme;have e2 := bytes_eq ata bta;have e5 := bytes_eq are bre;by_cases h0 : ar = br
 ·subst h0
  by_cases h1 : ame = bme
  ·subst h1
   clear e1;by_cases h2 : ata = bta
   ·subst h2
    clear e2;by_cases h3 : ami = bmi
    ·subst h3
     by_cases h4 : ast = bst
     ·subst h4
      by_cases h5 : are = bre
      ·subst h5
       clear e5;by_cases hn : A.length = B.length
       ·have t : ((A.length : Int) != (B.length : Int)) = false := by rw [bne_eq_false_iff_eq]; omega
        have hl3 : B.length <= A.length := by omega
        have hl4 : A.length <= B.length := by omega
        clear hn;go_enter Tryz.func33,Tryz.ntmps33
        go_upto_region 1 with fail
        have T0 := hide (Bl.two w #[.bool ar,.string ame,.string ata,.int .i64 ami,.int .i64 ast,.string are,.slice aa A.length ac] 45 #[.bool ar,.string ame,.string ata,.int .i64 ami,.int .i64 ast,.string are,.slice ba B.length bc] 45);generalize ((w.alloc (.cells #[.bool ar,.string ame,.string ata,.int .i64 ami,.int .i64 ast,.string are,.slice aa A.length ac] 45)).alloc (.cells #[.bool ar,.string ame,.string ata,.int .i64 ami,.int .i64 ast,.string are,.slice ba B.length bc] 45)) = x at T0 |-
        have GA := hide (FA.out.below T0.out.b);have GB := hide (FB.out.below T0.out.b);clear FA FB;obtain ⟨p0,p1,p2,p3,p4,p5,p6⟩ := T0.out.hd 0 w.heap.size rfl rfl;obtain ⟨q0,q1,q2,q3,q4,q5,q6⟩ := T0.out.hd 1 (w.heap.size + 1) rfl rfl;go_upto_region 3 with fail
        clear p0 p1 p2 p3 p4 p5 q0 q1 q2 q3 q4 q5;go_wp2_with fail
        go_loopw [58] (fun i wr => ∃ k : Nat,k <= A.length /\ i = .int .i64 k /\ Hid (A.take k = B.take k) /\ Hid (∃ n,wr = x.drewN n)) (fun i _ => A.length - (intOf i).toNat)
        case atStart => exact ⟨0,Nat.zero_le _,rfl,hide rfl,hide ⟨0,rfl⟩⟩
        case round =>
         obtain ⟨k,hk,rfl,H,HW⟩ := hrel;by_cases hlt : k < A.length
         ·have hlb : k < B.length := by omega
          obtain ⟨a',c',he,_,hca⟩ := GA.out;simp only [Value.slice.injEq] at he;obtain ⟨rfl,_,rfl⟩ := he;obtain ⟨b',d',he,_,hcb⟩ := GB.out;simp only [Value.slice.injEq] at he;obtain ⟨rfl,_,rfl⟩ := he;obtain ⟨g1,o1,rfl,_,r1,r2⟩ := hca k hlt;obtain ⟨g2,o2,rfl,_,r3,r4⟩ := hcb k hlb;clear hca hcb;obtain ⟨n,hwn⟩ := HW.out;subst hwn;have hsa := hide (take_snocP A k hlt);have hsb := hide (take_snocP B k hlb);obtain ⟨⟨fa,fb⟩,hf⟩ : ∃ f,A[k] = f := ⟨_,rfl⟩
          obtain ⟨⟨ga,gb⟩,hg⟩ : ∃ f,B[k] = f := ⟨_,rfl⟩
          have HNE : Hid ((fa,fb) ≠ (ga,gb) -> A ≠ B) := hide (by rintro hne rfl;exact hne (hf.symm.trans hg));rw [hf] at r1 r2 hsa;rw [hg] at r3 r4 hsb;dsimp only at r1 r2 r3 r4;clear hf hg;have e1 := bytes_eq fa ga;have e2 := bytes_eq fb gb;by_cases h1 : fa = ga
          ·subst h1
           clear e1;by_cases h2 : fb = gb
           ·subst h2
            clear e2;have HTK : Hid (A.take (k + 1) = B.take (k + 1)) := hide (by rw [hsa.out,hsb.out,H.out]);go_wp2
            go_quiet (fail)
            go_wp2
            exact ⟨⟨k + 1,by omega,by go_num,HTK,hide ⟨n + nq,rfl⟩⟩,by simp [intOf];omega⟩
           ·have t2 : (fb.toList == gb.toList) = false := by rw [e2]; exact decide_eq_false h2
            have HE : Hid (A ≠ B) := hide (HNE.out (fun e => h2 (Prod.mk.inj e).2));clear e2 h2;go_wp2
            go_quiet (fail)
            go_wp2
            go_ret
            exact ⟨ret_bool (by rw [<- HD.out];simp [HE.out]),by rw [World.drewN_drewN];exact T0.out.b.trans ((below_drewN x _).mono T0.out.b.size)⟩
          ·have t1 : (fa.toList == ga.toList) = false := by rw [e1]; exact decide_eq_false h1
           have HE : Hid (A ≠ B) := hide (HNE.out (fun e => h1 (Prod.mk.inj e).1));clear e1 e2 h1;go_wp2
           go_quiet (fail)
           go_wp2
           go_ret
           exact ⟨ret_bool (by rw [<- HD.out];simp [HE.out]),by rw [World.drewN_drewN];exact T0.out.b.trans ((below_drewN x _).mono T0.out.b.size)⟩
         ·have HE : Hid (A = B) := hide (by
           have := H.out;rw [List.take_of_length_le (by omega),List.take_of_length_le (by omega)] at this;exact this)
          obtain ⟨n,hwn⟩ := HW.out;subst hwn;go_wp2
          go_ret
          exact ⟨ret_bool (by rw [<- HD.out];simp [HE.out]),T0.out.b.trans ((below_drewN x _).mono T0.out.b.size)⟩
       ·have t : ((A.length : Int) != (B.length : Int)) = true := by rw [bne_iff_ne]; omega
        have HN : Hid (A ≠ B) := hide (by rintro rfl;exact hn rfl);clear hn;go_enter Tryz.func33,Tryz.ntmps33
        go_wp2
        go_ret
        exact ⟨ret_bool (by rw [<- HD.out];simp [HN.out]),(Bl.two w _ _ _ _).b⟩
      ·have t5 : (are.toList == bre.toList) = false := by rw [e5]; exact decide_eq_false h5
       have HN := hide h5;clear e5 h5;go_enter Tryz.func33,Tryz.ntmps33
       go_wp2
       go_ret
       exact ⟨ret_bool (by rw [<- HD.out];simp [HN.out]),(Bl.two w _ _ _ _).b⟩
     ·have HN := hide h4
      clear e5;have t4 : (ast != bst) = true := bne_iff_ne.2 h4;go_enter Tryz.func33,Tryz.ntmps33
      go_wp2
      go_ret
      exact ⟨ret_bool (by rw [<- HD.out];simp [HN.out]),(Bl.two w _ _ _ _).b⟩
    ·have HN := hide h3
     clear e5;have t3 : (ami != bmi) = true := bne_iff_ne.2 h3;go_enter Tryz.func33,Tryz.ntmps33
     go_wp2
     go_ret
     exact ⟨ret_bool (by rw [<- HD.out];simp [HN.out]),(Bl.two w _ _ _ _).b⟩
   ·have t2 : (ata.toList == bta.toList) = false := by rw [e2]; exact decide_eq_false h2
    have HN := hide h2;clear e2 e5 h2;go_enter Tryz.func33,Tryz.ntmps33
    go_wp2
    go_ret
    exact ⟨ret_bool (by rw [<- HD.out];simp [HN.out]),(Bl.two w _ _ _ _).b⟩
  ·have t1 : (ame.toList == bme.toList) = false := by rw [e1]; exact decide_eq_false h1
   have HN := hide h1;clear e1 e2 e5 h1;go_enter Tryz.func33,Tryz.ntmps33
   go_wp2
   go_ret
   exact ⟨ret_bool (by rw [<- HD.out];simp [HN.out]),(Bl.two w _ _ _ _).b⟩
 ·have t0 : (ar == br) = false := beq_eq_false_iff_ne.2 h0
  have HN := hide h0;clear e1 e2 e5;cases ar <;> cases br <;> first | exact absurd rfl h0 | skip
  all_goals (clear h0 t0)
  all_goals (go_enter Tryz.func33,Tryz.ntmps33)
  all_goals (go_wp2)
  all_goals (go_ret)
  all_goals (exact ⟨ret_bool (by rw [<- HD.out];rfl),(Bl.two w _ _ _ _).b⟩)
theorem rparse_any (rq : Bool) (v : Value) (l : List UInt8) (w : World) (hv : Bs w w.heap.size v l) (hl : l.length <= 140737488355328) :
  Calls Tryz.prog 32 #[.bool rq,v] w fun e w' => ∃ u,e = .returned (.tuple #[hxV (pParse rq l).1 u,.int .i64 ((pParse rq l).2.1 : Int),.int .i64 ((pParse rq l).2.2 : Int)]) /\ FRow w' w.heap.size u (pParse rq l).1.fs /\ Below w.heap.size w w' := by
 have HV := hide hv;obtain ⟨a,cp,rfl,_,_⟩ := hv;have HRD := hide (fun (W : World) (h : Bs W W.heap.size (.slice a l.length cp) l) => rread_any W rq 65536 (Nat.le_refl _) _ l h hl);have hpe := parse_eq rq l;generalize pBytes (pNew rq 65536) l = R at HRD hpe;obtain ⟨er,n,q⟩ := R;dsimp only at HRD hpe;generalize hP : pParse rq l = P at hpe;clear hP;have HP := hide hpe;clear hpe hl;go_enter Tryz.func32,Tryz.ntmps32
 go_wp2_with fail
 have T0 := hide (Bl.one w #[.bool false,.string ⟨#[]⟩,.string ⟨#[]⟩,.int .i64 0,.int .i64 0,.string ⟨#[]⟩,.slice none 0 0] 45);generalize (w.alloc (.cells #[.bool false,.string ⟨#[]⟩,.string ⟨#[]⟩,.int .i64 0,.int .i64 0,.string ⟨#[]⟩,.slice none 0 0] 45)) = x at T0 |-
 have BX := hide (HV.out.below T0.out.b.size T0.out.b);have HQ := hide (HRD.out x BX.out);clear HRD BX;by_cases h0 : er = 0
 ·subst h0
  cases hw : q.whole with
  | false =>
   have e1 : rdW (0,n,q) = false := by unfold rdW;dsimp only;rw [hw];rfl
   have e2 : rdH (0,n,q) = hx0 := by unfold rdH;rw [e1];rfl
   have hp := HP.out;rw [if_neg (by simp),if_pos hw] at hp;subst hp;clear HP hw;rw [e1,e2] at HQ;clear e1 e2;unfold hxV hx0 at HQ;dsimp only at HQ;refine HQ.out.mono ?_;rintro e w1 ⟨u,rfl,hu,bb⟩;have T1 := hide (T0.out.below bb)
   obtain ⟨ua,ul,uc,rfl⟩ : ∃ a n c,u = .slice a n c := by
    obtain ⟨a,c,h,_⟩ := hu.shape;exact ⟨a,_,c,h⟩
   clear hu bb T0 HQ;go_upto_region 4 with fail
   have V2 := hide (Bl.one w1 #[.bool false,.string ⟨#[]⟩,.string ⟨#[]⟩,.int .i64 0,.int .i64 0,.string ⟨#[]⟩,.slice ua ul uc] 45);have T2 := hide (T1.out.below V2.out.b);generalize (w1.alloc (.cells #[.bool false,.string ⟨#[]⟩,.string ⟨#[]⟩,.int .i64 0,.int .i64 0,.string ⟨#[]⟩,.slice ua ul uc] 45)) = w2 at T2 V2 |-
   clear T1 V2;obtain ⟨s0,s1,s2,s3,s4,s5,s6⟩ := T2.out.hd 0 (w.heap.size) rfl rfl;have f0 : w2.frozen? ⟨w.heap.size,0,none⟩ = false := T2.out.fr 0 rfl 0;have f1 : w2.frozen? ⟨w.heap.size,1,none⟩ = false := T2.out.fr 0 rfl 1;have f2 : w2.frozen? ⟨w.heap.size,2,none⟩ = false := T2.out.fr 0 rfl 2;have f3 : w2.frozen? ⟨w.heap.size,3,none⟩ = false := T2.out.fr 0 rfl 3;have f4 : w2.frozen? ⟨w.heap.size,4,none⟩ = false := T2.out.fr 0 rfl 4;have f5 : w2.frozen? ⟨w.heap.size,5,none⟩ = false := T2.out.fr 0 rfl 5;have f6 : w2.frozen? ⟨w.heap.size,6,none⟩ = false := T2.out.fr 0 rfl 6;go_wp2
   have TF0 : Hid (Bl w (w2.setCell ⟨w.heap.size,0,none⟩ (.bool false)) [(#[.bool false,.string ⟨#[]⟩,.string ⟨#[]⟩,.int .i64 0,.int .i64 0,.string ⟨#[]⟩,.slice none 0 0],45)]) := hide (T2.out.set 0 rfl 0 (.bool false));have TF1 : Hid (Bl w ((w2.setCell ⟨w.heap.size,0,none⟩ (.bool false)).setCell ⟨w.heap.size,1,none⟩ (.string ⟨#[]⟩)) [(#[.bool false,.string ⟨#[]⟩,.string ⟨#[]⟩,.int .i64 0,.int .i64 0,.string ⟨#[]⟩,.slice none 0 0],45)]) := hide (TF0.out.set 0 rfl 1 (.string ⟨#[]⟩));have TF2 : Hid (Bl w (((w2.setCell ⟨w.heap.size,0,none⟩ (.bool false)).setCell ⟨w.heap.size,1,none⟩ (.string ⟨#[]⟩)).setCell ⟨w.heap.size,2,none⟩ (.string ⟨#[]⟩)) [(#[.bool false,.string ⟨#[]⟩,.string ⟨#[]⟩,.int .i64 0,.int .i64 0,.string ⟨#[]⟩,.slice none 0 0],45)]) := hide (TF1.out.set 0 rfl 2 (.string ⟨#[]⟩));have TF3 : Hid (Bl w ((((w2.setCell ⟨w.heap.size,0,none⟩ (.bool false)).setCell ⟨w.heap.size,1,none⟩ (.string ⟨#[]⟩)).setCell ⟨w.heap.size,2,none⟩ (.string ⟨#[]⟩)).setCell ⟨w.heap.size,3,none⟩ (.int .i64 0)) [(#[.bool false,.string ⟨#[]⟩,.string ⟨#[]⟩,.int .i64 0,.int .i64 0,.string ⟨#[]⟩,.slice none 0 0],45)]) := hide (TF2.out.set 0 rfl 3 (.int .i64 0));have TF4 : Hid (Bl w (((((w2.setCell ⟨w.heap.size,0,none⟩ (.bool false)).setCell ⟨w.heap.size,1,none⟩ (.string ⟨#[]⟩)).setCell ⟨w.heap.size,2,none⟩ (.string ⟨#[]⟩)).setCell ⟨w.heap.size,3,none⟩ (.int .i64 0)).setCell ⟨w.heap.size,4,none⟩ (.int .i64 0)) [(#[.bool false,.string ⟨#[]⟩,.string ⟨#[]⟩,.int .i64 0,.int .i64 0,.string ⟨#[]⟩,.slice none 0 0],45)]) := hide (TF3.out.set 0 rfl 4 (.int .i64 0))
   have TF5 : Hid (Bl w ((((((w2.setCell ⟨w.heap.size,0,none⟩ (.bool false)).setCell ⟨w.heap.size,1,none⟩ (.string ⟨#[]⟩)).setCell ⟨w.heap.size,2,none⟩ (.string ⟨#[]⟩)).setCell ⟨w.heap.size,3,none⟩ (.int .i64 0)).setCell ⟨w.heap.size,4,none⟩ (.int .i64 0)).setCell ⟨w.heap.size,5,none⟩ (.string ⟨#[]⟩)) [(#[.bool false,.string ⟨#[]⟩,.string ⟨#[]⟩,.int .i64 0,.int .i64 0,.string ⟨#[]⟩,.slice none 0 0],45)]) := hide (TF4.out.set 0 rfl 5 (.string ⟨#[]⟩));have TF : Hid (Bl w (((((((w2.setCell ⟨w.heap.size,0,none⟩ (.bool false)).setCell ⟨w.heap.size,1,none⟩ (.string ⟨#[]⟩)).setCell ⟨w.heap.size,2,none⟩ (.string ⟨#[]⟩)).setCell ⟨w.heap.size,3,none⟩ (.int .i64 0)).setCell ⟨w.heap.size,4,none⟩ (.int .i64 0)).setCell ⟨w.heap.size,5,none⟩ (.string ⟨#[]⟩)).setCell ⟨w.heap.size,6,none⟩ (.slice none 0 0)) [(#[.bool false,.string ⟨#[]⟩,.string ⟨#[]⟩,.int .i64 0,.int .i64 0,.string ⟨#[]⟩,.slice none 0 0],45)]) := hide (TF5.out.set 0 rfl 6 (.slice none 0 0));clear TF0 TF1 TF2 TF3 TF4 TF5;generalize (((((((w2.setCell ⟨w.heap.size,0,none⟩ (.bool false)).setCell ⟨w.heap.size,1,none⟩ (.string ⟨#[]⟩)).setCell ⟨w.heap.size,2,none⟩ (.string ⟨#[]⟩)).setCell ⟨w.heap.size,3,none⟩ (.int .i64 0)).setCell ⟨w.heap.size,4,none⟩ (.int .i64 0)).setCell ⟨w.heap.size,5,none⟩ (.string ⟨#[]⟩)).setCell ⟨w.heap.size,6,none⟩ (.slice none 0 0)) = w9 at TF |-
   clear s0 s1 s2 s3 s4 s5 s6 f0 f1 f2 f3 f4 f5 f6;obtain ⟨k0,k1,k2,k3,k4,k5,k6⟩ := TF.out.hd 0 (w.heap.size) rfl rfl;exact bodyPost_ret (v := .tuple #[.agg #[.bool false,.string ⟨#[]⟩,.string ⟨#[]⟩,.int .i64 0,.int .i64 0,.string ⟨#[]⟩,.slice none 0 0],.int .i64 0,.int .i64 (6 : Int)]) (by simp [results,Tryz.results32,go_sem,k0,k1,k2,k3,k4,k5,k6]) rfl ⟨.slice none 0 0,rfl,FRow.nil _ _,TF.out.b⟩
  | true =>
   have e1 : rdW (0,n,q) = true := by unfold rdW;dsimp only;rw [hw];rfl
   have e2 : rdH (0,n,q) = q.hx := by unfold rdH;rw [e1];rfl
   have hp := HP.out;rw [if_neg (by simp),if_neg (by simp [hw])] at hp;subst hp;clear HP hw;rw [e1,e2] at HQ;clear e1 e2;obtain ⟨_,_,_,_,_,_,xr,xme,xta,xmi,xst,xre,XA,_,_⟩ := q;unfold hxV at HQ;dsimp only [Pz.hx] at HQ;refine HQ.out.mono ?_;rintro e w1 ⟨u,rfl,hu,bb⟩;have T1 := hide (T0.out.below bb);have HU : Hid (FRow w1 (w.heap.size + 1) u XA) := hide (hu.lower (blk_lt (T0.out.hp 0 _ _ rfl)))
   obtain ⟨ua,ul,uc,rfl⟩ : ∃ a n c,u = .slice a n c := by
    obtain ⟨a,c,h,_⟩ := hu.shape;exact ⟨a,_,c,h⟩
   clear hu bb T0 HQ;go_upto_region 4 with fail
   have V2 := hide (Bl.one w1 #[.bool xr,.string xme,.string xta,.int .i64 (xmi : Int),.int .i64 (xst : Int),.string xre,.slice ua ul uc] 45);have T2 := hide (T1.out.below V2.out.b);have HU2 := hide (HU.out.below V2.out.b);generalize (w1.alloc (.cells #[.bool xr,.string xme,.string xta,.int .i64 (xmi : Int),.int .i64 (xst : Int),.string xre,.slice ua ul uc] 45)) = w2 at T2 V2 HU2 |-
   clear T1 HU;obtain ⟨p0,p1,p2,p3,p4,p5,p6⟩ := V2.out.hd 0 w1.heap.size rfl rfl;obtain ⟨s0,s1,s2,s3,s4,s5,s6⟩ := T2.out.hd 0 (w.heap.size) rfl rfl;have f0 : w2.frozen? ⟨w.heap.size,0,none⟩ = false := T2.out.fr 0 rfl 0;have f1 : w2.frozen? ⟨w.heap.size,1,none⟩ = false := T2.out.fr 0 rfl 1;have f2 : w2.frozen? ⟨w.heap.size,2,none⟩ = false := T2.out.fr 0 rfl 2;have f3 : w2.frozen? ⟨w.heap.size,3,none⟩ = false := T2.out.fr 0 rfl 3;have f4 : w2.frozen? ⟨w.heap.size,4,none⟩ = false := T2.out.fr 0 rfl 4;have f5 : w2.frozen? ⟨w.heap.size,5,none⟩ = false := T2.out.fr 0 rfl 5;have f6 : w2.frozen? ⟨w.heap.size,6,none⟩ = false := T2.out.fr 0 rfl 6;go_wp2
   have TF0 : Hid (Bl w (w2.setCell ⟨w.heap.size,0,none⟩ (.bool xr)) [(#[.bool xr,.string ⟨#[]⟩,.string ⟨#[]⟩,.int .i64 0,.int .i64 0,.string ⟨#[]⟩,.slice none 0 0],45)]) := hide (T2.out.set 0 rfl 0 (.bool xr));have TF1 : Hid (Bl w ((w2.setCell ⟨w.heap.size,0,none⟩ (.bool xr)).setCell ⟨w.heap.size,1,none⟩ (.string xme)) [(#[.bool xr,.string xme,.string ⟨#[]⟩,.int .i64 0,.int .i64 0,.string ⟨#[]⟩,.slice none 0 0],45)]) := hide (TF0.out.set 0 rfl 1 (.string xme));have TF2 : Hid (Bl w (((w2.setCell ⟨w.heap.size,0,none⟩ (.bool xr)).setCell ⟨w.heap.size,1,none⟩ (.string xme)).setCell ⟨w.heap.size,2,none⟩ (.string xta)) [(#[.bool xr,.string xme,.string xta,.int .i64 0,.int .i64 0,.string ⟨#[]⟩,.slice none 0 0],45)]) := hide (TF1.out.set 0 rfl 2 (.string xta));have TF3 : Hid (Bl w ((((w2.setCell ⟨w.heap.size,0,none⟩ (.bool xr)).setCell ⟨w.heap.size,1,none⟩ (.string xme)).setCell ⟨w.heap.size,2,none⟩ (.string xta)).setCell ⟨w.heap.size,3,none⟩ (.int .i64 (xmi : Int))) [(#[.bool xr,.string xme,.string xta,.int .i64 (xmi : Int),.int .i64 0,.string ⟨#[]⟩,.slice none 0 0],45)]) := hide (TF2.out.set 0 rfl 3 (.int .i64 (xmi : Int)));have TF4 : Hid (Bl w (((((w2.setCell ⟨w.heap.size,0,none⟩ (.bool xr)).setCell ⟨w.heap.size,1,none⟩ (.string xme)).setCell ⟨w.heap.size,2,none⟩ (.string xta)).setCell ⟨w.heap.size,3,none⟩ (.int .i64 (xmi : Int))).setCell ⟨w.heap.size,4,none⟩ (.int .i64 (xst : Int))) [(#[.bool xr,.string xme,.string xta,.int .i64 (xmi : Int),.int .i64 (xst : Int),.string ⟨#[]⟩,.slice none 0 0],45)]) := hide (TF3.out.set 0 rfl 4 (.int .i64 (xst : Int)))
   have TF5 : Hid (Bl w ((((((w2.setCell ⟨w.heap.size,0,none⟩ (.bool xr)).setCell ⟨w.heap.size,1,none⟩ (.string xme)).setCell ⟨w.heap.size,2,none⟩ (.string xta)).setCell ⟨w.heap.size,3,none⟩ (.int .i64 (xmi : Int))).setCell ⟨w.heap.size,4,none⟩ (.int .i64 (xst : Int))).setCell ⟨w.heap.size,5,none⟩ (.string xre)) [(#[.bool xr,.string xme,.string xta,.int .i64 (xmi : Int),.int .i64 (xst : Int),.string xre,.slice none 0 0],45)]) := hide (TF4.out.set 0 rfl 5 (.string xre));have TF : Hid (Bl w (((((((w2.setCell ⟨w.heap.size,0,none⟩ (.bool xr)).setCell ⟨w.heap.size,1,none⟩ (.string xme)).setCell ⟨w.heap.size,2,none⟩ (.string xta)).setCell ⟨w.heap.size,3,none⟩ (.int .i64 (xmi : Int))).setCell ⟨w.heap.size,4,none⟩ (.int .i64 (xst : Int))).setCell ⟨w.heap.size,5,none⟩ (.string xre)).setCell ⟨w.heap.size,6,none⟩ (.slice ua ul uc)) [(#[.bool xr,.string xme,.string xta,.int .i64 (xmi : Int),.int .i64 (xst : Int),.string xre,.slice ua ul uc],45)]) := hide (TF5.out.set 0 rfl 6 (.slice ua ul uc));clear TF0 TF1 TF2 TF3 TF4 TF5;have RF := hide (FRow.setOld (FRow.setOld (FRow.setOld (FRow.setOld (FRow.setOld (FRow.setOld (FRow.setOld HU2.out (g := w.heap.size) (by omega) 0 (.bool xr)) (g := w.heap.size) (by omega) 1 (.string xme)) (g := w.heap.size) (by omega) 2 (.string xta)) (g := w.heap.size) (by omega) 3 (.int .i64 (xmi : Int))) (g := w.heap.size) (by omega) 4 (.int .i64 (xst : Int))) (g := w.heap.size) (by omega) 5 (.string xre)) (g := w.heap.size) (by omega) 6 (.slice ua ul uc));generalize (((((((w2.setCell ⟨w.heap.size,0,none⟩ (.bool xr)).setCell ⟨w.heap.size,1,none⟩ (.string xme)).setCell ⟨w.heap.size,2,none⟩ (.string xta)).setCell ⟨w.heap.size,3,none⟩ (.int .i64 (xmi : Int))).setCell ⟨w.heap.size,4,none⟩ (.int .i64 (xst : Int))).setCell ⟨w.heap.size,5,none⟩ (.string xre)).setCell ⟨w.heap.size,6,none⟩ (.slice ua ul uc)) = w9 at TF RF |-
   clear s0 s1 s2 s3 s4 s5 s6 f0 f1 f2 f3 f4 f5 f6;obtain ⟨k0,k1,k2,k3,k4,k5,k6⟩ := TF.out.hd 0 (w.heap.size) rfl rfl;exact bodyPost_ret (v := .tuple #[.agg #[.bool xr,.string xme,.string xta,.int .i64 (xmi : Int),.int .i64 (xst : Int),.string xre,.slice ua ul uc],.int .i64 (n : Int),.int .i64 0]) (by simp [results,Tryz.results32,go_sem,k0,k1,k2,k3,k4,k5,k6]) rfl ⟨.slice ua ul uc,rfl,RF.out.lower (by omega),TF.out.b⟩
 ·have e1 : rdW (er, n, q) = false := by unfold rdW; rw [decide_eq_false h0]; rfl
  have e2 : rdH (er,n,q) = hx0 := by unfold rdH;rw [e1];rfl
  have t0 : ((er : Int) != 0) = true := bne_iff_ne.2 (by omega);have hp := HP.out;rw [if_pos h0] at hp;subst hp;clear HP h0;rw [e1,e2] at HQ;clear e1 e2;unfold hxV hx0 at HQ;dsimp only at HQ;refine HQ.out.mono ?_;rintro e w1 ⟨u,rfl,hu,bb⟩;have T1 := hide (T0.out.below bb)
  obtain ⟨ua,ul,uc,rfl⟩ : ∃ a n c,u = .slice a n c := by
   obtain ⟨a,c,h,_⟩ := hu.shape;exact ⟨a,_,c,h⟩
  clear hu bb T0 HQ;go_upto_region 3 with fail
  have V2 := hide (Bl.one w1 #[.bool false,.string ⟨#[]⟩,.string ⟨#[]⟩,.int .i64 0,.int .i64 0,.string ⟨#[]⟩,.slice ua ul uc] 45);have T2 := hide (T1.out.below V2.out.b);generalize (w1.alloc (.cells #[.bool false,.string ⟨#[]⟩,.string ⟨#[]⟩,.int .i64 0,.int .i64 0,.string ⟨#[]⟩,.slice ua ul uc] 45)) = w2 at T2 V2 |-
  clear T1 V2;obtain ⟨s0,s1,s2,s3,s4,s5,s6⟩ := T2.out.hd 0 (w.heap.size) rfl rfl;have f0 : w2.frozen? ⟨w.heap.size,0,none⟩ = false := T2.out.fr 0 rfl 0;have f1 : w2.frozen? ⟨w.heap.size,1,none⟩ = false := T2.out.fr 0 rfl 1;have f2 : w2.frozen? ⟨w.heap.size,2,none⟩ = false := T2.out.fr 0 rfl 2;have f3 : w2.frozen? ⟨w.heap.size,3,none⟩ = false := T2.out.fr 0 rfl 3;have f4 : w2.frozen? ⟨w.heap.size,4,none⟩ = false := T2.out.fr 0 rfl 4;have f5 : w2.frozen? ⟨w.heap.size,5,none⟩ = false := T2.out.fr 0 rfl 5;have f6 : w2.frozen? ⟨w.heap.size,6,none⟩ = false := T2.out.fr 0 rfl 6;go_wp2
  have TF0 : Hid (Bl w (w2.setCell ⟨w.heap.size,0,none⟩ (.bool false)) [(#[.bool false,.string ⟨#[]⟩,.string ⟨#[]⟩,.int .i64 0,.int .i64 0,.string ⟨#[]⟩,.slice none 0 0],45)]) := hide (T2.out.set 0 rfl 0 (.bool false));have TF1 : Hid (Bl w ((w2.setCell ⟨w.heap.size,0,none⟩ (.bool false)).setCell ⟨w.heap.size,1,none⟩ (.string ⟨#[]⟩)) [(#[.bool false,.string ⟨#[]⟩,.string ⟨#[]⟩,.int .i64 0,.int .i64 0,.string ⟨#[]⟩,.slice none 0 0],45)]) := hide (TF0.out.set 0 rfl 1 (.string ⟨#[]⟩));have TF2 : Hid (Bl w (((w2.setCell ⟨w.heap.size,0,none⟩ (.bool false)).setCell ⟨w.heap.size,1,none⟩ (.string ⟨#[]⟩)).setCell ⟨w.heap.size,2,none⟩ (.string ⟨#[]⟩)) [(#[.bool false,.string ⟨#[]⟩,.string ⟨#[]⟩,.int .i64 0,.int .i64 0,.string ⟨#[]⟩,.slice none 0 0],45)]) := hide (TF1.out.set 0 rfl 2 (.string ⟨#[]⟩));have TF3 : Hid (Bl w ((((w2.setCell ⟨w.heap.size,0,none⟩ (.bool false)).setCell ⟨w.heap.size,1,none⟩ (.string ⟨#[]⟩)).setCell ⟨w.heap.size,2,none⟩ (.string ⟨#[]⟩)).setCell ⟨w.heap.size,3,none⟩ (.int .i64 0)) [(#[.bool false,.string ⟨#[]⟩,.string ⟨#[]⟩,.int .i64 0,.int .i64 0,.string ⟨#[]⟩,.slice none 0 0],45)]) := hide (TF2.out.set 0 rfl 3 (.int .i64 0));have TF4 : Hid (Bl w (((((w2.setCell ⟨w.heap.size,0,none⟩ (.bool false)).setCell ⟨w.heap.size,1,none⟩ (.string ⟨#[]⟩)).setCell ⟨w.heap.size,2,none⟩ (.string ⟨#[]⟩)).setCell ⟨w.heap.size,3,none⟩ (.int .i64 0)).setCell ⟨w.heap.size,4,none⟩ (.int .i64 0)) [(#[.bool false,.string ⟨#[]⟩,.string ⟨#[]⟩,.int .i64 0,.int .i64 0,.string ⟨#[]⟩,.slice none 0 0],45)]) := hide (TF3.out.set 0 rfl 4 (.int .i64 0))
  have TF5 : Hid (Bl w ((((((w2.setCell ⟨w.heap.size,0,none⟩ (.bool false)).setCell ⟨w.heap.size,1,none⟩ (.string ⟨#[]⟩)).setCell ⟨w.heap.size,2,none⟩ (.string ⟨#[]⟩)).setCell ⟨w.heap.size,3,none⟩ (.int .i64 0)).setCell ⟨w.heap.size,4,none⟩ (.int .i64 0)).setCell ⟨w.heap.size,5,none⟩ (.string ⟨#[]⟩)) [(#[.bool false,.string ⟨#[]⟩,.string ⟨#[]⟩,.int .i64 0,.int .i64 0,.string ⟨#[]⟩,.slice none 0 0],45)]) := hide (TF4.out.set 0 rfl 5 (.string ⟨#[]⟩));have TF : Hid (Bl w (((((((w2.setCell ⟨w.heap.size,0,none⟩ (.bool false)).setCell ⟨w.heap.size,1,none⟩ (.string ⟨#[]⟩)).setCell ⟨w.heap.size,2,none⟩ (.string ⟨#[]⟩)).setCell ⟨w.heap.size,3,none⟩ (.int .i64 0)).setCell ⟨w.heap.size,4,none⟩ (.int .i64 0)).setCell ⟨w.heap.size,5,none⟩ (.string ⟨#[]⟩)).setCell ⟨w.heap.size,6,none⟩ (.slice none 0 0)) [(#[.bool false,.string ⟨#[]⟩,.string ⟨#[]⟩,.int .i64 0,.int .i64 0,.string ⟨#[]⟩,.slice none 0 0],45)]) := hide (TF5.out.set 0 rfl 6 (.slice none 0 0));clear TF0 TF1 TF2 TF3 TF4 TF5;generalize (((((((w2.setCell ⟨w.heap.size,0,none⟩ (.bool false)).setCell ⟨w.heap.size,1,none⟩ (.string ⟨#[]⟩)).setCell ⟨w.heap.size,2,none⟩ (.string ⟨#[]⟩)).setCell ⟨w.heap.size,3,none⟩ (.int .i64 0)).setCell ⟨w.heap.size,4,none⟩ (.int .i64 0)).setCell ⟨w.heap.size,5,none⟩ (.string ⟨#[]⟩)).setCell ⟨w.heap.size,6,none⟩ (.slice none 0 0)) = w9 at TF |-
  clear s0 s1 s2 s3 s4 s5 s6 f0 f1 f2 f3 f4 f5 f6;obtain ⟨k0,k1,k2,k3,k4,k5,k6⟩ := TF.out.hd 0 (w.heap.size) rfl rfl;exact bodyPost_ret (v := .tuple #[.agg #[.bool false,.string ⟨#[]⟩,.string ⟨#[]⟩,.int .i64 0,.int .i64 0,.string ⟨#[]⟩,.slice none 0 0],.int .i64 0,.int .i64 (er : Int)]) (by simp [results,Tryz.results32,go_sem,k0,k1,k2,k3,k4,k5,k6]) rfl ⟨.slice none 0 0,rfl,FRow.nil _ _,TF.out.b⟩
theorem print_fs {h : Hi} (hp : printB h = true) : h.fs.length <= 100 := by
 obtain ⟨x,rfl,hr,_⟩ := print_is hp;exact hr.fl
theorem print_tx {h : Hi} (hp : printB h = true) (ts : ByteArray) (ht : ts.data.toList = fullL h) : ts = textS h := by
 obtain ⟨x,rfl,_,h1,_⟩ := print_is hp;exact data_inj (by rw [textS_list,h1,ht])
theorem rprint_any (h : Hi) (l : Value) (w : World) (hF : Flds w l h.fs) (hb : Hb h) (ht : PT w) :
  Calls Tryz.prog 19 #[hiV h l] w fun e w' => e = .returned (.tuple #[.string (if printB h then textS h else ⟨#[]⟩),.int .i64 (if printB h then 0 else 4)]) /\ Below w.heap.size w w' := by
 have HF1 := hide (@print_fs h);have HTX := hide (@print_tx h);have HIF := hide (print_iff h);have HRP := hide (fun (W : World) (v : Value) (hv : Bs W W.heap.size v (fullL h)) (hl : (fullL h).length <= 140737488355328) => rparse_any h.r v (fullL h) W hv hl);have HPL : Hid ((pParse h.r (fullL h)).1.fs.length <= 100) := hide (parse_sz h.r (fullL h)).2.2.2.2.2.2;have HFL := hide (Nat.le_trans hb.fl (by decide : 1048576 <= 1099511627776));have HSM := hide (fun W (X : Hi) la (h1 : Flds W la X.fs) (h2 : Flds W l h.fs) (h3 : X.fs.length <= 1099511627776) => rsameH_any W X h la l h1 h2 h3 HFL.out);have HFS := hide hb.fs;have HI1 := hide (fun W hW => itoa_any h.mi W hb.mi0 hb.mi1 hW);have HI2 := hide (fun W hW => itoa_any h.st W hb.st0 hb.st1 hW);have z1 := itoaS_size h.mi hb.mi0 hb.mi1;have z2 := itoaS_size h.st hb.st0 hb.st1;have z3 := hb.me;have z4 := hb.ta;have z5 := hb.re;have zf := firstS_size h hb;have HFU : Hid (fullL h = (firstS h).data.toList ++ 13 :: 10 :: (h.fs.flatMap fldL ++ [13,10])) := hide rfl;have HT := hide ht;have F0 := hide hF;obtain ⟨a,c,rfl,_,_⟩ := hF;clear hb ht;generalize printB h = pb at HF1 HTX HIF |-
 generalize textS h = tS at HTX |-
 generalize fullL h = fl at HTX HIF HRP HPL HFU;generalize hFS : firstS h = fsS at HFU zf;have HFI := hide hFS;generalize pParse h.r fl = P at HIF HRP HPL;obtain ⟨⟨xr,xme,xta,xmi,xst,xre,XA⟩,m,er⟩ := P;unfold firstS verS at hFS;unfold hxV at HRP;unfold hiV;obtain ⟨r,me,ta,mi,st,re,A⟩ := h;simp only [Hx.hi] at HIF;dsimp only at *;by_cases hlen : 100 < A.length
 ·have i0 : (100 : Int) < (A.length : Int) := by omega
  have hno : pb = false := by
   cases hpb : pb with
   | false => rfl
   | true => have := HF1.out hpb;omega
  subst hno;clear hFS;go_enter Tryz.func19,Tryz.ntmps19
  go_wp2_with fail
  go_ret2
  exact ⟨rfl,(Bl.one w _ _).b⟩
 ·have i0 : ¬ (100 : Int) < (A.length : Int) := by omega
  go_enter Tryz.func19,Tryz.ntmps19
  go_upto_region 1 with fail
  have T0 := hide (Bl.one w #[.bool r,.string me,.string ta,.int .i64 mi,.int .i64 st,.string re,.slice a A.length c] 45);generalize (w.alloc (.cells #[.bool r,.string me,.string ta,.int .i64 mi,.int .i64 st,.string re,.slice a A.length c] 45)) = x0 at T0 |-
  have F1 := hide (F0.out.below T0.out.b);clear F0;have r6 : x0.cell? ⟨w.heap.size,6,none⟩ = some (.slice a A.length c) := T0.out.cell 0 rfl 6;have r3 : x0.cell? ⟨w.heap.size,3,none⟩ = some (.int .i64 mi) := T0.out.cell 0 rfl 3;generalize itoaS mi = ms at HI1 z1 hFS;generalize itoaS st = ss at HI2 z2 hFS;go_wp2_with fail
  refine (HI1.out _ (HT.out.below T0.out.b)).mono ?_;rintro e w1 ⟨rfl,bb⟩;have T1 := hide (T0.out.below bb);have F2 := hide (F1.out.below bb);clear bb T0 F1 r6 r3;obtain ⟨r0,r1,r2,r3,r4,r5,r6⟩ := T1.out.hd 0 w.heap.size rfl rfl;have e7 : (⟨#[72,84,84,80,47,49,46]⟩ : ByteArray).size = 7 := rfl;have e1 : (⟨#[32]⟩ : ByteArray).size = 1 := rfl;have y1 : ((⟨#[72,84,84,80,47,49,46]⟩ : ByteArray) ++ ms).size <= 28 := by rw [app_size];omega
  have HFV := hide hFS;clear hFS;go_upto_region 4 with fail
  generalize ((⟨#[72,84,84,80,47,49,46]⟩ : ByteArray) ++ ms) = vs at y1 HFV |-
  have y2 : (vs ++ (⟨#[32]⟩ : ByteArray)).size <= 29 := by rw [app_size];omega
  have y3 : ((vs ++ (⟨#[32]⟩ : ByteArray)) ++ ss).size <= 50 := by rw [app_size];omega
  have y4 : (((vs ++ (⟨#[32]⟩ : ByteArray)) ++ ss) ++ (⟨#[32]⟩ : ByteArray)).size <= 51 := by rw [app_size];omega
  have K1 := hide (fun W (hW : Cl w1 W) => HI2.out W ((HT.out.below T1.out.b).below hW.out));refine wp_region_cl (by kernel_rfl) (by kernel_rfl) ?_;refine cl_val (v := ?_) (by kernel_rfl) (fun W hW => ?_) ?_;rotate_left
  ·unfold Oper.quietAt;go_simp;try with_reducible rfl
  simp only [Act.put,sl_];refine cl_val (v := ?_) (by kernel_rfl) (fun W hW => ?_) ?_;rotate_left
  ·unfold Oper.quietAt;go_simp;rw [if_neg (by first | omega | (simp only [app_size];omega))];(refine And.intro rfl ?_;with_reducible rfl)
  simp only [Act.put,sl_];refine cl_val (v := ?_) (by kernel_rfl) (fun W hW => ?_) ?_;rotate_left
  ·unfold Oper.quietAt;go_simp;try with_reducible rfl
  simp only [Act.put,sl_];refine cl_val (v := ?_) (by kernel_rfl) (fun W hW => ?_) ?_;rotate_left
  ·have l0 := hW.cell r4;unfold Oper.quietAt;go_simp;try with_reducible rfl
  simp only [Act.put,sl_];refine cl_val (v := .string ss) (by kernel_rfl) (fun W hW => ?_) ?_
  ·unfold Oper.quietAt;go_simp;exact call_cl hW (K1.out W hW)
  simp only [Act.put,sl_];refine cl_val (v := ?_) (by kernel_rfl) (fun W hW => ?_) ?_;rotate_left
  ·unfold Oper.quietAt;go_simp;rw [if_neg (by first | omega | (simp only [app_size];omega))];(refine And.intro rfl ?_;with_reducible rfl)
  simp only [Act.put,sl_];refine cl_val (v := ?_) (by kernel_rfl) (fun W hW => ?_) ?_;rotate_left
  ·unfold Oper.quietAt;go_simp;rw [if_neg (by first | omega | (simp only [app_size];omega))];(refine And.intro rfl ?_;with_reducible rfl)
  simp only [Act.put,sl_];refine cl_val (v := ?_) (by kernel_rfl) (fun W hW => ?_) ?_;rotate_left
  ·unfold Oper.quietAt;go_simp;try with_reducible rfl
  simp only [Act.put,sl_];refine cl_val (v := ?_) (by kernel_rfl) (fun W hW => ?_) ?_;rotate_left
  ·have l0 := hW.cell r5;unfold Oper.quietAt;go_simp;try with_reducible rfl
  simp only [Act.put,sl_];refine cl_val (v := ?_) (by kernel_rfl) (fun W hW => ?_) ?_;rotate_left
  ·unfold Oper.quietAt;go_simp;rw [if_neg (by first | omega | (simp only [app_size];omega))];(refine And.intro rfl ?_;with_reducible rfl)
  simp only [Act.put,sl_];refine cl_val (v := ?_) (by kernel_rfl) (fun W hW => ?_) ?_;rotate_left
  ·unfold Oper.quietAt;go_simp;try with_reducible rfl
  simp only [Act.put,sl_];refine wpQuiet_nil ?_;intro z Hz;have T3 := hide (T1.out.below Hz.out);have F3 := hide (F2.out.below Hz.out);clear T1 F2 r0 r1 r2 r3 r4 r5 r6 K1 Hz;obtain ⟨r0,r1,r2,r3,r4,r5,r6⟩ := T3.out.hd 0 w.heap.size rfl rfl;have zf2 : fsS.size <= 2097220 := zf;cases r with
  | true =>
   have hfs := HFV.out;rw [if_pos rfl] at hfs;have y5 : (me ++ (⟨#[32]⟩ : ByteArray)).size <= 1048577 := by rw [app_size];omega
   have y6 : ((me ++ (⟨#[32]⟩ : ByteArray)) ++ ta).size <= 2097153 := by rw [app_size];omega
   have y7 : (((me ++ (⟨#[32]⟩ : ByteArray)) ++ ta) ++ (⟨#[32]⟩ : ByteArray)).size <= 2097154 := by rw [app_size];omega
   go_upto_region 7 with fail
   clear hfs HFV y2 y3 y4 y5 y6 y7 r0 r1 r2 r3 r4 r5 r6;have r6 : z.cell? ⟨w.heap.size,6,none⟩ = some (.slice a A.length c) := T3.out.cell 0 rfl 6;go_wp2_with fail
   go_loopw [5,45] (fun av i wr => ∃ (k : Nat) (acc : ByteArray),k <= A.length /\ av = .string acc /\ i = .int .i64 k /\ acc.size <= 2200000 + 2200000 * k /\ Hid (acc.data.toList = fsS.data.toList ++ 13 :: 10 :: (A.take k).flatMap fldL) /\ Hid (Bl w wr [(#[.bool true,.string me,.string ta,.int .i64 mi,.int .i64 st,.string re,.slice a A.length c],45)]) /\ Hid (Flds wr (.slice a A.length c) A)) (fun _ i _ => A.length - (intOf i).toNat)
   case atStart => exact ⟨0,fsS ++ ⟨#[13,10]⟩,Nat.zero_le _,rfl,rfl,by rw [app_size];have e2 : (⟨#[13,10]⟩ : ByteArray).size = 2 := rfl;omega,hide (by rw [app_list];simp),T3,F3⟩
   case round =>
    obtain ⟨k,acc,hk,rfl,rfl,hac,HAC,HT1,HF⟩ := hrel;clear T3 F3 r6;by_cases hlt : k < A.length
    ·obtain ⟨a', c', he, _, hcells⟩ := HF.out
     simp only [Value.slice.injEq] at he;obtain ⟨rfl,_,rfl⟩ := he;obtain ⟨gg,oo,rfl,hgg,q1,q2⟩ := hcells k hlt;clear hcells;obtain ⟨⟨fa,fb⟩,hf⟩ : ∃ f,A[k] = f := ⟨_,rfl⟩
     rw [hf] at q1 q2;dsimp only at q1 q2;obtain ⟨zfa,zfb⟩ := HFS.out (fa,fb) (hf ▸ List.getElem_mem hlt);dsimp only at zfa zfb;have HTK := hide (take_snocP A k hlt);rw [hf] at HTK;clear hf;go_upto_region 11 with fail
     have U3 := hide (Bl.one wr #[.string fa,.string fb] 48);have HT2 := hide (HT1.out.below U3.out.b);have HF2 := hide (HF.out.below U3.out.b);generalize (wr.alloc (.cells #[.string fa,.string fb] 48)) = x at U3 HT2 HF2 |-
     clear q1 q2;have d0 : x.cell? ⟨wr.heap.size,0,none⟩ = some (.string fa) := U3.out.cell 0 rfl 0;have d1 : x.cell? ⟨wr.heap.size,1,none⟩ = some (.string fb) := U3.out.cell 0 rfl 1;have e2 : (⟨#[58,32]⟩ : ByteArray).size = 2 := rfl;have e3 : (⟨#[13,10]⟩ : ByteArray).size = 2 := rfl;have y1 : (acc ++ fa).size <= 3300000 + 2200000 * k := by rw [app_size];omega
     have y2 : ((acc ++ fa) ++ (⟨#[58,32]⟩ : ByteArray)).size <= 3300002 + 2200000 * k := by rw [app_size];omega
     have y3 : (((acc ++ fa) ++ (⟨#[58,32]⟩ : ByteArray)) ++ fb).size <= 4349000 + 2200000 * k := by rw [app_size,app_size,app_size];omega
     have y4 : ((((acc ++ fa) ++ (⟨#[58,32]⟩ : ByteArray)) ++ fb) ++ (⟨#[13,10]⟩ : ByteArray)).size <= 2200000 + 2200000 * (k + 1) := by rw [app_size,app_size,app_size,app_size];omega
     have HAC2 : Hid (((((acc ++ fa) ++ (⟨#[58,32]⟩ : ByteArray)) ++ fb) ++ (⟨#[13,10]⟩ : ByteArray)).data.toList = fsS.data.toList ++ 13 :: 10 :: (A.take (k + 1)).flatMap fldL) := hide (by
      rw [app_list,app_list,app_list,app_list,HAC.out,HTK.out,List.flatMap_append];simp [fldL])
     go_wp2_with fail
     exact ⟨⟨k + 1,_,by omega,rfl,by go_num,y4,HAC2,HT2,HF2⟩,by simp [intOf];omega⟩
    ·obtain rfl : k = A.length := by omega
     clear hlt hk;have e3 : (⟨#[13,10]⟩ : ByteArray).size = 2 := rfl;have y1 : (acc ++ (⟨#[13,10]⟩ : ByteArray)).size <= 222300000 := by rw [app_size];omega
     have HFU2 : Hid ((acc ++ (⟨#[13,10]⟩ : ByteArray)).data.toList = fl) := hide (by
      rw [app_list,HAC.out,HFU.out,List.take_of_length_le (Nat.le_refl _)];simp)
     go_upto_region 14 with fail
     clear HAC hac;generalize acc ++ (⟨#[13,10]⟩ : ByteArray) = ts at y1 HFU2 |-
     have B4 := hide HT1.out.b;obtain ⟨p0,p1,p2,p3,p4,p5,p6⟩ := HT1.out.hd 0 w.heap.size rfl rfl;obtain ⟨cap,W,hcv,hbs,hbw⟩ := conv_bs wr ts;have HT5 := hide (HT1.out.below hbw);have HF5 := hide (HF.out.below hbw);have B5 := hide (B4.out.trans (hbw.mono B4.out.size));have HBS := hide hbs;clear hbs hbw;have PB := hide (HRP.out W _ (by rw [<- HFU2.out];exact HBS.out) (by rw [<- HFU2.out,size_len];omega));have HLN : Hid ((fl.length : Int) = (ts.size : Int)) := hide (by rw [<- HFU2.out,size_len]);go_wp2_with fail
     refine PB.out.mono ?_;rintro e w6 ⟨u5,rfl,hu5,bb⟩;have HT6 := hide (HT5.out.below bb);have HF6 := hide (HF5.out.below bb);have B6 := hide (B5.out.trans (bb.mono B5.out.size));have HY6 := hide (Flds.of_row hu5)
     obtain ⟨ua,ul,uc,rfl⟩ : ∃ a n c,u5 = .slice a n c := by
      obtain ⟨a,c,h,_⟩ := hu5.shape;exact ⟨a,_,c,h⟩
     clear hu5 bb PB hcv p0 p1 p2 p3 p4 p5 p6;go_upto_region 15 with fail
     have V8 := hide (Bl.one w6 #[.bool xr,.string xme,.string xta,.int .i64 (xmi : Int),.int .i64 (xst : Int),.string xre,.slice ua ul uc] 45);have HT8 := hide (HT6.out.below V8.out.b);have HF8 := hide (HF6.out.below V8.out.b);have HY8 := hide (HY6.out.below V8.out.b);have B8 := hide (B6.out.trans (V8.out.b.mono B6.out.size));generalize (w6.alloc (.cells #[.bool xr,.string xme,.string xta,.int .i64 (xmi : Int),.int .i64 (xst : Int),.string xre,.slice ua ul uc] 45)) = q at HT8 HF8 HY8 V8 B8 |-
     by_cases h1 : er = 0
     ·have u1 : ((er : Int) != 0) = false := by rw [bne_eq_false_iff_eq]; omega
      by_cases h2 : (m : Int) = (ts.size : Int)
      ·have u2 : ((m : Int) != (ts.size : Int)) = false := by rw [bne_eq_false_iff_eq]; exact h2
       obtain ⟨p0,p1,p2,p3,p4,p5,p6⟩ := HT8.out.hd 0 w.heap.size rfl rfl;obtain ⟨q0,q1,q2,q3,q4,q5,q6⟩ := V8.out.hd 0 w6.heap.size rfl rfl;have HC := hide (HSM.out q ⟨xr,xme,xta,xmi,xst,xre,XA⟩ (.slice ua ul uc) HY8.out HF8.out (by have := HPL.out;show XA.length <= _;omega))
       have HEQ : Hid (hiEq ⟨xr,xme,xta,xmi,xst,xre,XA⟩ ⟨true,me,ta,mi,st,re,A⟩ = pb) := hide (by
        have hm : m = fl.length := by have := HLN.out;omega
        rw [Bool.eq_iff_iff,hiEq_iff];refine ⟨fun h => HIF.out.2 ⟨h1,hm,h⟩,fun h => (HIF.out.1 h).2.2⟩)
       rw [HEQ.out] at HC;unfold hiV at HC;dsimp only at HC;clear h1 h2 HEQ;go_wp2_with fail
       refine HC.out.mono ?_;rintro e w9 ⟨rfl,bb⟩;have B9 := hide (B8.out.trans (bb.mono B8.out.size));clear bb HC p0 p1 p2 p3 p4 p5 p6 q0 q1 q2 q3 q4 q5 q6;cases pb with
       | false =>
        go_wp2_with fail
        go_ret2
        exact ⟨rfl,B9.out⟩
       | true =>
        have hts : ts = tS := HTX.out rfl ts HFU2.out;subst hts;go_wp2_with fail
        go_ret2
        exact ⟨rfl,B9.out⟩
      ·have u2 : ((m : Int) != (ts.size : Int)) = true := bne_iff_ne.2 h2
       have B9 := B8
       have hno : pb = false := by
        cases hpb : pb with
        | false => rfl
        | true =>
         have h := HIF.out.1 hpb;exact absurd (by have := HLN.out;have := h.2.1;omega) h2
       subst hno;go_wp2_with fail
       go_ret2
       exact ⟨rfl,B9.out⟩
     ·have u1 : ((er : Int) != 0) = true := bne_iff_ne.2 (by omega)
      have B9 := B8
      have hno : pb = false := by
       cases hpb : pb with
       | false => rfl
       | true =>
        have h := HIF.out.1 hpb;exact absurd h.1 h1
      subst hno;go_wp2_with fail
      go_ret2
      exact ⟨rfl,B9.out⟩
  | false =>
   have hfs := HFV.out;rw [if_neg (by simp)] at hfs;go_upto_region 5 with fail
   rw [hfs];clear hfs HFV y2 y3 y4;have r6 : z.cell? ⟨w.heap.size,6,none⟩ = some (.slice a A.length c) := T3.out.cell 0 rfl 6;go_wp2_with fail
   go_loopw [5,45] (fun av i wr => ∃ (k : Nat) (acc : ByteArray),k <= A.length /\ av = .string acc /\ i = .int .i64 k /\ acc.size <= 2200000 + 2200000 * k /\ Hid (acc.data.toList = fsS.data.toList ++ 13 :: 10 :: (A.take k).flatMap fldL) /\ Hid (Bl w wr [(#[.bool false,.string me,.string ta,.int .i64 mi,.int .i64 st,.string re,.slice a A.length c],45)]) /\ Hid (Flds wr (.slice a A.length c) A)) (fun _ i _ => A.length - (intOf i).toNat)
   case atStart => exact ⟨0,fsS ++ ⟨#[13,10]⟩,Nat.zero_le _,rfl,rfl,by rw [app_size];have e2 : (⟨#[13,10]⟩ : ByteArray).size = 2 := rfl;omega,hide (by rw [app_list];simp),T3,F3⟩
   case round =>
    obtain ⟨k,acc,hk,rfl,rfl,hac,HAC,HT1,HF⟩ := hrel;clear T3 F3 r6;by_cases hlt : k < A.length
    ·obtain ⟨a', c', he, _, hcells⟩ := HF.out
     simp only [Value.slice.injEq] at he;obtain ⟨rfl,_,rfl⟩ := he;obtain ⟨gg,oo,rfl,hgg,q1,q2⟩ := hcells k hlt;clear hcells;obtain ⟨⟨fa,fb⟩,hf⟩ : ∃ f,A[k] = f := ⟨_,rfl⟩
     rw [hf] at q1 q2;dsimp only at q1 q2;obtain ⟨zfa,zfb⟩ := HFS.out (fa,fb) (hf ▸ List.getElem_mem hlt);dsimp only at zfa zfb;have HTK := hide (take_snocP A k hlt);rw [hf] at HTK;clear hf;go_upto_region 11 with fail
     have U3 := hide (Bl.one wr #[.string fa,.string fb] 48);have HT2 := hide (HT1.out.below U3.out.b);have HF2 := hide (HF.out.below U3.out.b);generalize (wr.alloc (.cells #[.string fa,.string fb] 48)) = x at U3 HT2 HF2 |-
     clear q1 q2;have d0 : x.cell? ⟨wr.heap.size,0,none⟩ = some (.string fa) := U3.out.cell 0 rfl 0;have d1 : x.cell? ⟨wr.heap.size,1,none⟩ = some (.string fb) := U3.out.cell 0 rfl 1;have e2 : (⟨#[58,32]⟩ : ByteArray).size = 2 := rfl;have e3 : (⟨#[13,10]⟩ : ByteArray).size = 2 := rfl;have y1 : (acc ++ fa).size <= 3300000 + 2200000 * k := by rw [app_size];omega
     have y2 : ((acc ++ fa) ++ (⟨#[58,32]⟩ : ByteArray)).size <= 3300002 + 2200000 * k := by rw [app_size];omega
     have y3 : (((acc ++ fa) ++ (⟨#[58,32]⟩ : ByteArray)) ++ fb).size <= 4349000 + 2200000 * k := by rw [app_size,app_size,app_size];omega
     have y4 : ((((acc ++ fa) ++ (⟨#[58,32]⟩ : ByteArray)) ++ fb) ++ (⟨#[13,10]⟩ : ByteArray)).size <= 2200000 + 2200000 * (k + 1) := by rw [app_size,app_size,app_size,app_size];omega
     have HAC2 : Hid (((((acc ++ fa) ++ (⟨#[58,32]⟩ : ByteArray)) ++ fb) ++ (⟨#[13,10]⟩ : ByteArray)).data.toList = fsS.data.toList ++ 13 :: 10 :: (A.take (k + 1)).flatMap fldL) := hide (by
      rw [app_list,app_list,app_list,app_list,HAC.out,HTK.out,List.flatMap_append];simp [fldL])
     go_wp2_with fail
     exact ⟨⟨k + 1,_,by omega,rfl,by go_num,y4,HAC2,HT2,HF2⟩,by simp [intOf];omega⟩
    ·obtain rfl : k = A.length := by omega
     clear hlt hk;have e3 : (⟨#[13,10]⟩ : ByteArray).size = 2 := rfl;have y1 : (acc ++ (⟨#[13,10]⟩ : ByteArray)).size <= 222300000 := by rw [app_size];omega
     have HFU2 : Hid ((acc ++ (⟨#[13,10]⟩ : ByteArray)).data.toList = fl) := hide (by
      rw [app_list,HAC.out,HFU.out,List.take_of_length_le (Nat.le_refl _)];simp)
     go_upto_region 14 with fail
     clear HAC hac;generalize acc ++ (⟨#[13,10]⟩ : ByteArray) = ts at y1 HFU2 |-
     have B4 := hide HT1.out.b;obtain ⟨p0,p1,p2,p3,p4,p5,p6⟩ := HT1.out.hd 0 w.heap.size rfl rfl;obtain ⟨cap,W,hcv,hbs,hbw⟩ := conv_bs wr ts;have HT5 := hide (HT1.out.below hbw);have HF5 := hide (HF.out.below hbw);have B5 := hide (B4.out.trans (hbw.mono B4.out.size));have HBS := hide hbs;clear hbs hbw;have PB := hide (HRP.out W _ (by rw [<- HFU2.out];exact HBS.out) (by rw [<- HFU2.out,size_len];omega));have HLN : Hid ((fl.length : Int) = (ts.size : Int)) := hide (by rw [<- HFU2.out,size_len]);go_wp2_with fail
     refine PB.out.mono ?_;rintro e w6 ⟨u5,rfl,hu5,bb⟩;have HT6 := hide (HT5.out.below bb);have HF6 := hide (HF5.out.below bb);have B6 := hide (B5.out.trans (bb.mono B5.out.size));have HY6 := hide (Flds.of_row hu5)
     obtain ⟨ua,ul,uc,rfl⟩ : ∃ a n c,u5 = .slice a n c := by
      obtain ⟨a,c,h,_⟩ := hu5.shape;exact ⟨a,_,c,h⟩
     clear hu5 bb PB hcv p0 p1 p2 p3 p4 p5 p6;go_upto_region 15 with fail
     have V8 := hide (Bl.one w6 #[.bool xr,.string xme,.string xta,.int .i64 (xmi : Int),.int .i64 (xst : Int),.string xre,.slice ua ul uc] 45);have HT8 := hide (HT6.out.below V8.out.b);have HF8 := hide (HF6.out.below V8.out.b);have HY8 := hide (HY6.out.below V8.out.b);have B8 := hide (B6.out.trans (V8.out.b.mono B6.out.size));generalize (w6.alloc (.cells #[.bool xr,.string xme,.string xta,.int .i64 (xmi : Int),.int .i64 (xst : Int),.string xre,.slice ua ul uc] 45)) = q at HT8 HF8 HY8 V8 B8 |-
     by_cases h1 : er = 0
     ·have u1 : ((er : Int) != 0) = false := by rw [bne_eq_false_iff_eq]; omega
      by_cases h2 : (m : Int) = (ts.size : Int)
      ·have u2 : ((m : Int) != (ts.size : Int)) = false := by rw [bne_eq_false_iff_eq]; exact h2
       obtain ⟨p0,p1,p2,p3,p4,p5,p6⟩ := HT8.out.hd 0 w.heap.size rfl rfl;obtain ⟨q0,q1,q2,q3,q4,q5,q6⟩ := V8.out.hd 0 w6.heap.size rfl rfl;have HC := hide (HSM.out q ⟨xr,xme,xta,xmi,xst,xre,XA⟩ (.slice ua ul uc) HY8.out HF8.out (by have := HPL.out;show XA.length <= _;omega))
       have HEQ : Hid (hiEq ⟨xr,xme,xta,xmi,xst,xre,XA⟩ ⟨false,me,ta,mi,st,re,A⟩ = pb) := hide (by
        have hm : m = fl.length := by have := HLN.out;omega
        rw [Bool.eq_iff_iff,hiEq_iff];refine ⟨fun h => HIF.out.2 ⟨h1,hm,h⟩,fun h => (HIF.out.1 h).2.2⟩)
       rw [HEQ.out] at HC;unfold hiV at HC;dsimp only at HC;clear h1 h2 HEQ;go_wp2_with fail
       refine HC.out.mono ?_;rintro e w9 ⟨rfl,bb⟩;have B9 := hide (B8.out.trans (bb.mono B8.out.size));clear bb HC p0 p1 p2 p3 p4 p5 p6 q0 q1 q2 q3 q4 q5 q6;cases pb with
       | false =>
        go_wp2_with fail
        go_ret2
        exact ⟨rfl,B9.out⟩
       | true =>
        have hts : ts = tS := HTX.out rfl ts HFU2.out;subst hts;go_wp2_with fail
        go_ret2
        exact ⟨rfl,B9.out⟩
      ·have u2 : ((m : Int) != (ts.size : Int)) = true := bne_iff_ne.2 h2
       have B9 := B8
       have hno : pb = false := by
        cases hpb : pb with
        | false => rfl
        | true =>
         have h := HIF.out.1 hpb;exact absurd (by have := HLN.out;have := h.2.1;omega) h2
       subst hno;go_wp2_with fail
       go_ret2
       exact ⟨rfl,B9.out⟩
     ·have u1 : ((er : Int) != 0) = true := bne_iff_ne.2 (by omega)
      have B9 := B8
      have hno : pb = false := by
       cases hpb : pb with
       | false => rfl
       | true =>
        have h := HIF.out.1 hpb;exact absurd h.1 h1
      subst hno;go_wp2_with fail
      go_ret2
      exact ⟨rfl,B9.out⟩
theorem request_allx {w : World} {c b0 : Nat} {O : List UInt8} {bv : Value} {hd bd : Int} {st : Value} {bg : Bool} {rv : Value} {wr : Int} {base g : Nat} {lv fv : Value} {p : Pz} (h : ClB w c hd bd st bg true (.pointer (some ⟨g, 0, none⟩)) rv bv wr) (hrow : Row w b0 5 bv (bc O)) (hO : O.length <= 70368744177664) (hp : Par w base g lv fv p) (hw : p.whole = true) (hz : Sz p) (hf : Fit p) :
  Calls Tryz.prog 20 #[.pointer (some ⟨c,0,none⟩)] w fun e w' => ∃ l u,e = .returned (.tuple #[hdV p l,u,.bool true]) /\ Flds w' l p.fs /\ (∃ b1,w.heap.size <= b1 /\ Row w' b1 5 u (bc O)) /\ Below w.heap.size w w' := by
 have HH := hide h;obtain ⟨ba,bn,bk,rfl⟩ : ∃ a n k,bv = .slice a n k := by obtain ⟨a,k,e,_⟩ := hrow.shape;exact ⟨a,_,k,e⟩
 have HD := hide (fun W (b : Below w.heap.size w W) => head_whole (hp.below b) hw hz hf);unfold hdV at HD |-
 have hcl : c < w.heap.size := lt_heap h;clear h hp hw hz hf;have B0 := hide ((Below.refl w.heap.size w).alloc (Nat.le_refl _) (.cells #[.bool false,.string ⟨#[]⟩,.string ⟨#[]⟩,.int .i64 0,.int .i64 0,.string ⟨#[]⟩,.slice none 0 0] 45));have F0 := hide (hp_new w (.cells #[.bool false,.string ⟨#[]⟩,.string ⟨#[]⟩,.int .i64 0,.int .i64 0,.string ⟨#[]⟩,.slice none 0 0] 45));have H0 := hide ((B0.out.block c hcl).trans HH.out);obtain ⟨-,-,-,-,k4,-,-,-,-⟩ := cl_cells HH.out;go_enter Tryz.func20,Tryz.ntmps20
 go_upto_region 1 with fail
 clear k4;generalize w.alloc _ = w1 at *;obtain ⟨-,-,-,-,k4,k5,-,k7,-⟩ := cl_cells H0.out;have BX : Hid (Below w.heap.size w w1.drew) := hide B0.out.drew;go_upto_region 3 with fail
 have HA : Hid (∀ (ty : TypeId) (W : World),Below w1.drew.heap.size w1.drew W -> ∃ a n k W',(Builtin.append_ #[31,31] ty #[.slice none 0 0,.slice ba bn bk]).run Tryz.prog W = .ok (.slice a n k) W' /\ Row W' W.heap.size 5 (.slice a n k) (bc O) /\ Below W.heap.size W W') := hide (fun ty W b => by
  have hr : Row W b0 5 (.slice ba bn bk) (bc O) := hrow.below (BX.out.trans (b.mono BX.out.size));obtain ⟨v',W',q1,q2,q3,-⟩ := append_bs_k W W.heap.size W.heap.size ty (.slice none 0 0) (.slice ba bn bk) [] O (Row.nil _ _ _) (Bs.of_row hr) (Shp.of_row hr) (by simp;omega) (Nat.le_refl _);obtain ⟨a',k',e',-⟩ := q2.shape;subst e';exact ⟨_,_,_,W',q1,q2,q3⟩)
 have hcl1 : c < w1.heap.size := lt_heap H0.out;have hbl1 : w.heap.size < w1.heap.size := lt_heap F0.out;have HD2 : Hid (Calls Tryz.prog 34 #[.pointer (some ⟨g,0,none⟩)] w1.drew fun e w' => ∃ r,e = .returned r /\ ∃ l,r = .agg #[.bool p.req,.string p.me,.string p.ta,.int .i64 (p.minor : Int),.int .i64 (p.status : Int),.string p.re,l] /\ FRow w' w1.drew.heap.size l p.fs /\ Below w1.drew.heap.size w1.drew w') := hide ((HD.out w1.drew B0.out.drew).mono (fun e w' ⟨l,a1,a2,a3⟩ => ⟨_,a1,l,rfl,a2,a3⟩))
 have HAF : Hid (∀ (y : World) (l : Value),FRow y w1.drew.heap.size l p.fs -> Below w1.drew.heap.size w1.drew y -> ClB y c hd bd st bg true (.pointer (some ⟨g,0,none⟩)) rv (.slice ba bn bk) wr /\ y.heap[w.heap.size]? = some (.cells (hdA false ⟨#[]⟩ ⟨#[]⟩ 0 0 ⟨#[]⟩ (.slice none 0 0)) 45 (0,0)) /\ Below w.heap.size w y /\ (∃ a n k,l = .slice a n k) /\ Flds (put7 y w.heap.size p.req p.me p.ta (p.minor : Int) (p.status : Int) p.re l) l p.fs) := hide (fun y l y1 y2 => by
  have hF : y.heap[w.heap.size]? = some (.cells (hdA false ⟨#[]⟩ ⟨#[]⟩ 0 0 ⟨#[]⟩ (.slice none 0 0)) 45 (0,0)) := (y2.block w.heap.size hbl1).trans F0.out;refine ⟨(y2.block c hcl1).trans H0.out,hF,B0.out.drew.trans (y2.mono B0.out.size),?_,?_⟩
  ·obtain ⟨a, k, e, -⟩ := y1.shape
   exact ⟨a,_,k,e⟩
  ·have ck := (put7_ok hF p.req p.me p.ta (p.minor : Int) (p.status : Int) p.re l).2
   refine Flds.of_row (base := w1.drew.heap.size) (y1.frame fun k hk => ck.block k (y1.lt hk).2 (fun e => ?_));have := (y1.lt hk).1;rw [e] at this;exact absurd this (Nat.not_le_of_lt hbl1))
 clear HD
 go_region_law (first
  | (refine step_callg rfl 34 _ _ rfl (enters_of Tryz.func34 (by kernel_rfl) rfl) #[.pointer (some ⟨g,0,none⟩)] (by simp [Act.eval]) _ HD2.out ?_;rintro v y ⟨l,rfl,y1,y2⟩;have HFR := hide y1;have HBD := hide y2;obtain ⟨aa1,aa2,aa3,⟨la,ln,lk,rfl⟩,aa5⟩ := HAF.out y l y1 y2;have HY := hide aa1;have FY := hide aa2;have HBY := hide aa3;have HFL := hide aa5;have q7 := (cl_cells aa1).2.2.2.2.2.2.2.1;obtain ⟨r0,r1,r2,r3,r4,r5,r6⟩ := hd_cells aa2;have rz := (fun i => (by rw [frozen_at aa2];simp : y.frozen? ⟨w.heap.size,i,none⟩ = false));have rz0 := rz 0;have rz1 := rz 1;have rz2 := rz 2;have rz3 := rz 3;have rz4 := rz 4;have rz5 := rz 5;have rz6 := rz 6;clear y1 y2 rz aa1 aa2 aa3 aa5)
  | (obtain ⟨xa,xn,xk,z,hz,hz1,hz2⟩ := HA.out _ y HBD.out;refine step_append_is rfl _ _ 31 rfl (.slice none 0 0) (.slice ba bn bk) (.slice xa xn xk) (by simp [Act.eval]) (by simp [Act.eval]) hz ?_;obtain ⟨aa1,aa2,aa3,-,aa5⟩ := HAF.out z _ (HFR.out.below hz2) (HBD.out.trans (hz2.mono HBD.out.size));have hwy : w.heap.size < y.heap.size := Nat.lt_of_lt_of_le hbl1 HBD.out.size;have FZ := hide aa2;have HBZ := hide aa3;have HFZ := hide aa5;clear r0 r1 r2 r3 r4 r5 r6 rz0 rz1 rz2 rz3 rz4 rz5 rz6;obtain ⟨r0,r1,r2,r3,r4,r5,r6⟩ := hd_cells aa2;have rz := (fun i => (by rw [frozen_at aa2];simp : z.frozen? ⟨w.heap.size,i,none⟩ = false));have rz0 := rz 0;have rz1 := rz 1;have rz2 := rz 2;have rz3 := rz 3;have rz4 := rz 4;have rz5 := rz 5;have rz6 := rz 6;have HXR := hide hz1;clear hz hz1 hz2 rz aa1 aa2 aa3 aa5))
 all_goals
  have P7 := hide (put7_ok FZ.out p.req p.me p.ta (p.minor : Int) (p.status : Int) p.re (.slice la ln lk));have BP := hide (HBZ.out.trans (P7.out.2.low (Nat.le_refl _) HBZ.out.size));have HXZ : Hid (∃ b1,w.heap.size <= b1 /\ Row (put7 z w.heap.size p.req p.me p.ta (p.minor : Int) (p.status : Int) p.re (.slice la ln lk)) b1 5 (.slice xa xn xk) (bc O)) := hide ⟨_,(by first | exact BX.out.size | exact Nat.le_trans BX.out.size HBD.out.size),HXR.out.frame fun k hk => P7.out.2.block k (HXR.out.lt hk).2 (fun e => by have := (HXR.out.lt hk).1;omega)⟩;unfold put7 at P7 BP HFZ HXZ;clear r0 r1 r2 r3 r4 r5 r6 rz0 rz1 rz2 rz3 rz4 rz5 rz6 q7 k4 k5 k7 HY FY HBY HD2 HAF HA HFL HXR FZ HBZ HFR HBD;generalize ((((((z.setCell ⟨w.heap.size,0,none⟩ (.bool p.req)).setCell ⟨w.heap.size,1,none⟩ (.string p.me)).setCell ⟨w.heap.size,2,none⟩ (.string p.ta)).setCell ⟨w.heap.size,3,none⟩ (.int .i64 (p.minor : Int))).setCell ⟨w.heap.size,4,none⟩ (.int .i64 (p.status : Int))).setCell ⟨w.heap.size,5,none⟩ (.string p.re)).setCell ⟨w.heap.size,6,none⟩ (.slice la ln lk) = y9 at *;obtain ⟨s0,s1,s2,s3,s4,s5,s6⟩ := hd_cells P7.out.1;go_wp2
  exact bodyPost_ret (v := .tuple #[.agg #[.bool p.req,.string p.me,.string p.ta,.int .i64 (p.minor : Int),.int .i64 (p.status : Int),.string p.re,.slice la ln lk],.slice xa xn xk,.bool true]) (by simp [results,Tryz.results20,go_sem,s0,s1,s2,s3,s4,s5,s6]) rfl ⟨_,_,rfl,HFZ.out,HXZ.out,BP.out⟩
section
variable {w : World} {c : Nat} {hd : Int} {bd : Nat} {A : Nat -> Prop} {s : CS}
theorem At.requestx (h : At w c hd bd A s) (hO : s.ob.length <= 70368744177664) : Calls Tryz.prog 20 #[.pointer (some ⟨c,0,none⟩)] w fun e w' => ∃ l u,e = .returned (.tuple #[hiV s.hi l,u,.bool s.told]) /\ Flds w' l s.hi.fs /\ (∃ b1,w.heap.size <= b1 /\ Row w' b1 5 u (bc s.ob)) /\ Below w.heap.size w w' := by
 have none : ∀ {hd bd : Int} {st : Value} {bg : Bool} {pv rv bv : Value} {wr : Int},ClB w c hd bd st bg false pv rv bv wr -> Calls Tryz.prog 20 #[.pointer (some ⟨c,0,none⟩)] w fun e w' => ∃ l u,e = .returned (.tuple #[hiV ⟨false,⟨#[]⟩,⟨#[]⟩,0,0,⟨#[]⟩,[]⟩ l,u,.bool false]) /\ Flds w' l [] /\ (∃ b1,w.heap.size <= b1 /\ Row w' b1 5 u (bc [])) /\ Below w.heap.size w w' := fun h => (request_no h).mono (fun e w' ⟨e1,e2⟩ => ⟨_,_,e1,flds_nil w',⟨_,Nat.le_refl _,Row.nil _ _ _⟩,e2⟩)
 cases s with
 | head p bg => obtain ⟨base,g,lv,fv,hc,-⟩ := h;exact none hc
 | meas p L O => obtain ⟨g,bp,b2,gr,g',bv,hc,-⟩ := h;exact none hc
 | part p d O => obtain ⟨g,bp,b2,gr,g',gd,lv,tv,bv,hc,-⟩ := h;exact none hc
 | waits p O =>
  obtain ⟨g,bp,bv,hc,⟨base,lv,fv,h1,h2,h3,h4,h5,h6⟩,hrow,-⟩ := h;exact request_allx hc hrow hO h1 h4 h3 h2
 | shut s => exact none h
end
theorem reqO_no (m : Int) : reqO [] true m = ⟨1,0,keepB [] m,0⟩ := rfl
theorem reqO_len (n : Nat) (h : n <= top) (m : Int) : reqO [(moreN,decS n)] true m = ⟨2,(n : Int),keepB [(moreN,decS n)] m,0⟩ := by
 have e : [(moreN,decS n)] = withN [] n true := rfl;obtain ⟨a1,a2,a3⟩ := all_with [] n true;have a4 := items_with [] n true h;obtain ⟨b1,b2⟩ := len_alone n h;rw [<- e] at a1 a3 a4;rw [if_pos rfl] at a3 a4;have e1 : allS ([] : List (ByteArray × ByteArray)) teS = [] := rfl;have e2 : allS ([] : List (ByteArray × ByteArray)) clS = [] := rfl;have e3 : itemsS ([] : List (ByteArray × ByteArray)) clS = [] := rfl;rw [e1] at a1;rw [e2] at a3;rw [e3] at a4;unfold reqO toldO toldB;rw [if_pos rfl,a1,a3,a4,b1,b2];rfl
abbrev Ri := Hi × List UInt8
def Rok (i : Ri) : Prop := printB i.1 = true /\ i.1.r = true /\ ((i.1.fs = [] /\ i.2 = []) ∨ (i.1.fs = [(moreN,decS i.2.length)] /\ i.2.length <= 1000))
def itL (i : Ri) : List UInt8 := fullL i.1 ++ i.2
def catL (its : List Ri) : List UInt8 := its.flatMap itL
theorem run_item {i : Ri} (hi : Rok i) (rest : List UInt8) : ∃ s,csRun 1000 (csNew 65536) (itL i ++ rest) = ((itL i).length,s) /\ s.told = true /\ s.hi = i.1 /\ s.ob = i.2 /\ s.wr = 0 := by
 obtain ⟨h,b⟩ := i;obtain ⟨h1,h2,h3⟩ := hi;dsimp only at h1 h2 h3;obtain ⟨x,hx,_,_,hp,_⟩ := print_is h1;rw [h2] at hp;obtain ⟨b1,b2,b3⟩ := parse_ok (rq := true) (l := fullL h) (by rw [hp]);have hm := bytes_more (fullL h) (b ++ rest) (pNew true 65536) rfl b1 b2;rw [hp] at b3;simp only [Prod.mk.injEq,and_true] at b3;obtain ⟨e1,e2⟩ := b3;generalize hq : (pBytes (pNew true 65536) (fullL h)).2.2 = q at b2 e1
 have hP : pBytes (pNew true 65536) (fullL h ++ (b ++ rest)) = (0,(fullL h).length,q) := by
  rw [<- e2,List.take_length] at hm;rw [hm];exact Prod.ext b1 (Prod.ext e2.symm hq)
 have hrun := new_yes (bd := 1000) hP b2;have hd : (fullL h ++ (b ++ rest)).drop (fullL h).length = b ++ rest := List.drop_left;rw [hd] at hrun;have e : itL (h,b) ++ rest = fullL h ++ (b ++ rest) := List.append_assoc _ _ _;have el : (itL (h,b)).length = (fullL h).length + b.length := List.length_append;rw [e,el,hrun];have ehi : (⟨q.req,q.me,q.ta,(q.minor : Int),(q.status : Int),q.re,q.fs⟩ : Hi) = h := by rw [<- hx,e1];rfl
 have ereq : q.req = true := by rw [<- h2,<- ehi]
 have efs : q.fs = h.fs := by rw [<- ehi]
 rcases h3 with ⟨f1,f2⟩ | ⟨f1,f2⟩
 ·subst f2
  have e1 : csBegin 1000 (pShut q) = .waits (pShut q) [] := by
   have z' : reqO (pShut q).fs (pShut q).req ((pShut q).minor : Int) = ⟨1,0,keepB [] ((pShut q).minor : Int),0⟩ := by
    show reqO q.fs q.req (q.minor : Int) = ⟨1,0,keepB [] (q.minor : Int),0⟩
    rw [efs,f1,ereq];exact reqO_no _
   unfold csBegin;rw [z'];simp
  rw [e1,run_stop 1000 rfl];exact ⟨_,rfl,rfl,ehi,rfl,rfl⟩
 ·have z' : reqO (pShut q).fs (pShut q).req ((pShut q).minor : Int) = ⟨2,(b.length : Int),keepB [(moreN,decS b.length)] ((pShut q).minor : Int),0⟩ := by
   show reqO q.fs q.req (q.minor : Int) = ⟨2,(b.length : Int),keepB [(moreN,decS b.length)] (q.minor : Int),0⟩
   rw [efs,f1,ereq];exact reqO_len _ (by unfold top;omega) _
  by_cases h0 : b.length = 0
  ·have hb : b = [] := List.eq_nil_of_length_eq_zero h0
   subst hb
   have e1 : csBegin 1000 (pShut q) = .waits (pShut q) [] := by
    unfold csBegin;rw [z'];simp
   rw [e1,run_stop 1000 rfl];exact ⟨_,rfl,rfl,ehi,rfl,rfl⟩
  ·have e1 : csBegin 1000 (pShut q) = .meas (pShut q) b.length [] := by
    have h1' : ¬ (1000 : Int) < (b.length : Int) := by omega
    unfold csBegin;rw [z'];simp [h1',h0]
   rw [e1];obtain ⟨r1,r2,r3,r4⟩ := body_meas (bd := 1000) (pShut q) (b ++ rest) (show 0 < b.length by omega);have hmn : min (b ++ rest).length b.length = b.length := by rw [List.length_append];omega
   rw [hmn] at r1 r2 r4;rw [r1,r4 rfl,List.take_left];exact ⟨_,rfl,rfl,ehi,rfl,rfl⟩
theorem told_not {s : CS} (h : s.told = true) : s.goes = false := by cases s <;> first | rfl | cases h
def Rst (rest : List Ri) (j : Nat) (s : CS) : Prop := j <= (catL rest).length /\ csRun 1000 (csNew 65536) ((catL rest).take j) = (j,s) /\ s.goes = true
theorem rst_new (rest : List Ri) : Rst rest 0 (csNew 65536) := ⟨Nat.zero_le _,by rw [List.take_zero,run_nil],rfl⟩
theorem rst_step {rest : List Ri} {j : Nat} {s : CS} (h : Rst rest j s) (hok : ∀ i ∈ rest, Rok i) {J : Nat} (hJ : 1 <= J) (hl : j + J <= (catL rest).length) :
  (∃ s',csRun 1000 s (((catL rest).drop j).take J) = (J,s') /\ Rst rest (j + J) s' /\ s'.told = false) ∨
  ∃ i r s',rest = i :: r /\ j <= (itL i).length /\ (itL i).length <= j + J /\ csRun 1000 s (((catL rest).drop j).take J) = ((itL i).length - j,s') /\ s'.told = true /\ s'.hi = i.1 /\ s'.ob = i.2 /\ s'.wr = 0 := by
 obtain ⟨h1,h2,h3⟩ := h;cases rest with
 | nil => simp [catL] at hl;omega
 | cons i r =>
  have hX : catL (i :: r) = itL i ++ catL r := by simp [catL]
  obtain ⟨sw,g1,g2,g3,g4,g5⟩ := run_item (hok i (by simp)) (catL r);rw [<- hX] at g1;obtain ⟨X,hXe⟩ : ∃ X,catL (i :: r) = X := ⟨_,rfl⟩
  obtain ⟨T,hTe⟩ : ∃ T,(itL i).length = T := ⟨_,rfl⟩
  rw [hXe] at h1 h2 hl hX g1;rw [hTe] at g1;rw [hXe];have hgs := told_not g2;have hTX : T <= X.length := by have := run_le 1000 X (csNew 65536);rw [g1] at this;exact this
  have happ := run_app 1000 (X.take j) (csNew 65536) ((X.drop j).take J);have hlj : (X.take j).length = j := by rw [List.length_take];omega
  rw [<- List.take_add,hlj,h2,if_pos rfl] at happ;dsimp only at happ
  have full : ∀ m,T <= m -> m <= X.length -> csRun 1000 (csNew 65536) (X.take m) = (T,sw) := fun m hm hmx => by
   have e := run_app 1000 (X.take T) (csNew 65536) ((X.drop T).take (m - T));have ra := run_all 1000 (csNew 65536) X;rw [g1] at ra;dsimp only at ra;have hlt : (X.take T).length = T := by rw [List.length_take];omega
   rw [<- List.take_add,ra,hlt,if_pos rfl,run_stop 1000 hgs,show T + (m - T) = m by omega] at e;exact e
  have hjT : j <= T := by
   rcases Nat.lt_or_ge T j with q | q
   ·have e := full j (by omega) h1
    rw [h2] at e;simp only [Prod.mk.injEq] at e;omega
   ·exact q
  by_cases hm : j + J < T
  ·left
   have hp := run_pre 1000 (s := csNew 65536) (l := X) (k := j + J) (by rw [g1];exact Nat.le_of_lt hm);rw [happ] at hp;dsimp only at hp;have hn : (csRun 1000 s ((X.drop j).take J)).1 = J := by omega
   obtain ⟨s',hs'⟩ : ∃ s',(csRun 1000 s ((X.drop j).take J)).2 = s' := ⟨_,rfl⟩
   rw [hn,hs'] at happ
   have hgo : s'.goes = true := by
    cases hg : s'.goes with
    | true => rfl
    | false =>
     have e := run_app 1000 (X.take (j + J)) (csNew 65536) (X.drop (j + J));have hlt : (X.take (j + J)).length = j + J := by rw [List.length_take];omega
     rw [List.take_append_drop,happ,hlt,if_pos rfl,run_stop 1000 hg,g1] at e;simp only [Prod.mk.injEq] at e;omega
   exact ⟨s',Prod.ext hn hs',⟨by rw [hXe];omega,by rw [hXe];exact happ,hgo⟩,by cases s' <;> first | rfl | cases hgo⟩
  ·right
   have e := full (j + J) (by omega) hl;rw [happ] at e;simp only [Prod.mk.injEq] at e;exact ⟨i,r,sw,rfl,by rw [hTe];exact hjT,by rw [hTe];omega,Prod.ext (by rw [hTe];dsimp only;omega) e.2,g2,g3,g4,g5⟩
theorem rst_end {rest : List Ri} {j : Nat} {s : CS} (h : Rst rest j s) (hok : ∀ i ∈ rest,Rok i) (hj : j = (catL rest).length) : rest = [] /\ s = csNew 65536 := by
 obtain ⟨h1,h2,h3⟩ := h;cases rest with
 | nil =>
  have e : catL ([] : List Ri) = [] := rfl;rw [e,List.take_nil,run_nil] at h2;simp only [Prod.mk.injEq] at h2;exact ⟨rfl,h2.2.symm⟩
 | cons i r =>
  have hX : catL (i :: r) = itL i ++ catL r := by simp [catL]
  obtain ⟨sw,g1,g2,-,-,-⟩ := run_item (hok i (by simp)) (catL r);rw [<- hX] at g1;rw [hj,List.take_length,g1] at h2;simp only [Prod.mk.injEq] at h2;rw [<- h2.2,told_not g2] at h3;cases h3
theorem catL_split (its : List Ri) (k : Nat) : catL its = catL (its.take k) ++ catL (its.drop k) := by
 conv => lhs;rw [<- List.take_append_drop k its]
 unfold catL;rw [List.flatMap_append]
theorem catL_take (its : List Ri) (k : Nat) (i : Ri) (r : List Ri) (h : its.drop k = i :: r) : (catL (its.take (k + 1))).length = (catL (its.take k)).length + (itL i).length /\ its.drop (k + 1) = r /\ k < its.length := by
 have hk : k < its.length := by
  rcases Nat.lt_or_ge k its.length with q | q
  ·exact q
  ·rw [List.drop_of_length_le q] at h;cases h
 have e : its[k] = i := by
  have := List.drop_eq_getElem_cons hk;rw [h] at this;exact (List.cons.inj this).1.symm
 refine ⟨?_,?_,hk⟩
 ·rw [List.take_succ_eq_append_getElem hk, e]
  simp [catL]
 ·have := List.drop_eq_getElem_cons hk
  rw [h] at this;exact (List.cons.inj this).2.symm
theorem ostep {its : List Ri} {kk j J p : Nat} {s : CS} (hR : Rst (its.drop kk) j s) (hok : ∀ i ∈ its, Rok i) (hJ : 1 <= J) (hp : p = (catL (its.take kk)).length + j) (hl : p + J <= (catL its).length) :
  ∃ n s',csRun 1000 s (((catL its).drop p).take J) = (n,s') /\ 1 <= n /\ n <= J /\ ((s'.told = false /\ n = J /\ Rst (its.drop kk) (j + J) s') ∨ (s'.told = true /\ ∃ h : kk < its.length,p + n = (catL (its.take (kk + 1))).length /\ s'.hi = its[kk].1 /\ s'.ob = its[kk].2)) := by
 have hsp := catL_split its kk;have hlen : (catL its).length = (catL (its.take kk)).length + (catL (its.drop kk)).length := by rw [<- List.length_append,<- hsp]
 have hd : (catL its).drop p = (catL (its.drop kk)).drop j := by rw [hsp,hp,List.drop_length_add_append]
 have hg := hR.2.2
 have hpos : 1 <= (csRun 1000 s (((catL its).drop p).take J)).1 := by
  have hne : 0 < (((catL its).drop p).take J).length := by rw [List.length_take,List.length_drop];omega
  cases hX : ((catL its).drop p).take J with
  | nil => rw [hX] at hne;simp at hne
  | cons x r => exact run_pos 1000 hg x r
 have hle : (csRun 1000 s (((catL its).drop p).take J)).1 <= J := by have := run_le 1000 (((catL its).drop p).take J) s;rw [List.length_take] at this;omega
 have hdo : ∀ i ∈ its.drop kk,Rok i := fun i hi => hok i (List.mem_of_mem_drop hi)
 rcases rst_step hR hdo hJ (by omega) with ⟨s',e,h1,h2⟩ | ⟨i,r,s',e0,h1,h2,e,h3,h4,h5,-⟩
 ·rw [hd] at hpos hle |-
  rw [e] at hpos hle;exact ⟨J,s',e,hpos,hle,.inl ⟨h2,rfl,h1⟩⟩
 ·rw [hd] at hpos hle |-
  rw [e] at hpos hle;obtain ⟨t1,t2,t3⟩ := catL_take its kk i r e0
  have ei : its[kk] = i := by
   have := List.drop_eq_getElem_cons t3;rw [e0] at this;exact (List.cons.inj this).1.symm
  exact ⟨_,s',e,hpos,hle,.inr ⟨h3,t3,by rw [t1];omega,by rw [ei];exact h4,by rw [ei];exact h5⟩⟩
theorem csans_told {M : Nat} {s : CS} (h : s.told = true) : csAns M true s = csNew M := by cases s <;> first | rfl | cases h
theorem rok_bl {i : Ri} (h : Rok i) : i.2.length <= 1000 /\ i.1.fs.length <= 1 := by
 obtain ⟨_,_,h | h⟩ := h
 ·rw [h.1,h.2];exact ⟨Nat.zero_le _,Nat.zero_le _⟩
 ·rw [h.1];exact ⟨h.2,Nat.le_refl _⟩
theorem own_kp {W W' : World} {v : Value} {b1 b2 m1 m2 n1 n2 : Nat} {e1 e2 : TypeId} {v1 : Value} {x1 x2 : List Value} (h : W.ownsRow b1 e1 m1 v1 n1 x1) (k : Kp W W' v) (hv : W.ownsRow b2 e2 m2 v n2 x2) (he : e2 ≠ e1) : W'.ownsRow b1 e1 m1 v1 n1 x1 := own_frame h fun g hg => k.block g (World.ownsRow.lt h g hg).2 (own_apart hv h he hg)
def hcl (h : Hi) (l : Value) : List Value := [.bool h.r,.string h.me,.string h.ta,.int .i64 h.mi,.int .i64 h.st,.string h.re,l]
def Wd (W : World) (base : Nat) (CS : List (List Value)) (its : List Ri) : Prop := CS.length = its.length /\ ∀ j (h1 : j < CS.length) (h2 : j < its.length),∃ l,CS[j] = hcl its[j].1 l /\ FRow W base l its[j].1.fs
theorem Wd.imp {W W' : World} {base : Nat} {CS : List (List Value)} {its : List Ri} (h : Wd W base CS its) (f : ∀ l fs,FRow W base l fs -> FRow W' base l fs) : Wd W' base CS its := ⟨h.1,fun j h1 h2 => by obtain ⟨l,e,r⟩ := h.2 j h1 h2;exact ⟨l,e,f _ _ r⟩⟩
theorem Wd.snoc {W : World} {base : Nat} {CS : List (List Value)} {its : List Ri} (h : Wd W base CS its) (i : Ri) (l : Value) (hl : FRow W base l i.1.fs) : Wd W base (CS ++ [hcl i.1 l]) (its ++ [i]) := by
 refine ⟨by rw [List.length_append,List.length_append,h.1];rfl,fun j h1 h2 => ?_⟩;by_cases hj : j < CS.length
 ·have hj2 : j < its.length := by rw [<- h.1]; exact hj
  rw [List.getElem_append_left hj,List.getElem_append_left hj2];exact h.2 j hj hj2
 ·rw [List.length_append, List.length_singleton] at h1
  have e1 : j = CS.length := by omega
  subst e1;refine ⟨l,?_,?_⟩
  ·simp [h.1]
  ·simpa [h.1] using hl
structure L2 (W : World) (base : Nat) (va : Value) (X : List UInt8) (vw : Value) (its : List Ri) (vd : Value) (M : List ByteArray) (l : Value) (fs : List (ByteArray × ByteArray)) : Prop where
 all : Row W base 5 va (bc X)
 wnt : ∃ CS,Wd W base CS its /\ Cm 7 CS /\ W.ownsRow base 45 7 vw its.length CS.flatten
 dat : Row W base 9 vd (sc M)
 fld : FRow W base l fs
section
variable {W W' : World} {base : Nat} {va : Value} {X : List UInt8} {vw : Value} {its : List Ri} {vd : Value} {M : List ByteArray} {l : Value} {fs : List (ByteArray × ByteArray)}
theorem L2.nil (W : World) (base : Nat) : L2 W base (.slice none 0 0) [] (.slice none 0 0) [] (.slice none 0 0) [] (.slice none 0 0) [] := ⟨Row.nil _ _ _,⟨[],⟨rfl,fun j h1 h2 => by simp at h1⟩,fun c hc => by simp at hc,own_nil _ _ _ _⟩,Row.nil _ _ _,FRow.nil _ _⟩
theorem L2.below (h : L2 W base va X vw its vd M l fs) (b : Below W.heap.size W W') : L2 W' base va X vw its vd M l fs := by
 obtain ⟨h1,⟨CS,h2,h3,h4⟩,h5,h6⟩ := h;exact ⟨h1.below b,⟨CS,h2.imp fun _ _ r => r.below b,h3,own_below h4 b⟩,h5.below b,h6.below b⟩
theorem L2.other (h : L2 W base va X vw its vd M l fs) {l' : Value} {fs' : List (ByteArray × ByteArray)} (r : FRow W base l' fs') : L2 W base va X vw its vd M l' fs' := ⟨h.all,h.wnt,h.dat,r⟩
theorem L2.put_all (h : L2 W base va X vw its vd M l fs) (k : Kp W W' va) {va' : Value} {X' : List UInt8} (r : Row W' base 5 va' (bc X')) : L2 W' base va' X' vw its vd M l fs := by
 obtain ⟨h1,⟨CS,h2,h3,h4⟩,h5,h6⟩ := h;exact ⟨r,⟨CS,h2.imp fun _ _ r => own_kp r k h1 (by decide),h3,own_kp h4 k h1 (by decide)⟩,own_kp h5 k h1 (by decide),own_kp h6 k h1 (by decide)⟩
theorem L2.put_wnt (h : L2 W base va X vw its vd M l fs) {CS : List (List Value)} (w1 : Wd W base CS its) (w2 : Cm 7 CS) (w3 : W.ownsRow base 45 7 vw its.length CS.flatten) (k : Kp W W' vw) {vw' : Value} (i : Ri) (hf : i.1.fs = fs) (h1c : (l : Value).oneCell' = true) (r : W'.ownsRow base 45 7 vw' (its.length + 1) (CS.flatten ++ hcl i.1 l)) : L2 W' base va X vw' (its ++ [i]) vd M l fs := by
 have hfl : FRow W' base l fs := own_kp h.fld k w3 (by decide);refine ⟨own_kp h.all k w3 (by decide),⟨CS ++ [hcl i.1 l],(w1.imp fun _ _ r => own_kp r k w3 (by decide)).snoc i l (by rw [hf];exact hfl),fun c hc => ?_,?_⟩,own_kp h.dat k w3 (by decide),hfl⟩
 ·rcases List.mem_append.1 hc with hc | hc
  ·exact w2 c hc
  ·rw [List.mem_singleton.1 hc]
   refine ⟨rfl,fun u hu => ?_⟩;simp only [hcl,List.mem_cons,List.not_mem_nil,or_false] at hu;rcases hu with rfl | rfl | rfl | rfl | rfl | rfl | rfl <;> first | rfl | exact h1c
 ·rw [List.length_append, List.flatten_append, List.flatten_cons, List.flatten_nil, List.append_nil]
  exact r
theorem L2.put_dat (h : L2 W base va X vw its vd M l fs) (k : Kp W W' vd) {vd' : Value} {M' : List ByteArray} (r : Row W' base 9 vd' (sc M')) : L2 W' base va X vw its vd' M' l fs := by
 obtain ⟨h1,⟨CS,h2,h3,h4⟩,h5,h6⟩ := h;exact ⟨own_kp h1 k h5 (by decide),⟨CS,h2.imp fun _ _ r => own_kp r k h5 (by decide),h3,own_kp h4 k h5 (by decide)⟩,r,own_kp h6 k h5 (by decide)⟩
end
theorem Kp.of_kept {W W' : World} {v v' : Value} (h : Kept W W' v v') : Kp W W' v := ⟨h.size,h.block⟩
theorem frow_one {W : World} {base g : Nat} {a b : ByteArray} (h : W.heap[g]? = some (.cells #[.string a,.string b] 48 (0,0))) (hb : base <= g) : FRow W base (.slice (some ⟨g,0,none⟩) 1 1) [(a,b)] :=
 ⟨rfl,.inr ⟨g,1,_,rfl,hb,h,Nat.le_refl _,by decide,rfl,rfl⟩⟩
theorem infoHd : ∃ i,Tryz.prog.info? 45 = some i /\ i.zero = some (.agg #[.bool false,.string ByteArray.empty,.string ByteArray.empty,.int .i64 0,.int .i64 0,.string ByteArray.empty,.slice none 0 0]) /\ i.size = 7 /\ i.bytes = 96 := by
 have h : (Tryz.prog.info? 45).map (fun i => (i.zero,i.size,i.bytes)) = some (some (.agg #[.bool false,.string ByteArray.empty,.string ByteArray.empty,.int .i64 0,.int .i64 0,.string ByteArray.empty,.slice none 0 0]),7,96) := by kernel_rfl
 obtain ⟨i,hi,hz⟩ := Option.map_eq_some_iff.1 h;simp only [Prod.mk.injEq] at hz;exact ⟨i,hi,hz.1,hz.2.1,hz.2.2⟩
theorem catL_snoc (its : List Ri) (i : Ri) : catL (its ++ [i]) = catL its ++ itL i := by simp [catL]
theorem bulk_memO {H : Type} {d : DataW H} : ∀ {l : List (DataW H)}, d ∈ l -> Rows.uptoBulk d <= Rows.uptoBulkAll l
 | x :: r,h => by
  simp only [Rows.uptoBulkAll];rcases List.mem_cons.1 h with rfl | h
  ·omega
  ·have := bulk_memO h
   omega
theorem addr_plusO (b off i : Nat) : (⟨b,off,none⟩ : Addr).add i = ⟨b,off + i,none⟩ := by unfold Addr.add;split <;> simp_all
section
variable {H : Type} {enc : TypeId × Value -> H} {W : World}
abbrev Trd (enc : TypeId × Value -> H) (W : World) (fuel : Nat) (t : TypeId) (cs : List Value) (x : DataW H × List MemPlace) : Prop := DataW.trod enc Tryz.prog W 0 (fun _ => true) true fuel t cs = some x
theorem fld_at {fs : Array Field} {t : TypeId} {fuel : Nat} {cs : List Value} {x : DataW H × List MemPlace} (ht : Tryz.prog.underlying t = some (.struct fs)) (h : Trd enc W fuel t cs x) :
  cs.length = Tryz.prog.cellsOf t /\ ∀ (i : Nat) (ty off : Nat),(fs[i]?).map (fun f => (f.type,f.offset)) = some (ty,off) -> ∃ y n,Trd enc W n ty ((cs.drop off).take (Tryz.prog.cellsOf ty)) y /\ Rows.uptoBulk y.1 <= Rows.uptoBulk x.1 := by
 obtain ⟨xs,n,_,rfl,hl,hlen,hf⟩ := DataW.trod_struct ht h;refine ⟨hl,fun i ty off hi0 => ?_⟩;obtain ⟨f,hi,hi1⟩ := Option.map_eq_some_iff.1 hi0;simp only [Prod.mk.injEq] at hi1;obtain ⟨rfl,rfl⟩ := hi1;have h1 := hf i f hi;have hix : i < xs.length := by rw [hlen];exact (Array.getElem?_eq_some_iff.1 hi).1
 rw [List.getElem?_eq_getElem hix] at h1;refine ⟨xs[i],n,h1,?_⟩;have := bulk_memO (d := xs[i].1) (l := xs.map (·.1)) (List.mem_map.2 ⟨_,List.getElem_mem hix,rfl⟩);simp only [Rows.uptoBulk];omega
theorem slice_in {β : Type} [Inhabited β] {T E : TypeId} {m : Nat} (ht : Tryz.prog.underlying T = some (.slice E)) (hc : Tryz.prog.cellsOf E = m) (hm0 : 0 < m) (Rl : List Value -> β -> Nat -> Prop)
  (each : ∀ fuel cs x,Trd enc W fuel E cs x -> ∃ b,cs.length = m /\ Rl cs b (Rows.uptoBulk x.1)) {fuel : Nat} {v : Value} {x : DataW H × List MemPlace} (h : Trd enc W fuel T [v] x) :
  ∃ (a : Option Addr) (c : Nat) (L : List β),v = .slice a L.length c /\ L.length <= Rows.uptoBulk x.1 /\ ∀ j (hj : j < L.length),∃ g o cs k,a = some ⟨g,o,none⟩ /\ g < W.heap.size /\ (∀ i,i < m -> W.cell? ⟨g,o + j * m + i,none⟩ = cs[i]?) /\ Rl cs L[j] k /\ k <= Rows.uptoBulk x.1 := by
 rcases open_slice ht h with ⟨hcs,_⟩ | ⟨ad,len,cap,mm,n,D,Pl,hcs,_,hl,hm,hmm,hx,hel⟩
 ·simp only [List.cons.injEq, and_true] at hcs
  subst hcs;exact ⟨none,0,[],rfl,Nat.zero_le _,fun j hj => absurd hj (Nat.not_lt_zero _)⟩
 ·simp only [List.cons.injEq, and_true] at hcs
  subst hcs;simp only [if_true] at hmm;subst hmm
  have key : ∀ i,i < len -> ∃ b : β,∃ cs',W.cells? 0 (ad.add (i * m)) m = some cs' /\ cs'.length = m /\ Rl cs' b (Rows.uptoBulk (D i)) := fun i hi => by
   obtain ⟨cs',h1,h2⟩ := hel i (by omega);obtain ⟨b,h3,h4⟩ := each _ _ _ h2;rw [hc] at h1;exact ⟨b,cs',h1,h3,h4⟩
  refine ⟨some ad,mm,(List.range len).map (fun i => if hi : i < len then Classical.choose (key i hi) else default),by simp,?_,fun j hj => ?_⟩
  ·rw [(Prod.mk.inj hx).1]
   have := bulk_many ((List.range len).map D);simp only [List.length_map,List.length_range] at this;simp only [Rows.uptoBulk,List.length_map,List.length_range];omega
  have hj2 : j < len := by simpa using hj
  obtain ⟨b,off,spot⟩ := ad;obtain ⟨cs0,h00,hl0,_⟩ := Classical.choose_spec (key 0 (by omega))
  have hspot : spot = none := by
   obtain ⟨_,_,hc0⟩ := World.cells?_some h00;have e0 := hc0 0 (by omega)
   match cs0,hl0 with
   | v0 :: _,_ =>
    simp [Addr.add] at e0
    simpa using World.cell?_spot e0
   | [],hl1 => simp at hl1;omega
  subst hspot;obtain ⟨cs',h1,h2,h3⟩ := Classical.choose_spec (key j hj2);obtain ⟨_,_,hcc⟩ := World.cells?_some h1
  have hcell : ∀ i,i < m -> W.cell? ⟨b,off + j * m + i,none⟩ = cs'[i]? := fun i hi => by
   have := hcc i hi;rw [addr_plusO,addr_plusO] at this;exact this
  refine ⟨b,off,cs',Rows.uptoBulk (D j),rfl,?_,hcell,?_,?_⟩
  ·have := hcell 0 hm0
   rw [List.getElem?_eq_getElem (by omega)] at this;exact World.block_lt_of_cell? W _ this
  ·simp only [List.getElem_map, List.getElem_range, dif_pos hj2]
   exact h3
  ·rw [(Prod.mk.inj hx).1]
   have := bulk_memO (d := D j) (l := (List.range len).map D) (List.mem_map.2 ⟨j,List.mem_range.2 hj2,rfl⟩);simp only [Rows.uptoBulk];omega
theorem int_oneO {fuel : Nat} {cs : List Value} {x : DataW H × List MemPlace} (h : Trd enc W fuel 3 cs x) : ∃ b : Int,cs = [.int .i64 b] /\ -9223372036854775808 <= b /\ b <= 9223372036854775807 := by
 obtain ⟨n,e,_,hw⟩ := DataW.trod_int Tryz.underlying3 h;have := bounds_i64 hw;exact ⟨n,e,by omega,by omega⟩
theorem str_oneO {fuel : Nat} {cs : List Value} {x : DataW H × List MemPlace} (h : Trd enc W fuel 9 cs x) : ∃ b : ByteArray,cs = [.string b] /\ b.size <= Rows.uptoBulk x.1 := by
 obtain ⟨s,e,hx,_⟩ := DataW.trod_string Tryz.underlying9 h;refine ⟨s,e,?_⟩;rw [hx];simp only [Rows.uptoBulk,size_len];omega
def SrO (W : World) (v : Value) (M : List ByteArray) : Prop := ∃ (a : Option Addr) (c : Nat),v = .slice a M.length c /\ ∀ j (h : j < M.length),∃ g o,a = some ⟨g,o,none⟩ /\ g < W.heap.size /\ W.cell? ⟨g,o + j,none⟩ = some (.string M[j])
theorem strsO_in {fuel : Nat} {v : Value} {x : DataW H × List MemPlace} (h : Trd enc W fuel 41 [v] x) : ∃ M : List ByteArray,SrO W v M /\ M.length <= Rows.uptoBulk x.1 := by
 obtain ⟨a,c,L,rfl,hl,hj⟩ := slice_in (β := ByteArray) (m := 1) Tryz.underlying41 (by kernel_rfl) (by omega) (fun cs b k => cs = [.string b] /\ b.size <= k) (fun _ _ _ h => by obtain ⟨b,e,hb⟩ := str_oneO h;exact ⟨b,by rw [e];rfl,e,hb⟩) h;refine ⟨L,⟨a,c,rfl,fun j hjl => ?_⟩,hl⟩;obtain ⟨g,o,cs,k,h1,h2,h3,⟨h4,_⟩,_⟩ := hj j hjl;have := h3 0 (by omega);rw [h4] at this;exact ⟨g,o,h1,h2,by simpa using this⟩
theorem co_3 : Tryz.prog.cellsOf 3 = 1 := by kernel_rfl
theorem co_4 : Tryz.prog.cellsOf 4 = 1 := by kernel_rfl
theorem co_9 : Tryz.prog.cellsOf 9 = 1 := by kernel_rfl
theorem co_f : Tryz.prog.cellsOf 43 = 1 := by kernel_rfl
theorem co_h : Tryz.prog.cellsOf 45 = 7 := by kernel_rfl
structure Hc (W : World) (b : Hi) (k : Nat) (cs : List Value) : Prop where
 cells : ∃ fa fn fc,cs = [.bool b.r,.string b.me,.string b.ta,.int .i64 b.mi,.int .i64 b.st,.string b.re,.slice fa fn fc]
 me : b.me.size <= k
 ta : b.ta.size <= k
 re : b.re.size <= k
 mi : -9223372036854775808 <= b.mi /\ b.mi <= 9223372036854775807
 st : -9223372036854775808 <= b.st /\ b.st <= 9223372036854775807
instance : Inhabited Hi := ⟨⟨false,⟨#[]⟩,⟨#[]⟩,0,0,⟨#[]⟩,[]⟩⟩
theorem head_oneO {fuel : Nat} {cs : List Value} {x : DataW H × List MemPlace} (h : Trd enc W fuel 45 cs x) : ∃ b : Hi,cs.length = 7 /\ Hc W b (Rows.uptoBulk x.1) cs := by
 obtain ⟨hl,F⟩ := fld_at Tryz.underlying45 h;rw [co_h] at hl
 match cs,hl with
 | [v0,v1,v2,v3,v4,v5,v6],_ =>
  obtain ⟨y0,n0,h0,b0⟩ := F 0 4 0 rfl;obtain ⟨y1,n1,h1,b1⟩ := F 1 9 1 rfl;obtain ⟨y2,n2,h2,b2⟩ := F 2 9 2 rfl;obtain ⟨y3,n3,h3,b3⟩ := F 3 3 3 rfl;obtain ⟨y4,n4,h4,b4⟩ := F 4 3 4 rfl;obtain ⟨y5,n5,h5,b5⟩ := F 5 9 5 rfl;obtain ⟨y6,n6,h6,b6⟩ := F 6 43 6 rfl;simp only [co_3,co_4,co_9,co_f,List.drop_zero,List.drop_succ_cons,List.take_succ_cons,List.take_zero] at h0 h1 h2 h3 h4 h5 h6;obtain ⟨r,e0,_⟩ := DataW.trod_bool Tryz.underlying4 h0;obtain ⟨me,e1,s1⟩ := str_oneO h1;obtain ⟨ta,e2,s2⟩ := str_oneO h2;obtain ⟨mi,e3,s3⟩ := int_oneO h3;obtain ⟨st,e4,s4⟩ := int_oneO h4;obtain ⟨re,e5,s5⟩ := str_oneO h5
  have e6 : ∃ fa fn fc,v6 = .slice fa fn fc := by
   rcases open_slice Tryz.underlying43 h6 with ⟨hcs,_⟩ | ⟨ad,len,cap,mm,n,D,Pl,hcs,_⟩
   ·simp only [List.cons.injEq,and_true] at hcs;exact ⟨_,_,_,hcs⟩
   ·simp only [List.cons.injEq,and_true] at hcs;exact ⟨_,_,_,hcs⟩
  obtain ⟨fa,fn,fc,rfl⟩ := e6;simp only [List.cons.injEq,and_true] at e0 e1 e2 e3 e4 e5;subst e0 e1 e2 e3 e4 e5;exact ⟨⟨r,me,ta,mi,st,re,[]⟩,rfl,⟨fa,fn,fc,rfl⟩,by dsimp only;omega,by dsimp only;omega,by dsimp only;omega,s3,s4⟩
def HdO (W : World) (v : Value) (B : Nat) (M : List Hi) : Prop := ∃ (a : Option Addr) (c : Nat),v = .slice a M.length c /\ ∀ j (h : j < M.length),∃ g o cs,a = some ⟨g,o,none⟩ /\ g < W.heap.size /\ (∀ i,i < 7 -> W.cell? ⟨g,o + j * 7 + i,none⟩ = cs[i]?) /\ Hc W M[j] B cs
theorem Hc.up {b : Hi} {k k' : Nat} {cs : List Value} (h : Hc W b k cs) (hk : k <= k') : Hc W b k' cs := ⟨h.cells,Nat.le_trans h.me hk,Nat.le_trans h.ta hk,Nat.le_trans h.re hk,h.mi,h.st⟩
theorem headsO_in {fuel : Nat} {v : Value} {x : DataW H × List MemPlace} (h : Trd enc W fuel 40 [v] x) : ∃ M : List Hi,HdO W v (Rows.uptoBulk x.1) M /\ M.length <= Rows.uptoBulk x.1 := by
 obtain ⟨a,c,L,rfl,hl,hj⟩ := slice_in (β := Hi) (m := 7) Tryz.underlying40 co_h (by omega) (fun cs b k => Hc W b k cs) (fun _ _ _ h => head_oneO h) h;refine ⟨L,⟨a,c,rfl,fun j hjl => ?_⟩,hl⟩;obtain ⟨g,o,cs,k,h1,h2,h3,h4,h5⟩ := hj j hjl;exact ⟨g,o,cs,h1,h2,h3,h4.up h5⟩
end
theorem cells3 : Tryz.prog.cellsOf 3 = 1 := by kernel_rfl
theorem ir_in {H : Type} {enc : TypeId × Value -> H} {W : World} {fuel : Nat} {v : Value} {x : DataW H × List MemPlace} (h : DataW.trod enc Tryz.prog W 0 (fun _ => true) true fuel 42 [v] = some x) :
  ∃ L : List Int,Ir W v L /\ L.length <= Rows.uptoBulk x.1 := by
 rcases open_ints Tryz.underlying42 Tryz.underlying3 cells3 h with ⟨hcs,hx⟩ | ⟨ad,l,c,zs,hcs,_,hl,hm,hz,hx,hcell,hwz⟩
 ·simp only [List.cons.injEq, and_true] at hcs
  subst hcs;exact ⟨[],⟨none,0,rfl,fun j hj => by simp at hj⟩,Nat.zero_le _⟩
 ·simp only [List.cons.injEq, and_true] at hcs
  subst hcs;have hzl : zs.length = c := by simpa using hz
  have el : (zs.take l).length = l := by simp;omega
  obtain ⟨b,off,spot⟩ := ad;refine ⟨zs.take l,⟨some ⟨b,off,spot⟩,c,by rw [el],fun j hj => ?_⟩,?_⟩
  ·rw [el] at hj
   have hspot : spot = none := by simpa [Addr.add] using World.cell?_spot (hcell 0 (by omega))
   subst hspot;have hc := hcell j (by omega);rw [addr_plus] at hc;have hlt := World.block_lt_of_cell? W _ hc;refine ⟨b,off,rfl,hlt,?_⟩;rw [hc];have hjz : j < zs.length := by omega
   simp only [List.getD,List.getElem?_eq_getElem hjz,Option.getD_some,List.getElem_take]
  ·rw [el, hx]
   have := bulk_many (H := H) (lits .i64 (zs.take l));simp only [lits,List.length_map,List.length_take] at this;simp only [Rows.uptoBulk,lits];omega
def laidO6 : List (String × DataW Unit) := [("math/bits.deBruijn32tab", Rows.laid_math_bits_deBruijn32tab), ("math/bits.deBruijn64tab", Rows.laid_math_bits_deBruijn64tab), ("internal/strconv.uint64pow10", Rows.laid_internal_strconv_uint64pow10), ("unicode/utf8.acceptRanges", Rows.laid_unicode_utf8_acceptRanges), ("errors.errorType", Rows.laid_errors_errorType), ("unicode/utf8.first", Rows.laid_unicode_utf8_first)]
def laidO5 : List (String × DataW Unit) := [("math/bits.deBruijn32tab", Rows.laid_math_bits_deBruijn32tab), ("math/bits.deBruijn64tab", Rows.laid_math_bits_deBruijn64tab), ("internal/strconv.uint64pow10", Rows.laid_internal_strconv_uint64pow10), ("unicode/utf8.acceptRanges", Rows.laid_unicode_utf8_acceptRanges), ("unicode/utf8.first", Rows.laid_unicode_utf8_first)]
theorem partsO6 : (laidO6.filter fun x => x.2.handleName?.isNone) = laidO5 := by kernel_rfl
theorem handsO6 : (laidO6.filter fun x => x.2.handleName?.isSome) = laid1 := by kernel_rfl
theorem splitO6 {W : World} (h : laidMetH Tryz.prog laidO6 W) : laidMet Tryz.prog laidO5 W /\ handlesMet Tryz.prog laid1 W := by
 have := laidMetH_iff.1 h;rw [partsO6,handsO6] at this;exact this
theorem tabPow {W : World} (h : laidMetH Tryz.prog laidO6 W) : Lib.TabIs Tryz.prog W "internal/strconv.uint64pow10" .u64 Lib.pow10Tab := by
 have h1 := laidMet.tail (laidMet.tail (splitO6 h).1);have e : Rows.laid_internal_strconv_uint64pow10 = Lib.tabData (H := Unit) .u64 Lib.pow10Tab := by kernel_rfl
 rw [e] at h1;exact Lib.tabIs_of_head (g := 1) (t := 173) (e := 135) (n := 20) (by kernel_rfl) (by kernel_rfl) Tryz.underlying173 Tryz.underlying135 (by kernel_rfl) (by kernel_rfl) h1
theorem etO_of {W : World} (h : laidMetH Tryz.prog laidO6 W) : ET W := by
 obtain ⟨name,u,ty,e1,e2,e3,e4,e5⟩ := (splitO6 h).2 _ (List.mem_singleton.2 rfl);have en : name = [101,114,114,111,114] := (Option.some.inj e1).symm;subst en;obtain rfl := Option.some.inj (rt.symm.trans e2);have hm : ty ∈ (List.range 293).filter fun t => Tryz.prog.rowNamed t [101,114,114,111,114] := List.mem_filter.2 ⟨List.mem_range.2 (by rw [<- tysize];exact e3),e4⟩
 rw [oneRow] at hm;obtain rfl := List.mem_singleton.1 hm;have hh : typeHandle Tryz.prog 102 = .pointer (some ⟨7,102,none⟩) := by kernel_rfl
 rw [hh] at e5;unfold ET;simpa using World.var?_cell et e5 0
noncomputable def wO60 (os : Os) : World :=
 let w0 := World.holding Tryz.prog os ⟨#[],#[],[]⟩
 { w0 with heap := w0.heap.modify 0 fun
   | .cells _ t frozen => .cells #[.iface 185 (.agg #[.pointer (some ⟨7,102,none⟩)])] t frozen
   | o => o }
noncomputable def wO6 (os : Os) : World := (wO60 os).layVars Tryz.prog laidO5
theorem wO6_os (os : Os) : (wO6 os).os = os := World.layVars_os _ _ _
theorem metO6 (os : Os) (args : Array Value) : laidMetH Tryz.prog laidO6 ((wO6 os).forCall (fun _ _ => 0) ⟨#[],args,[]⟩).memory := by
 refine laidMetH_of_parts ?_ (by rw [handsO6];kernel_rfl);rw [partsO6];have e1 : (laidO5.filter fun x => (laidO5.map (·.1)).contains x.1) = laidO5 := List.filter_eq_self.2 fun x hx => List.contains_iff_mem.2 (List.mem_map.2 ⟨x,hx,rfl⟩)
 have e2 : (laidO5.filter fun x => !(laidO5.map (·.1)).contains x.1) = [] := List.filter_eq_nil_iff.2 fun x hx => by rw [List.contains_iff_mem.2 (List.mem_map.2 ⟨x,hx,rfl⟩)];simp
 have h : laidMet Tryz.prog laidO5 (wO6 os) := laidMet_layVars (w0 := wO60 os) (laidO5.map (·.1)) [] (by rw [e1];rfl) (by rw [e1];kernel_rfl) (by rw [e1];kernel_rfl) (by rw [e2];exact LaidIn.none);exact h.of_heap (by simp [World.memory,World.forCall,Input.heap])
end Go.Proofs.YtcagjipdldlehaaGreatDoor
