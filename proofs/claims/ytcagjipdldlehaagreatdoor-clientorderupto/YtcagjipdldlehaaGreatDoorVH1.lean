/- VH1. -/
import Derived.Test.YtcagjipdldlehaaGreatDoorVD3
namespace Go.Proofs.YtcagjipdldlehaaGreatDoor
open Go.ChangeShapes Go.WideShapes Go.ChangeAt Go.RowKit
set_option linter.unusedVariables false
set_option maxHeartbeats 16000000
set_option maxRecDepth 100000
structure Hx where
 r : Bool
 me : ByteArray
 ta : ByteArray
 mi : Nat
 st : Nat
 re : ByteArray
 fs : List (ByteArray × ByteArray)
def Pz.hx (p : Pz) : Hx := ⟨p.req,p.me,p.ta,p.minor,p.status,p.re,p.fs⟩
def hx0 : Hx := ⟨false,⟨#[]⟩,⟨#[]⟩,0,0,⟨#[]⟩,[]⟩
def hxV (h : Hx) (l : Value) : Value := .agg #[.bool h.r,.string h.me,.string h.ta,.int .i64 (h.mi : Int),.int .i64 (h.st : Int),.string h.re,l]
theorem rblank_any (c : UInt8) (w : World) : Calls Tryz.prog 102 #[.int .u8 (c.toNat : Int)] w fun e w' => e = .returned (.bool (blankc c)) /\ w = w' := by
 have hb := byte_lt c;unfold blankc;by_cases h1 : c.toNat = 32
 ·have t1 : ((c.toNat : Int) == 32) = true := beq_iff_eq.2 (by omega)
  go_enter Tryz.func102,Tryz.ntmps102
  go_wp2
  go_ret
  exact ⟨ret_bool (by simp [h1]),rfl⟩
 ·have t1 : ((c.toNat : Int) == 32) = false := beq_eq_false_iff_ne.2 (by omega)
  by_cases h2 : c.toNat = 9
  ·have t2 : ((c.toNat : Int) == 9) = true := beq_iff_eq.2 (by omega)
   have H1 := hide h1;have H2 := hide h2;clear h1 h2;go_enter Tryz.func102,Tryz.ntmps102
   go_wp2
   go_ret
   exact ⟨ret_bool (by simp [H2.out]),rfl⟩
  ·have t2 : ((c.toNat : Int) == 9) = false := beq_eq_false_iff_ne.2 (by omega)
   have H1 := hide h1;have H2 := hide h2;clear h1 h2;go_enter Tryz.func102,Tryz.ntmps102
   go_wp2
   go_ret
   exact ⟨ret_bool (by simp [H1.out,H2.out]),rfl⟩
def fldE (s : ByteArray) : Nat := if blankc (s.data.toList.headD 0) then 82 else if k3 58 s = false then 84 else if rtrimS (k1 58 s) ≠ k1 58 s then 83 else chkF (fldFh s)
def fldR (s : ByteArray) : ByteArray × ByteArray := if fldE s = 0 then fldFh s else (⟨#[]⟩,⟨#[]⟩)
theorem rtrim_last (s : ByteArray) (h : 0 < s.size) : (rtrimS s = s) ↔ blankc s[s.size - 1] = false := by
 have hl := last_list s h
 have e : rtrimS s = s ↔ rtrim s.data.toList = s.data.toList := by
  constructor
  ·intro h
   have := congrArg (fun x : ByteArray => x.data.toList) h;simpa [rtrimS] using this
  ·intro h
   exact data_inj (by simpa [rtrimS] using h)
 rw [e,rtrim_id_iff];constructor
 ·intro hh
  refine hh _ ?_;rw [hl];simp
 ·intro hh c hc
  rw [hl] at hc;simp at hc
  rw [<- hc];exact hh
theorem rtrim_none (s : ByteArray) (h : ¬ 0 < s.size) : rtrimS s = s := data_inj (by simp [rtrimS,nil_list s h,rtrim_nil])
theorem st2 {w x : World} {L : List (Array Value × TypeId)} (h : Bl w x L) {a b : Value} {t : TypeId} (hi : L[0]? = some (#[a, b], t)) (c d : ByteArray) :
  ((x.setCell ⟨w.heap.size,0,none⟩ (.string c)).setCell ⟨w.heap.size,1,none⟩ (.string d)).cell? ⟨w.heap.size,0,none⟩ = some (.string c) /\
  ((x.setCell ⟨w.heap.size,0,none⟩ (.string c)).setCell ⟨w.heap.size,1,none⟩ (.string d)).cell? ⟨w.heap.size,1,none⟩ = some (.string d) /\
  Below w.heap.size w ((x.setCell ⟨w.heap.size,0,none⟩ (.string c)).setCell ⟨w.heap.size,1,none⟩ (.string d)) := by
 have h3 := hp_set (hp_set (h.hp 0 _ _ hi) 0 (.string c)) 1 (.string d);exact ⟨cell_at h3 0,cell_at h3 1,(h.b.setCell (p := ⟨w.heap.size,0,none⟩) (Nat.le_refl _) _).setCell (p := ⟨w.heap.size,1,none⟩) (Nat.le_refl _) _⟩
theorem rfield_any (s : ByteArray) (w : World) (h0 : 0 < s.size) (hs : s.size <= 8192) :
  Calls Tryz.prog 67 #[.string s] w fun e w' => e = .returned (.tuple #[.agg #[.string (fldR s).1,.string (fldR s).2],.int .i64 (fldE s : Nat)]) /\ Below w.heap.size w w' := by
 have hk1 := k1_size 58 s;have hk2 := k2_size 58 s;have HC := hide (fun W => rcut_any s 58 W (by omega));have HTK := hide (fun W => rtoken_any (k1 58 s) W (by unfold maxLen;omega));have HTR := hide (fun W => rtrim_any (k2 58 s) W (by unfold maxLen;omega));have hts := trimS_size (k2 58 s);have HVL := hide (fun W => rvalue_any (trimS (k2 58 s)) W (by unfold maxLen;omega));have hhd := head_at s h0;obtain ⟨fe,hfe⟩ : ∃ e,fldE s = e := ⟨_,rfl⟩
 obtain ⟨f1,f2,hfr⟩ : ∃ a b,fldR s = (a,b) := ⟨_,_,rfl⟩
 unfold fldR at hfr;rw [hfe] at hfr;unfold fldE at hfe;unfold fldFh at hfe hfr;have HFE := hide hfe;have HFR := hide hfr;have HRR : fldR s = (f1,f2) := by unfold fldR fldE fldFh;rw [hfe];exact hfr
 have HE2 : fldE s = fe := by unfold fldE fldFh;exact hfe
 rw [HRR,HE2];clear hfe hfr HRR HE2;have HLA := hide (rtrim_last (k1 58 s));have HLN := hide (rtrim_none (k1 58 s));have hb0 := rblank_any s[0];rw [hhd] at HFE;have hbs := byte_lt s[0];unfold chkF at HFE;generalize blankc s[0] = b0 at hb0 HFE;generalize k3 58 s = b3 at HC HFE;generalize tokenB (k1 58 s).data.toList = bt at HTK HFE;generalize valueB (trimS (k2 58 s)).data.toList = bv at HVL HFE;generalize trimS (k2 58 s) = tv at HTR HVL HFE HFR hts;generalize k1 58 s = nm at HC HTK HFE HFR HLA HLN hk1;generalize k2 58 s = vt at HC HTR hk2 hts;have HB0 := hide hb0;clear hb0 hhd;dsimp only at HFE HFR |-
 go_enter Tryz.func67,Tryz.ntmps67
 go_wp2_with fail
 have T0 := hide (Bl.one w #[.string ⟨#[]⟩,.string ⟨#[]⟩] 48);generalize (w.alloc (.cells #[.string ⟨#[]⟩,.string ⟨#[]⟩] 48)) = x at T0 |-
 refine (HB0.out x).mono ?_;rintro e w' ⟨rfl,rfl⟩;clear HB0;cases b0 with
 | true =>
  have hfe := HFE.out;rw [if_pos rfl] at hfe;subst hfe;have hfr := HFR.out;rw [if_neg (by decide)] at hfr;simp only [Prod.mk.injEq] at hfr;obtain ⟨rfl,rfl⟩ := hfr;clear HFE HFR;have s0 : x.cell? ⟨w.heap.size,0,none⟩ = some (.string ⟨#[]⟩) := T0.out.cell 0 rfl 0;have s1 : x.cell? ⟨w.heap.size,1,none⟩ = some (.string ⟨#[]⟩) := T0.out.cell 0 rfl 1;have g0 : x.frozen? ⟨w.heap.size,0,none⟩ = false := T0.out.fr 0 rfl 0;have g1 : x.frozen? ⟨w.heap.size,1,none⟩ = false := T0.out.fr 0 rfl 1;go_wp2
  obtain ⟨k0,k1,kb⟩ := st2 T0.out rfl ⟨#[]⟩ ⟨#[]⟩;generalize (x.setCell ⟨w.heap.size,0,none⟩ (.string ⟨#[]⟩)).setCell ⟨w.heap.size,1,none⟩ (.string ⟨#[]⟩) = w9 at k0 k1 kb |-
  clear s0 s1 g0 g1;exact bodyPost_ret (v := .tuple #[.agg #[.string ⟨#[]⟩,.string ⟨#[]⟩],.int .i64 82]) (by simp [results,Tryz.results67,go_sem,k0,k1]) rfl ⟨rfl,kb⟩
 | false =>
  go_wp2_with fail
  refine (HC.out x).mono ?_;rintro e w1 ⟨rfl,bb⟩;have T1 := hide (T0.out.below bb);clear bb T0 HC;cases b3 with
  | false =>
   have hfe := HFE.out;rw [if_neg (by simp)] at hfe;rw [if_pos rfl] at hfe;subst hfe;have hfr := HFR.out;rw [if_neg (by decide)] at hfr;simp only [Prod.mk.injEq] at hfr;obtain ⟨rfl,rfl⟩ := hfr;clear HFE HFR;have s0 : w1.cell? ⟨w.heap.size,0,none⟩ = some (.string ⟨#[]⟩) := T1.out.cell 0 rfl 0;have s1 : w1.cell? ⟨w.heap.size,1,none⟩ = some (.string ⟨#[]⟩) := T1.out.cell 0 rfl 1;have g0 : w1.frozen? ⟨w.heap.size,0,none⟩ = false := T1.out.fr 0 rfl 0;have g1 : w1.frozen? ⟨w.heap.size,1,none⟩ = false := T1.out.fr 0 rfl 1;go_wp2
   obtain ⟨k0,k1,kb⟩ := st2 T1.out rfl ⟨#[]⟩ ⟨#[]⟩;generalize (w1.setCell ⟨w.heap.size,0,none⟩ (.string ⟨#[]⟩)).setCell ⟨w.heap.size,1,none⟩ (.string ⟨#[]⟩) = w9 at k0 k1 kb |-
   clear s0 s1 g0 g1;exact bodyPost_ret (v := .tuple #[.agg #[.string ⟨#[]⟩,.string ⟨#[]⟩],.int .i64 84]) (by simp [results,Tryz.results67,go_sem,k0,k1]) rfl ⟨rfl,kb⟩
  | true =>
   by_cases hz : 0 < nm.size
   ·have hlt : nm.size - 1 < nm.size := by omega
    have HBL := hide (fun W => rblank_any (nm[nm.size - 1]'hlt) W);have hbl := byte_lt (nm[nm.size - 1]'hlt);have HL2 := hide (HLA.out hz);have tne : nm.toList.isEmpty = false := by rw [Lib.toList_data,isEmpty_size];exact decide_eq_false (by omega)
    have e1 : (nm.size : Int) - 1 = ((nm.size - 1 : Nat) : Int) := by omega
    generalize hbb : blankc (nm[nm.size - 1]'hlt) = lb at HBL HL2;clear hbb;go_wp2_with fail
    refine (HBL.out w1).mono ?_;rintro e w' ⟨rfl,rfl⟩;clear HBL;cases lb with
    | true =>
     have hfe := HFE.out;rw [if_neg (by simp)] at hfe;rw [if_neg (by simp)] at hfe;rw [if_pos (fun e => by have := HL2.out.1 e;cases this)] at hfe;subst hfe;have hfr := HFR.out;rw [if_neg (by decide)] at hfr;simp only [Prod.mk.injEq] at hfr;obtain ⟨rfl,rfl⟩ := hfr;clear HFE HFR;have s0 : w1.cell? ⟨w.heap.size,0,none⟩ = some (.string ⟨#[]⟩) := T1.out.cell 0 rfl 0;have s1 : w1.cell? ⟨w.heap.size,1,none⟩ = some (.string ⟨#[]⟩) := T1.out.cell 0 rfl 1;have g0 : w1.frozen? ⟨w.heap.size,0,none⟩ = false := T1.out.fr 0 rfl 0;have g1 : w1.frozen? ⟨w.heap.size,1,none⟩ = false := T1.out.fr 0 rfl 1;go_wp2
     obtain ⟨k0,k1,kb⟩ := st2 T1.out rfl ⟨#[]⟩ ⟨#[]⟩;generalize (w1.setCell ⟨w.heap.size,0,none⟩ (.string ⟨#[]⟩)).setCell ⟨w.heap.size,1,none⟩ (.string ⟨#[]⟩) = w9 at k0 k1 kb |-
     clear s0 s1 g0 g1;exact bodyPost_ret (v := .tuple #[.agg #[.string ⟨#[]⟩,.string ⟨#[]⟩],.int .i64 83]) (by simp [results,Tryz.results67,go_sem,k0,k1]) rfl ⟨rfl,kb⟩
    | false =>
     have HEQ := hide (HL2.out.2 rfl);have hfe := HFE.out;rw [if_neg (by simp),if_neg (by simp),if_neg (fun h => h HEQ.out)] at hfe;have HFE := hide hfe;clear hfe;go_wp2_with fail
     refine (HTK.out w1).mono ?_;rintro e w2 ⟨rfl,bb⟩;have T2 := hide (T1.out.below bb);clear bb T1;cases bt with
     | false =>
      have hfe := HFE.out;rw [if_neg (by simp)] at hfe;subst hfe;have hfr := HFR.out;rw [if_neg (by decide)] at hfr;simp only [Prod.mk.injEq] at hfr;obtain ⟨rfl,rfl⟩ := hfr;clear HFE HFR;have s0 : w2.cell? ⟨w.heap.size,0,none⟩ = some (.string ⟨#[]⟩) := T2.out.cell 0 rfl 0;have s1 : w2.cell? ⟨w.heap.size,1,none⟩ = some (.string ⟨#[]⟩) := T2.out.cell 0 rfl 1;have g0 : w2.frozen? ⟨w.heap.size,0,none⟩ = false := T2.out.fr 0 rfl 0;have g1 : w2.frozen? ⟨w.heap.size,1,none⟩ = false := T2.out.fr 0 rfl 1;go_wp2
      obtain ⟨k0,k1,kb⟩ := st2 T2.out rfl ⟨#[]⟩ ⟨#[]⟩;generalize (w2.setCell ⟨w.heap.size,0,none⟩ (.string ⟨#[]⟩)).setCell ⟨w.heap.size,1,none⟩ (.string ⟨#[]⟩) = w9 at k0 k1 kb |-
      clear s0 s1 g0 g1;exact bodyPost_ret (v := .tuple #[.agg #[.string ⟨#[]⟩,.string ⟨#[]⟩],.int .i64 70]) (by simp [results,Tryz.results67,go_sem,k0,k1]) rfl ⟨rfl,kb⟩
     | true =>
      go_wp2_with fail
      refine (HTR.out w2).mono ?_;rintro e w' ⟨rfl,rfl⟩;go_wp2_with fail
      refine (HVL.out w2).mono ?_;rintro e w' ⟨rfl,rfl⟩;cases bv with
      | false =>
       have hfe := HFE.out;simp only [if_true,Bool.false_eq_true,if_false] at hfe;subst hfe;have hfr := HFR.out;rw [if_neg (by decide)] at hfr;simp only [Prod.mk.injEq] at hfr;obtain ⟨rfl,rfl⟩ := hfr;clear HFE HFR;have s0 : w2.cell? ⟨w.heap.size,0,none⟩ = some (.string ⟨#[]⟩) := T2.out.cell 0 rfl 0;have s1 : w2.cell? ⟨w.heap.size,1,none⟩ = some (.string ⟨#[]⟩) := T2.out.cell 0 rfl 1;have g0 : w2.frozen? ⟨w.heap.size,0,none⟩ = false := T2.out.fr 0 rfl 0;have g1 : w2.frozen? ⟨w.heap.size,1,none⟩ = false := T2.out.fr 0 rfl 1;go_wp2
       obtain ⟨k0,k1,kb⟩ := st2 T2.out rfl ⟨#[]⟩ ⟨#[]⟩;generalize (w2.setCell ⟨w.heap.size,0,none⟩ (.string ⟨#[]⟩)).setCell ⟨w.heap.size,1,none⟩ (.string ⟨#[]⟩) = w9 at k0 k1 kb |-
       clear s0 s1 g0 g1;exact bodyPost_ret (v := .tuple #[.agg #[.string ⟨#[]⟩,.string ⟨#[]⟩],.int .i64 71]) (by simp [results,Tryz.results67,go_sem,k0,k1]) rfl ⟨rfl,kb⟩
      | true =>
       have hfe := HFE.out;simp only [if_true] at hfe;subst hfe;have hfr := HFR.out;rw [if_pos rfl] at hfr;simp only [Prod.mk.injEq] at hfr;obtain ⟨rfl,rfl⟩ := hfr;clear HFE HFR;have s0 : w2.cell? ⟨w.heap.size,0,none⟩ = some (.string ⟨#[]⟩) := T2.out.cell 0 rfl 0;have s1 : w2.cell? ⟨w.heap.size,1,none⟩ = some (.string ⟨#[]⟩) := T2.out.cell 0 rfl 1;have g0 : w2.frozen? ⟨w.heap.size,0,none⟩ = false := T2.out.fr 0 rfl 0;have g1 : w2.frozen? ⟨w.heap.size,1,none⟩ = false := T2.out.fr 0 rfl 1;go_wp2
       obtain ⟨k0,k1,kb⟩ := st2 T2.out rfl nm tv;generalize (w2.setCell ⟨w.heap.size,0,none⟩ (.string nm)).setCell ⟨w.heap.size,1,none⟩ (.string tv) = w9 at k0 k1 kb |-
       clear s0 s1 g0 g1;exact bodyPost_ret (v := .tuple #[.agg #[.string nm,.string tv],.int .i64 0]) (by simp [results,Tryz.results67,go_sem,k0,k1]) rfl ⟨rfl,kb⟩
   ·have tne : nm.toList.isEmpty = true := by rw [Lib.toList_data, isEmpty_size]; exact decide_eq_true (by omega)
    have HEQ := hide (HLN.out hz);have hfe := HFE.out;rw [if_neg (by simp),if_neg (by simp),if_neg (fun h => h HEQ.out)] at hfe;have HFE := hide hfe;clear hfe;go_wp2_with fail
    refine (HTK.out w1).mono ?_;rintro e w2 ⟨rfl,bb⟩;have T2 := hide (T1.out.below bb);clear bb T1;cases bt with
    | false =>
     have hfe := HFE.out;rw [if_neg (by simp)] at hfe;subst hfe;have hfr := HFR.out;rw [if_neg (by decide)] at hfr;simp only [Prod.mk.injEq] at hfr;obtain ⟨rfl,rfl⟩ := hfr;clear HFE HFR;have s0 : w2.cell? ⟨w.heap.size,0,none⟩ = some (.string ⟨#[]⟩) := T2.out.cell 0 rfl 0;have s1 : w2.cell? ⟨w.heap.size,1,none⟩ = some (.string ⟨#[]⟩) := T2.out.cell 0 rfl 1;have g0 : w2.frozen? ⟨w.heap.size,0,none⟩ = false := T2.out.fr 0 rfl 0;have g1 : w2.frozen? ⟨w.heap.size,1,none⟩ = false := T2.out.fr 0 rfl 1;go_wp2
     obtain ⟨k0,k1,kb⟩ := st2 T2.out rfl ⟨#[]⟩ ⟨#[]⟩;generalize (w2.setCell ⟨w.heap.size,0,none⟩ (.string ⟨#[]⟩)).setCell ⟨w.heap.size,1,none⟩ (.string ⟨#[]⟩) = w9 at k0 k1 kb |-
     clear s0 s1 g0 g1;exact bodyPost_ret (v := .tuple #[.agg #[.string ⟨#[]⟩,.string ⟨#[]⟩],.int .i64 70]) (by simp [results,Tryz.results67,go_sem,k0,k1]) rfl ⟨rfl,kb⟩
    | true =>
     go_wp2_with fail
     refine (HTR.out w2).mono ?_;rintro e w' ⟨rfl,rfl⟩;go_wp2_with fail
     refine (HVL.out w2).mono ?_;rintro e w' ⟨rfl,rfl⟩;cases bv with
     | false =>
      have hfe := HFE.out;simp only [if_true,Bool.false_eq_true,if_false] at hfe;subst hfe;have hfr := HFR.out;rw [if_neg (by decide)] at hfr;simp only [Prod.mk.injEq] at hfr;obtain ⟨rfl,rfl⟩ := hfr;clear HFE HFR;have s0 : w2.cell? ⟨w.heap.size,0,none⟩ = some (.string ⟨#[]⟩) := T2.out.cell 0 rfl 0;have s1 : w2.cell? ⟨w.heap.size,1,none⟩ = some (.string ⟨#[]⟩) := T2.out.cell 0 rfl 1;have g0 : w2.frozen? ⟨w.heap.size,0,none⟩ = false := T2.out.fr 0 rfl 0;have g1 : w2.frozen? ⟨w.heap.size,1,none⟩ = false := T2.out.fr 0 rfl 1;go_wp2
      obtain ⟨k0,k1,kb⟩ := st2 T2.out rfl ⟨#[]⟩ ⟨#[]⟩;generalize (w2.setCell ⟨w.heap.size,0,none⟩ (.string ⟨#[]⟩)).setCell ⟨w.heap.size,1,none⟩ (.string ⟨#[]⟩) = w9 at k0 k1 kb |-
      clear s0 s1 g0 g1;exact bodyPost_ret (v := .tuple #[.agg #[.string ⟨#[]⟩,.string ⟨#[]⟩],.int .i64 71]) (by simp [results,Tryz.results67,go_sem,k0,k1]) rfl ⟨rfl,kb⟩
     | true =>
      have hfe := HFE.out;simp only [if_true] at hfe;subst hfe;have hfr := HFR.out;rw [if_pos rfl] at hfr;simp only [Prod.mk.injEq] at hfr;obtain ⟨rfl,rfl⟩ := hfr;clear HFE HFR;have s0 : w2.cell? ⟨w.heap.size,0,none⟩ = some (.string ⟨#[]⟩) := T2.out.cell 0 rfl 0;have s1 : w2.cell? ⟨w.heap.size,1,none⟩ = some (.string ⟨#[]⟩) := T2.out.cell 0 rfl 1;have g0 : w2.frozen? ⟨w.heap.size,0,none⟩ = false := T2.out.fr 0 rfl 0;have g1 : w2.frozen? ⟨w.heap.size,1,none⟩ = false := T2.out.fr 0 rfl 1;go_wp2
      obtain ⟨k0,k1,kb⟩ := st2 T2.out rfl nm tv;generalize (w2.setCell ⟨w.heap.size,0,none⟩ (.string nm)).setCell ⟨w.heap.size,1,none⟩ (.string tv) = w9 at k0 k1 kb |-
      clear s0 s1 g0 g1;exact bodyPost_ret (v := .tuple #[.agg #[.string nm,.string tv],.int .i64 0]) (by simp [results,Tryz.results67,go_sem,k0,k1]) rfl ⟨rfl,kb⟩
def frE (rq : Bool) (s : ByteArray) : Nat :=
 if (k3 32 s && k3 32 (k2 32 s)) = false then 80
 else if rq then (if (k1 32 (k2 32 s)).data.toList.all tgc = false then 80 else if (tokenB (k1 32 s).data.toList && !decide ((k1 32 (k2 32 s)).size = 0)) = false then 80 else verE (k2 32 (k2 32 s)).data.toList)
 else (if (statB (k1 32 (k2 32 s)).data.toList && !decide (verE (k1 32 s).data.toList = 80)) = false then 80 else if (k2 32 (k2 32 s)).data.toList.all valc = false then 80 else verE (k1 32 s).data.toList)
def frH (rq : Bool) (s : ByteArray) : Hx :=
 if rq then ⟨true,k1 32 s,k1 32 (k2 32 s),verM (k2 32 (k2 32 s)).data.toList,0,⟨#[]⟩,[]⟩ else ⟨false,⟨#[]⟩,⟨#[]⟩,verM (k1 32 s).data.toList,numV 10 (k1 32 (k2 32 s)).data.toList,k2 32 (k2 32 s),[]⟩
def FrOk (e : Nat) (X Y : Hx) : Prop := e = 0 -> X = Y
theorem FrOk.out {e : Nat} {X Y : Hx} (h : FrOk e X Y) (he : e = 0) : X = Y := h he
theorem frOk_no {e : Nat} {X Y : Hx} (h : e ≠ 0) : FrOk e X Y := fun he => absurd he h
theorem frOk_yes {e : Nat} {X Y : Hx} (h : X = Y) : FrOk e X Y := fun _ => h
theorem tgc_yes {c : UInt8} (h1 : ¬ c.toNat < 33) (h2 : ¬ 126 < c.toNat) : tgc c = true := by unfold tgc;simp;omega
theorem tgc_lo {c : UInt8} (h1 : c.toNat < 33) : tgc c = false := by unfold tgc;simp;omega
theorem tgc_hi {c : UInt8} (h1 : 126 < c.toNat) : tgc c = false := by unfold tgc;simp;omega
theorem rfirst_req (s : ByteArray) (w : World) (hs : s.size <= 8192) :
  Calls Tryz.prog 66 #[.bool true,.string s] w fun e w' => ∃ X,e = .returned (.tuple #[hxV X (.slice none 0 0),.int .i64 (frE true s : Nat)]) /\ FrOk (frE true s) X (frH true s) /\ Below w.heap.size w w' := by
 have hk2 := k2_size 32 s;have hk1 := k1_size 32 s;have hj1 := k1_size 32 (k2 32 s);have hj2 := k2_size 32 (k2 32 s);have HC1 := hide (fun W => rcut_any s 32 W (by omega));have HC2 := hide (fun W => rcut_any (k2 32 s) 32 W (by omega));have HTK := hide (fun W => rtoken_any (k1 32 s) W (by unfold maxLen;omega));have HVR := hide (fun W => rversion_any (k2 32 (k2 32 s)) W (by unfold maxLen;omega));have HAS := hide (all_snoc tgc (k1 32 (k2 32 s)));have HAN := hide (all_no tgc (k1 32 (k2 32 s)));have HAA := hide (take_all (k1 32 (k2 32 s)));obtain ⟨fe,hfe⟩ : ∃ e,frE true s = e := ⟨_,rfl⟩
 obtain ⟨fh,hfh⟩ : ∃ x,frH true s = x := ⟨_,rfl⟩
 rw [hfe,hfh];unfold frE at hfe;unfold frH at hfh;rw [if_pos rfl] at hfh;simp only [if_true] at hfe;have HFE := hide hfe;have HFH := hide hfh;clear hfe hfh;generalize k3 32 s = b3 at HC1 HFE;generalize k3 32 (k2 32 s) = c3 at HC2 HFE;generalize tokenB (k1 32 s).data.toList = bt at HTK HFE;generalize verE (k2 32 (k2 32 s)).data.toList = ve at HVR HFE;generalize verM (k2 32 (k2 32 s)).data.toList = vm at HVR HFH;generalize k1 32 (k2 32 s) = tg at HC2 HFE HFH HAS HAN HAA hj1;generalize k2 32 (k2 32 s) = vs at HC2 HVR hj2;generalize k1 32 s = mt at HC1 HTK HFH hk1;generalize k2 32 s = rest at HC1 HC2 hk2 hj1 hj2;unfold hxV;go_enter Tryz.func66,Tryz.ntmps66
 go_wp2_with fail
 have T0 := hide (Bl.one w #[.bool false,.string ⟨#[]⟩,.string ⟨#[]⟩,.int .i64 0,.int .i64 0,.string ⟨#[]⟩,.slice none 0 0] 45);generalize (w.alloc (.cells #[.bool false,.string ⟨#[]⟩,.string ⟨#[]⟩,.int .i64 0,.int .i64 0,.string ⟨#[]⟩,.slice none 0 0] 45)) = x at T0 |-
 refine (HC1.out x).mono ?_;rintro e w1 ⟨rfl,bb⟩;have T1 := hide (T0.out.below bb);clear bb T0 HC1;go_wp2_with fail
 refine (HC2.out w1).mono ?_;rintro e w2 ⟨rfl,bb⟩;have T2 := hide (T1.out.below bb);clear bb T1 HC2;cases b3 with
 | false =>
  have hfe : fe = 80 := by rw [<- HFE.out];simp
  subst hfe;clear HFE HFH;obtain ⟨s0,s1,s2,s3,s4,s5,s6⟩ := T2.out.hd 0 w.heap.size rfl rfl;have f0 : w2.frozen? ⟨w.heap.size,0,none⟩ = false := T2.out.fr 0 rfl 0;have f1 : w2.frozen? ⟨w.heap.size,1,none⟩ = false := T2.out.fr 0 rfl 1;have f2 : w2.frozen? ⟨w.heap.size,2,none⟩ = false := T2.out.fr 0 rfl 2;have f3 : w2.frozen? ⟨w.heap.size,3,none⟩ = false := T2.out.fr 0 rfl 3;have f4 : w2.frozen? ⟨w.heap.size,4,none⟩ = false := T2.out.fr 0 rfl 4;have f5 : w2.frozen? ⟨w.heap.size,5,none⟩ = false := T2.out.fr 0 rfl 5;have f6 : w2.frozen? ⟨w.heap.size,6,none⟩ = false := T2.out.fr 0 rfl 6;go_wp2
  have TF : Hid (Bl w (((((((w2.setCell ⟨w.heap.size,0,none⟩ (.bool false)).setCell ⟨w.heap.size,1,none⟩ (.string ⟨#[]⟩)).setCell ⟨w.heap.size,2,none⟩ (.string ⟨#[]⟩)).setCell ⟨w.heap.size,3,none⟩ (.int .i64 0)).setCell ⟨w.heap.size,4,none⟩ (.int .i64 0)).setCell ⟨w.heap.size,5,none⟩ (.string ⟨#[]⟩)).setCell ⟨w.heap.size,6,none⟩ (.slice none 0 0)) [(#[.bool false,.string ⟨#[]⟩,.string ⟨#[]⟩,.int .i64 0,.int .i64 0,.string ⟨#[]⟩,.slice none 0 0],45)]) := hide (((((((T2.out.set 0 rfl 0 (.bool false)).set 0 rfl 1 (.string ⟨#[]⟩)).set 0 rfl 2 (.string ⟨#[]⟩)).set 0 rfl 3 (.int .i64 0)).set 0 rfl 4 (.int .i64 0)).set 0 rfl 5 (.string ⟨#[]⟩)).set 0 rfl 6 (.slice none 0 0));generalize (((((((w2.setCell ⟨w.heap.size,0,none⟩ (.bool false)).setCell ⟨w.heap.size,1,none⟩ (.string ⟨#[]⟩)).setCell ⟨w.heap.size,2,none⟩ (.string ⟨#[]⟩)).setCell ⟨w.heap.size,3,none⟩ (.int .i64 0)).setCell ⟨w.heap.size,4,none⟩ (.int .i64 0)).setCell ⟨w.heap.size,5,none⟩ (.string ⟨#[]⟩)).setCell ⟨w.heap.size,6,none⟩ (.slice none 0 0)) = w9 at TF |-
  clear s0 s1 s2 s3 s4 s5 s6 f0 f1 f2 f3 f4 f5 f6;obtain ⟨k0,k1,k2,k3,k4,k5,k6⟩ := TF.out.hd 0 w.heap.size rfl rfl;exact bodyPost_ret (v := .tuple #[.agg #[.bool false,.string ⟨#[]⟩,.string ⟨#[]⟩,.int .i64 0,.int .i64 0,.string ⟨#[]⟩,.slice none 0 0],.int .i64 80]) (by simp [results,Tryz.results66,go_sem,k0,k1,k2,k3,k4,k5,k6]) rfl ⟨hx0,rfl,frOk_no (by decide),TF.out.b⟩
 | true =>
  cases c3 with
  | false =>
   have hfe : fe = 80 := by rw [<- HFE.out];simp
   subst hfe;clear HFE HFH;obtain ⟨s0,s1,s2,s3,s4,s5,s6⟩ := T2.out.hd 0 w.heap.size rfl rfl;have f0 : w2.frozen? ⟨w.heap.size,0,none⟩ = false := T2.out.fr 0 rfl 0;have f1 : w2.frozen? ⟨w.heap.size,1,none⟩ = false := T2.out.fr 0 rfl 1;have f2 : w2.frozen? ⟨w.heap.size,2,none⟩ = false := T2.out.fr 0 rfl 2;have f3 : w2.frozen? ⟨w.heap.size,3,none⟩ = false := T2.out.fr 0 rfl 3;have f4 : w2.frozen? ⟨w.heap.size,4,none⟩ = false := T2.out.fr 0 rfl 4;have f5 : w2.frozen? ⟨w.heap.size,5,none⟩ = false := T2.out.fr 0 rfl 5;have f6 : w2.frozen? ⟨w.heap.size,6,none⟩ = false := T2.out.fr 0 rfl 6;go_wp2
   have TF : Hid (Bl w (((((((w2.setCell ⟨w.heap.size,0,none⟩ (.bool false)).setCell ⟨w.heap.size,1,none⟩ (.string ⟨#[]⟩)).setCell ⟨w.heap.size,2,none⟩ (.string ⟨#[]⟩)).setCell ⟨w.heap.size,3,none⟩ (.int .i64 0)).setCell ⟨w.heap.size,4,none⟩ (.int .i64 0)).setCell ⟨w.heap.size,5,none⟩ (.string ⟨#[]⟩)).setCell ⟨w.heap.size,6,none⟩ (.slice none 0 0)) [(#[.bool false,.string ⟨#[]⟩,.string ⟨#[]⟩,.int .i64 0,.int .i64 0,.string ⟨#[]⟩,.slice none 0 0],45)]) := hide (((((((T2.out.set 0 rfl 0 (.bool false)).set 0 rfl 1 (.string ⟨#[]⟩)).set 0 rfl 2 (.string ⟨#[]⟩)).set 0 rfl 3 (.int .i64 0)).set 0 rfl 4 (.int .i64 0)).set 0 rfl 5 (.string ⟨#[]⟩)).set 0 rfl 6 (.slice none 0 0));generalize (((((((w2.setCell ⟨w.heap.size,0,none⟩ (.bool false)).setCell ⟨w.heap.size,1,none⟩ (.string ⟨#[]⟩)).setCell ⟨w.heap.size,2,none⟩ (.string ⟨#[]⟩)).setCell ⟨w.heap.size,3,none⟩ (.int .i64 0)).setCell ⟨w.heap.size,4,none⟩ (.int .i64 0)).setCell ⟨w.heap.size,5,none⟩ (.string ⟨#[]⟩)).setCell ⟨w.heap.size,6,none⟩ (.slice none 0 0)) = w9 at TF |-
   clear s0 s1 s2 s3 s4 s5 s6 f0 f1 f2 f3 f4 f5 f6;obtain ⟨k0,k1,k2,k3,k4,k5,k6⟩ := TF.out.hd 0 w.heap.size rfl rfl;exact bodyPost_ret (v := .tuple #[.agg #[.bool false,.string ⟨#[]⟩,.string ⟨#[]⟩,.int .i64 0,.int .i64 0,.string ⟨#[]⟩,.slice none 0 0],.int .i64 80]) (by simp [results,Tryz.results66,go_sem,k0,k1,k2,k3,k4,k5,k6]) rfl ⟨hx0,rfl,frOk_no (by decide),TF.out.b⟩
  | true =>
   have hfe := HFE.out;rw [if_neg (by simp)] at hfe;clear HFE;have HFE := hide hfe;clear hfe;go_wp2_with fail
   go_loop [12] (fun i => ∃ k : Nat,k <= tg.size /\ i = .int .i64 k /\ Hid ((tg.data.toList.take k).all tgc = true)) (fun i => tg.size - (intOf i).toNat)
   case atStart => exact ⟨0,Nat.zero_le _,rfl,hide rfl⟩
   case round =>
    obtain ⟨k,hk,rfl,HK⟩ := hrel;by_cases hlt : k < tg.size
    ·have hb := byte_lt tg[k]
     have HS1 := hide (HAS.out k hlt);have HN1 := hide (HAN.out k hlt);by_cases h1 : tg[k].toNat < 33
     ·have HG := hide (tgc_lo h1)
      have i1 : (tg[k].toNat : Int) < 33 := by omega
      have hfe : fe = 80 := by rw [<- HFE.out];rw [if_pos (HN1.out HG.out)]
      subst hfe;clear HFE HFH;obtain ⟨s0,s1,s2,s3,s4,s5,s6⟩ := T2.out.hd 0 w.heap.size rfl rfl;have f0 : w2.frozen? ⟨w.heap.size,0,none⟩ = false := T2.out.fr 0 rfl 0;have f1 : w2.frozen? ⟨w.heap.size,1,none⟩ = false := T2.out.fr 0 rfl 1;have f2 : w2.frozen? ⟨w.heap.size,2,none⟩ = false := T2.out.fr 0 rfl 2;have f3 : w2.frozen? ⟨w.heap.size,3,none⟩ = false := T2.out.fr 0 rfl 3;have f4 : w2.frozen? ⟨w.heap.size,4,none⟩ = false := T2.out.fr 0 rfl 4;have f5 : w2.frozen? ⟨w.heap.size,5,none⟩ = false := T2.out.fr 0 rfl 5;have f6 : w2.frozen? ⟨w.heap.size,6,none⟩ = false := T2.out.fr 0 rfl 6;go_wp2
      have TF : Hid (Bl w (((((((w2.setCell ⟨w.heap.size,0,none⟩ (.bool false)).setCell ⟨w.heap.size,1,none⟩ (.string ⟨#[]⟩)).setCell ⟨w.heap.size,2,none⟩ (.string ⟨#[]⟩)).setCell ⟨w.heap.size,3,none⟩ (.int .i64 0)).setCell ⟨w.heap.size,4,none⟩ (.int .i64 0)).setCell ⟨w.heap.size,5,none⟩ (.string ⟨#[]⟩)).setCell ⟨w.heap.size,6,none⟩ (.slice none 0 0)) [(#[.bool false,.string ⟨#[]⟩,.string ⟨#[]⟩,.int .i64 0,.int .i64 0,.string ⟨#[]⟩,.slice none 0 0],45)]) := hide (((((((T2.out.set 0 rfl 0 (.bool false)).set 0 rfl 1 (.string ⟨#[]⟩)).set 0 rfl 2 (.string ⟨#[]⟩)).set 0 rfl 3 (.int .i64 0)).set 0 rfl 4 (.int .i64 0)).set 0 rfl 5 (.string ⟨#[]⟩)).set 0 rfl 6 (.slice none 0 0));generalize (((((((w2.setCell ⟨w.heap.size,0,none⟩ (.bool false)).setCell ⟨w.heap.size,1,none⟩ (.string ⟨#[]⟩)).setCell ⟨w.heap.size,2,none⟩ (.string ⟨#[]⟩)).setCell ⟨w.heap.size,3,none⟩ (.int .i64 0)).setCell ⟨w.heap.size,4,none⟩ (.int .i64 0)).setCell ⟨w.heap.size,5,none⟩ (.string ⟨#[]⟩)).setCell ⟨w.heap.size,6,none⟩ (.slice none 0 0)) = w9 at TF |-
      clear s0 s1 s2 s3 s4 s5 s6 f0 f1 f2 f3 f4 f5 f6;obtain ⟨k0,k1,k2,k3,k4,k5,k6⟩ := TF.out.hd 0 w.heap.size rfl rfl;exact bodyPost_ret (v := .tuple #[.agg #[.bool false,.string ⟨#[]⟩,.string ⟨#[]⟩,.int .i64 0,.int .i64 0,.string ⟨#[]⟩,.slice none 0 0],.int .i64 80]) (by simp [results,Tryz.results66,go_sem,k0,k1,k2,k3,k4,k5,k6]) rfl ⟨hx0,rfl,frOk_no (by decide),TF.out.b⟩
     ·have i1 : ¬ (tg[k].toNat : Int) < 33 := by omega
      by_cases h2 : 126 < tg[k].toNat
      ·have HG := hide (tgc_hi h2)
       have i2 : (126 : Int) < (tg[k].toNat : Int) := by omega
       have hfe : fe = 80 := by rw [<- HFE.out];rw [if_pos (HN1.out HG.out)]
       subst hfe;clear HFE HFH;obtain ⟨s0,s1,s2,s3,s4,s5,s6⟩ := T2.out.hd 0 w.heap.size rfl rfl;have f0 : w2.frozen? ⟨w.heap.size,0,none⟩ = false := T2.out.fr 0 rfl 0;have f1 : w2.frozen? ⟨w.heap.size,1,none⟩ = false := T2.out.fr 0 rfl 1;have f2 : w2.frozen? ⟨w.heap.size,2,none⟩ = false := T2.out.fr 0 rfl 2;have f3 : w2.frozen? ⟨w.heap.size,3,none⟩ = false := T2.out.fr 0 rfl 3;have f4 : w2.frozen? ⟨w.heap.size,4,none⟩ = false := T2.out.fr 0 rfl 4;have f5 : w2.frozen? ⟨w.heap.size,5,none⟩ = false := T2.out.fr 0 rfl 5;have f6 : w2.frozen? ⟨w.heap.size,6,none⟩ = false := T2.out.fr 0 rfl 6;go_wp2
       have TF : Hid (Bl w (((((((w2.setCell ⟨w.heap.size,0,none⟩ (.bool false)).setCell ⟨w.heap.size,1,none⟩ (.string ⟨#[]⟩)).setCell ⟨w.heap.size,2,none⟩ (.string ⟨#[]⟩)).setCell ⟨w.heap.size,3,none⟩ (.int .i64 0)).setCell ⟨w.heap.size,4,none⟩ (.int .i64 0)).setCell ⟨w.heap.size,5,none⟩ (.string ⟨#[]⟩)).setCell ⟨w.heap.size,6,none⟩ (.slice none 0 0)) [(#[.bool false,.string ⟨#[]⟩,.string ⟨#[]⟩,.int .i64 0,.int .i64 0,.string ⟨#[]⟩,.slice none 0 0],45)]) := hide (((((((T2.out.set 0 rfl 0 (.bool false)).set 0 rfl 1 (.string ⟨#[]⟩)).set 0 rfl 2 (.string ⟨#[]⟩)).set 0 rfl 3 (.int .i64 0)).set 0 rfl 4 (.int .i64 0)).set 0 rfl 5 (.string ⟨#[]⟩)).set 0 rfl 6 (.slice none 0 0));generalize (((((((w2.setCell ⟨w.heap.size,0,none⟩ (.bool false)).setCell ⟨w.heap.size,1,none⟩ (.string ⟨#[]⟩)).setCell ⟨w.heap.size,2,none⟩ (.string ⟨#[]⟩)).setCell ⟨w.heap.size,3,none⟩ (.int .i64 0)).setCell ⟨w.heap.size,4,none⟩ (.int .i64 0)).setCell ⟨w.heap.size,5,none⟩ (.string ⟨#[]⟩)).setCell ⟨w.heap.size,6,none⟩ (.slice none 0 0)) = w9 at TF |-
       clear s0 s1 s2 s3 s4 s5 s6 f0 f1 f2 f3 f4 f5 f6;obtain ⟨k0,k1,k2,k3,k4,k5,k6⟩ := TF.out.hd 0 w.heap.size rfl rfl;exact bodyPost_ret (v := .tuple #[.agg #[.bool false,.string ⟨#[]⟩,.string ⟨#[]⟩,.int .i64 0,.int .i64 0,.string ⟨#[]⟩,.slice none 0 0],.int .i64 80]) (by simp [results,Tryz.results66,go_sem,k0,k1,k2,k3,k4,k5,k6]) rfl ⟨hx0,rfl,frOk_no (by decide),TF.out.b⟩
      ·have HG := hide (tgc_yes h1 h2)
       have i2 : ¬ (126 : Int) < (tg[k].toNat : Int) := by omega
       go_wp2
       exact ⟨⟨k + 1,by omega,by go_num,hide (by rw [HS1.out,HK.out,HG.out];rfl)⟩,by simp [intOf];omega⟩
    ·have HALL : Hid (tg.data.toList.all tgc = true) := hide (by have := HK.out; rw [HAA.out k (by omega)] at this; exact this)
     have hfe := HFE.out;rw [if_neg (by rw [HALL.out];simp)] at hfe;clear HFE;have HFE := hide hfe;clear hfe;go_wp2_with fail
     refine (HTK.out w2).mono ?_;rintro e w3 ⟨rfl,bb⟩;have T3 := hide (T2.out.below bb);clear bb;cases bt with
     | false =>
      have hfe : fe = 80 := by rw [<- HFE.out];simp
      subst hfe;clear HFE HFH;obtain ⟨s0,s1,s2,s3,s4,s5,s6⟩ := T3.out.hd 0 w.heap.size rfl rfl;have f0 : w3.frozen? ⟨w.heap.size,0,none⟩ = false := T3.out.fr 0 rfl 0;have f1 : w3.frozen? ⟨w.heap.size,1,none⟩ = false := T3.out.fr 0 rfl 1;have f2 : w3.frozen? ⟨w.heap.size,2,none⟩ = false := T3.out.fr 0 rfl 2;have f3 : w3.frozen? ⟨w.heap.size,3,none⟩ = false := T3.out.fr 0 rfl 3;have f4 : w3.frozen? ⟨w.heap.size,4,none⟩ = false := T3.out.fr 0 rfl 4;have f5 : w3.frozen? ⟨w.heap.size,5,none⟩ = false := T3.out.fr 0 rfl 5;have f6 : w3.frozen? ⟨w.heap.size,6,none⟩ = false := T3.out.fr 0 rfl 6;go_wp2
      have TF : Hid (Bl w (((((((w3.setCell ⟨w.heap.size,0,none⟩ (.bool false)).setCell ⟨w.heap.size,1,none⟩ (.string ⟨#[]⟩)).setCell ⟨w.heap.size,2,none⟩ (.string ⟨#[]⟩)).setCell ⟨w.heap.size,3,none⟩ (.int .i64 0)).setCell ⟨w.heap.size,4,none⟩ (.int .i64 0)).setCell ⟨w.heap.size,5,none⟩ (.string ⟨#[]⟩)).setCell ⟨w.heap.size,6,none⟩ (.slice none 0 0)) [(#[.bool false,.string ⟨#[]⟩,.string ⟨#[]⟩,.int .i64 0,.int .i64 0,.string ⟨#[]⟩,.slice none 0 0],45)]) := hide (((((((T3.out.set 0 rfl 0 (.bool false)).set 0 rfl 1 (.string ⟨#[]⟩)).set 0 rfl 2 (.string ⟨#[]⟩)).set 0 rfl 3 (.int .i64 0)).set 0 rfl 4 (.int .i64 0)).set 0 rfl 5 (.string ⟨#[]⟩)).set 0 rfl 6 (.slice none 0 0));generalize (((((((w3.setCell ⟨w.heap.size,0,none⟩ (.bool false)).setCell ⟨w.heap.size,1,none⟩ (.string ⟨#[]⟩)).setCell ⟨w.heap.size,2,none⟩ (.string ⟨#[]⟩)).setCell ⟨w.heap.size,3,none⟩ (.int .i64 0)).setCell ⟨w.heap.size,4,none⟩ (.int .i64 0)).setCell ⟨w.heap.size,5,none⟩ (.string ⟨#[]⟩)).setCell ⟨w.heap.size,6,none⟩ (.slice none 0 0)) = w9 at TF |-
      clear s0 s1 s2 s3 s4 s5 s6 f0 f1 f2 f3 f4 f5 f6;obtain ⟨k0,k1,k2,k3,k4,k5,k6⟩ := TF.out.hd 0 w.heap.size rfl rfl;exact bodyPost_ret (v := .tuple #[.agg #[.bool false,.string ⟨#[]⟩,.string ⟨#[]⟩,.int .i64 0,.int .i64 0,.string ⟨#[]⟩,.slice none 0 0],.int .i64 80]) (by simp [results,Tryz.results66,go_sem,k0,k1,k2,k3,k4,k5,k6]) rfl ⟨hx0,rfl,frOk_no (by decide),TF.out.b⟩
     | true =>
      by_cases hz : tg.size = 0
      ·have he : tg.toList.isEmpty = true := by rw [Lib.toList_data, isEmpty_size]; exact decide_eq_true hz
       have HZ := hide hz;clear hz;have hfe : fe = 80 := by rw [<- HFE.out];simp [HZ.out]
       subst hfe;clear HFE HFH;obtain ⟨s0,s1,s2,s3,s4,s5,s6⟩ := T3.out.hd 0 w.heap.size rfl rfl;have f0 : w3.frozen? ⟨w.heap.size,0,none⟩ = false := T3.out.fr 0 rfl 0;have f1 : w3.frozen? ⟨w.heap.size,1,none⟩ = false := T3.out.fr 0 rfl 1;have f2 : w3.frozen? ⟨w.heap.size,2,none⟩ = false := T3.out.fr 0 rfl 2;have f3 : w3.frozen? ⟨w.heap.size,3,none⟩ = false := T3.out.fr 0 rfl 3;have f4 : w3.frozen? ⟨w.heap.size,4,none⟩ = false := T3.out.fr 0 rfl 4;have f5 : w3.frozen? ⟨w.heap.size,5,none⟩ = false := T3.out.fr 0 rfl 5;have f6 : w3.frozen? ⟨w.heap.size,6,none⟩ = false := T3.out.fr 0 rfl 6;go_wp2
       have TF : Hid (Bl w (((((((w3.setCell ⟨w.heap.size,0,none⟩ (.bool false)).setCell ⟨w.heap.size,1,none⟩ (.string ⟨#[]⟩)).setCell ⟨w.heap.size,2,none⟩ (.string ⟨#[]⟩)).setCell ⟨w.heap.size,3,none⟩ (.int .i64 0)).setCell ⟨w.heap.size,4,none⟩ (.int .i64 0)).setCell ⟨w.heap.size,5,none⟩ (.string ⟨#[]⟩)).setCell ⟨w.heap.size,6,none⟩ (.slice none 0 0)) [(#[.bool false,.string ⟨#[]⟩,.string ⟨#[]⟩,.int .i64 0,.int .i64 0,.string ⟨#[]⟩,.slice none 0 0],45)]) := hide (((((((T3.out.set 0 rfl 0 (.bool false)).set 0 rfl 1 (.string ⟨#[]⟩)).set 0 rfl 2 (.string ⟨#[]⟩)).set 0 rfl 3 (.int .i64 0)).set 0 rfl 4 (.int .i64 0)).set 0 rfl 5 (.string ⟨#[]⟩)).set 0 rfl 6 (.slice none 0 0));generalize (((((((w3.setCell ⟨w.heap.size,0,none⟩ (.bool false)).setCell ⟨w.heap.size,1,none⟩ (.string ⟨#[]⟩)).setCell ⟨w.heap.size,2,none⟩ (.string ⟨#[]⟩)).setCell ⟨w.heap.size,3,none⟩ (.int .i64 0)).setCell ⟨w.heap.size,4,none⟩ (.int .i64 0)).setCell ⟨w.heap.size,5,none⟩ (.string ⟨#[]⟩)).setCell ⟨w.heap.size,6,none⟩ (.slice none 0 0)) = w9 at TF |-
       clear s0 s1 s2 s3 s4 s5 s6 f0 f1 f2 f3 f4 f5 f6;obtain ⟨k0,k1,k2,k3,k4,k5,k6⟩ := TF.out.hd 0 w.heap.size rfl rfl;exact bodyPost_ret (v := .tuple #[.agg #[.bool false,.string ⟨#[]⟩,.string ⟨#[]⟩,.int .i64 0,.int .i64 0,.string ⟨#[]⟩,.slice none 0 0],.int .i64 80]) (by simp [results,Tryz.results66,go_sem,k0,k1,k2,k3,k4,k5,k6]) rfl ⟨hx0,rfl,frOk_no (by decide),TF.out.b⟩
      ·have he : tg.toList.isEmpty = false := by rw [Lib.toList_data, isEmpty_size]; exact decide_eq_false hz
       have hfe := HFE.out;rw [if_neg (by simp [hz])] at hfe;subst hfe;have hfh := hide HFH.out;clear HFE HFH hz;go_wp2_with fail
       refine (HVR.out w3).mono ?_;rintro e w' ⟨rfl,rfl⟩;obtain ⟨s0,s1,s2,s3,s4,s5,s6⟩ := T3.out.hd 0 w.heap.size rfl rfl;have f0 : w3.frozen? ⟨w.heap.size,0,none⟩ = false := T3.out.fr 0 rfl 0;have f1 : w3.frozen? ⟨w.heap.size,1,none⟩ = false := T3.out.fr 0 rfl 1;have f2 : w3.frozen? ⟨w.heap.size,2,none⟩ = false := T3.out.fr 0 rfl 2;have f3 : w3.frozen? ⟨w.heap.size,3,none⟩ = false := T3.out.fr 0 rfl 3;have f4 : w3.frozen? ⟨w.heap.size,4,none⟩ = false := T3.out.fr 0 rfl 4;have f5 : w3.frozen? ⟨w.heap.size,5,none⟩ = false := T3.out.fr 0 rfl 5;have f6 : w3.frozen? ⟨w.heap.size,6,none⟩ = false := T3.out.fr 0 rfl 6;go_wp2
       have TF : Hid (Bl w (((((((w3.setCell ⟨w.heap.size,0,none⟩ (.bool true)).setCell ⟨w.heap.size,1,none⟩ (.string mt)).setCell ⟨w.heap.size,2,none⟩ (.string tg)).setCell ⟨w.heap.size,3,none⟩ (.int .i64 (vm : Int))).setCell ⟨w.heap.size,4,none⟩ (.int .i64 0)).setCell ⟨w.heap.size,5,none⟩ (.string ⟨#[]⟩)).setCell ⟨w.heap.size,6,none⟩ (.slice none 0 0)) [(#[.bool true,.string mt,.string tg,.int .i64 (vm : Int),.int .i64 0,.string ⟨#[]⟩,.slice none 0 0],45)]) := hide (((((((T3.out.set 0 rfl 0 (.bool true)).set 0 rfl 1 (.string mt)).set 0 rfl 2 (.string tg)).set 0 rfl 3 (.int .i64 (vm : Int))).set 0 rfl 4 (.int .i64 0)).set 0 rfl 5 (.string ⟨#[]⟩)).set 0 rfl 6 (.slice none 0 0));generalize (((((((w3.setCell ⟨w.heap.size,0,none⟩ (.bool true)).setCell ⟨w.heap.size,1,none⟩ (.string mt)).setCell ⟨w.heap.size,2,none⟩ (.string tg)).setCell ⟨w.heap.size,3,none⟩ (.int .i64 (vm : Int))).setCell ⟨w.heap.size,4,none⟩ (.int .i64 0)).setCell ⟨w.heap.size,5,none⟩ (.string ⟨#[]⟩)).setCell ⟨w.heap.size,6,none⟩ (.slice none 0 0)) = w9 at TF |-
       clear s0 s1 s2 s3 s4 s5 s6 f0 f1 f2 f3 f4 f5 f6;obtain ⟨k0,k1,k2,k3,k4,k5,k6⟩ := TF.out.hd 0 w.heap.size rfl rfl;exact bodyPost_ret (v := .tuple #[.agg #[.bool true,.string mt,.string tg,.int .i64 (vm : Int),.int .i64 0,.string ⟨#[]⟩,.slice none 0 0],.int .i64 (ve : Int)]) (by simp [results,Tryz.results66,go_sem,k0,k1,k2,k3,k4,k5,k6]) rfl ⟨⟨true,mt,tg,vm,0,⟨#[]⟩,[]⟩,rfl,frOk_yes hfh.out,TF.out.b⟩
theorem rfirst_res (s : ByteArray) (w : World) (hs : s.size <= 8192) :
  Calls Tryz.prog 66 #[.bool false,.string s] w fun e w' => ∃ X,e = .returned (.tuple #[hxV X (.slice none 0 0),.int .i64 (frE false s : Nat)]) /\ FrOk (frE false s) X (frH false s) /\ Below w.heap.size w w' := by
 have hk2 := k2_size 32 s;have hk1 := k1_size 32 s;have hj1 := k1_size 32 (k2 32 s);have hj2 := k2_size 32 (k2 32 s);have HC1 := hide (fun W => rcut_any s 32 W (by omega));have HC2 := hide (fun W => rcut_any (k2 32 s) 32 W (by omega));have HVR := hide (fun W => rversion_any (k1 32 s) W (by unfold maxLen;omega));have HNM := hide (fun W => rnumber_10 (k1 32 (k2 32 s)) W (by unfold maxLen;omega));have hnt := num_topH (k1 32 (k2 32 s)).data.toList;have HAS := hide (all_snoc valc (k2 32 (k2 32 s)));have HAN := hide (all_no valc (k2 32 (k2 32 s)));have HAA := hide (take_all (k2 32 (k2 32 s)));obtain ⟨fe,hfe⟩ : ∃ e,frE false s = e := ⟨_,rfl⟩
 obtain ⟨fh,hfh⟩ : ∃ x,frH false s = x := ⟨_,rfl⟩
 rw [hfe,hfh];unfold frE statB at hfe;rw [size_len] at hfe;unfold frH at hfh;rw [if_neg (by simp)] at hfh;simp only [Bool.false_eq_true,if_false] at hfe;have HFE := hide hfe;have HFH := hide hfh;clear hfe hfh;generalize k3 32 s = b3 at HC1 HFE;generalize k3 32 (k2 32 s) = c3 at HC2 HFE;generalize verE (k1 32 s).data.toList = ve at HVR HFE;generalize verM (k1 32 s).data.toList = vm at HVR HFH;generalize numE 10 (k1 32 (k2 32 s)).data.toList = ne at HNM HFE;generalize numV 10 (k1 32 (k2 32 s)).data.toList = nv at HNM HFE HFH hnt;generalize k1 32 (k2 32 s) = tg at HC2 HFE HNM hj1;generalize k2 32 (k2 32 s) = vs at HC2 HFE HFH HAS HAN HAA hj2;generalize k1 32 s = mt at HC1 HVR hk1;generalize k2 32 s = rest at HC1 HC2 hk2 hj1 hj2;unfold hxV;go_enter Tryz.func66,Tryz.ntmps66
 go_wp2_with fail
 have T0 := hide (Bl.one w #[.bool false,.string ⟨#[]⟩,.string ⟨#[]⟩,.int .i64 0,.int .i64 0,.string ⟨#[]⟩,.slice none 0 0] 45);generalize (w.alloc (.cells #[.bool false,.string ⟨#[]⟩,.string ⟨#[]⟩,.int .i64 0,.int .i64 0,.string ⟨#[]⟩,.slice none 0 0] 45)) = x at T0 |-
 refine (HC1.out x).mono ?_;rintro e w1 ⟨rfl,bb⟩;have T1 := hide (T0.out.below bb);clear bb T0 HC1;go_wp2_with fail
 refine (HC2.out w1).mono ?_;rintro e w2 ⟨rfl,bb⟩;have T2 := hide (T1.out.below bb);clear bb T1 HC2;cases b3 with
 | false =>
  have hfe : fe = 80 := by rw [<- HFE.out];simp
  subst hfe;clear HFE HFH;obtain ⟨s0,s1,s2,s3,s4,s5,s6⟩ := T2.out.hd 0 w.heap.size rfl rfl;have f0 : w2.frozen? ⟨w.heap.size,0,none⟩ = false := T2.out.fr 0 rfl 0;have f1 : w2.frozen? ⟨w.heap.size,1,none⟩ = false := T2.out.fr 0 rfl 1;have f2 : w2.frozen? ⟨w.heap.size,2,none⟩ = false := T2.out.fr 0 rfl 2;have f3 : w2.frozen? ⟨w.heap.size,3,none⟩ = false := T2.out.fr 0 rfl 3;have f4 : w2.frozen? ⟨w.heap.size,4,none⟩ = false := T2.out.fr 0 rfl 4;have f5 : w2.frozen? ⟨w.heap.size,5,none⟩ = false := T2.out.fr 0 rfl 5;have f6 : w2.frozen? ⟨w.heap.size,6,none⟩ = false := T2.out.fr 0 rfl 6;go_wp2
  have TF : Hid (Bl w (((((((w2.setCell ⟨w.heap.size,0,none⟩ (.bool false)).setCell ⟨w.heap.size,1,none⟩ (.string ⟨#[]⟩)).setCell ⟨w.heap.size,2,none⟩ (.string ⟨#[]⟩)).setCell ⟨w.heap.size,3,none⟩ (.int .i64 0)).setCell ⟨w.heap.size,4,none⟩ (.int .i64 0)).setCell ⟨w.heap.size,5,none⟩ (.string ⟨#[]⟩)).setCell ⟨w.heap.size,6,none⟩ (.slice none 0 0)) [(#[.bool false,.string ⟨#[]⟩,.string ⟨#[]⟩,.int .i64 0,.int .i64 0,.string ⟨#[]⟩,.slice none 0 0],45)]) := hide (((((((T2.out.set 0 rfl 0 (.bool false)).set 0 rfl 1 (.string ⟨#[]⟩)).set 0 rfl 2 (.string ⟨#[]⟩)).set 0 rfl 3 (.int .i64 0)).set 0 rfl 4 (.int .i64 0)).set 0 rfl 5 (.string ⟨#[]⟩)).set 0 rfl 6 (.slice none 0 0));generalize (((((((w2.setCell ⟨w.heap.size,0,none⟩ (.bool false)).setCell ⟨w.heap.size,1,none⟩ (.string ⟨#[]⟩)).setCell ⟨w.heap.size,2,none⟩ (.string ⟨#[]⟩)).setCell ⟨w.heap.size,3,none⟩ (.int .i64 0)).setCell ⟨w.heap.size,4,none⟩ (.int .i64 0)).setCell ⟨w.heap.size,5,none⟩ (.string ⟨#[]⟩)).setCell ⟨w.heap.size,6,none⟩ (.slice none 0 0)) = w9 at TF |-
  clear s0 s1 s2 s3 s4 s5 s6 f0 f1 f2 f3 f4 f5 f6;obtain ⟨k0,k1,k2,k3,k4,k5,k6⟩ := TF.out.hd 0 w.heap.size rfl rfl;exact bodyPost_ret (v := .tuple #[.agg #[.bool false,.string ⟨#[]⟩,.string ⟨#[]⟩,.int .i64 0,.int .i64 0,.string ⟨#[]⟩,.slice none 0 0],.int .i64 80]) (by simp [results,Tryz.results66,go_sem,k0,k1,k2,k3,k4,k5,k6]) rfl ⟨hx0,rfl,frOk_no (by decide),TF.out.b⟩
 | true =>
  cases c3 with
  | false =>
   have hfe : fe = 80 := by rw [<- HFE.out];simp
   subst hfe;clear HFE HFH;obtain ⟨s0,s1,s2,s3,s4,s5,s6⟩ := T2.out.hd 0 w.heap.size rfl rfl;have f0 : w2.frozen? ⟨w.heap.size,0,none⟩ = false := T2.out.fr 0 rfl 0;have f1 : w2.frozen? ⟨w.heap.size,1,none⟩ = false := T2.out.fr 0 rfl 1;have f2 : w2.frozen? ⟨w.heap.size,2,none⟩ = false := T2.out.fr 0 rfl 2;have f3 : w2.frozen? ⟨w.heap.size,3,none⟩ = false := T2.out.fr 0 rfl 3;have f4 : w2.frozen? ⟨w.heap.size,4,none⟩ = false := T2.out.fr 0 rfl 4;have f5 : w2.frozen? ⟨w.heap.size,5,none⟩ = false := T2.out.fr 0 rfl 5;have f6 : w2.frozen? ⟨w.heap.size,6,none⟩ = false := T2.out.fr 0 rfl 6;go_wp2
   have TF : Hid (Bl w (((((((w2.setCell ⟨w.heap.size,0,none⟩ (.bool false)).setCell ⟨w.heap.size,1,none⟩ (.string ⟨#[]⟩)).setCell ⟨w.heap.size,2,none⟩ (.string ⟨#[]⟩)).setCell ⟨w.heap.size,3,none⟩ (.int .i64 0)).setCell ⟨w.heap.size,4,none⟩ (.int .i64 0)).setCell ⟨w.heap.size,5,none⟩ (.string ⟨#[]⟩)).setCell ⟨w.heap.size,6,none⟩ (.slice none 0 0)) [(#[.bool false,.string ⟨#[]⟩,.string ⟨#[]⟩,.int .i64 0,.int .i64 0,.string ⟨#[]⟩,.slice none 0 0],45)]) := hide (((((((T2.out.set 0 rfl 0 (.bool false)).set 0 rfl 1 (.string ⟨#[]⟩)).set 0 rfl 2 (.string ⟨#[]⟩)).set 0 rfl 3 (.int .i64 0)).set 0 rfl 4 (.int .i64 0)).set 0 rfl 5 (.string ⟨#[]⟩)).set 0 rfl 6 (.slice none 0 0));generalize (((((((w2.setCell ⟨w.heap.size,0,none⟩ (.bool false)).setCell ⟨w.heap.size,1,none⟩ (.string ⟨#[]⟩)).setCell ⟨w.heap.size,2,none⟩ (.string ⟨#[]⟩)).setCell ⟨w.heap.size,3,none⟩ (.int .i64 0)).setCell ⟨w.heap.size,4,none⟩ (.int .i64 0)).setCell ⟨w.heap.size,5,none⟩ (.string ⟨#[]⟩)).setCell ⟨w.heap.size,6,none⟩ (.slice none 0 0)) = w9 at TF |-
   clear s0 s1 s2 s3 s4 s5 s6 f0 f1 f2 f3 f4 f5 f6;obtain ⟨k0,k1,k2,k3,k4,k5,k6⟩ := TF.out.hd 0 w.heap.size rfl rfl;exact bodyPost_ret (v := .tuple #[.agg #[.bool false,.string ⟨#[]⟩,.string ⟨#[]⟩,.int .i64 0,.int .i64 0,.string ⟨#[]⟩,.slice none 0 0],.int .i64 80]) (by simp [results,Tryz.results66,go_sem,k0,k1,k2,k3,k4,k5,k6]) rfl ⟨hx0,rfl,frOk_no (by decide),TF.out.b⟩
  | true =>
   have hfe := HFE.out;rw [if_neg (by simp)] at hfe;clear HFE;have HFE := hide hfe;clear hfe;go_wp2_with fail
   refine (HVR.out w2).mono ?_;rintro e w' ⟨rfl,rfl⟩;go_wp2_with fail
   refine (HNM.out w2).mono ?_;rintro e w' ⟨rfl,rfl⟩;clear HVR HNM;by_cases n1 : ne = 0
   ·subst n1
    by_cases n2 : tg.size = 3
    ·have t2 : ((tg.size : Int) != 3) = false := bne_eq_false_iff_eq.2 (by omega)
     by_cases n3 : nv < 100
     ·have i3 : (nv : Int) < 100 := by omega
      have HN := hide n3;have hfe : fe = 80 := by rw [<- HFE.out];rw [if_pos (by have := HN.out;simp;omega)]
      subst hfe;clear HFE HFH;obtain ⟨s0,s1,s2,s3,s4,s5,s6⟩ := T2.out.hd 0 w.heap.size rfl rfl;have f0 : w2.frozen? ⟨w.heap.size,0,none⟩ = false := T2.out.fr 0 rfl 0;have f1 : w2.frozen? ⟨w.heap.size,1,none⟩ = false := T2.out.fr 0 rfl 1;have f2 : w2.frozen? ⟨w.heap.size,2,none⟩ = false := T2.out.fr 0 rfl 2;have f3 : w2.frozen? ⟨w.heap.size,3,none⟩ = false := T2.out.fr 0 rfl 3;have f4 : w2.frozen? ⟨w.heap.size,4,none⟩ = false := T2.out.fr 0 rfl 4;have f5 : w2.frozen? ⟨w.heap.size,5,none⟩ = false := T2.out.fr 0 rfl 5;have f6 : w2.frozen? ⟨w.heap.size,6,none⟩ = false := T2.out.fr 0 rfl 6;go_wp2
      have TF : Hid (Bl w (((((((w2.setCell ⟨w.heap.size,0,none⟩ (.bool false)).setCell ⟨w.heap.size,1,none⟩ (.string ⟨#[]⟩)).setCell ⟨w.heap.size,2,none⟩ (.string ⟨#[]⟩)).setCell ⟨w.heap.size,3,none⟩ (.int .i64 0)).setCell ⟨w.heap.size,4,none⟩ (.int .i64 0)).setCell ⟨w.heap.size,5,none⟩ (.string ⟨#[]⟩)).setCell ⟨w.heap.size,6,none⟩ (.slice none 0 0)) [(#[.bool false,.string ⟨#[]⟩,.string ⟨#[]⟩,.int .i64 0,.int .i64 0,.string ⟨#[]⟩,.slice none 0 0],45)]) := hide (((((((T2.out.set 0 rfl 0 (.bool false)).set 0 rfl 1 (.string ⟨#[]⟩)).set 0 rfl 2 (.string ⟨#[]⟩)).set 0 rfl 3 (.int .i64 0)).set 0 rfl 4 (.int .i64 0)).set 0 rfl 5 (.string ⟨#[]⟩)).set 0 rfl 6 (.slice none 0 0));generalize (((((((w2.setCell ⟨w.heap.size,0,none⟩ (.bool false)).setCell ⟨w.heap.size,1,none⟩ (.string ⟨#[]⟩)).setCell ⟨w.heap.size,2,none⟩ (.string ⟨#[]⟩)).setCell ⟨w.heap.size,3,none⟩ (.int .i64 0)).setCell ⟨w.heap.size,4,none⟩ (.int .i64 0)).setCell ⟨w.heap.size,5,none⟩ (.string ⟨#[]⟩)).setCell ⟨w.heap.size,6,none⟩ (.slice none 0 0)) = w9 at TF |-
      clear s0 s1 s2 s3 s4 s5 s6 f0 f1 f2 f3 f4 f5 f6;obtain ⟨k0,k1,k2,k3,k4,k5,k6⟩ := TF.out.hd 0 w.heap.size rfl rfl;exact bodyPost_ret (v := .tuple #[.agg #[.bool false,.string ⟨#[]⟩,.string ⟨#[]⟩,.int .i64 0,.int .i64 0,.string ⟨#[]⟩,.slice none 0 0],.int .i64 80]) (by simp [results,Tryz.results66,go_sem,k0,k1,k2,k3,k4,k5,k6]) rfl ⟨hx0,rfl,frOk_no (by decide),TF.out.b⟩
     ·have i3 : ¬ (nv : Int) < 100 := by omega
      by_cases n4 : 599 < nv
      ·have i4 : (599 : Int) < (nv : Int) := by omega
       have HN := hide n4;have hfe : fe = 80 := by rw [<- HFE.out];rw [if_pos (by have := HN.out;simp;omega)]
       subst hfe;clear HFE HFH;obtain ⟨s0,s1,s2,s3,s4,s5,s6⟩ := T2.out.hd 0 w.heap.size rfl rfl;have f0 : w2.frozen? ⟨w.heap.size,0,none⟩ = false := T2.out.fr 0 rfl 0;have f1 : w2.frozen? ⟨w.heap.size,1,none⟩ = false := T2.out.fr 0 rfl 1;have f2 : w2.frozen? ⟨w.heap.size,2,none⟩ = false := T2.out.fr 0 rfl 2;have f3 : w2.frozen? ⟨w.heap.size,3,none⟩ = false := T2.out.fr 0 rfl 3;have f4 : w2.frozen? ⟨w.heap.size,4,none⟩ = false := T2.out.fr 0 rfl 4;have f5 : w2.frozen? ⟨w.heap.size,5,none⟩ = false := T2.out.fr 0 rfl 5;have f6 : w2.frozen? ⟨w.heap.size,6,none⟩ = false := T2.out.fr 0 rfl 6;go_wp2
       have TF : Hid (Bl w (((((((w2.setCell ⟨w.heap.size,0,none⟩ (.bool false)).setCell ⟨w.heap.size,1,none⟩ (.string ⟨#[]⟩)).setCell ⟨w.heap.size,2,none⟩ (.string ⟨#[]⟩)).setCell ⟨w.heap.size,3,none⟩ (.int .i64 0)).setCell ⟨w.heap.size,4,none⟩ (.int .i64 0)).setCell ⟨w.heap.size,5,none⟩ (.string ⟨#[]⟩)).setCell ⟨w.heap.size,6,none⟩ (.slice none 0 0)) [(#[.bool false,.string ⟨#[]⟩,.string ⟨#[]⟩,.int .i64 0,.int .i64 0,.string ⟨#[]⟩,.slice none 0 0],45)]) := hide (((((((T2.out.set 0 rfl 0 (.bool false)).set 0 rfl 1 (.string ⟨#[]⟩)).set 0 rfl 2 (.string ⟨#[]⟩)).set 0 rfl 3 (.int .i64 0)).set 0 rfl 4 (.int .i64 0)).set 0 rfl 5 (.string ⟨#[]⟩)).set 0 rfl 6 (.slice none 0 0));generalize (((((((w2.setCell ⟨w.heap.size,0,none⟩ (.bool false)).setCell ⟨w.heap.size,1,none⟩ (.string ⟨#[]⟩)).setCell ⟨w.heap.size,2,none⟩ (.string ⟨#[]⟩)).setCell ⟨w.heap.size,3,none⟩ (.int .i64 0)).setCell ⟨w.heap.size,4,none⟩ (.int .i64 0)).setCell ⟨w.heap.size,5,none⟩ (.string ⟨#[]⟩)).setCell ⟨w.heap.size,6,none⟩ (.slice none 0 0)) = w9 at TF |-
       clear s0 s1 s2 s3 s4 s5 s6 f0 f1 f2 f3 f4 f5 f6;obtain ⟨k0,k1,k2,k3,k4,k5,k6⟩ := TF.out.hd 0 w.heap.size rfl rfl;exact bodyPost_ret (v := .tuple #[.agg #[.bool false,.string ⟨#[]⟩,.string ⟨#[]⟩,.int .i64 0,.int .i64 0,.string ⟨#[]⟩,.slice none 0 0],.int .i64 80]) (by simp [results,Tryz.results66,go_sem,k0,k1,k2,k3,k4,k5,k6]) rfl ⟨hx0,rfl,frOk_no (by decide),TF.out.b⟩
      ·have i4 : ¬ (599 : Int) < (nv : Int) := by omega
       by_cases n5 : ve = 80
       ·subst n5
        have hfe : fe = 80 := by rw [<- HFE.out];simp
        subst hfe;clear HFE HFH;obtain ⟨s0,s1,s2,s3,s4,s5,s6⟩ := T2.out.hd 0 w.heap.size rfl rfl;have f0 : w2.frozen? ⟨w.heap.size,0,none⟩ = false := T2.out.fr 0 rfl 0;have f1 : w2.frozen? ⟨w.heap.size,1,none⟩ = false := T2.out.fr 0 rfl 1;have f2 : w2.frozen? ⟨w.heap.size,2,none⟩ = false := T2.out.fr 0 rfl 2;have f3 : w2.frozen? ⟨w.heap.size,3,none⟩ = false := T2.out.fr 0 rfl 3;have f4 : w2.frozen? ⟨w.heap.size,4,none⟩ = false := T2.out.fr 0 rfl 4;have f5 : w2.frozen? ⟨w.heap.size,5,none⟩ = false := T2.out.fr 0 rfl 5;have f6 : w2.frozen? ⟨w.heap.size,6,none⟩ = false := T2.out.fr 0 rfl 6;go_wp2
        have TF : Hid (Bl w (((((((w2.setCell ⟨w.heap.size,0,none⟩ (.bool false)).setCell ⟨w.heap.size,1,none⟩ (.string ⟨#[]⟩)).setCell ⟨w.heap.size,2,none⟩ (.string ⟨#[]⟩)).setCell ⟨w.heap.size,3,none⟩ (.int .i64 0)).setCell ⟨w.heap.size,4,none⟩ (.int .i64 0)).setCell ⟨w.heap.size,5,none⟩ (.string ⟨#[]⟩)).setCell ⟨w.heap.size,6,none⟩ (.slice none 0 0)) [(#[.bool false,.string ⟨#[]⟩,.string ⟨#[]⟩,.int .i64 0,.int .i64 0,.string ⟨#[]⟩,.slice none 0 0],45)]) := hide (((((((T2.out.set 0 rfl 0 (.bool false)).set 0 rfl 1 (.string ⟨#[]⟩)).set 0 rfl 2 (.string ⟨#[]⟩)).set 0 rfl 3 (.int .i64 0)).set 0 rfl 4 (.int .i64 0)).set 0 rfl 5 (.string ⟨#[]⟩)).set 0 rfl 6 (.slice none 0 0));generalize (((((((w2.setCell ⟨w.heap.size,0,none⟩ (.bool false)).setCell ⟨w.heap.size,1,none⟩ (.string ⟨#[]⟩)).setCell ⟨w.heap.size,2,none⟩ (.string ⟨#[]⟩)).setCell ⟨w.heap.size,3,none⟩ (.int .i64 0)).setCell ⟨w.heap.size,4,none⟩ (.int .i64 0)).setCell ⟨w.heap.size,5,none⟩ (.string ⟨#[]⟩)).setCell ⟨w.heap.size,6,none⟩ (.slice none 0 0)) = w9 at TF |-
        clear s0 s1 s2 s3 s4 s5 s6 f0 f1 f2 f3 f4 f5 f6;obtain ⟨k0,k1,k2,k3,k4,k5,k6⟩ := TF.out.hd 0 w.heap.size rfl rfl;exact bodyPost_ret (v := .tuple #[.agg #[.bool false,.string ⟨#[]⟩,.string ⟨#[]⟩,.int .i64 0,.int .i64 0,.string ⟨#[]⟩,.slice none 0 0],.int .i64 80]) (by simp [results,Tryz.results66,go_sem,k0,k1,k2,k3,k4,k5,k6]) rfl ⟨hx0,rfl,frOk_no (by decide),TF.out.b⟩
       ·have t5 : ((ve : Int) == 80) = false := beq_eq_false_iff_ne.2 (by omega)
        have hfe := HFE.out;rw [if_neg (by rw [decide_eq_true rfl,decide_eq_true n2,decide_eq_true (show 100 <= nv by omega),decide_eq_true (show nv <= 599 by omega),decide_eq_false n5];simp)] at hfe;clear HFE;have HFE := hide hfe;have HN5 := hide n5;have HN2 := hide n2;clear hfe n5 n2;go_wp2_with fail
        go_loop [19] (fun i => ∃ k : Nat,k <= vs.size /\ i = .int .i64 k /\ Hid ((vs.data.toList.take k).all valc = true)) (fun i => vs.size - (intOf i).toNat)
        case atStart => exact ⟨0,Nat.zero_le _,rfl,hide rfl⟩
        case round =>
         obtain ⟨k,hk,rfl,HK⟩ := hrel;by_cases hlt : k < vs.size
         ·have hb := byte_lt vs[k]
          have HS1 := hide (HAS.out k hlt);have HN1 := hide (HAN.out k hlt);have HVC : Hid (valc vs[k] = (decide (vs[k].toNat = 9) || (decide (32 <= vs[k].toNat) && !decide (vs[k].toNat = 127)))) := hide rfl;by_cases h1 : vs[k].toNat < 32
          ·have i1 : (vs[k].toNat : Int) < 32 := by omega
           by_cases h2 : vs[k].toNat = 9
           ·have i2 : ((vs[k].toNat : Int) != 9) = false := bne_eq_false_iff_eq.2 (by omega)
            have i3' : ((vs[k].toNat : Int) == 127) = false := beq_eq_false_iff_ne.2 (by omega);have HG : Hid (valc vs[k] = true) := hide (by rw [HVC.out];simp [h2]);clear h1 h2;go_wp2
            exact ⟨⟨k + 1,by omega,by go_num,hide (by rw [HS1.out,HK.out,HG.out];rfl)⟩,by simp [intOf];omega⟩
           ·have i2 : ((vs[k].toNat : Int) != 9) = true := bne_iff_ne.2 (by omega)
            have HG : Hid (valc vs[k] = false) := hide (by rw [HVC.out];simp [h2];omega);clear h1 h2;have hfe : fe = 80 := by rw [<- HFE.out];rw [if_pos (HN1.out HG.out)]
            subst hfe;clear HFE HFH;obtain ⟨s0,s1,s2,s3,s4,s5,s6⟩ := T2.out.hd 0 w.heap.size rfl rfl;have f0 : w2.frozen? ⟨w.heap.size,0,none⟩ = false := T2.out.fr 0 rfl 0;have f1 : w2.frozen? ⟨w.heap.size,1,none⟩ = false := T2.out.fr 0 rfl 1;have f2 : w2.frozen? ⟨w.heap.size,2,none⟩ = false := T2.out.fr 0 rfl 2;have f3 : w2.frozen? ⟨w.heap.size,3,none⟩ = false := T2.out.fr 0 rfl 3;have f4 : w2.frozen? ⟨w.heap.size,4,none⟩ = false := T2.out.fr 0 rfl 4;have f5 : w2.frozen? ⟨w.heap.size,5,none⟩ = false := T2.out.fr 0 rfl 5;have f6 : w2.frozen? ⟨w.heap.size,6,none⟩ = false := T2.out.fr 0 rfl 6;go_wp2
            have TF : Hid (Bl w (((((((w2.setCell ⟨w.heap.size,0,none⟩ (.bool false)).setCell ⟨w.heap.size,1,none⟩ (.string ⟨#[]⟩)).setCell ⟨w.heap.size,2,none⟩ (.string ⟨#[]⟩)).setCell ⟨w.heap.size,3,none⟩ (.int .i64 0)).setCell ⟨w.heap.size,4,none⟩ (.int .i64 0)).setCell ⟨w.heap.size,5,none⟩ (.string ⟨#[]⟩)).setCell ⟨w.heap.size,6,none⟩ (.slice none 0 0)) [(#[.bool false,.string ⟨#[]⟩,.string ⟨#[]⟩,.int .i64 0,.int .i64 0,.string ⟨#[]⟩,.slice none 0 0],45)]) := hide (((((((T2.out.set 0 rfl 0 (.bool false)).set 0 rfl 1 (.string ⟨#[]⟩)).set 0 rfl 2 (.string ⟨#[]⟩)).set 0 rfl 3 (.int .i64 0)).set 0 rfl 4 (.int .i64 0)).set 0 rfl 5 (.string ⟨#[]⟩)).set 0 rfl 6 (.slice none 0 0));generalize (((((((w2.setCell ⟨w.heap.size,0,none⟩ (.bool false)).setCell ⟨w.heap.size,1,none⟩ (.string ⟨#[]⟩)).setCell ⟨w.heap.size,2,none⟩ (.string ⟨#[]⟩)).setCell ⟨w.heap.size,3,none⟩ (.int .i64 0)).setCell ⟨w.heap.size,4,none⟩ (.int .i64 0)).setCell ⟨w.heap.size,5,none⟩ (.string ⟨#[]⟩)).setCell ⟨w.heap.size,6,none⟩ (.slice none 0 0)) = w9 at TF |-
            clear s0 s1 s2 s3 s4 s5 s6 f0 f1 f2 f3 f4 f5 f6;obtain ⟨k0,k1,k2,k3,k4,k5,k6⟩ := TF.out.hd 0 w.heap.size rfl rfl;exact bodyPost_ret (v := .tuple #[.agg #[.bool false,.string ⟨#[]⟩,.string ⟨#[]⟩,.int .i64 0,.int .i64 0,.string ⟨#[]⟩,.slice none 0 0],.int .i64 80]) (by simp [results,Tryz.results66,go_sem,k0,k1,k2,k3,k4,k5,k6]) rfl ⟨hx0,rfl,frOk_no (by decide),TF.out.b⟩
          ·have i1 : ¬ (vs[k].toNat : Int) < 32 := by omega
           by_cases h2 : vs[k].toNat = 127
           ·have i2 : ((vs[k].toNat : Int) == 127) = true := beq_iff_eq.2 (by omega)
            have HG : Hid (valc vs[k] = false) := hide (by rw [HVC.out];simp [h2]);clear h1 h2;have hfe : fe = 80 := by rw [<- HFE.out];rw [if_pos (HN1.out HG.out)]
            subst hfe;clear HFE HFH;obtain ⟨s0,s1,s2,s3,s4,s5,s6⟩ := T2.out.hd 0 w.heap.size rfl rfl;have f0 : w2.frozen? ⟨w.heap.size,0,none⟩ = false := T2.out.fr 0 rfl 0;have f1 : w2.frozen? ⟨w.heap.size,1,none⟩ = false := T2.out.fr 0 rfl 1;have f2 : w2.frozen? ⟨w.heap.size,2,none⟩ = false := T2.out.fr 0 rfl 2;have f3 : w2.frozen? ⟨w.heap.size,3,none⟩ = false := T2.out.fr 0 rfl 3;have f4 : w2.frozen? ⟨w.heap.size,4,none⟩ = false := T2.out.fr 0 rfl 4;have f5 : w2.frozen? ⟨w.heap.size,5,none⟩ = false := T2.out.fr 0 rfl 5;have f6 : w2.frozen? ⟨w.heap.size,6,none⟩ = false := T2.out.fr 0 rfl 6;go_wp2
            have TF : Hid (Bl w (((((((w2.setCell ⟨w.heap.size,0,none⟩ (.bool false)).setCell ⟨w.heap.size,1,none⟩ (.string ⟨#[]⟩)).setCell ⟨w.heap.size,2,none⟩ (.string ⟨#[]⟩)).setCell ⟨w.heap.size,3,none⟩ (.int .i64 0)).setCell ⟨w.heap.size,4,none⟩ (.int .i64 0)).setCell ⟨w.heap.size,5,none⟩ (.string ⟨#[]⟩)).setCell ⟨w.heap.size,6,none⟩ (.slice none 0 0)) [(#[.bool false,.string ⟨#[]⟩,.string ⟨#[]⟩,.int .i64 0,.int .i64 0,.string ⟨#[]⟩,.slice none 0 0],45)]) := hide (((((((T2.out.set 0 rfl 0 (.bool false)).set 0 rfl 1 (.string ⟨#[]⟩)).set 0 rfl 2 (.string ⟨#[]⟩)).set 0 rfl 3 (.int .i64 0)).set 0 rfl 4 (.int .i64 0)).set 0 rfl 5 (.string ⟨#[]⟩)).set 0 rfl 6 (.slice none 0 0));generalize (((((((w2.setCell ⟨w.heap.size,0,none⟩ (.bool false)).setCell ⟨w.heap.size,1,none⟩ (.string ⟨#[]⟩)).setCell ⟨w.heap.size,2,none⟩ (.string ⟨#[]⟩)).setCell ⟨w.heap.size,3,none⟩ (.int .i64 0)).setCell ⟨w.heap.size,4,none⟩ (.int .i64 0)).setCell ⟨w.heap.size,5,none⟩ (.string ⟨#[]⟩)).setCell ⟨w.heap.size,6,none⟩ (.slice none 0 0)) = w9 at TF |-
            clear s0 s1 s2 s3 s4 s5 s6 f0 f1 f2 f3 f4 f5 f6;obtain ⟨k0,k1,k2,k3,k4,k5,k6⟩ := TF.out.hd 0 w.heap.size rfl rfl;exact bodyPost_ret (v := .tuple #[.agg #[.bool false,.string ⟨#[]⟩,.string ⟨#[]⟩,.int .i64 0,.int .i64 0,.string ⟨#[]⟩,.slice none 0 0],.int .i64 80]) (by simp [results,Tryz.results66,go_sem,k0,k1,k2,k3,k4,k5,k6]) rfl ⟨hx0,rfl,frOk_no (by decide),TF.out.b⟩
           ·have i2 : ((vs[k].toNat : Int) == 127) = false := beq_eq_false_iff_ne.2 (by omega)
            have HG : Hid (valc vs[k] = true) := hide (by rw [HVC.out];simp [h2];omega);clear h1 h2;go_wp2
            exact ⟨⟨k + 1,by omega,by go_num,hide (by rw [HS1.out,HK.out,HG.out];rfl)⟩,by simp [intOf];omega⟩
         ·have HALL : Hid (vs.data.toList.all valc = true) := hide (by have := HK.out; rw [HAA.out k (by omega)] at this; exact this)
          have hfe := HFE.out;rw [if_neg (by rw [HALL.out];simp)] at hfe;subst hfe;have hfh := hide HFH.out;clear HFE HFH;obtain ⟨s0,s1,s2,s3,s4,s5,s6⟩ := T2.out.hd 0 w.heap.size rfl rfl;have f0 : w2.frozen? ⟨w.heap.size,0,none⟩ = false := T2.out.fr 0 rfl 0;have f1 : w2.frozen? ⟨w.heap.size,1,none⟩ = false := T2.out.fr 0 rfl 1;have f2 : w2.frozen? ⟨w.heap.size,2,none⟩ = false := T2.out.fr 0 rfl 2;have f3 : w2.frozen? ⟨w.heap.size,3,none⟩ = false := T2.out.fr 0 rfl 3;have f4 : w2.frozen? ⟨w.heap.size,4,none⟩ = false := T2.out.fr 0 rfl 4;have f5 : w2.frozen? ⟨w.heap.size,5,none⟩ = false := T2.out.fr 0 rfl 5;have f6 : w2.frozen? ⟨w.heap.size,6,none⟩ = false := T2.out.fr 0 rfl 6;go_wp2
          have TF : Hid (Bl w (((((((w2.setCell ⟨w.heap.size,0,none⟩ (.bool false)).setCell ⟨w.heap.size,1,none⟩ (.string ⟨#[]⟩)).setCell ⟨w.heap.size,2,none⟩ (.string ⟨#[]⟩)).setCell ⟨w.heap.size,3,none⟩ (.int .i64 (vm : Int))).setCell ⟨w.heap.size,4,none⟩ (.int .i64 (nv : Int))).setCell ⟨w.heap.size,5,none⟩ (.string vs)).setCell ⟨w.heap.size,6,none⟩ (.slice none 0 0)) [(#[.bool false,.string ⟨#[]⟩,.string ⟨#[]⟩,.int .i64 (vm : Int),.int .i64 (nv : Int),.string vs,.slice none 0 0],45)]) := hide (((((((T2.out.set 0 rfl 0 (.bool false)).set 0 rfl 1 (.string ⟨#[]⟩)).set 0 rfl 2 (.string ⟨#[]⟩)).set 0 rfl 3 (.int .i64 (vm : Int))).set 0 rfl 4 (.int .i64 (nv : Int))).set 0 rfl 5 (.string vs)).set 0 rfl 6 (.slice none 0 0));generalize (((((((w2.setCell ⟨w.heap.size,0,none⟩ (.bool false)).setCell ⟨w.heap.size,1,none⟩ (.string ⟨#[]⟩)).setCell ⟨w.heap.size,2,none⟩ (.string ⟨#[]⟩)).setCell ⟨w.heap.size,3,none⟩ (.int .i64 (vm : Int))).setCell ⟨w.heap.size,4,none⟩ (.int .i64 (nv : Int))).setCell ⟨w.heap.size,5,none⟩ (.string vs)).setCell ⟨w.heap.size,6,none⟩ (.slice none 0 0)) = w9 at TF |-
          clear s0 s1 s2 s3 s4 s5 s6 f0 f1 f2 f3 f4 f5 f6;obtain ⟨k0,k1,k2,k3,k4,k5,k6⟩ := TF.out.hd 0 w.heap.size rfl rfl;exact bodyPost_ret (v := .tuple #[.agg #[.bool false,.string ⟨#[]⟩,.string ⟨#[]⟩,.int .i64 (vm : Int),.int .i64 (nv : Int),.string vs,.slice none 0 0],.int .i64 (ve : Int)]) (by simp [results,Tryz.results66,go_sem,k0,k1,k2,k3,k4,k5,k6]) rfl ⟨⟨false,⟨#[]⟩,⟨#[]⟩,vm,nv,vs,[]⟩,rfl,frOk_yes hfh.out,TF.out.b⟩
    ·have t2 : ((tg.size : Int) != 3) = true := bne_iff_ne.2 (by omega)
     have HN := hide n2;clear n2;have hfe : fe = 80 := by rw [<- HFE.out];simp [HN.out]
     subst hfe;clear HFE HFH;obtain ⟨s0,s1,s2,s3,s4,s5,s6⟩ := T2.out.hd 0 w.heap.size rfl rfl;have f0 : w2.frozen? ⟨w.heap.size,0,none⟩ = false := T2.out.fr 0 rfl 0;have f1 : w2.frozen? ⟨w.heap.size,1,none⟩ = false := T2.out.fr 0 rfl 1;have f2 : w2.frozen? ⟨w.heap.size,2,none⟩ = false := T2.out.fr 0 rfl 2;have f3 : w2.frozen? ⟨w.heap.size,3,none⟩ = false := T2.out.fr 0 rfl 3;have f4 : w2.frozen? ⟨w.heap.size,4,none⟩ = false := T2.out.fr 0 rfl 4;have f5 : w2.frozen? ⟨w.heap.size,5,none⟩ = false := T2.out.fr 0 rfl 5;have f6 : w2.frozen? ⟨w.heap.size,6,none⟩ = false := T2.out.fr 0 rfl 6;go_wp2
     have TF : Hid (Bl w (((((((w2.setCell ⟨w.heap.size,0,none⟩ (.bool false)).setCell ⟨w.heap.size,1,none⟩ (.string ⟨#[]⟩)).setCell ⟨w.heap.size,2,none⟩ (.string ⟨#[]⟩)).setCell ⟨w.heap.size,3,none⟩ (.int .i64 0)).setCell ⟨w.heap.size,4,none⟩ (.int .i64 0)).setCell ⟨w.heap.size,5,none⟩ (.string ⟨#[]⟩)).setCell ⟨w.heap.size,6,none⟩ (.slice none 0 0)) [(#[.bool false,.string ⟨#[]⟩,.string ⟨#[]⟩,.int .i64 0,.int .i64 0,.string ⟨#[]⟩,.slice none 0 0],45)]) := hide (((((((T2.out.set 0 rfl 0 (.bool false)).set 0 rfl 1 (.string ⟨#[]⟩)).set 0 rfl 2 (.string ⟨#[]⟩)).set 0 rfl 3 (.int .i64 0)).set 0 rfl 4 (.int .i64 0)).set 0 rfl 5 (.string ⟨#[]⟩)).set 0 rfl 6 (.slice none 0 0));generalize (((((((w2.setCell ⟨w.heap.size,0,none⟩ (.bool false)).setCell ⟨w.heap.size,1,none⟩ (.string ⟨#[]⟩)).setCell ⟨w.heap.size,2,none⟩ (.string ⟨#[]⟩)).setCell ⟨w.heap.size,3,none⟩ (.int .i64 0)).setCell ⟨w.heap.size,4,none⟩ (.int .i64 0)).setCell ⟨w.heap.size,5,none⟩ (.string ⟨#[]⟩)).setCell ⟨w.heap.size,6,none⟩ (.slice none 0 0)) = w9 at TF |-
     clear s0 s1 s2 s3 s4 s5 s6 f0 f1 f2 f3 f4 f5 f6;obtain ⟨k0,k1,k2,k3,k4,k5,k6⟩ := TF.out.hd 0 w.heap.size rfl rfl;exact bodyPost_ret (v := .tuple #[.agg #[.bool false,.string ⟨#[]⟩,.string ⟨#[]⟩,.int .i64 0,.int .i64 0,.string ⟨#[]⟩,.slice none 0 0],.int .i64 80]) (by simp [results,Tryz.results66,go_sem,k0,k1,k2,k3,k4,k5,k6]) rfl ⟨hx0,rfl,frOk_no (by decide),TF.out.b⟩
   ·have t1 : ((ne : Int) != 0) = true := bne_iff_ne.2 (by omega)
    have HN := hide n1;clear n1;have hfe : fe = 80 := by rw [<- HFE.out];simp [HN.out]
    subst hfe;clear HFE HFH;obtain ⟨s0,s1,s2,s3,s4,s5,s6⟩ := T2.out.hd 0 w.heap.size rfl rfl;have f0 : w2.frozen? ⟨w.heap.size,0,none⟩ = false := T2.out.fr 0 rfl 0;have f1 : w2.frozen? ⟨w.heap.size,1,none⟩ = false := T2.out.fr 0 rfl 1;have f2 : w2.frozen? ⟨w.heap.size,2,none⟩ = false := T2.out.fr 0 rfl 2;have f3 : w2.frozen? ⟨w.heap.size,3,none⟩ = false := T2.out.fr 0 rfl 3;have f4 : w2.frozen? ⟨w.heap.size,4,none⟩ = false := T2.out.fr 0 rfl 4;have f5 : w2.frozen? ⟨w.heap.size,5,none⟩ = false := T2.out.fr 0 rfl 5;have f6 : w2.frozen? ⟨w.heap.size,6,none⟩ = false := T2.out.fr 0 rfl 6;go_wp2
    have TF : Hid (Bl w (((((((w2.setCell ⟨w.heap.size,0,none⟩ (.bool false)).setCell ⟨w.heap.size,1,none⟩ (.string ⟨#[]⟩)).setCell ⟨w.heap.size,2,none⟩ (.string ⟨#[]⟩)).setCell ⟨w.heap.size,3,none⟩ (.int .i64 0)).setCell ⟨w.heap.size,4,none⟩ (.int .i64 0)).setCell ⟨w.heap.size,5,none⟩ (.string ⟨#[]⟩)).setCell ⟨w.heap.size,6,none⟩ (.slice none 0 0)) [(#[.bool false,.string ⟨#[]⟩,.string ⟨#[]⟩,.int .i64 0,.int .i64 0,.string ⟨#[]⟩,.slice none 0 0],45)]) := hide (((((((T2.out.set 0 rfl 0 (.bool false)).set 0 rfl 1 (.string ⟨#[]⟩)).set 0 rfl 2 (.string ⟨#[]⟩)).set 0 rfl 3 (.int .i64 0)).set 0 rfl 4 (.int .i64 0)).set 0 rfl 5 (.string ⟨#[]⟩)).set 0 rfl 6 (.slice none 0 0));generalize (((((((w2.setCell ⟨w.heap.size,0,none⟩ (.bool false)).setCell ⟨w.heap.size,1,none⟩ (.string ⟨#[]⟩)).setCell ⟨w.heap.size,2,none⟩ (.string ⟨#[]⟩)).setCell ⟨w.heap.size,3,none⟩ (.int .i64 0)).setCell ⟨w.heap.size,4,none⟩ (.int .i64 0)).setCell ⟨w.heap.size,5,none⟩ (.string ⟨#[]⟩)).setCell ⟨w.heap.size,6,none⟩ (.slice none 0 0)) = w9 at TF |-
    clear s0 s1 s2 s3 s4 s5 s6 f0 f1 f2 f3 f4 f5 f6;obtain ⟨k0,k1,k2,k3,k4,k5,k6⟩ := TF.out.hd 0 w.heap.size rfl rfl;exact bodyPost_ret (v := .tuple #[.agg #[.bool false,.string ⟨#[]⟩,.string ⟨#[]⟩,.int .i64 0,.int .i64 0,.string ⟨#[]⟩,.slice none 0 0],.int .i64 80]) (by simp [results,Tryz.results66,go_sem,k0,k1,k2,k3,k4,k5,k6]) rfl ⟨hx0,rfl,frOk_no (by decide),TF.out.b⟩
theorem k3_false {c : UInt8} {s : ByteArray} (h : k3 c s = false) : (k2 c s).size = 0 := by
 unfold k3 at h;unfold k2;rw [sS_size];rcases cu_form c s.data.toList with h1 | ⟨a,b,h1,h2⟩
 ·rw [(cu_no h1).2.1];rfl
 ·rw [h1] at h
  rw [(cu_yes h2).2.2] at h;cases h
theorem k_empty {c : UInt8} {s : ByteArray} (h : s.size = 0) : (k1 c s).size = 0 /\ (k2 c s).size = 0 /\ k3 c s = false := by
 have h1 := k1_size c s;have h2 := k2_size c s;refine ⟨by omega,by omega,?_⟩;unfold k3;rw [nil_list s (by omega)];rfl
theorem verE_cases (l : List UInt8) : (verB l = true /\ l = ver11 /\ verE l = 0 /\ verM l = 1) ∨ (verB l = true /\ l = ver10 /\ l ≠ ver11 /\ verE l = 0 /\ verM l = 0) ∨ (verB l = true /\ l ≠ ver11 /\ l ≠ ver10 /\ verE l = 86) ∨ (verB l = false /\ verE l = 80) := by
 by_cases h1 : l = ver11
 ·subst h1;exact .inl ⟨by decide,rfl,by decide,by decide⟩
 ·by_cases h2 : l = ver10
  ·subst h2;exact .inr (.inl ⟨by decide,rfl,by decide,by decide,by decide⟩)
  ·cases hv : verB l with
   | true => exact .inr (.inr (.inl ⟨rfl,h1,h2,by unfold verE;rw [if_neg (by simp [h1,h2]),hv];rfl⟩))
   | false => exact .inr (.inr (.inr ⟨rfl,by unfold verE;rw [if_neg (by simp [h1,h2]),hv];rfl⟩))
theorem begun_eq (p : Pz) (v : ByteArray) : (pBegun p v).1 = verE v.data.toList /\ (verE v.data.toList = 0 -> p.minor = 0 -> (pBegun p v).2 = { p with minor := verM v.data.toList,fn := fnFld }) := by
 unfold pBegun;rcases verE_cases v.data.toList with ⟨h1,h2,h3,h4⟩ | ⟨h1,h2,h2',h3,h4⟩ | ⟨h1,h2,h2',h3⟩ | ⟨h1,h3⟩
 ·rw [if_pos h1, if_pos h2, h3, h4]
  exact ⟨rfl,fun _ _ => rfl⟩
 ·rw [if_pos h1, if_neg h2', if_pos h2, h3, h4]
  refine ⟨rfl,fun _ hm => ?_⟩;cases p;simp only at hm;subst hm;rfl
 ·rw [if_pos h1, if_neg h2, if_neg h2', h3]
  exact ⟨rfl,fun h => by cases h⟩
 ·rw [if_neg (by simp [h1]), h3]
  exact ⟨rfl,fun h => by cases h⟩
theorem req_eq (p : Pz) (s : ByteArray) (h : ¬ (s.size = 0 /\ p.passed < 4)) : (pReq p s).1 = frE true s /\ (frE true s = 0 -> p.minor = 0 -> (pReq p s).2 = { p with me := k1 32 s,ta := k1 32 (k2 32 s),minor := verM (k2 32 (k2 32 s)).data.toList,fn := fnFld }) := by
 unfold pReq frE;rw [if_neg h];simp only [if_true];have hb := begun_eq { p with me := k1 32 s,ta := k1 32 (k2 32 s) } (k2 32 (k2 32 s));have htg : tgtB (k1 32 (k2 32 s)).data.toList = ((k1 32 (k2 32 s)).data.toList.all tgc && !decide ((k1 32 (k2 32 s)).size = 0)) := by unfold tgtB;rw [isEmpty_size]
 cases hc : (k3 32 s && k3 32 (k2 32 s)) with
 | false =>
  rw [if_pos rfl]
  have hv : verE (k2 32 (k2 32 s)).data.toList = 80 := by
   have hz : (k2 32 (k2 32 s)).size = 0 := by
    rw [Bool.and_eq_false_iff] at hc;rcases hc with hc | hc
    ·exact (k_empty (k3_false hc)).2.1
    ·exact k3_false hc
   rw [nil_list _ (by omega)]
   decide
  split
  ·rw [hb.1, hv]
   exact ⟨rfl,fun h => by cases h⟩
  ·exact ⟨rfl,fun h => by cases h⟩
 | true =>
  rw [htg];simp only [Bool.true_eq_false,if_false];cases ha : (k1 32 (k2 32 s)).data.toList.all tgc with
  | false => simp
  | true =>
   cases ht : tokenB (k1 32 s).data.toList with
   | false => simp
   | true =>
    by_cases hz : (k1 32 (k2 32 s)).size = 0
    ·simp [hz]
    ·simp only [hz, decide_false, Bool.not_false, Bool.and_self, if_true, Bool.true_eq_false, if_false]
     exact hb
theorem res_eq (p : Pz) (s : ByteArray) : (pRes p s).1 = frE false s /\ (frE false s = 0 -> p.minor = 0 -> (pRes p s).2 = { p with status := numV 10 (k1 32 (k2 32 s)).data.toList,re := k2 32 (k2 32 s),minor := verM (k1 32 s).data.toList,fn := fnFld }) := by
 unfold pRes frE;simp only [Bool.false_eq_true,if_false];have hb := begun_eq { p with status := numV 10 (k1 32 (k2 32 s)).data.toList,re := k2 32 (k2 32 s) } (k1 32 s);cases hc : k3 32 (k2 32 s) with
 | false => simp
 | true =>
  have h3 : k3 32 s = true := by
   cases h : k3 32 s with
   | true => rfl
   | false => rw [(k_empty (k3_false h)).2.2] at hc;cases hc
  rw [h3];cases hs : statB (k1 32 (k2 32 s)).data.toList with
  | false => simp
  | true =>
   cases ha : (k2 32 (k2 32 s)).data.toList.all valc with
   | false => simp
   | true =>
    simp only [Bool.and_self,if_true,Bool.true_eq_false,if_false,Bool.true_and];by_cases hv : verE (k1 32 s).data.toList = 80
    ·rw [if_pos (by simp [hv]), hb.1, hv]
     exact ⟨rfl,fun h => by cases h⟩
    ·rw [if_neg (by simp [hv])]
     exact hb
theorem fld_eq (p : Pz) (s : ByteArray) (h0 : 0 < s.size) : (pFld p s).1 = (if fldE s = 0 /\ p.fs.length = 100 then 85 else fldE s) /\ ((pFld p s).1 = 0 -> (pFld p s).2 = { p with fs := p.fs ++ [fldR s] }) := by
 unfold pFld fldR fldE;rw [if_neg (by omega)];split
 ·simp
 ·split
  ·simp
  ·split
   ·simp
   ·split
    ·rename_i hc
     simp [hc]
    ·rename_i hc
     have hc0 : chkF (fldFh s) = 0 := by simpa using hc
     rw [hc0];by_cases hl : p.fs.length = 100
     ·simp [hl]
     ·simp [hl]
structure Ln (p : Pz) (lines : Nat) : Prop where
 nb : p.fn ≠ fnFld -> p.fn = (if p.req then fnReq else fnRes) /\ p.passed = lines /\ p.me.size = 0 /\ p.ta.size = 0 /\ p.minor = 0 /\ p.status = 0 /\ p.re.size = 0 /\ p.fs = []
 bg : p.fn = fnFld -> p.me.size ≠ 0 ∨ p.status ≠ 0
theorem size0 {s : ByteArray} (h : s.size = 0) : s = ⟨#[]⟩ := data_inj (by rw [nil_list s (by omega)])
theorem fn_ner : fnReq ≠ fnFld /\ fnRes ≠ fnFld /\ fnReq ≠ fnRes := by decide
theorem begun_end (p : Pz) (v : ByteArray) : (pBegun p v).2.ending = p.ending /\ (pBegun p v).2.whole = p.whole := by
 unfold pBegun;repeat' split
 all_goals exact ⟨rfl,rfl⟩
theorem line_fld {p : Pz} (h : p.fn = fnFld) (s : ByteArray) : pLine p s = pFld p s := by
 unfold pLine;rw [if_neg (by rw [h];exact fun e => fn_ner.1 e.symm),if_neg (by rw [h];exact fun e => fn_ner.2.1 e.symm)]
theorem line_req {p : Pz} (h : p.fn = fnReq) (s : ByteArray) : pLine p s = pReq p s := by
 unfold pLine;rw [if_pos h]
theorem line_res {p : Pz} (h : p.fn = fnRes) (s : ByteArray) : pLine p s = pRes p s := by
 unfold pLine;rw [if_neg (by rw [h];exact fun e => fn_ner.2.2 e.symm),if_pos h]
theorem line_end {p : Pz} (hf : Fit p) (s : ByteArray) : (pLine p s).2.ending = p.ending /\ (¬ (p.fn = fnFld /\ s.size = 0) -> (pLine p s).2.whole = p.whole) := by
 rcases hf.fn with h | h | h
 ·rw [line_req h]
  unfold pReq;split
  ·exact ⟨rfl,fun _ => rfl⟩
  ·split
   ·have h := begun_end { p with me := k1 32 s, ta := k1 32 (k2 32 s) } (k2 32 (k2 32 s))
    exact ⟨h.1,fun _ => h.2⟩
   ·exact ⟨rfl,fun _ => rfl⟩
 ·rw [line_res h]
  unfold pRes;split
  ·have h := begun_end { p with status := numV 10 (k1 32 (k2 32 s)).data.toList, re := k2 32 (k2 32 s) } (k1 32 s)
   exact ⟨h.1,fun _ => h.2⟩
  ·exact ⟨rfl,fun _ => rfl⟩
 ·rw [line_fld h]
  unfold pFld;split
  ·rename_i hz
   exact ⟨rfl,fun h2 => absurd ⟨h,hz⟩ h2⟩
  ·repeat' split
   all_goals exact ⟨rfl,fun _ => rfl⟩
theorem tok_pos {s : ByteArray} (h : tokenB s.data.toList = true) : s.size ≠ 0 := by
 intro hz;rw [nil_list s (by omega)] at h;cases h
theorem frE_pos {rq : Bool} {s : ByteArray} (h : frE rq s = 0) : (rq = true -> (k1 32 s).size ≠ 0) /\ (rq = false -> numV 10 (k1 32 (k2 32 s)).data.toList ≠ 0) := by
 unfold frE at h;split at h
 ·cases h
 ·refine ⟨fun hr => ?_, fun hr => ?_⟩
  ·subst hr
   simp only [if_true] at h;split at h
   ·cases h
   ·split at h
    ·cases h
    ·rename_i h2
     rw [Bool.not_eq_false,Bool.and_eq_true] at h2;exact tok_pos h2.1
  ·subst hr
   simp only [Bool.false_eq_true,if_false] at h;split at h
   ·cases h
   ·rename_i h2
    rw [Bool.not_eq_false,Bool.and_eq_true] at h2;have h3 := h2.1;unfold statB at h3;simp only [Bool.and_eq_true,decide_eq_true_eq] at h3;omega
theorem first_hx {p : Pz} {lines : Nat} (hl : Ln p lines) (hn : p.fn ≠ fnFld) (s : ByteArray) (hz : ¬ (p.req = true /\ s.size = 0 /\ lines < 4)) : (pLine p s).1 = frE p.req s /\ (frE p.req s = 0 -> (pLine p s).2.hx = frH p.req s /\ (pLine p s).2.fn = fnFld) := by
 obtain ⟨h1,h2,h3,h4,h5,h6,h7,h8⟩ := hl.nb hn;cases hr : p.req with
 | true =>
  rw [hr] at h1;rw [line_req h1];have hq := req_eq p s (fun h => hz ⟨hr,h.1,by omega⟩);refine ⟨hq.1,fun he => ?_⟩;rw [hq.2 he h5];refine ⟨?_,rfl⟩;show Hx.mk p.req _ _ _ p.status p.re p.fs = _
  rw [hr,h6,size0 h7,h8];rfl
 | false =>
  rw [hr] at h1;rw [line_res h1];have hq := res_eq p s;refine ⟨hq.1,fun he => ?_⟩;rw [hq.2 he h5];refine ⟨?_,rfl⟩;show Hx.mk p.req p.me p.ta _ _ _ p.fs = _
  rw [hr,size0 h3,size0 h4,h8];rfl
theorem ln_line {p : Pz} {lines : Nat} (hl : Ln p lines) (s : ByteArray) (h0 : (pLine p s).1 = 0) (hw : (pLine p s).2.whole = false) : Ln (pLine p s).2 (lines + 1) := by
 by_cases hn : p.fn = fnFld
 ·rw [line_fld hn] at h0 hw |-
  by_cases hz : s.size = 0
  ·unfold pFld at hw
   rw [if_pos hz] at hw;cases hw
  ·rw [(fld_eq p s (by omega)).2 h0]
   exact ⟨fun h => absurd hn h,fun _ => hl.bg hn⟩
 ·by_cases hz : p.req = true /\ s.size = 0 /\ lines < 4
  ·obtain ⟨h1, h2, h3, h4, h5, h6, h7, h8⟩ := hl.nb hn
   rw [hz.1] at h1;rw [line_req h1];unfold pReq;rw [if_pos ⟨hz.2.1,by omega⟩];refine ⟨fun _ => ⟨?_,?_,h3,h4,h5,h6,h7,h8⟩,fun h => absurd h hn⟩
   ·show p.fn = if p.req then fnReq else fnRes
    rw [hz.1];exact h1
   ·show p.passed + 1 = lines + 1
    omega
  ·obtain ⟨e1, e2⟩ := first_hx hl hn s hz
   have he : frE p.req s = 0 := e1.symm.trans h0;obtain ⟨e3,e4⟩ := e2 he;have hp := frE_pos he;refine ⟨fun h => absurd e4 h,fun _ => ?_⟩;have m1 : (pLine p s).2.me = (frH p.req s).me := by rw [<- e3];rfl
   have m2 : (pLine p s).2.status = (frH p.req s).st := by rw [<- e3];rfl
   rw [m1,m2];cases hr : p.req with
   | true => exact .inl (hp.1 hr)
   | false => exact .inr (hp.2 hr)
end Go.Proofs.YtcagjipdldlehaaGreatDoor
