/- VX4. -/
import Derived.Test.YtcagjipdldlehaaGreatDoorVX3
import Derived.Deep.RegionHeld3
namespace Go.Proofs.YtcagjipdldlehaaGreatDoor
open Go.ChangeShapes Go.WideShapes Go.ChangeAt Go.RowKit
set_option linter.unusedVariables false
set_option maxHeartbeats 16000000
set_option maxRecDepth 100000
structure Zs (me ta re : ByteArray) (mi st : Int) : Prop where
 me : me.size <= 1048576
 ta : ta.size <= 1048576
 re : re.size <= 1048576
 mi : -9223372036854775808 <= mi /\ mi <= 9223372036854775807
 st : -9223372036854775808 <= st /\ st <= 9223372036854775807
theorem hbd_ok {r : Bool} {me ta re : ByteArray} {mi st : Int} {fs : List (ByteArray × ByteArray)} (h : Zs me ta re mi st) (hf : fs.length <= 1 /\ ∀ f ∈ fs,f.1.size <= 1048576 /\ f.2.size <= 1048576) : Hb ⟨r,me,ta,mi,st,re,fs⟩ := ⟨h.me,h.ta,h.re,h.mi.1,h.mi.2,h.st.1,h.st.2,by have := hf.1;show fs.length <= _;omega,hf.2⟩
theorem rok_of {h : Hi} {b : List UInt8} (hp : printB h = true) (hr : h.r = true) (hf : (h.fs = [] /\ b = []) ∨ (h.fs = [(moreN,decS b.length)] /\ b.length <= 1000)) : Rok (h,b) /\ (textS h).data.toList = fullL h := by
 obtain ⟨x,_,_,e,_⟩ := print_is hp;exact ⟨⟨hp,hr,hf⟩,by rw [textS_list,e]⟩
theorem hcl_one (h : Hi) (l : Value) (hl : l.oneCell' = true) : ∀ u ∈ hcl h l,u.oneCell' = true := by
 intro u hu;simp only [hcl,List.mem_cons,List.not_mem_nil,or_false] at hu;rcases hu with rfl | rfl | rfl | rfl | rfl | rfl | rfl <;> first | rfl | exact hl
theorem hown_ne {W : World} {base g : Nat} {v : Value} {X : List UInt8} {c : Array Value} (h : Row W base 5 v (bc X)) (hg : W.heap[g]? = some (.cells c 45 (0,0))) (e : v.ownBlock = some g) : False := by
 obtain ⟨cur,q⟩ := own_type h e;rw [hg] at q;simp only [Option.some.injEq,Obj.cells.injEq] at q;exact absurd q.2.1 (by decide)
theorem AK.monoO {w w' : World} {A B : Nat -> Prop} (h : AK w w' A) (m : ∀ k,A k -> B k) : AK w w' B := ⟨h.os,h.tape,h.output,h.size,fun k hk n => h.block k hk (fun q => n (m k q))⟩
theorem Ow.upO {w w' : World} {c : Nat} {A : Nat -> Prop} (h : Ow w c A) (hs : w.heap.size <= w'.heap.size) : Ow w' c A := ⟨fun k hk => ⟨(h.lo k hk).1,Nat.lt_of_lt_of_le (h.lo k hk).2 hs⟩,h.me⟩
theorem Bf.growO {w w' : World} {P P' : Nat -> Prop} {v : Value} {l : List UInt8} (h : Bf w P v l) (hs : w.heap.size <= w'.heap.size) (b : ∀ k,P k -> k < w.heap.size -> P' k /\ w'.heap[k]? = w.heap[k]?) : Bf w' P' v l := by
 obtain ⟨a,n,e,h1,h2⟩ := h;refine ⟨a,n,e,h1,fun j hj => ?_⟩;obtain ⟨g,o,q1,q2,q3,q4⟩ := h2 j hj;obtain ⟨b1,b2⟩ := b g q2 q3;exact ⟨g,o,q1,b1,by omega,by unfold World.cell? at q4 |-;rw [show (⟨g,o + j,none⟩ : Addr).block = g from rfl] at q4 |-;rw [b2];exact q4⟩
theorem bf_rowO {w : World} {base : Nat} {a : Option Addr} {k c : Nat} {x : List UInt8} (h : Row w base 5 (.slice a k c) (bc x)) : Bf w (fun i => base <= i) (.slice a k c) x := by
 obtain ⟨a',c',e,h1,h2⟩ := h.shape;rw [bc_len] at e h1;simp only [Value.slice.injEq] at e;obtain ⟨rfl,rfl,rfl⟩ := e;refine ⟨a,c,rfl,h1,fun j hj => ?_⟩;obtain ⟨g,e1,e2⟩ := h.cell (j := j) (by rw [bc_len];omega);subst e1;have hlt := h.lt (g := g) rfl;refine ⟨g,0,rfl,hlt.1,hlt.2,?_⟩;rw [Nat.zero_add,e2];simp [bc,hj]
def OS (wr wq : World) (c : Nat) (A0 : Nat -> Prop) (s : CS) : Prop := ∃ A,At wq c (65536 : Int) 1000 A s /\ Ow wq c A /\ AK wr wq A0 /\ ∀ q,A q -> A0 q ∨ wr.heap.size <= q
theorem os_on {wr wq W : World} {A A0 : Nat -> Prop} (h : AK wr wq A0) (k : AK wq W A) (hA : ∀ q,A q -> A0 q ∨ wr.heap.size <= q) (hl : ∀ q,A q -> q < wq.heap.size) : AK wr W A0 :=
 h.on (k.monoO fun q hq => by rcases hA q hq with z | z;exact .inl z;exact .inr ⟨z,hl q hq⟩)
theorem os_below {wr wq W : World} {A0 : Nat -> Prop} (h : AK wr wq A0) (b : Below wq.heap.size wq W) : AK wr W A0 := h.trans (AK.of_below b)
theorem order_walk (w : World) (vh vb vc : Value) (HL : List Hi) (BL : List ByteArray) (CL : List Int) (k0 : Nat) (hH : HdO w vh k0 HL) (hk0 : k0 <= 1048576) (hHl : HL.length <= 1048576) (hB : SrO w vb BL) (hBl : BL.length <= 1048576) (hC : Ir w vc CL) (hCl : CL.length <= 1048576) (hm : MX w) (he : ET w) (ht : PT w) (h3 : 3 <= w.heap.size) :
  Calls Tryz.prog 4 #[vh,vb,vc] w fun e w' => e = .returned (.bool true) /\ Below w.heap.size w w' := by
 obtain ⟨ha,hc0,rfl,hcells⟩ := hH;obtain ⟨ba,bc0,rfl,bcells⟩ := hB;obtain ⟨ia,ic,rfl,icells⟩ := hC;have HH := hide hcells;have HBL := hide bcells;have HI := hide icells;have HM := hide hm;have HE := hide he;have HPT := hide ht;have HP := hide (fun W (b : Below w.heap.size w W) => speaks_any W (hm.below b) (he.below b));have HN1 := hide (new_at w 65536 1000 (by omega) (by omega) (by omega) h3);rw [show ((65536 : Nat) : Int) = 65536 from rfl,show ((1000 : Nat) : Int) = 1000 from rfl] at HN1;clear hcells bcells icells hm he ht;go_enter Tryz.func4,Tryz.ntmps4
 go_upto_region 2 with (go_at_call 8;refine HN1.out.mono ?_;rintro e w1 ⟨rfl,q1,q2,q3⟩;have C1 := hide q1;have O1 := hide q2;have B1 := hide q3;clear q1 q2 q3)
 have hs1 := B1.out.size;have hc1 := (O1.out.lo _ O1.out.me).2;go_wp2_with fail
 go_loopw [9,10,11,38] (fun va vw vd i wr => ∃ (k : Nat) (its : List Ri) (xa xw xd : Value),xa = va /\ xw = vw /\ xd = vd /\ k <= HL.length /\ i = .int .i64 k /\ its.length <= k /\ Hid (∀ i ∈ its,Rok i) /\ (catL its).length <= 31000 /\ Hid (L2 wr w1.heap.size xa (catL its) xw its xd (its.map fun i : Ri => sS i.2) (.slice none 0 0) []) /\ Hid (Below w1.heap.size w1 wr)) (fun _ _ _ i _ => HL.length - (intOf i).toNat)
 case atStart => exact ⟨0,[],_,_,_,rfl,rfl,rfl,Nat.zero_le _,rfl,Nat.le_refl _,hide (fun i hi => by simp at hi),Nat.zero_le _,hide (L2.nil _ _),hide (Below.refl _ _)⟩
 case round =>
  obtain ⟨k,its,xa,xw,xd,rfl,rfl,rfl,hk,rfl,hik,hok,hlen,HL1,HB1⟩ := hrel;obtain ⟨a9,c9,h9,_⟩ := HL1.out.all.shape;rw [bc_len] at h9;subst h9;by_cases hlt : k < HL.length
  ·obtain ⟨g, o, cs, rfl, hg, hq, hhc⟩ := HH.out k hlt
   obtain ⟨⟨fa,fn,fc,rfl⟩,zme,zta,zre,zmi,zst⟩ := hhc;have BW0 := hide (B1.out.trans (HB1.out.mono hs1));generalize HL[k] = hd0 at *;obtain ⟨rr,me,ta,mi,st,re,fs0⟩ := hd0;dsimp only at zme zta zre zmi zst hq;have q0 : wr.cell? ⟨g,o + k * 7,none⟩ = some (.bool rr) := (BW0.out.cell (p := ⟨g,o + k * 7,none⟩) hg).trans (hq 0 (by omega));have q1 : wr.cell? ⟨g,o + k * 7 + 1,none⟩ = some (.string me) := (BW0.out.cell (p := ⟨g,o + k * 7 + 1,none⟩) hg).trans (hq 1 (by omega));have q2 : wr.cell? ⟨g,o + k * 7 + 2,none⟩ = some (.string ta) := (BW0.out.cell (p := ⟨g,o + k * 7 + 2,none⟩) hg).trans (hq 2 (by omega));have q3 : wr.cell? ⟨g,o + k * 7 + 3,none⟩ = some (.int .i64 mi) := (BW0.out.cell (p := ⟨g,o + k * 7 + 3,none⟩) hg).trans (hq 3 (by omega));have q4 : wr.cell? ⟨g,o + k * 7 + 4,none⟩ = some (.int .i64 st) := (BW0.out.cell (p := ⟨g,o + k * 7 + 4,none⟩) hg).trans (hq 4 (by omega));have q5 : wr.cell? ⟨g,o + k * 7 + 5,none⟩ = some (.string re) := (BW0.out.cell (p := ⟨g,o + k * 7 + 5,none⟩) hg).trans (hq 5 (by omega));have q6 : wr.cell? ⟨g,o + k * 7 + 6,none⟩ = some (.slice fa fn fc) := (BW0.out.cell (p := ⟨g,o + k * 7 + 6,none⟩) hg).trans (hq 6 (by omega));clear hq;have zme : me.size <= 1048576 := by omega
   have zta : ta.size <= 1048576 := by omega
   have zre : re.size <= 1048576 := by omega
   have G0 := hide (hp_new wr (.cells #[.bool rr,.string me,.string ta,.int .i64 mi,.int .i64 st,.string re,.slice fa fn fc] 45));have b0 := hide ((Below.refl wr.heap.size wr).alloc (Nat.le_refl _) (.cells #[.bool rr,.string me,.string ta,.int .i64 mi,.int .i64 st,.string re,.slice fa fn fc] 45));go_upto_region 10 with fail
   generalize wr.alloc _ = x0 at *;obtain ⟨hz,HZ⟩ : ∃ z,wr.heap.size = z := ⟨_,rfl⟩
   rw [HZ] at G0 b0;have d0 : x0.cell? ⟨hz,0,none⟩ = some (.bool rr) := cell_at G0.out 0;have d6 : x0.cell? ⟨hz,6,none⟩ = some (.slice fa fn fc) := cell_at G0.out 6;have z0 : x0.frozen? ⟨hz,0,none⟩ = false := (by rw [frozen_at G0.out];simp);have z6 : x0.frozen? ⟨hz,6,none⟩ = false := (by rw [frozen_at G0.out];simp);have P0 : (_ : World).heap[hz]? = some (.cells #[.bool true,.string me,.string ta,.int .i64 mi,.int .i64 st,.string re,.slice fa fn fc] 45 (0,0)) := hp_set G0.out 0 (.bool true);have P6 : (_ : World).heap[hz]? = some (.cells #[.bool true,.string me,.string ta,.int .i64 mi,.int .i64 st,.string re,.slice none 0 0] 45 (0,0)) := hp_set P0 6 (.slice none 0 0);have KK := hide ((CK.set x0 hz 0 (.bool true)).trans (CK.set _ hz 6 (.slice none 0 0)));have G6 := hide P6;clear P0 P6;go_upto_region 13 with fail
   generalize ((x0.setCell ⟨hz,0,none⟩ (.bool true)).setCell ⟨hz,6,none⟩ (.slice none 0 0)) = x1 at G6 KK |-
   have hx0 : hz < x0.heap.size := lt_heap G0.out;have BXr : Hid (Below hz wr x1) := hide (b0.out.trans (KK.out.low (Nat.le_refl _) (by omega)));have LX := hide ((HL1.out.below (by rw [HZ];exact BXr.out)).other (FRow.nil x1 w1.heap.size));have hb1 := HB1.out.size;have BB1 := hide (HB1.out.trans (BXr.out.mono (show w1.heap.size <= hz by omega)));have BW := hide (BW0.out.trans (BXr.out.mono (show w.heap.size <= hz by omega)));have hhz : w1.heap.size <= hz := by omega
   clear q0 q1 q2 q3 q4 q5 q6 d0 d6 z0 z6 G0 b0 KK;by_cases hbk : k < BL.length
   ·obtain ⟨bg, bo, rfl, hbg, hbq⟩ := HBL.out k hbk
    have w0 : x1.cell? ⟨bg,bo + k,none⟩ = some (.string BL[k]) := (BW.out.cell (p := ⟨bg,bo + k,none⟩) hbg).trans hbq;generalize BL[k] = b at w0;clear hbq;by_cases hb1000 : b.size <= 1000
    ·have hbl : (b.size : Int) <= 1000 := by omega
     have HTX := hide (text_any b.size (by omega) x1);obtain ⟨ds,HDS⟩ : ∃ ds,Hid (decS b.size = ds) := ⟨_,hide rfl⟩
     rw [HDS.out] at HTX;have d6 := cell_at G6.out 6;have z6 : x1.frozen? ⟨hz,6,none⟩ = false := (by rw [frozen_at G6.out];simp);have hx1 : hz < x1.heap.size := lt_heap G6.out;have P7 : Hid ((_ : World).heap[hz]? = some (.cells #[.bool true,.string me,.string ta,.int .i64 mi,.int .i64 st,.string re,.slice (some ⟨x1.heap.size,0,none⟩) 1 1] 45 (0,0))) := hide (hp_set G6.out 6 (.slice (some ⟨x1.heap.size,0,none⟩) 1 1));have K8 := hide (CK.set x1 hz 6 (.slice (some ⟨x1.heap.size,0,none⟩) 1 1));have hxs : (x1.setCell ⟨hz,6,none⟩ (.slice (some ⟨x1.heap.size,0,none⟩) 1 1)).heap.size = x1.heap.size := by simp
     go_upto_region 16 with (go_at_call 18;refine HTX.out.mono ?_;rintro e y ⟨rfl,rfl⟩;clear HTX)
     clear d6 z6;generalize x1.setCell ⟨hz,6,none⟩ (.slice (some ⟨x1.heap.size,0,none⟩) 1 1) = x1a at P7 K8 hxs |-
     have GF := hide (hp_new x1a (.cells #[.string ⟨#[67,111,110,116,101,110,116,45,76,101,110,103,116,104]⟩,.string ds] 48));have bF := hide ((Below.refl x1a.heap.size x1a).alloc (Nat.le_refl _) (.cells #[.string ⟨#[67,111,110,116,101,110,116,45,76,101,110,103,116,104]⟩,.string ds] 48));have P8 := hide ((bF.out.block hz (by omega)).trans P7.out);generalize (x1a.alloc (.cells #[.string ⟨#[67,111,110,116,101,110,116,45,76,101,110,103,116,104]⟩,.string ds] 48)) = x2 at GF bF P8 |-
     obtain ⟨fz,HFZ⟩ : ∃ z,x1.heap.size = z := ⟨_,rfl⟩
     rw [hxs,HFZ] at GF bF;rw [HFZ] at P8 P7;have hfz : fz < x2.heap.size := lt_heap GF.out;have hxr := BXr.out.size;have FR := hide (frow_one GF.out (show w1.heap.size <= fz by omega));have BX2 : Hid (Below hz x1 x2) := hide ((K8.out.low (Nat.le_refl _) (by omega)).trans (bF.out.mono (show hz <= fz by omega)));have L8 := hide ((HL1.out.below (by rw [HZ];exact BXr.out.trans BX2.out)).other FR.out);have BB8 := hide (BB1.out.trans (BX2.out.mono hhz));have BW8 := hide (BW.out.trans (BX2.out.mono (show w.heap.size <= hz by omega)));clear GF bF P7 K8 BX2 LX BB1 BW G6 w0 hxs;rw [HFZ];have HDZ : Hid (ds.size <= 1048576) := hide (by rw [<- HDS.out];unfold decS;rw [sS_size];have := decD_len21 (n := b.size) (by omega);omega);have hbsz : (b).size <= 1000 := hb1000;have HPR := hide (rprint_any (⟨true,me,ta,mi,st,re,[(⟨#[67,111,110,116,101,110,116,45,76,101,110,103,116,104]⟩,ds)]⟩ : Hi) (.slice (some ⟨fz,0,none⟩) 1 1) x2 (Flds.of_row L8.out.fld) (hbd_ok ⟨zme,zta,zre,zmi,zst⟩ ⟨Nat.le_refl _,fun f hf => by rw [List.mem_singleton.1 hf];exact ⟨by show (14 : Nat) <= 1048576;decide,HDZ.out⟩⟩) (HPT.out.below BW8.out));have HIF := hide (fun hp : printB (⟨true,me,ta,mi,st,re,[(⟨#[67,111,110,116,101,110,116,45,76,101,110,103,116,104]⟩,ds)]⟩ : Hi) = true => rok_of (b := b.data.toList) hp rfl (.inr ⟨by rw [size_len,HDS.out];rfl,by rw [size_len];exact hb1000⟩));unfold hiV at HPR;dsimp only at HPR;obtain ⟨pb,HPB⟩ : ∃ pb,Hid (printB (⟨true,me,ta,mi,st,re,[(⟨#[67,111,110,116,101,110,116,45,76,101,110,103,116,104]⟩,ds)]⟩ : Hi) = pb) := ⟨_,hide rfl⟩
     obtain ⟨ts,HTS⟩ : ∃ ts,Hid (textS (⟨true,me,ta,mi,st,re,[(⟨#[67,111,110,116,101,110,116,45,76,101,110,103,116,104]⟩,ds)]⟩ : Hi) = ts) := ⟨_,hide rfl⟩
     rw [HPB.out,HTS.out] at HPR;have r0 : x2.cell? ⟨hz,0,none⟩ = some (.bool true) := cell_at P8.out 0;have r1 : x2.cell? ⟨hz,1,none⟩ = some (.string me) := cell_at P8.out 1;have r2 : x2.cell? ⟨hz,2,none⟩ = some (.string ta) := cell_at P8.out 2;have r3 : x2.cell? ⟨hz,3,none⟩ = some (.int .i64 mi) := cell_at P8.out 3;have r4 : x2.cell? ⟨hz,4,none⟩ = some (.int .i64 st) := cell_at P8.out 4;have r5 : x2.cell? ⟨hz,5,none⟩ = some (.string re) := cell_at P8.out 5;have r6 : x2.cell? ⟨hz,6,none⟩ = some (.slice (some ⟨fz,0,none⟩) 1 1) := cell_at P8.out 6;have hzW : hz < x2.heap.size := lt_heap P8.out;cases pb with
     | false =>
      rw [if_neg (by decide),if_neg (by decide)] at HPR;go_wp2_with fail
      refine HPR.out.mono ?_;rintro e y ⟨rfl,by1⟩;have LY := hide ((L8.out.below by1).other (FRow.nil _ _));have BY := hide (BW8.out.trans (by1.mono BW8.out.size));have BBY := hide (BB8.out.trans (by1.mono BB8.out.size));clear by1 r0 r1 r2 r3 r4 r5 r6 HPR HIF;go_wp2_with fail
      go_roundw
      case rel => exact ⟨k + 1,its,_,_,_,rfl,rfl,rfl,by omega,by go_num,by omega,hok,hlen,LY,BBY⟩
      case measure => simp [intOf];omega
     | true =>
      rw [if_pos rfl,if_pos rfl] at HPR;obtain ⟨hRok,hfl⟩ := HIF.out HPB.out;rw [HTS.out] at hfl;have HRK := hide hRok;have HFL2 := hide hfl;have htl : (itL ((⟨true,me,ta,mi,st,re,[(⟨#[67,111,110,116,101,110,116,45,76,101,110,103,116,104]⟩,ds)]⟩ : Hi),b.data.toList)).length = ts.size + (b.data.toList : List UInt8).length := by unfold itL;rw [List.length_append,<- size_len,<- hfl]
      have HTL := hide htl;have htz : ts.size <= 2200002 := by rw [<- HTS.out,<- size_len,textS_list];exact textL_len _ (hbd_ok ⟨zme,zta,zre,zmi,zst⟩ ⟨Nat.le_refl _,fun f hf => by rw [List.mem_singleton.1 hf];exact ⟨by show (14 : Nat) <= 1048576;decide,HDZ.out⟩⟩)
      clear hRok hfl htl HIF;go_upto_region 17 with (go_at_call 19;refine HPR.out.mono ?_;rintro e y ⟨rfl,by1⟩;have YB := hide by1;clear by1)
      have LY := hide (L8.out.below YB.out);have BY := hide (BW8.out.trans (YB.out.mono BW8.out.size));have BBY := hide (BB8.out.trans (YB.out.mono BB8.out.size));have GY := hide ((YB.out.block hz hzW).trans P8.out);clear YB r0 r1 r2 r3 r4 r5 r6 HPR;by_cases hlt3 : (catL its).length + ts.size < 30000
      ·have hlt4 : ((catL its).length : Int) + (ts.size : Int) < 30000 := by omega
       have hwr : IntKind.i64.wrap (((catL its).length : Int) + (ts.size : Int)) = ((catL its).length : Int) + (ts.size : Int) := IntWalk.i64_in _ ⟨by omega,by omega⟩;have hbs : w1.heap.size <= y.heap.size := BBY.out.size;go_wp2_with (at_builtin;apply Hid.out)
       unfold Hid;refine wpList_append_str_k rfl _ _ rfl y w1.heap.size (.slice a9 (catL its).length c9) (catL its) ts rfl rfl LY.out.all (by omega) hbs ?_;intro v1 W1 R1 D1 K1;have LA := hide (LY.out.put_all K1 R1);have hlts : (catL its ++ ts.data.toList).length = (catL its).length + ts.size := by rw [List.length_append,size_len]
       obtain ⟨a1,c1,rfl⟩ : ∃ a c,v1 = .slice a ((catL its).length + ts.size) c := by obtain ⟨a,c,e,_⟩ := R1.shape;rw [bc_len,hlts] at e;exact ⟨a,c,e⟩
       have BA := hide (BBY.out.trans D1);have hs1 := D1.size;have hzy : hz < y.heap.size := lt_heap GY.out;have GA := hide ((K1.block hz hzy (fun e => hown_ne LY.out.all GY.out e)).trans GY.out);clear R1 D1 K1 LY;go_wp2_with (at_builtin;apply Hid.out)
       unfold Hid;refine wpList_append_str_k rfl _ _ rfl W1 w1.heap.size (.slice a1 ((catL its).length + ts.size) c1) (catL its ++ ts.data.toList) (b) rfl rfl LA.out.all (by rw [hlts];omega) (by omega) ?_;intro v2 W2 R2 D2 K2;have LB := hide (LA.out.put_all K2 R2);have hltb : ((catL its ++ ts.data.toList) ++ (b).data.toList).length = (catL its).length + ts.size + (b).size := by rw [List.length_append,size_len,hlts]
       obtain ⟨a2,c2,rfl⟩ : ∃ a c,v2 = .slice a ((catL its).length + ts.size + (b).size) c := by obtain ⟨a,c,e,_⟩ := R2.shape;rw [bc_len,hltb] at e;exact ⟨a,c,e⟩
       have BBq := hide (BA.out.trans D2);have hs2 := D2.size;have hzy1 : hz < W1.heap.size := lt_heap GA.out;have GB := hide ((K2.block hz hzy1 (fun e => hown_ne LA.out.all GA.out e)).trans GA.out);clear R2 D2 K2 LA;obtain ⟨CS,cs1,cs2,cs3⟩ := LB.out.wnt;have HC1 := hide cs1;have HC2 := hide cs2;have HC3 := hide cs3;clear cs1 cs2 cs3;obtain ⟨b10,b10c,hw10⟩ : ∃ a c,xw = .slice a its.length c := own_shape HC3.out
       subst hw10;have r0 : W2.cell? ⟨hz,0,none⟩ = some (.bool true) := cell_at GB.out 0;have r1 : W2.cell? ⟨hz,1,none⟩ = some (.string me) := cell_at GB.out 1;have r2 : W2.cell? ⟨hz,2,none⟩ = some (.string ta) := cell_at GB.out 2;have r3 : W2.cell? ⟨hz,3,none⟩ = some (.int .i64 mi) := cell_at GB.out 3;have r4 : W2.cell? ⟨hz,4,none⟩ = some (.int .i64 st) := cell_at GB.out 4;have r5 : W2.cell? ⟨hz,5,none⟩ = some (.string re) := cell_at GB.out 5;have r6 : W2.cell? ⟨hz,6,none⟩ = some (.slice (some ⟨fz,0,none⟩) 1 1) := cell_at GB.out 6;go_wp2_with (at_builtin;apply Hid.out)
       unfold Hid;refine wpList_append_st_k Tryz.underlying40 infoHd rfl (by omega) rfl _ _ rfl W2 w1.heap.size (.slice b10 its.length b10c) its.length CS.flatten (hcl (⟨true,me,ta,mi,st,re,[(⟨#[67,111,110,116,101,110,116,45,76,101,110,103,116,104]⟩,ds)]⟩ : Hi) (.slice (some ⟨fz,0,none⟩) 1 1)) rfl rfl HC3.out rfl (hcl_one _ _ rfl) (by omega) (by omega) (by omega) ?_;intro v3 W3 R3 D3 K3;have LC := hide (LB.out.put_wnt HC1.out HC2.out HC3.out K3 ((⟨true,me,ta,mi,st,re,[(⟨#[67,111,110,116,101,110,116,45,76,101,110,103,116,104]⟩,ds)]⟩ : Hi),b.data.toList) rfl rfl R3);obtain ⟨a3,c3,rfl⟩ : ∃ a c,v3 = .slice a (its.length + 1) c := own_shape R3
       have BC := hide (BBq.out.trans D3);have hs3 := D3.size;obtain ⟨b11,b11c,hw11,_⟩ := LC.out.dat.shape;rw [sc_len,List.length_map] at hw11;subst hw11;clear R3 D3 K3 LB r0 r1 r2 r3 r4 r5 r6 HC1 HC2 HC3 GB GA GY;go_wp2_with (at_builtin;apply Hid.out)
       unfold Hid;refine wpList_append_one_k elS rfl _ _ rfl W3 w1.heap.size (.slice b11 its.length b11c) (sc (its.map fun i : Ri => sS i.2)) (.string (b)) rfl rfl LC.out.dat rfl (by rw [sc_len,List.length_map];omega) (by rw [sc_len,List.length_map];omega) (by omega) ?_;intro v4 W4 R4 D4 K4
       have LD : Hid (L2 W4 w1.heap.size (.slice a2 ((catL its).length + ts.size + (b).size) c2) (catL (its ++ [((⟨true,me,ta,mi,st,re,[(⟨#[67,111,110,116,101,110,116,45,76,101,110,103,116,104]⟩,ds)]⟩ : Hi),b.data.toList)])) (.slice a3 (its.length + 1) c3) (its ++ [((⟨true,me,ta,mi,st,re,[(⟨#[67,111,110,116,101,110,116,45,76,101,110,103,116,104]⟩,ds)]⟩ : Hi),b.data.toList)]) v4 ((its ++ [((⟨true,me,ta,mi,st,re,[(⟨#[67,111,110,116,101,110,116,45,76,101,110,103,116,104]⟩,ds)]⟩ : Hi),b.data.toList)]).map fun i : Ri => sS i.2) (.slice none 0 0) []) := hide (by
        have q := (LC.out.put_dat (Kp.of_kept K4) (vd' := v4) (M' := (its.map fun i : Ri => sS i.2) ++ [sS (b.data.toList)]) (by rw [sc_snoc];rw [sS_of];exact R4)).other (FRow.nil W4 w1.heap.size);rw [catL_snoc,List.map_append,List.map_cons,List.map_nil];rw [HFL2.out,List.append_assoc] at q;exact q)
       have BD := hide (BC.out.trans D4);clear R4 D4 K4 LC;go_wp2_with fail
       go_roundw
       case rel => exact ⟨k + 1,its ++ [((⟨true,me,ta,mi,st,re,[(⟨#[67,111,110,116,101,110,116,45,76,101,110,103,116,104]⟩,ds)]⟩ : Hi),b.data.toList)],_,_,_,rfl,rfl,rfl,by omega,by go_num,by rw [List.length_append,List.length_singleton];omega,hide (by intro i hi;rcases List.mem_append.1 hi with hi | hi;exact hok.out i hi;rw [List.mem_singleton.1 hi];exact HRK.out),by rw [catL_snoc,List.length_append,HTL.out];show _ + (ts.size + b.data.toList.length) <= 31000;rw [size_len];omega,LD,BD⟩
       case measure => simp [intOf];omega
      ·have hlt4 : ¬ ((catL its).length : Int) + (ts.size : Int) < 30000 := by omega
       have hwr : IntKind.i64.wrap (((catL its).length : Int) + (ts.size : Int)) = ((catL its).length : Int) + (ts.size : Int) := IntWalk.i64_in _ ⟨by omega,by omega⟩;have LZ := hide (LY.out.other (FRow.nil y w1.heap.size));go_wp2_with fail
       go_roundw
       case rel => exact ⟨k + 1,its,_,_,_,rfl,rfl,rfl,by omega,by go_num,by omega,hok,hlen,LZ,BBY⟩
       case measure => simp [intOf];omega
    ·have hbsz : (⟨#[]⟩ : ByteArray).size <= 1000 := by decide
     have HPR := hide (rprint_any (⟨true,me,ta,mi,st,re,[]⟩ : Hi) (.slice none 0 0) x1 (Flds.of_row LX.out.fld) (hbd_ok ⟨zme,zta,zre,zmi,zst⟩ ⟨Nat.zero_le _,fun f hf => by cases hf⟩) (HPT.out.below BW.out));have HIF := hide (fun hp : printB (⟨true,me,ta,mi,st,re,[]⟩ : Hi) = true => rok_of (b := []) hp rfl (.inl ⟨rfl,rfl⟩));unfold hiV at HPR;dsimp only at HPR;obtain ⟨pb,HPB⟩ : ∃ pb,Hid (printB (⟨true,me,ta,mi,st,re,[]⟩ : Hi) = pb) := ⟨_,hide rfl⟩
     obtain ⟨ts,HTS⟩ : ∃ ts,Hid (textS (⟨true,me,ta,mi,st,re,[]⟩ : Hi) = ts) := ⟨_,hide rfl⟩
     rw [HPB.out,HTS.out] at HPR;have r0 : x1.cell? ⟨hz,0,none⟩ = some (.bool true) := cell_at G6.out 0;have r1 : x1.cell? ⟨hz,1,none⟩ = some (.string me) := cell_at G6.out 1;have r2 : x1.cell? ⟨hz,2,none⟩ = some (.string ta) := cell_at G6.out 2;have r3 : x1.cell? ⟨hz,3,none⟩ = some (.int .i64 mi) := cell_at G6.out 3;have r4 : x1.cell? ⟨hz,4,none⟩ = some (.int .i64 st) := cell_at G6.out 4;have r5 : x1.cell? ⟨hz,5,none⟩ = some (.string re) := cell_at G6.out 5;have r6 : x1.cell? ⟨hz,6,none⟩ = some (.slice none 0 0) := cell_at G6.out 6;have hzW : hz < x1.heap.size := lt_heap G6.out;cases pb with
     | false =>
      rw [if_neg (by decide),if_neg (by decide)] at HPR;go_wp2_with fail
      refine HPR.out.mono ?_;rintro e y ⟨rfl,by1⟩;have LY := hide ((LX.out.below by1).other (FRow.nil _ _));have BY := hide (BW.out.trans (by1.mono BW.out.size));have BBY := hide (BB1.out.trans (by1.mono BB1.out.size));clear by1 r0 r1 r2 r3 r4 r5 r6 HPR HIF;go_wp2_with fail
      go_roundw
      case rel => exact ⟨k + 1,its,_,_,_,rfl,rfl,rfl,by omega,by go_num,by omega,hok,hlen,LY,BBY⟩
      case measure => simp [intOf];omega
     | true =>
      rw [if_pos rfl,if_pos rfl] at HPR;obtain ⟨hRok,hfl⟩ := HIF.out HPB.out;rw [HTS.out] at hfl;have HRK := hide hRok;have HFL2 := hide hfl;have htl : (itL ((⟨true,me,ta,mi,st,re,[]⟩ : Hi),[])).length = ts.size + ([] : List UInt8).length := by unfold itL;rw [List.length_append,<- size_len,<- hfl]
      have HTL := hide htl;have htz : ts.size <= 2200002 := by rw [<- HTS.out,<- size_len,textS_list];exact textL_len _ (hbd_ok ⟨zme,zta,zre,zmi,zst⟩ ⟨Nat.zero_le _,fun f hf => by cases hf⟩)
      clear hRok hfl htl HIF;go_upto_region 17 with (go_at_call 19;refine HPR.out.mono ?_;rintro e y ⟨rfl,by1⟩;have YB := hide by1;clear by1)
      have LY := hide (LX.out.below YB.out);have BY := hide (BW.out.trans (YB.out.mono BW.out.size));have BBY := hide (BB1.out.trans (YB.out.mono BB1.out.size));have GY := hide ((YB.out.block hz hzW).trans G6.out);clear YB r0 r1 r2 r3 r4 r5 r6 HPR;by_cases hlt3 : (catL its).length + ts.size < 30000
      ·have hlt4 : ((catL its).length : Int) + (ts.size : Int) < 30000 := by omega
       have hwr : IntKind.i64.wrap (((catL its).length : Int) + (ts.size : Int)) = ((catL its).length : Int) + (ts.size : Int) := IntWalk.i64_in _ ⟨by omega,by omega⟩;have hbs : w1.heap.size <= y.heap.size := BBY.out.size;go_wp2_with (at_builtin;apply Hid.out)
       unfold Hid;refine wpList_append_str_k rfl _ _ rfl y w1.heap.size (.slice a9 (catL its).length c9) (catL its) ts rfl rfl LY.out.all (by omega) hbs ?_;intro v1 W1 R1 D1 K1;have LA := hide (LY.out.put_all K1 R1);have hlts : (catL its ++ ts.data.toList).length = (catL its).length + ts.size := by rw [List.length_append,size_len]
       obtain ⟨a1,c1,rfl⟩ : ∃ a c,v1 = .slice a ((catL its).length + ts.size) c := by obtain ⟨a,c,e,_⟩ := R1.shape;rw [bc_len,hlts] at e;exact ⟨a,c,e⟩
       have BA := hide (BBY.out.trans D1);have hs1 := D1.size;have hzy : hz < y.heap.size := lt_heap GY.out;have GA := hide ((K1.block hz hzy (fun e => hown_ne LY.out.all GY.out e)).trans GY.out);clear R1 D1 K1 LY;go_wp2_with (at_builtin;apply Hid.out)
       unfold Hid;refine wpList_append_str_k rfl _ _ rfl W1 w1.heap.size (.slice a1 ((catL its).length + ts.size) c1) (catL its ++ ts.data.toList) (⟨#[]⟩ : ByteArray) rfl rfl LA.out.all (by rw [hlts];omega) (by omega) ?_;intro v2 W2 R2 D2 K2;have LB := hide (LA.out.put_all K2 R2);have hltb : ((catL its ++ ts.data.toList) ++ (⟨#[]⟩ : ByteArray).data.toList).length = (catL its).length + ts.size + (⟨#[]⟩ : ByteArray).size := by rw [List.length_append,size_len,hlts]
       obtain ⟨a2,c2,rfl⟩ : ∃ a c,v2 = .slice a ((catL its).length + ts.size + (⟨#[]⟩ : ByteArray).size) c := by obtain ⟨a,c,e,_⟩ := R2.shape;rw [bc_len,hltb] at e;exact ⟨a,c,e⟩
       have BBq := hide (BA.out.trans D2);have hs2 := D2.size;have hzy1 : hz < W1.heap.size := lt_heap GA.out;have GB := hide ((K2.block hz hzy1 (fun e => hown_ne LA.out.all GA.out e)).trans GA.out);clear R2 D2 K2 LA;obtain ⟨CS,cs1,cs2,cs3⟩ := LB.out.wnt;have HC1 := hide cs1;have HC2 := hide cs2;have HC3 := hide cs3;clear cs1 cs2 cs3;obtain ⟨b10,b10c,hw10⟩ : ∃ a c,xw = .slice a its.length c := own_shape HC3.out
       subst hw10;have r0 : W2.cell? ⟨hz,0,none⟩ = some (.bool true) := cell_at GB.out 0;have r1 : W2.cell? ⟨hz,1,none⟩ = some (.string me) := cell_at GB.out 1;have r2 : W2.cell? ⟨hz,2,none⟩ = some (.string ta) := cell_at GB.out 2;have r3 : W2.cell? ⟨hz,3,none⟩ = some (.int .i64 mi) := cell_at GB.out 3;have r4 : W2.cell? ⟨hz,4,none⟩ = some (.int .i64 st) := cell_at GB.out 4;have r5 : W2.cell? ⟨hz,5,none⟩ = some (.string re) := cell_at GB.out 5;have r6 : W2.cell? ⟨hz,6,none⟩ = some (.slice none 0 0) := cell_at GB.out 6;go_wp2_with (at_builtin;apply Hid.out)
       unfold Hid;refine wpList_append_st_k Tryz.underlying40 infoHd rfl (by omega) rfl _ _ rfl W2 w1.heap.size (.slice b10 its.length b10c) its.length CS.flatten (hcl (⟨true,me,ta,mi,st,re,[]⟩ : Hi) (.slice none 0 0)) rfl rfl HC3.out rfl (hcl_one _ _ rfl) (by omega) (by omega) (by omega) ?_;intro v3 W3 R3 D3 K3;have LC := hide (LB.out.put_wnt HC1.out HC2.out HC3.out K3 ((⟨true,me,ta,mi,st,re,[]⟩ : Hi),[]) rfl rfl R3);obtain ⟨a3,c3,rfl⟩ : ∃ a c,v3 = .slice a (its.length + 1) c := own_shape R3
       have BC := hide (BBq.out.trans D3);have hs3 := D3.size;obtain ⟨b11,b11c,hw11,_⟩ := LC.out.dat.shape;rw [sc_len,List.length_map] at hw11;subst hw11;clear R3 D3 K3 LB r0 r1 r2 r3 r4 r5 r6 HC1 HC2 HC3 GB GA GY;go_wp2_with (at_builtin;apply Hid.out)
       unfold Hid;refine wpList_append_one_k elS rfl _ _ rfl W3 w1.heap.size (.slice b11 its.length b11c) (sc (its.map fun i : Ri => sS i.2)) (.string (⟨#[]⟩ : ByteArray)) rfl rfl LC.out.dat rfl (by rw [sc_len,List.length_map];omega) (by rw [sc_len,List.length_map];omega) (by omega) ?_;intro v4 W4 R4 D4 K4
       have LD : Hid (L2 W4 w1.heap.size (.slice a2 ((catL its).length + ts.size + (⟨#[]⟩ : ByteArray).size) c2) (catL (its ++ [((⟨true,me,ta,mi,st,re,[]⟩ : Hi),[])])) (.slice a3 (its.length + 1) c3) (its ++ [((⟨true,me,ta,mi,st,re,[]⟩ : Hi),[])]) v4 ((its ++ [((⟨true,me,ta,mi,st,re,[]⟩ : Hi),[])]).map fun i : Ri => sS i.2) (.slice none 0 0) []) := hide (by
        have q := (LC.out.put_dat (Kp.of_kept K4) (vd' := v4) (M' := (its.map fun i : Ri => sS i.2) ++ [sS ([])]) (by rw [sc_snoc];rw [show sS [] = (⟨#[]⟩ : ByteArray) from rfl];exact R4)).other (FRow.nil W4 w1.heap.size);rw [catL_snoc,List.map_append,List.map_cons,List.map_nil];rw [HFL2.out,List.append_assoc] at q;exact q)
       have BD := hide (BC.out.trans D4);clear R4 D4 K4 LC;go_wp2_with fail
       go_roundw
       case rel => exact ⟨k + 1,its ++ [((⟨true,me,ta,mi,st,re,[]⟩ : Hi),[])],_,_,_,rfl,rfl,rfl,by omega,by go_num,by rw [List.length_append,List.length_singleton];omega,hide (by intro i hi;rcases List.mem_append.1 hi with hi | hi;exact hok.out i hi;rw [List.mem_singleton.1 hi];exact HRK.out),by rw [catL_snoc,List.length_append,HTL.out];show _ + (ts.size + 0) <= 31000;omega,LD,BD⟩
       case measure => simp [intOf];omega
      ·have hlt4 : ¬ ((catL its).length : Int) + (ts.size : Int) < 30000 := by omega
       have hwr : IntKind.i64.wrap (((catL its).length : Int) + (ts.size : Int)) = ((catL its).length : Int) + (ts.size : Int) := IntWalk.i64_in _ ⟨by omega,by omega⟩;have LZ := hide (LY.out.other (FRow.nil y w1.heap.size));go_wp2_with fail
       go_roundw
       case rel => exact ⟨k + 1,its,_,_,_,rfl,rfl,rfl,by omega,by go_num,by omega,hok,hlen,LZ,BBY⟩
       case measure => simp [intOf];omega
   ·have hbsz : (⟨#[]⟩ : ByteArray).size <= 1000 := by decide
    have HPR := hide (rprint_any (⟨true,me,ta,mi,st,re,[]⟩ : Hi) (.slice none 0 0) x1 (Flds.of_row LX.out.fld) (hbd_ok ⟨zme,zta,zre,zmi,zst⟩ ⟨Nat.zero_le _,fun f hf => by cases hf⟩) (HPT.out.below BW.out));have HIF := hide (fun hp : printB (⟨true,me,ta,mi,st,re,[]⟩ : Hi) = true => rok_of (b := []) hp rfl (.inl ⟨rfl,rfl⟩));unfold hiV at HPR;dsimp only at HPR;obtain ⟨pb,HPB⟩ : ∃ pb,Hid (printB (⟨true,me,ta,mi,st,re,[]⟩ : Hi) = pb) := ⟨_,hide rfl⟩
    obtain ⟨ts,HTS⟩ : ∃ ts,Hid (textS (⟨true,me,ta,mi,st,re,[]⟩ : Hi) = ts) := ⟨_,hide rfl⟩
    rw [HPB.out,HTS.out] at HPR;have r0 : x1.cell? ⟨hz,0,none⟩ = some (.bool true) := cell_at G6.out 0;have r1 : x1.cell? ⟨hz,1,none⟩ = some (.string me) := cell_at G6.out 1;have r2 : x1.cell? ⟨hz,2,none⟩ = some (.string ta) := cell_at G6.out 2;have r3 : x1.cell? ⟨hz,3,none⟩ = some (.int .i64 mi) := cell_at G6.out 3;have r4 : x1.cell? ⟨hz,4,none⟩ = some (.int .i64 st) := cell_at G6.out 4;have r5 : x1.cell? ⟨hz,5,none⟩ = some (.string re) := cell_at G6.out 5;have r6 : x1.cell? ⟨hz,6,none⟩ = some (.slice none 0 0) := cell_at G6.out 6;have hzW : hz < x1.heap.size := lt_heap G6.out;cases pb with
    | false =>
     rw [if_neg (by decide),if_neg (by decide)] at HPR;go_wp2_with fail
     refine HPR.out.mono ?_;rintro e y ⟨rfl,by1⟩;have LY := hide ((LX.out.below by1).other (FRow.nil _ _));have BY := hide (BW.out.trans (by1.mono BW.out.size));have BBY := hide (BB1.out.trans (by1.mono BB1.out.size));clear by1 r0 r1 r2 r3 r4 r5 r6 HPR HIF;go_wp2_with fail
     go_roundw
     case rel => exact ⟨k + 1,its,_,_,_,rfl,rfl,rfl,by omega,by go_num,by omega,hok,hlen,LY,BBY⟩
     case measure => simp [intOf];omega
    | true =>
     rw [if_pos rfl,if_pos rfl] at HPR;obtain ⟨hRok,hfl⟩ := HIF.out HPB.out;rw [HTS.out] at hfl;have HRK := hide hRok;have HFL2 := hide hfl;have htl : (itL ((⟨true,me,ta,mi,st,re,[]⟩ : Hi),[])).length = ts.size + ([] : List UInt8).length := by unfold itL;rw [List.length_append,<- size_len,<- hfl]
     have HTL := hide htl;have htz : ts.size <= 2200002 := by rw [<- HTS.out,<- size_len,textS_list];exact textL_len _ (hbd_ok ⟨zme,zta,zre,zmi,zst⟩ ⟨Nat.zero_le _,fun f hf => by cases hf⟩)
     clear hRok hfl htl HIF;go_upto_region 17 with (go_at_call 19;refine HPR.out.mono ?_;rintro e y ⟨rfl,by1⟩;have YB := hide by1;clear by1)
     have LY := hide (LX.out.below YB.out);have BY := hide (BW.out.trans (YB.out.mono BW.out.size));have BBY := hide (BB1.out.trans (YB.out.mono BB1.out.size));have GY := hide ((YB.out.block hz hzW).trans G6.out);clear YB r0 r1 r2 r3 r4 r5 r6 HPR;by_cases hlt3 : (catL its).length + ts.size < 30000
     ·have hlt4 : ((catL its).length : Int) + (ts.size : Int) < 30000 := by omega
      have hwr : IntKind.i64.wrap (((catL its).length : Int) + (ts.size : Int)) = ((catL its).length : Int) + (ts.size : Int) := IntWalk.i64_in _ ⟨by omega,by omega⟩;have hbs : w1.heap.size <= y.heap.size := BBY.out.size;go_wp2_with (at_builtin;apply Hid.out)
      unfold Hid;refine wpList_append_str_k rfl _ _ rfl y w1.heap.size (.slice a9 (catL its).length c9) (catL its) ts rfl rfl LY.out.all (by omega) hbs ?_;intro v1 W1 R1 D1 K1;have LA := hide (LY.out.put_all K1 R1);have hlts : (catL its ++ ts.data.toList).length = (catL its).length + ts.size := by rw [List.length_append,size_len]
      obtain ⟨a1,c1,rfl⟩ : ∃ a c,v1 = .slice a ((catL its).length + ts.size) c := by obtain ⟨a,c,e,_⟩ := R1.shape;rw [bc_len,hlts] at e;exact ⟨a,c,e⟩
      have BA := hide (BBY.out.trans D1);have hs1 := D1.size;have hzy : hz < y.heap.size := lt_heap GY.out;have GA := hide ((K1.block hz hzy (fun e => hown_ne LY.out.all GY.out e)).trans GY.out);clear R1 D1 K1 LY;go_wp2_with (at_builtin;apply Hid.out)
      unfold Hid;refine wpList_append_str_k rfl _ _ rfl W1 w1.heap.size (.slice a1 ((catL its).length + ts.size) c1) (catL its ++ ts.data.toList) (⟨#[]⟩ : ByteArray) rfl rfl LA.out.all (by rw [hlts];omega) (by omega) ?_;intro v2 W2 R2 D2 K2;have LB := hide (LA.out.put_all K2 R2);have hltb : ((catL its ++ ts.data.toList) ++ (⟨#[]⟩ : ByteArray).data.toList).length = (catL its).length + ts.size + (⟨#[]⟩ : ByteArray).size := by rw [List.length_append,size_len,hlts]
      obtain ⟨a2,c2,rfl⟩ : ∃ a c,v2 = .slice a ((catL its).length + ts.size + (⟨#[]⟩ : ByteArray).size) c := by obtain ⟨a,c,e,_⟩ := R2.shape;rw [bc_len,hltb] at e;exact ⟨a,c,e⟩
      have BBq := hide (BA.out.trans D2);have hs2 := D2.size;have hzy1 : hz < W1.heap.size := lt_heap GA.out;have GB := hide ((K2.block hz hzy1 (fun e => hown_ne LA.out.all GA.out e)).trans GA.out);clear R2 D2 K2 LA;obtain ⟨CS,cs1,cs2,cs3⟩ := LB.out.wnt;have HC1 := hide cs1;have HC2 := hide cs2;have HC3 := hide cs3;clear cs1 cs2 cs3;obtain ⟨b10,b10c,hw10⟩ : ∃ a c,xw = .slice a its.length c := own_shape HC3.out
      subst hw10;have r0 : W2.cell? ⟨hz,0,none⟩ = some (.bool true) := cell_at GB.out 0;have r1 : W2.cell? ⟨hz,1,none⟩ = some (.string me) := cell_at GB.out 1;have r2 : W2.cell? ⟨hz,2,none⟩ = some (.string ta) := cell_at GB.out 2;have r3 : W2.cell? ⟨hz,3,none⟩ = some (.int .i64 mi) := cell_at GB.out 3;have r4 : W2.cell? ⟨hz,4,none⟩ = some (.int .i64 st) := cell_at GB.out 4;have r5 : W2.cell? ⟨hz,5,none⟩ = some (.string re) := cell_at GB.out 5;have r6 : W2.cell? ⟨hz,6,none⟩ = some (.slice none 0 0) := cell_at GB.out 6;go_wp2_with (at_builtin;apply Hid.out)
      unfold Hid;refine wpList_append_st_k Tryz.underlying40 infoHd rfl (by omega) rfl _ _ rfl W2 w1.heap.size (.slice b10 its.length b10c) its.length CS.flatten (hcl (⟨true,me,ta,mi,st,re,[]⟩ : Hi) (.slice none 0 0)) rfl rfl HC3.out rfl (hcl_one _ _ rfl) (by omega) (by omega) (by omega) ?_;intro v3 W3 R3 D3 K3;have LC := hide (LB.out.put_wnt HC1.out HC2.out HC3.out K3 ((⟨true,me,ta,mi,st,re,[]⟩ : Hi),[]) rfl rfl R3);obtain ⟨a3,c3,rfl⟩ : ∃ a c,v3 = .slice a (its.length + 1) c := own_shape R3
      have BC := hide (BBq.out.trans D3);have hs3 := D3.size;obtain ⟨b11,b11c,hw11,_⟩ := LC.out.dat.shape;rw [sc_len,List.length_map] at hw11;subst hw11;clear R3 D3 K3 LB r0 r1 r2 r3 r4 r5 r6 HC1 HC2 HC3 GB GA GY;go_wp2_with (at_builtin;apply Hid.out)
      unfold Hid;refine wpList_append_one_k elS rfl _ _ rfl W3 w1.heap.size (.slice b11 its.length b11c) (sc (its.map fun i : Ri => sS i.2)) (.string (⟨#[]⟩ : ByteArray)) rfl rfl LC.out.dat rfl (by rw [sc_len,List.length_map];omega) (by rw [sc_len,List.length_map];omega) (by omega) ?_;intro v4 W4 R4 D4 K4
      have LD : Hid (L2 W4 w1.heap.size (.slice a2 ((catL its).length + ts.size + (⟨#[]⟩ : ByteArray).size) c2) (catL (its ++ [((⟨true,me,ta,mi,st,re,[]⟩ : Hi),[])])) (.slice a3 (its.length + 1) c3) (its ++ [((⟨true,me,ta,mi,st,re,[]⟩ : Hi),[])]) v4 ((its ++ [((⟨true,me,ta,mi,st,re,[]⟩ : Hi),[])]).map fun i : Ri => sS i.2) (.slice none 0 0) []) := hide (by
       have q := (LC.out.put_dat (Kp.of_kept K4) (vd' := v4) (M' := (its.map fun i : Ri => sS i.2) ++ [sS ([])]) (by rw [sc_snoc];rw [show sS [] = (⟨#[]⟩ : ByteArray) from rfl];exact R4)).other (FRow.nil W4 w1.heap.size);rw [catL_snoc,List.map_append,List.map_cons,List.map_nil];rw [HFL2.out,List.append_assoc] at q;exact q)
      have BD := hide (BC.out.trans D4);clear R4 D4 K4 LC;go_wp2_with fail
      go_roundw
      case rel => exact ⟨k + 1,its ++ [((⟨true,me,ta,mi,st,re,[]⟩ : Hi),[])],_,_,_,rfl,rfl,rfl,by omega,by go_num,by rw [List.length_append,List.length_singleton];omega,hide (by intro i hi;rcases List.mem_append.1 hi with hi | hi;exact hok.out i hi;rw [List.mem_singleton.1 hi];exact HRK.out),by rw [catL_snoc,List.length_append,HTL.out];show _ + (ts.size + 0) <= 31000;omega,LD,BD⟩
      case measure => simp [intOf];omega
     ·have hlt4 : ¬ ((catL its).length : Int) + (ts.size : Int) < 30000 := by omega
      have hwr : IntKind.i64.wrap (((catL its).length : Int) + (ts.size : Int)) = ((catL its).length : Int) + (ts.size : Int) := IntWalk.i64_in _ ⟨by omega,by omega⟩;have LZ := hide (LY.out.other (FRow.nil y w1.heap.size));go_wp2_with fail
      go_roundw
      case rel => exact ⟨k + 1,its,_,_,_,rfl,rfl,rfl,by omega,by go_num,by omega,hok,hlen,LZ,BBY⟩
      case measure => simp [intOf];omega
  ·rename World => w2
   obtain ⟨CSL,cs1,cs2,cs3⟩ := HL1.out.wnt;have HC1 := hide cs1;have HC2 := hide cs2;have HC3 := hide cs3;clear cs1 cs2 cs3;obtain ⟨b10,b10c,hw10⟩ : ∃ a c,xw = .slice a its.length c := own_shape HC3.out
   subst hw10;have HDT := hide HL1.out.dat;obtain ⟨b11,b11c,hw11,_⟩ := HL1.out.dat.shape;rw [sc_len,List.length_map] at hw11;subst hw11;have HALL := hide HL1.out.all;have hcap : (catL its).length <= c9 := by obtain ⟨a,c,e,h1,_⟩ := HL1.out.all.shape;rw [bc_len] at e h1;simp only [Value.slice.injEq] at e;omega
   have hsr := HB1.out.size;have C2 : Hid (At w2 w.heap.size (65536 : Int) 1000 (Nw w w1) (csNew 65536)) := hide (C1.out.keep O1.out.me (fun q hq => HB1.out.block q hq.2) hsr);have OS0 : Hid (OS w2 w2 w.heap.size (Nw w w1) (csNew 65536)) := hide ⟨_,C2.out,O1.out.upO hsr,AK.refl _ _,fun q hq => .inl hq⟩;have BWr := hide (B1.out.trans (HB1.out.mono hs1));have RS0 : Hid (0 = (catL (its.take 0)).length + 0 /\ Rst (its.drop 0) 0 (csNew 65536)) := hide ⟨rfl,rst_new _⟩;clear HL1 HB1 C2 C1 B1;go_wp2_with fail
   go_loopw [17,18,19] (fun at_ k_ i_ wr => ∃ (p kk ii j : Nat) (s : CS),p <= (catL its).length /\ at_ = .int .i64 p /\ k_ = .int .i64 kk /\ i_ = .int .i64 ii /\ ii <= p /\ kk <= its.length /\ Hid (p = (catL (its.take kk)).length + j /\ Rst (its.drop kk) j s) /\ Hid (OS w2 wr w.heap.size (Nw w w1) s)) (fun at_ _ _ _ => (catL its).length - (intOf at_).toNat)
   case atStart => exact ⟨0,0,0,0,csNew 65536,Nat.zero_le _,rfl,rfl,rfl,Nat.le_refl _,Nat.zero_le _,RS0,OS0⟩
   case round =>
    clear RS0 OS0;obtain ⟨p,kk,ii,j,s,hp,rfl,rfl,rfl,hii,hkl,HPJ,HOSq⟩ := hrel;by_cases hlt : p < (catL its).length
    ·have hlti : (p : Int) < ((catL its).length : Int) := by omega
     obtain ⟨A,p1,p2,p3,p4⟩ := HOSq.out;have ATq := hide p1;have OWq := hide p2;have AKq := hide p3;have ALq := hide p4;clear p1 p2 p3 p4 HOSq
     obtain ⟨bk,bo,hb9,hbl⟩ : ∃ g o,a9 = some ⟨g,o,none⟩ /\ Bf w2 (fun q => w1.heap.size <= q) (.slice (some ⟨g,o,none⟩) (catL its).length c9) (catL its) := by
      have hbf := bf_rowO HALL.out;obtain ⟨a,c,e,h1,h2⟩ := id hbf;simp only [Value.slice.injEq,true_and] at e;obtain ⟨rfl,rfl⟩ := e;obtain ⟨g',o',e2,-⟩ := h2 0 (by omega);subst e2;exact ⟨g',o',rfl,hbf⟩
     subst hb9;have HBB := hide hbl;clear hbl;have BQ : Hid (Below w.heap.size w wr) := hide (BWr.out.trans (AKq.out.low (B := w.heap.size) (fun q z => z.1) (by omega)))
     have HD : Hid (∀ J,1 <= J -> p + J <= (catL its).length -> Calls Tryz.prog 11 #[.pointer (some ⟨w.heap.size,0,none⟩),.slice (some ⟨bk,bo + p,none⟩) J (c9 - p)] wr fun e w' => ∃ (n : Nat) (t : Bool) (s' : CS),e = .returned (.tuple #[.int .i64 (n : Int),.bool t]) /\ 1 <= n /\ n <= J /\ ((t = false /\ s'.told = false /\ n = J /\ Rst (its.drop kk) (j + J) s') ∨ (t = true /\ s'.told = true /\ ∃ h : kk < its.length,p + n = (catL (its.take (kk + 1))).length /\ s'.hi = its[kk].1 /\ s'.ob = its[kk].2)) /\ OS w2 w' w.heap.size (Nw w w1) s') := hide (fun J hJ1 hJ2 => by
      have hb : Bf wr (fun i => ¬ A i) (.slice (some ⟨bk,bo + p,none⟩) J (c9 - p)) (((catL its).drop p).take J) := by
       refine Bf.sub (Bf.growO HBB.out AKq.out.size fun q hq hl => ⟨fun z => ?_,AKq.out.block q hl fun z => ?_⟩) p J (by omega)
       ·rcases ALq.out q z with y | y
        ·have y2 : q < w1.heap.size := y.2
         have hq2 : w1.heap.size <= q := hq;omega
        ·omega
       ·have y2 : q < w1.heap.size := z.2
        have hq2 : w1.heap.size <= q := hq;omega
      obtain ⟨n,s',e,hn1,hnJ,hout⟩ := ostep HPJ.out.2 hok.out hJ1 HPJ.out.1 hJ2;have hq := cread_all ATq.out OWq.out (by omega) (HM.out.below BQ.out) (HE.out.below BQ.out) _ _ hb (.inr ⟨_,_,_,rfl⟩) (by rw [List.length_take,List.length_drop];omega);rw [e] at hq;refine hq.mono ?_;rintro e' w' ⟨rfl,q1,q2⟩;refine ⟨n,s'.told,s',rfl,hn1,hnJ,?_,grow A wr w',q1,OWq.out.grow q2,os_on AKq.out q2 ALq.out (fun q z => (OWq.out.lo q z).2),fun q z => ?_⟩
      ·rcases hout with ⟨h1, h2, h3⟩ | ⟨h1, h2⟩
       ·exact .inl ⟨h1,h1,h2,h3⟩
       ·exact .inr ⟨h1,h1,h2⟩
      ·rcases z with z | z
       ·exact ALq.out q z
       ·right;have := AKq.out.size;omega)
     clear ATq OWq AKq ALq;have hkc : p <= c9 := by omega
     have hc0 : ¬ (p : Int) < 0 := by omega
     have hkci : (p : Int) <= (c9 : Int) := by omega
     by_cases hj : ii < CL.length
     ·have hji : (ii : Int) < (CL.length : Int) := by omega
      obtain ⟨ig,io,rfl,hig,r0⟩ := HI.out ii hj;have r1 : wr.cell? ⟨ig,io + ii,none⟩ = some (.int .i64 CL[ii]) := (BQ.out.cell (p := ⟨ig,io + ii,none⟩) hig).trans r0;generalize CL[ii] = x at r1;clear r0;by_cases hx : 0 < x
      ·by_cases hxn : x < ((catL its).length : Int) - (p : Int)
       ·obtain ⟨J, rfl⟩ : ∃ J : Nat, x = (J : Int) := ⟨x.toNat, by omega⟩
        have hwn : IntKind.i64.wrap (((catL its).length : Int) - (p : Int)) = ((catL its).length : Int) - (p : Int) := IntWalk.i64_in _ ⟨by omega,by omega⟩;have hwj : IntKind.i64.wrap ((p : Int) + (J : Int)) = ((p + J : Nat) : Int) := (IntWalk.i64_in _ ⟨by omega,by omega⟩).trans (by omega);have hle1 : (p : Int) <= ((p + J : Nat) : Int) := by omega
        have hle2 : ((p + J : Nat) : Int) <= (c9 : Int) := by omega
        have hle3 : p <= p + J := by omega
        have hle4 : p + J <= c9 := by omega
        have HRJ := hide (HD.out (J) (by omega) (by omega));clear HD;go_upto_region 32 with (go_at_call 11;refine HRJ.out.mono ?_;rintro e w4 ⟨n,t,s',rfl,hn1,hnJ,hout,hos⟩;have HOUT := hide hout;have HOS := hide hos;clear hout hos HRJ)
        have hwp : IntKind.i64.wrap ((p : Int) + (n : Int)) = ((p + n : Nat) : Int) := (IntWalk.i64_in _ ⟨by omega,by omega⟩).trans (by omega);cases t with
        | false =>
         obtain ⟨ht,e1,e2⟩ : s'.told = false /\ n = J /\ Rst (its.drop kk) (j + (J)) s' := by
          rcases HOUT.out with ⟨h0,h1,h2,h3⟩ | ⟨h0,-⟩
          ·exact ⟨h1,h2,h3⟩
          ·cases h0
         have hne : ¬ ((p + n : Nat) : Int) < ((p + J : Nat) : Int) := by omega
         have HR3 : Hid (p + n = (catL (its.take kk)).length + (j + (J)) /\ Rst (its.drop kk) (j + (J)) s') := hide ⟨by have := HPJ.out.1;omega,e2⟩;clear HOUT e2;go_wp2_with fail
         go_roundw
         case rel => exact ⟨p + n,kk,ii + 1,j + (J),s',by omega,by go_num,rfl,by go_num,by omega,hkl,HR3,HOS⟩
         case measure => simp [intOf];omega
        | true =>
         obtain ⟨ht,hkl2,hp2,e3,e4⟩ : s'.told = true /\ ∃ h : kk < its.length,p + n = (catL (its.take (kk + 1))).length /\ s'.hi = its[kk].1 /\ s'.ob = its[kk].2 := by
          rcases HOUT.out with ⟨h0,-⟩ | ⟨h0,h1,h2⟩
          ·cases h0
          ·exact ⟨h1,h2⟩
         clear HOUT;have hkli : (kk : Int) < (its.length : Int) := by omega
         have HRO := hide (rok_bl (hok.out its[kk] (List.getElem_mem hkl2)));rw [<- e3,<- e4] at HRO;obtain ⟨A4,p1,p2,p3,p4⟩ := HOS.out;have AT4 := hide p1;have OW4 := hide p2;have AK4 := hide p3;have AL4 := hide p4;clear p1 p2 p3 p4 HOS;have hkC : kk < CSL.length := by rw [HC1.out.1];exact hkl2
         obtain ⟨lw,hcs,hfr⟩ := HC1.out.2 kk hkC hkl2;obtain ⟨gw,hgw,hgw1,hgw2,hwc⟩ := own_cell HC3.out HC1.out.1 HC2.out hkC;subst hgw;rw [hcs] at hwc;obtain ⟨gd,hgd,hdc⟩ := HDT.out.cell (j := kk) (by rw [sc_len,List.length_map];exact hkl2);subst hgd;obtain ⟨hgd1,hgd2⟩ := HDT.out.lt (g := gd) rfl;have hdc2 : w2.cell? ⟨gd,kk,none⟩ = some (.string (sS its[kk].2)) := by rw [hdc];simp [sc,hkl2]
         obtain ⟨⟨hr,hme,hta,hmi,hst,hre,hfs⟩,HHI⟩ : ∃ H,Hid (s'.hi = H) := ⟨_,hide rfl⟩
         obtain ⟨ob,HOB⟩ : ∃ O,Hid (s'.ob = O) := ⟨_,hide rfl⟩
         rw [HHI.out] at e3 HRO;rw [HOB.out] at e4 HRO;rw [<- e3] at hwc hfr;rw [<- e4] at hdc2;obtain ⟨ma,mc,hlw,-⟩ := id hfr.shape;subst hlw;have HFR := hide hfr;have HWC := hide hwc;have HDC := hide hdc2;have HOL9 := hide HRO.out.1;have HFL9 := hide HRO.out.2;clear hcs hfr hwc hdc hdc2 e3 e4 HRO
         have HRQ2 : Hid (Calls Tryz.prog 20 #[.pointer (some ⟨w.heap.size,0,none⟩)] w4 fun e w' => ∃ la ln lc ua un uc,e = .returned (.tuple #[.agg #[.bool hr,.string hme,.string hta,.int .i64 hmi,.int .i64 hst,.string hre,.slice la ln lc],.slice ua un uc,.bool true]) /\ Flds w' (.slice la ln lc) hfs /\ (∃ b1,w4.heap.size <= b1 /\ Row w' b1 5 (.slice ua un uc) (bc ob)) /\ Below w4.heap.size w4 w') := hide (by
          have q := AT4.out.requestx (by rw [HOB.out];have := HOL9.out;omega);rw [HHI.out,HOB.out,ht] at q;refine q.mono ?_;rintro e w' ⟨l',u',rfl,a1,⟨b1,a2,a3⟩,a4⟩;obtain ⟨la,lc,rfl,-⟩ := id a1;obtain ⟨ua,uc,rfl,-⟩ := a3.shape;exact ⟨la,_,lc,ua,_,uc,rfl,a1,⟨b1,a2,a3⟩,a4⟩)
         go_upto_region 36 with fail
         go_upto_region 37 with (go_at_call 20;refine HRQ2.out.mono ?_;rintro e w5 ⟨la,ln,lc,ua,un,uc,rfl,a1,⟨b1,a2,a3⟩,a4⟩;have LF5 := hide a1;have RX5 := hide a3;have hb1 := a2;have Y5 := hide a4;clear a1 a2 a3 a4 HRQ2)
         have hs5 := Y5.out.size;have b6 := hide ((Below.refl w5.heap.size w5).alloc (Nat.le_refl _) (.cells #[.bool hr,.string hme,.string hta,.int .i64 hmi,.int .i64 hst,.string hre,.slice la ln lc] 45));have G6 := hide (hp_new w5 (.cells #[.bool hr,.string hme,.string hta,.int .i64 hmi,.int .i64 hst,.string hre,.slice la ln lc] 45));generalize w5.alloc _ = w6 at *;obtain ⟨hz,HZ⟩ : ∃ z,w5.heap.size = z := ⟨_,rfl⟩
         rw [HZ] at b6 G6;have hz6 : hz < w6.heap.size := lt_heap G6.out;have Y6 := hide (Y5.out.trans (b6.out.mono (by omega)));have LF6 := hide (LF5.out.below (by rw [HZ];exact b6.out));have RX6 := hide (RX5.out.below (by rw [HZ];exact b6.out));have AT6 := hide (AT4.out.on OW4.out.me (fun q z => (OW4.out.lo q z).2) Y6.out);have OW6 := hide (OW4.out.upO Y6.out.size);have AK6 := hide (os_below AK4.out Y6.out);have hlt4 : Hid (∀ q,A4 q -> q < w4.heap.size) := hide (fun q z => (OW4.out.lo q z).2);have hrz := AK4.out.size;have FR6 : Hid (FRow w6 w1.heap.size (.slice ma hfs.length mc) hfs) := hide (HFR.out.frame fun g hg => AK6.out.block g (HFR.out.lt hg).2 (fun z => by have := (HFR.out.lt hg).1;have z2 : g < w1.heap.size := z.2;omega))
         have nA : Hid (∀ g,w1.heap.size <= g -> g < w2.heap.size -> ¬ A4 g) := hide (fun g h1 h2 z => by
          rcases AL4.out g z with y | y
          ·have y2 : g < w1.heap.size := y.2
           omega
          ·omega)
         have W6c : Hid (∀ i,i < 7 -> w6.cell? ⟨gw,kk * 7 + i,none⟩ = (hcl ((⟨hr,hme,hta,hmi,hst,hre,hfs⟩ : Hi)) (.slice ma hfs.length mc))[i]?) := hide (fun i hi => (show w6.cell? ⟨gw,kk * 7 + i,none⟩ = w2.cell? ⟨gw,kk * 7 + i,none⟩ from by unfold World.cell?;rw [show (⟨gw,kk * 7 + i,none⟩ : Addr).block = gw from rfl,AK6.out.block gw hgw2 (fun z => by have z2 : gw < w1.heap.size := z.2;omega)]).trans (HWC.out i hi));have D6c : Hid (w6.cell? ⟨gd,kk,none⟩ = some (.string ⟨ob.toArray⟩)) := hide ((show w6.cell? ⟨gd,kk,none⟩ = w2.cell? ⟨gd,kk,none⟩ from by unfold World.cell?;rw [show (⟨gd,kk,none⟩ : Addr).block = gd from rfl,AK6.out.block gd hgd2 (fun z => by have z2 : gd < w1.heap.size := z.2;omega)]).trans HDC.out);have hgw6 : gw < w6.heap.size := by omega
         have hgd6 : gd < w6.heap.size := by omega
         have HKP : Hid (∀ W',AK w6 W' A4 -> W'.cell? ⟨hz,0,none⟩ = some (.bool hr) /\ W'.cell? ⟨hz,1,none⟩ = some (.string hme) /\ W'.cell? ⟨hz,2,none⟩ = some (.string hta) /\ W'.cell? ⟨hz,3,none⟩ = some (.int .i64 hmi) /\ W'.cell? ⟨hz,4,none⟩ = some (.int .i64 hst) /\ W'.cell? ⟨hz,5,none⟩ = some (.string hre) /\ W'.cell? ⟨hz,6,none⟩ = some (.slice la ln lc) /\ W'.cell? ⟨gw,kk * 7,none⟩ = some (.bool hr) /\ W'.cell? ⟨gw,kk * 7 + 1,none⟩ = some (.string hme) /\ W'.cell? ⟨gw,kk * 7 + 2,none⟩ = some (.string hta) /\ W'.cell? ⟨gw,kk * 7 + 3,none⟩ = some (.int .i64 hmi) /\ W'.cell? ⟨gw,kk * 7 + 4,none⟩ = some (.int .i64 hst) /\ W'.cell? ⟨gw,kk * 7 + 5,none⟩ = some (.string hre) /\ W'.cell? ⟨gw,kk * 7 + 6,none⟩ = some (.slice ma hfs.length mc) /\ W'.cell? ⟨gd,kk,none⟩ = some (.string ⟨ob.toArray⟩) /\ (convert 31 9 (.slice ua un uc)).run Tryz.prog W' = .ok (.string ⟨ob.toArray⟩) W') := hide (fun W' k => by
          have kc : ∀ g i,g < w6.heap.size -> ¬ A4 g -> W'.cell? ⟨g,i,none⟩ = w6.cell? ⟨g,i,none⟩ := fun g i h1 h2 => by unfold World.cell?;rw [show (⟨g,i,none⟩ : Addr).block = g from rfl,k.block g h1 h2]
          have k1 := fun i => kc hz i hz6 (fun z => by have := hlt4.out hz z;omega)
          have k2 := fun i => kc gw i hgw6 (nA.out gw hgw1 hgw2)
          have k3 := kc gd kk hgd6 (nA.out gd hgd1 hgd2);refine ⟨(k1 0).trans (cell_at G6.out 0),(k1 1).trans (cell_at G6.out 1),(k1 2).trans (cell_at G6.out 2),(k1 3).trans (cell_at G6.out 3),(k1 4).trans (cell_at G6.out 4),(k1 5).trans (cell_at G6.out 5),(k1 6).trans (cell_at G6.out 6),(k2 _).trans (W6c.out 0 (by omega)),(k2 _).trans (W6c.out 1 (by omega)),(k2 _).trans (W6c.out 2 (by omega)),(k2 _).trans (W6c.out 3 (by omega)),(k2 _).trans (W6c.out 4 (by omega)),(k2 _).trans (W6c.out 5 (by omega)),(k2 _).trans (W6c.out 6 (by omega)),k3.trans D6c.out,?_⟩;exact (RX6.out.frame fun g hg => k.block g (RX6.out.lt hg).2 (fun z => by have h1 := hlt4.out g z;have h2 := (RX6.out.lt hg).1;omega)).text)
         have HGA : Hid (∀ W,Below w6.heap.size w6 W -> Calls Tryz.prog 21 #[.agg #[.bool hr,.string hme,.string hta,.int .i64 hmi,.int .i64 hst,.string hre,.slice la ln lc],.agg #[.bool hr,.string hme,.string hta,.int .i64 hmi,.int .i64 hst,.string hre,.slice ma hfs.length mc]] W fun e w' => e = .returned (.bool true) /\ Below W.heap.size W w') := hide (fun W k => by
          have q := plainH_any W (⟨hr,hme,hta,hmi,hst,hre,hfs⟩ : Hi) (⟨hr,hme,hta,hmi,hst,hre,hfs⟩ : Hi) (.slice la ln lc) (.slice ma hfs.length mc) (LF6.out.below k) ((Flds.of_row FR6.out).below k) (Nat.le_trans HFL9.out (by decide)) (Nat.le_trans HFL9.out (by decide));rw [hiEq_iff.2 rfl] at q;exact q)
         have HAN : Hid (∀ W,Below w6.heap.size w6 W -> Calls Tryz.prog 15 #[.pointer (some ⟨w.heap.size,0,none⟩),.bool true] W fun e w' => e = .returned (.int .i64 0) /\ AK w6 w' A4 /\ OS w2 w' w.heap.size (Nw w w1) (csNew 65536)) := hide (fun W k => by
          have a : At W w.heap.size ((65536 : Nat) : Int) 1000 A4 s' := AT6.out.on OW6.out.me (fun q z => (OW6.out.lo q z).2) k;have o := OW6.out.upO k.size;refine (At.answered (hd := 65536) a o.me (by omega) (by omega) true).mono ?_;rintro e w' ⟨rfl,q1,q2⟩;rw [csans_told ht] at q1;refine ⟨by rw [ht];rfl,(AK.of_below k).trans q2,grow A4 W w',q1,o.grow q2,os_on (os_below AK6.out k) q2 AL4.out (fun q z => (o.lo q z).2),fun q z => ?_⟩;rcases z with z | z
          ·exact AL4.out q z
          ·right;have := AK6.out.size;have := k.size;omega)
         have HB6 := hide ((Below.refl w6.heap.size w6).drew);have HF6 := hide (AK.of_below (A := A4) HB6.out);have hnx : (p + n : Nat) <= (catL its).length := by have h := congrArg List.length (catL_split its (kk + 1));rw [List.length_append] at h;omega
         have hkge : ¬ ((its.length : Int) <= (kk : Int)) := by omega
         have HR3 : Hid (p + n = (catL (its.take (kk + 1))).length + 0 /\ Rst (its.drop (kk + 1)) 0 (csNew 65536)) := hide ⟨by omega,rst_new _⟩;have hkw : IntKind.i64.wrap ((kk : Int) + 1) = ((kk + 1 : Nat) : Int) := (IntWalk.i64_in _ ⟨by omega,by omega⟩).trans (by omega);clear HFR HWC HDC LF5 RX5 Y5 b6 G6 AT4 OW4 AK4 W6c D6c Y6 HPJ hlt4 nA FR6 LF6 RX6 AT6 OW6 AK6
         go_region_held3 (fun W' => W'.cell? ⟨hz, 0, none⟩ = some (.bool hr) /\ W'.cell? ⟨hz, 1, none⟩ = some (.string hme) /\ W'.cell? ⟨hz, 2, none⟩ = some (.string hta) /\ W'.cell? ⟨hz, 3, none⟩ = some (.int .i64 hmi) /\ W'.cell? ⟨hz, 4, none⟩ = some (.int .i64 hst) /\ W'.cell? ⟨hz, 5, none⟩ = some (.string hre) /\ W'.cell? ⟨hz, 6, none⟩ = some (.slice la ln lc) /\ W'.cell? ⟨gw, kk * 7, none⟩ = some (.bool hr) /\ W'.cell? ⟨gw, kk * 7 + 1, none⟩ = some (.string hme) /\ W'.cell? ⟨gw, kk * 7 + 2, none⟩ = some (.string hta) /\ W'.cell? ⟨gw, kk * 7 + 3, none⟩ = some (.int .i64 hmi) /\ W'.cell? ⟨gw, kk * 7 + 4, none⟩ = some (.int .i64 hst) /\ W'.cell? ⟨gw, kk * 7 + 5, none⟩ = some (.string hre) /\ W'.cell? ⟨gw, kk * 7 + 6, none⟩ = some (.slice ma hfs.length mc) /\ W'.cell? ⟨gd, kk, none⟩ = some (.string ⟨ob.toArray⟩) /\ (convert 31 9 (.slice ua un uc)).run Tryz.prog W' = .ok (.string ⟨ob.toArray⟩) W') (first | exact HKP.out _ HF8.out | exact HKP.out _ HF7.out | exact HKP.out _ HF6.out) (first
          | (go_at_call 21;refine (HGA.out _ HB6.out).mono ?_;rintro e z8 ⟨rfl,b8⟩;have HB7 := hide (HB6.out.trans (b8.mono HB6.out.size));have HF7 := hide (AK.of_below (A := A4) HB7.out);clear b8)
          | (go_at_call 15;refine (HAN.out _ HB7.out).mono ?_;rintro e z9 ⟨rfl,k9,o9⟩;have HF8 := hide k9;have HO8 := hide o9;clear k9 o9))
         go_wp2_with fail
         go_roundw
         case rel => exact ⟨p + n,kk + 1,ii + 1,0,csNew 65536,by omega,by go_num,by go_num,by go_num,by omega,by omega,HR3,HO8⟩
         case measure => simp [intOf];omega
       ·have hwn : IntKind.i64.wrap (((catL its).length : Int) - (p : Int)) = ((catL its).length : Int) - (p : Int) := IntWalk.i64_in _ ⟨by omega, by omega⟩
        have hnv : ((catL its).length : Int) <= (c9 : Int) := by omega
        have hkn1 : (p : Int) <= ((catL its).length : Int) := by omega
        have hkn2 : p <= (catL its).length := by omega
        have HRJ := hide (HD.out ((catL its).length - p) (by omega) (by omega));clear HD;go_upto_region 32 with (go_at_call 11;refine HRJ.out.mono ?_;rintro e w4 ⟨n,t,s',rfl,hn1,hnJ,hout,hos⟩;have HOUT := hide hout;have HOS := hide hos;clear hout hos HRJ)
        have hwp : IntKind.i64.wrap ((p : Int) + (n : Int)) = ((p + n : Nat) : Int) := (IntWalk.i64_in _ ⟨by omega,by omega⟩).trans (by omega);cases t with
        | false =>
         obtain ⟨ht,e1,e2⟩ : s'.told = false /\ n = (catL its).length - p /\ Rst (its.drop kk) (j + ((catL its).length - p)) s' := by
          rcases HOUT.out with ⟨h0,h1,h2,h3⟩ | ⟨h0,-⟩
          ·exact ⟨h1,h2,h3⟩
          ·cases h0
         have hne : ¬ ((p + n : Nat) : Int) < ((catL its).length : Int) := by omega
         have HR3 : Hid (p + n = (catL (its.take kk)).length + (j + ((catL its).length - p)) /\ Rst (its.drop kk) (j + ((catL its).length - p)) s') := hide ⟨by have := HPJ.out.1;omega,e2⟩;clear HOUT e2;go_wp2_with fail
         go_roundw
         case rel => exact ⟨p + n,kk,ii + 1,j + ((catL its).length - p),s',by omega,by go_num,rfl,by go_num,by omega,hkl,HR3,HOS⟩
         case measure => simp [intOf];omega
        | true =>
         obtain ⟨ht,hkl2,hp2,e3,e4⟩ : s'.told = true /\ ∃ h : kk < its.length,p + n = (catL (its.take (kk + 1))).length /\ s'.hi = its[kk].1 /\ s'.ob = its[kk].2 := by
          rcases HOUT.out with ⟨h0,-⟩ | ⟨h0,h1,h2⟩
          ·cases h0
          ·exact ⟨h1,h2⟩
         clear HOUT;have hkli : (kk : Int) < (its.length : Int) := by omega
         have HRO := hide (rok_bl (hok.out its[kk] (List.getElem_mem hkl2)));rw [<- e3,<- e4] at HRO;obtain ⟨A4,p1,p2,p3,p4⟩ := HOS.out;have AT4 := hide p1;have OW4 := hide p2;have AK4 := hide p3;have AL4 := hide p4;clear p1 p2 p3 p4 HOS;have hkC : kk < CSL.length := by rw [HC1.out.1];exact hkl2
         obtain ⟨lw,hcs,hfr⟩ := HC1.out.2 kk hkC hkl2;obtain ⟨gw,hgw,hgw1,hgw2,hwc⟩ := own_cell HC3.out HC1.out.1 HC2.out hkC;subst hgw;rw [hcs] at hwc;obtain ⟨gd,hgd,hdc⟩ := HDT.out.cell (j := kk) (by rw [sc_len,List.length_map];exact hkl2);subst hgd;obtain ⟨hgd1,hgd2⟩ := HDT.out.lt (g := gd) rfl;have hdc2 : w2.cell? ⟨gd,kk,none⟩ = some (.string (sS its[kk].2)) := by rw [hdc];simp [sc,hkl2]
         obtain ⟨⟨hr,hme,hta,hmi,hst,hre,hfs⟩,HHI⟩ : ∃ H,Hid (s'.hi = H) := ⟨_,hide rfl⟩
         obtain ⟨ob,HOB⟩ : ∃ O,Hid (s'.ob = O) := ⟨_,hide rfl⟩
         rw [HHI.out] at e3 HRO;rw [HOB.out] at e4 HRO;rw [<- e3] at hwc hfr;rw [<- e4] at hdc2;obtain ⟨ma,mc,hlw,-⟩ := id hfr.shape;subst hlw;have HFR := hide hfr;have HWC := hide hwc;have HDC := hide hdc2;have HOL9 := hide HRO.out.1;have HFL9 := hide HRO.out.2;clear hcs hfr hwc hdc hdc2 e3 e4 HRO
         have HRQ2 : Hid (Calls Tryz.prog 20 #[.pointer (some ⟨w.heap.size,0,none⟩)] w4 fun e w' => ∃ la ln lc ua un uc,e = .returned (.tuple #[.agg #[.bool hr,.string hme,.string hta,.int .i64 hmi,.int .i64 hst,.string hre,.slice la ln lc],.slice ua un uc,.bool true]) /\ Flds w' (.slice la ln lc) hfs /\ (∃ b1,w4.heap.size <= b1 /\ Row w' b1 5 (.slice ua un uc) (bc ob)) /\ Below w4.heap.size w4 w') := hide (by
          have q := AT4.out.requestx (by rw [HOB.out];have := HOL9.out;omega);rw [HHI.out,HOB.out,ht] at q;refine q.mono ?_;rintro e w' ⟨l',u',rfl,a1,⟨b1,a2,a3⟩,a4⟩;obtain ⟨la,lc,rfl,-⟩ := id a1;obtain ⟨ua,uc,rfl,-⟩ := a3.shape;exact ⟨la,_,lc,ua,_,uc,rfl,a1,⟨b1,a2,a3⟩,a4⟩)
         go_upto_region 36 with fail
         go_upto_region 37 with (go_at_call 20;refine HRQ2.out.mono ?_;rintro e w5 ⟨la,ln,lc,ua,un,uc,rfl,a1,⟨b1,a2,a3⟩,a4⟩;have LF5 := hide a1;have RX5 := hide a3;have hb1 := a2;have Y5 := hide a4;clear a1 a2 a3 a4 HRQ2)
         have hs5 := Y5.out.size;have b6 := hide ((Below.refl w5.heap.size w5).alloc (Nat.le_refl _) (.cells #[.bool hr,.string hme,.string hta,.int .i64 hmi,.int .i64 hst,.string hre,.slice la ln lc] 45));have G6 := hide (hp_new w5 (.cells #[.bool hr,.string hme,.string hta,.int .i64 hmi,.int .i64 hst,.string hre,.slice la ln lc] 45));generalize w5.alloc _ = w6 at *;obtain ⟨hz,HZ⟩ : ∃ z,w5.heap.size = z := ⟨_,rfl⟩
         rw [HZ] at b6 G6;have hz6 : hz < w6.heap.size := lt_heap G6.out;have Y6 := hide (Y5.out.trans (b6.out.mono (by omega)));have LF6 := hide (LF5.out.below (by rw [HZ];exact b6.out));have RX6 := hide (RX5.out.below (by rw [HZ];exact b6.out));have AT6 := hide (AT4.out.on OW4.out.me (fun q z => (OW4.out.lo q z).2) Y6.out);have OW6 := hide (OW4.out.upO Y6.out.size);have AK6 := hide (os_below AK4.out Y6.out);have hlt4 : Hid (∀ q,A4 q -> q < w4.heap.size) := hide (fun q z => (OW4.out.lo q z).2);have hrz := AK4.out.size;have FR6 : Hid (FRow w6 w1.heap.size (.slice ma hfs.length mc) hfs) := hide (HFR.out.frame fun g hg => AK6.out.block g (HFR.out.lt hg).2 (fun z => by have := (HFR.out.lt hg).1;have z2 : g < w1.heap.size := z.2;omega))
         have nA : Hid (∀ g,w1.heap.size <= g -> g < w2.heap.size -> ¬ A4 g) := hide (fun g h1 h2 z => by
          rcases AL4.out g z with y | y
          ·have y2 : g < w1.heap.size := y.2
           omega
          ·omega)
         have W6c : Hid (∀ i,i < 7 -> w6.cell? ⟨gw,kk * 7 + i,none⟩ = (hcl ((⟨hr,hme,hta,hmi,hst,hre,hfs⟩ : Hi)) (.slice ma hfs.length mc))[i]?) := hide (fun i hi => (show w6.cell? ⟨gw,kk * 7 + i,none⟩ = w2.cell? ⟨gw,kk * 7 + i,none⟩ from by unfold World.cell?;rw [show (⟨gw,kk * 7 + i,none⟩ : Addr).block = gw from rfl,AK6.out.block gw hgw2 (fun z => by have z2 : gw < w1.heap.size := z.2;omega)]).trans (HWC.out i hi));have D6c : Hid (w6.cell? ⟨gd,kk,none⟩ = some (.string ⟨ob.toArray⟩)) := hide ((show w6.cell? ⟨gd,kk,none⟩ = w2.cell? ⟨gd,kk,none⟩ from by unfold World.cell?;rw [show (⟨gd,kk,none⟩ : Addr).block = gd from rfl,AK6.out.block gd hgd2 (fun z => by have z2 : gd < w1.heap.size := z.2;omega)]).trans HDC.out);have hgw6 : gw < w6.heap.size := by omega
         have hgd6 : gd < w6.heap.size := by omega
         have HKP : Hid (∀ W',AK w6 W' A4 -> W'.cell? ⟨hz,0,none⟩ = some (.bool hr) /\ W'.cell? ⟨hz,1,none⟩ = some (.string hme) /\ W'.cell? ⟨hz,2,none⟩ = some (.string hta) /\ W'.cell? ⟨hz,3,none⟩ = some (.int .i64 hmi) /\ W'.cell? ⟨hz,4,none⟩ = some (.int .i64 hst) /\ W'.cell? ⟨hz,5,none⟩ = some (.string hre) /\ W'.cell? ⟨hz,6,none⟩ = some (.slice la ln lc) /\ W'.cell? ⟨gw,kk * 7,none⟩ = some (.bool hr) /\ W'.cell? ⟨gw,kk * 7 + 1,none⟩ = some (.string hme) /\ W'.cell? ⟨gw,kk * 7 + 2,none⟩ = some (.string hta) /\ W'.cell? ⟨gw,kk * 7 + 3,none⟩ = some (.int .i64 hmi) /\ W'.cell? ⟨gw,kk * 7 + 4,none⟩ = some (.int .i64 hst) /\ W'.cell? ⟨gw,kk * 7 + 5,none⟩ = some (.string hre) /\ W'.cell? ⟨gw,kk * 7 + 6,none⟩ = some (.slice ma hfs.length mc) /\ W'.cell? ⟨gd,kk,none⟩ = some (.string ⟨ob.toArray⟩) /\ (convert 31 9 (.slice ua un uc)).run Tryz.prog W' = .ok (.string ⟨ob.toArray⟩) W') := hide (fun W' k => by
          have kc : ∀ g i,g < w6.heap.size -> ¬ A4 g -> W'.cell? ⟨g,i,none⟩ = w6.cell? ⟨g,i,none⟩ := fun g i h1 h2 => by unfold World.cell?;rw [show (⟨g,i,none⟩ : Addr).block = g from rfl,k.block g h1 h2]
          have k1 := fun i => kc hz i hz6 (fun z => by have := hlt4.out hz z;omega)
          have k2 := fun i => kc gw i hgw6 (nA.out gw hgw1 hgw2)
          have k3 := kc gd kk hgd6 (nA.out gd hgd1 hgd2);refine ⟨(k1 0).trans (cell_at G6.out 0),(k1 1).trans (cell_at G6.out 1),(k1 2).trans (cell_at G6.out 2),(k1 3).trans (cell_at G6.out 3),(k1 4).trans (cell_at G6.out 4),(k1 5).trans (cell_at G6.out 5),(k1 6).trans (cell_at G6.out 6),(k2 _).trans (W6c.out 0 (by omega)),(k2 _).trans (W6c.out 1 (by omega)),(k2 _).trans (W6c.out 2 (by omega)),(k2 _).trans (W6c.out 3 (by omega)),(k2 _).trans (W6c.out 4 (by omega)),(k2 _).trans (W6c.out 5 (by omega)),(k2 _).trans (W6c.out 6 (by omega)),k3.trans D6c.out,?_⟩;exact (RX6.out.frame fun g hg => k.block g (RX6.out.lt hg).2 (fun z => by have h1 := hlt4.out g z;have h2 := (RX6.out.lt hg).1;omega)).text)
         have HGA : Hid (∀ W,Below w6.heap.size w6 W -> Calls Tryz.prog 21 #[.agg #[.bool hr,.string hme,.string hta,.int .i64 hmi,.int .i64 hst,.string hre,.slice la ln lc],.agg #[.bool hr,.string hme,.string hta,.int .i64 hmi,.int .i64 hst,.string hre,.slice ma hfs.length mc]] W fun e w' => e = .returned (.bool true) /\ Below W.heap.size W w') := hide (fun W k => by
          have q := plainH_any W (⟨hr,hme,hta,hmi,hst,hre,hfs⟩ : Hi) (⟨hr,hme,hta,hmi,hst,hre,hfs⟩ : Hi) (.slice la ln lc) (.slice ma hfs.length mc) (LF6.out.below k) ((Flds.of_row FR6.out).below k) (Nat.le_trans HFL9.out (by decide)) (Nat.le_trans HFL9.out (by decide));rw [hiEq_iff.2 rfl] at q;exact q)
         have HAN : Hid (∀ W,Below w6.heap.size w6 W -> Calls Tryz.prog 15 #[.pointer (some ⟨w.heap.size,0,none⟩),.bool true] W fun e w' => e = .returned (.int .i64 0) /\ AK w6 w' A4 /\ OS w2 w' w.heap.size (Nw w w1) (csNew 65536)) := hide (fun W k => by
          have a : At W w.heap.size ((65536 : Nat) : Int) 1000 A4 s' := AT6.out.on OW6.out.me (fun q z => (OW6.out.lo q z).2) k;have o := OW6.out.upO k.size;refine (At.answered (hd := 65536) a o.me (by omega) (by omega) true).mono ?_;rintro e w' ⟨rfl,q1,q2⟩;rw [csans_told ht] at q1;refine ⟨by rw [ht];rfl,(AK.of_below k).trans q2,grow A4 W w',q1,o.grow q2,os_on (os_below AK6.out k) q2 AL4.out (fun q z => (o.lo q z).2),fun q z => ?_⟩;rcases z with z | z
          ·exact AL4.out q z
          ·right;have := AK6.out.size;have := k.size;omega)
         have HB6 := hide ((Below.refl w6.heap.size w6).drew);have HF6 := hide (AK.of_below (A := A4) HB6.out);have hnx : (p + n : Nat) <= (catL its).length := by have h := congrArg List.length (catL_split its (kk + 1));rw [List.length_append] at h;omega
         have hkge : ¬ ((its.length : Int) <= (kk : Int)) := by omega
         have HR3 : Hid (p + n = (catL (its.take (kk + 1))).length + 0 /\ Rst (its.drop (kk + 1)) 0 (csNew 65536)) := hide ⟨by omega,rst_new _⟩;have hkw : IntKind.i64.wrap ((kk : Int) + 1) = ((kk + 1 : Nat) : Int) := (IntWalk.i64_in _ ⟨by omega,by omega⟩).trans (by omega);clear HFR HWC HDC LF5 RX5 Y5 b6 G6 AT4 OW4 AK4 W6c D6c Y6 HPJ hlt4 nA FR6 LF6 RX6 AT6 OW6 AK6
         go_region_held3 (fun W' => W'.cell? ⟨hz, 0, none⟩ = some (.bool hr) /\ W'.cell? ⟨hz, 1, none⟩ = some (.string hme) /\ W'.cell? ⟨hz, 2, none⟩ = some (.string hta) /\ W'.cell? ⟨hz, 3, none⟩ = some (.int .i64 hmi) /\ W'.cell? ⟨hz, 4, none⟩ = some (.int .i64 hst) /\ W'.cell? ⟨hz, 5, none⟩ = some (.string hre) /\ W'.cell? ⟨hz, 6, none⟩ = some (.slice la ln lc) /\ W'.cell? ⟨gw, kk * 7, none⟩ = some (.bool hr) /\ W'.cell? ⟨gw, kk * 7 + 1, none⟩ = some (.string hme) /\ W'.cell? ⟨gw, kk * 7 + 2, none⟩ = some (.string hta) /\ W'.cell? ⟨gw, kk * 7 + 3, none⟩ = some (.int .i64 hmi) /\ W'.cell? ⟨gw, kk * 7 + 4, none⟩ = some (.int .i64 hst) /\ W'.cell? ⟨gw, kk * 7 + 5, none⟩ = some (.string hre) /\ W'.cell? ⟨gw, kk * 7 + 6, none⟩ = some (.slice ma hfs.length mc) /\ W'.cell? ⟨gd, kk, none⟩ = some (.string ⟨ob.toArray⟩) /\ (convert 31 9 (.slice ua un uc)).run Tryz.prog W' = .ok (.string ⟨ob.toArray⟩) W') (first | exact HKP.out _ HF8.out | exact HKP.out _ HF7.out | exact HKP.out _ HF6.out) (first
          | (go_at_call 21;refine (HGA.out _ HB6.out).mono ?_;rintro e z8 ⟨rfl,b8⟩;have HB7 := hide (HB6.out.trans (b8.mono HB6.out.size));have HF7 := hide (AK.of_below (A := A4) HB7.out);clear b8)
          | (go_at_call 15;refine (HAN.out _ HB7.out).mono ?_;rintro e z9 ⟨rfl,k9,o9⟩;have HF8 := hide k9;have HO8 := hide o9;clear k9 o9))
         go_wp2_with fail
         go_roundw
         case rel => exact ⟨p + n,kk + 1,ii + 1,0,csNew 65536,by omega,by go_num,by go_num,by go_num,by omega,by omega,HR3,HO8⟩
         case measure => simp [intOf];omega
      ·have hnv : ((catL its).length : Int) <= (c9 : Int) := by omega
       have hkn1 : (p : Int) <= ((catL its).length : Int) := by omega
       have hkn2 : p <= (catL its).length := by omega
       have HRJ := hide (HD.out ((catL its).length - p) (by omega) (by omega));clear HD;go_upto_region 32 with (go_at_call 11;refine HRJ.out.mono ?_;rintro e w4 ⟨n,t,s',rfl,hn1,hnJ,hout,hos⟩;have HOUT := hide hout;have HOS := hide hos;clear hout hos HRJ)
       have hwp : IntKind.i64.wrap ((p : Int) + (n : Int)) = ((p + n : Nat) : Int) := (IntWalk.i64_in _ ⟨by omega,by omega⟩).trans (by omega);cases t with
       | false =>
        obtain ⟨ht,e1,e2⟩ : s'.told = false /\ n = (catL its).length - p /\ Rst (its.drop kk) (j + ((catL its).length - p)) s' := by
         rcases HOUT.out with ⟨h0,h1,h2,h3⟩ | ⟨h0,-⟩
         ·exact ⟨h1,h2,h3⟩
         ·cases h0
        have hne : ¬ ((p + n : Nat) : Int) < ((catL its).length : Int) := by omega
        have HR3 : Hid (p + n = (catL (its.take kk)).length + (j + ((catL its).length - p)) /\ Rst (its.drop kk) (j + ((catL its).length - p)) s') := hide ⟨by have := HPJ.out.1;omega,e2⟩;clear HOUT e2;go_wp2_with fail
        go_roundw
        case rel => exact ⟨p + n,kk,ii + 1,j + ((catL its).length - p),s',by omega,by go_num,rfl,by go_num,by omega,hkl,HR3,HOS⟩
        case measure => simp [intOf];omega
       | true =>
        obtain ⟨ht,hkl2,hp2,e3,e4⟩ : s'.told = true /\ ∃ h : kk < its.length,p + n = (catL (its.take (kk + 1))).length /\ s'.hi = its[kk].1 /\ s'.ob = its[kk].2 := by
         rcases HOUT.out with ⟨h0,-⟩ | ⟨h0,h1,h2⟩
         ·cases h0
         ·exact ⟨h1,h2⟩
        clear HOUT;have hkli : (kk : Int) < (its.length : Int) := by omega
        have HRO := hide (rok_bl (hok.out its[kk] (List.getElem_mem hkl2)));rw [<- e3,<- e4] at HRO;obtain ⟨A4,p1,p2,p3,p4⟩ := HOS.out;have AT4 := hide p1;have OW4 := hide p2;have AK4 := hide p3;have AL4 := hide p4;clear p1 p2 p3 p4 HOS;have hkC : kk < CSL.length := by rw [HC1.out.1];exact hkl2
        obtain ⟨lw,hcs,hfr⟩ := HC1.out.2 kk hkC hkl2;obtain ⟨gw,hgw,hgw1,hgw2,hwc⟩ := own_cell HC3.out HC1.out.1 HC2.out hkC;subst hgw;rw [hcs] at hwc;obtain ⟨gd,hgd,hdc⟩ := HDT.out.cell (j := kk) (by rw [sc_len,List.length_map];exact hkl2);subst hgd;obtain ⟨hgd1,hgd2⟩ := HDT.out.lt (g := gd) rfl;have hdc2 : w2.cell? ⟨gd,kk,none⟩ = some (.string (sS its[kk].2)) := by rw [hdc];simp [sc,hkl2]
        obtain ⟨⟨hr,hme,hta,hmi,hst,hre,hfs⟩,HHI⟩ : ∃ H,Hid (s'.hi = H) := ⟨_,hide rfl⟩
        obtain ⟨ob,HOB⟩ : ∃ O,Hid (s'.ob = O) := ⟨_,hide rfl⟩
        rw [HHI.out] at e3 HRO;rw [HOB.out] at e4 HRO;rw [<- e3] at hwc hfr;rw [<- e4] at hdc2;obtain ⟨ma,mc,hlw,-⟩ := id hfr.shape;subst hlw;have HFR := hide hfr;have HWC := hide hwc;have HDC := hide hdc2;have HOL9 := hide HRO.out.1;have HFL9 := hide HRO.out.2;clear hcs hfr hwc hdc hdc2 e3 e4 HRO
        have HRQ2 : Hid (Calls Tryz.prog 20 #[.pointer (some ⟨w.heap.size,0,none⟩)] w4 fun e w' => ∃ la ln lc ua un uc,e = .returned (.tuple #[.agg #[.bool hr,.string hme,.string hta,.int .i64 hmi,.int .i64 hst,.string hre,.slice la ln lc],.slice ua un uc,.bool true]) /\ Flds w' (.slice la ln lc) hfs /\ (∃ b1,w4.heap.size <= b1 /\ Row w' b1 5 (.slice ua un uc) (bc ob)) /\ Below w4.heap.size w4 w') := hide (by
         have q := AT4.out.requestx (by rw [HOB.out];have := HOL9.out;omega);rw [HHI.out,HOB.out,ht] at q;refine q.mono ?_;rintro e w' ⟨l',u',rfl,a1,⟨b1,a2,a3⟩,a4⟩;obtain ⟨la,lc,rfl,-⟩ := id a1;obtain ⟨ua,uc,rfl,-⟩ := a3.shape;exact ⟨la,_,lc,ua,_,uc,rfl,a1,⟨b1,a2,a3⟩,a4⟩)
        go_upto_region 36 with fail
        go_upto_region 37 with (go_at_call 20;refine HRQ2.out.mono ?_;rintro e w5 ⟨la,ln,lc,ua,un,uc,rfl,a1,⟨b1,a2,a3⟩,a4⟩;have LF5 := hide a1;have RX5 := hide a3;have hb1 := a2;have Y5 := hide a4;clear a1 a2 a3 a4 HRQ2)
        have hs5 := Y5.out.size;have b6 := hide ((Below.refl w5.heap.size w5).alloc (Nat.le_refl _) (.cells #[.bool hr,.string hme,.string hta,.int .i64 hmi,.int .i64 hst,.string hre,.slice la ln lc] 45));have G6 := hide (hp_new w5 (.cells #[.bool hr,.string hme,.string hta,.int .i64 hmi,.int .i64 hst,.string hre,.slice la ln lc] 45));generalize w5.alloc _ = w6 at *;obtain ⟨hz,HZ⟩ : ∃ z,w5.heap.size = z := ⟨_,rfl⟩
        rw [HZ] at b6 G6;have hz6 : hz < w6.heap.size := lt_heap G6.out;have Y6 := hide (Y5.out.trans (b6.out.mono (by omega)));have LF6 := hide (LF5.out.below (by rw [HZ];exact b6.out));have RX6 := hide (RX5.out.below (by rw [HZ];exact b6.out));have AT6 := hide (AT4.out.on OW4.out.me (fun q z => (OW4.out.lo q z).2) Y6.out);have OW6 := hide (OW4.out.upO Y6.out.size);have AK6 := hide (os_below AK4.out Y6.out);have hlt4 : Hid (∀ q,A4 q -> q < w4.heap.size) := hide (fun q z => (OW4.out.lo q z).2);have hrz := AK4.out.size;have FR6 : Hid (FRow w6 w1.heap.size (.slice ma hfs.length mc) hfs) := hide (HFR.out.frame fun g hg => AK6.out.block g (HFR.out.lt hg).2 (fun z => by have := (HFR.out.lt hg).1;have z2 : g < w1.heap.size := z.2;omega))
        have nA : Hid (∀ g,w1.heap.size <= g -> g < w2.heap.size -> ¬ A4 g) := hide (fun g h1 h2 z => by
         rcases AL4.out g z with y | y
         ·have y2 : g < w1.heap.size := y.2
          omega
         ·omega)
        have W6c : Hid (∀ i,i < 7 -> w6.cell? ⟨gw,kk * 7 + i,none⟩ = (hcl ((⟨hr,hme,hta,hmi,hst,hre,hfs⟩ : Hi)) (.slice ma hfs.length mc))[i]?) := hide (fun i hi => (show w6.cell? ⟨gw,kk * 7 + i,none⟩ = w2.cell? ⟨gw,kk * 7 + i,none⟩ from by unfold World.cell?;rw [show (⟨gw,kk * 7 + i,none⟩ : Addr).block = gw from rfl,AK6.out.block gw hgw2 (fun z => by have z2 : gw < w1.heap.size := z.2;omega)]).trans (HWC.out i hi));have D6c : Hid (w6.cell? ⟨gd,kk,none⟩ = some (.string ⟨ob.toArray⟩)) := hide ((show w6.cell? ⟨gd,kk,none⟩ = w2.cell? ⟨gd,kk,none⟩ from by unfold World.cell?;rw [show (⟨gd,kk,none⟩ : Addr).block = gd from rfl,AK6.out.block gd hgd2 (fun z => by have z2 : gd < w1.heap.size := z.2;omega)]).trans HDC.out);have hgw6 : gw < w6.heap.size := by omega
        have hgd6 : gd < w6.heap.size := by omega
        have HKP : Hid (∀ W',AK w6 W' A4 -> W'.cell? ⟨hz,0,none⟩ = some (.bool hr) /\ W'.cell? ⟨hz,1,none⟩ = some (.string hme) /\ W'.cell? ⟨hz,2,none⟩ = some (.string hta) /\ W'.cell? ⟨hz,3,none⟩ = some (.int .i64 hmi) /\ W'.cell? ⟨hz,4,none⟩ = some (.int .i64 hst) /\ W'.cell? ⟨hz,5,none⟩ = some (.string hre) /\ W'.cell? ⟨hz,6,none⟩ = some (.slice la ln lc) /\ W'.cell? ⟨gw,kk * 7,none⟩ = some (.bool hr) /\ W'.cell? ⟨gw,kk * 7 + 1,none⟩ = some (.string hme) /\ W'.cell? ⟨gw,kk * 7 + 2,none⟩ = some (.string hta) /\ W'.cell? ⟨gw,kk * 7 + 3,none⟩ = some (.int .i64 hmi) /\ W'.cell? ⟨gw,kk * 7 + 4,none⟩ = some (.int .i64 hst) /\ W'.cell? ⟨gw,kk * 7 + 5,none⟩ = some (.string hre) /\ W'.cell? ⟨gw,kk * 7 + 6,none⟩ = some (.slice ma hfs.length mc) /\ W'.cell? ⟨gd,kk,none⟩ = some (.string ⟨ob.toArray⟩) /\ (convert 31 9 (.slice ua un uc)).run Tryz.prog W' = .ok (.string ⟨ob.toArray⟩) W') := hide (fun W' k => by
         have kc : ∀ g i,g < w6.heap.size -> ¬ A4 g -> W'.cell? ⟨g,i,none⟩ = w6.cell? ⟨g,i,none⟩ := fun g i h1 h2 => by unfold World.cell?;rw [show (⟨g,i,none⟩ : Addr).block = g from rfl,k.block g h1 h2]
         have k1 := fun i => kc hz i hz6 (fun z => by have := hlt4.out hz z;omega)
         have k2 := fun i => kc gw i hgw6 (nA.out gw hgw1 hgw2)
         have k3 := kc gd kk hgd6 (nA.out gd hgd1 hgd2);refine ⟨(k1 0).trans (cell_at G6.out 0),(k1 1).trans (cell_at G6.out 1),(k1 2).trans (cell_at G6.out 2),(k1 3).trans (cell_at G6.out 3),(k1 4).trans (cell_at G6.out 4),(k1 5).trans (cell_at G6.out 5),(k1 6).trans (cell_at G6.out 6),(k2 _).trans (W6c.out 0 (by omega)),(k2 _).trans (W6c.out 1 (by omega)),(k2 _).trans (W6c.out 2 (by omega)),(k2 _).trans (W6c.out 3 (by omega)),(k2 _).trans (W6c.out 4 (by omega)),(k2 _).trans (W6c.out 5 (by omega)),(k2 _).trans (W6c.out 6 (by omega)),k3.trans D6c.out,?_⟩;exact (RX6.out.frame fun g hg => k.block g (RX6.out.lt hg).2 (fun z => by have h1 := hlt4.out g z;have h2 := (RX6.out.lt hg).1;omega)).text)
        have HGA : Hid (∀ W,Below w6.heap.size w6 W -> Calls Tryz.prog 21 #[.agg #[.bool hr,.string hme,.string hta,.int .i64 hmi,.int .i64 hst,.string hre,.slice la ln lc],.agg #[.bool hr,.string hme,.string hta,.int .i64 hmi,.int .i64 hst,.string hre,.slice ma hfs.length mc]] W fun e w' => e = .returned (.bool true) /\ Below W.heap.size W w') := hide (fun W k => by
         have q := plainH_any W (⟨hr,hme,hta,hmi,hst,hre,hfs⟩ : Hi) (⟨hr,hme,hta,hmi,hst,hre,hfs⟩ : Hi) (.slice la ln lc) (.slice ma hfs.length mc) (LF6.out.below k) ((Flds.of_row FR6.out).below k) (Nat.le_trans HFL9.out (by decide)) (Nat.le_trans HFL9.out (by decide));rw [hiEq_iff.2 rfl] at q;exact q)
        have HAN : Hid (∀ W,Below w6.heap.size w6 W -> Calls Tryz.prog 15 #[.pointer (some ⟨w.heap.size,0,none⟩),.bool true] W fun e w' => e = .returned (.int .i64 0) /\ AK w6 w' A4 /\ OS w2 w' w.heap.size (Nw w w1) (csNew 65536)) := hide (fun W k => by
         have a : At W w.heap.size ((65536 : Nat) : Int) 1000 A4 s' := AT6.out.on OW6.out.me (fun q z => (OW6.out.lo q z).2) k;have o := OW6.out.upO k.size;refine (At.answered (hd := 65536) a o.me (by omega) (by omega) true).mono ?_;rintro e w' ⟨rfl,q1,q2⟩;rw [csans_told ht] at q1;refine ⟨by rw [ht];rfl,(AK.of_below k).trans q2,grow A4 W w',q1,o.grow q2,os_on (os_below AK6.out k) q2 AL4.out (fun q z => (o.lo q z).2),fun q z => ?_⟩;rcases z with z | z
         ·exact AL4.out q z
         ·right;have := AK6.out.size;have := k.size;omega)
        have HB6 := hide ((Below.refl w6.heap.size w6).drew);have HF6 := hide (AK.of_below (A := A4) HB6.out);have hnx : (p + n : Nat) <= (catL its).length := by have h := congrArg List.length (catL_split its (kk + 1));rw [List.length_append] at h;omega
        have hkge : ¬ ((its.length : Int) <= (kk : Int)) := by omega
        have HR3 : Hid (p + n = (catL (its.take (kk + 1))).length + 0 /\ Rst (its.drop (kk + 1)) 0 (csNew 65536)) := hide ⟨by omega,rst_new _⟩;have hkw : IntKind.i64.wrap ((kk : Int) + 1) = ((kk + 1 : Nat) : Int) := (IntWalk.i64_in _ ⟨by omega,by omega⟩).trans (by omega);clear HFR HWC HDC LF5 RX5 Y5 b6 G6 AT4 OW4 AK4 W6c D6c Y6 HPJ hlt4 nA FR6 LF6 RX6 AT6 OW6 AK6
        go_region_held3 (fun W' => W'.cell? ⟨hz, 0, none⟩ = some (.bool hr) /\ W'.cell? ⟨hz, 1, none⟩ = some (.string hme) /\ W'.cell? ⟨hz, 2, none⟩ = some (.string hta) /\ W'.cell? ⟨hz, 3, none⟩ = some (.int .i64 hmi) /\ W'.cell? ⟨hz, 4, none⟩ = some (.int .i64 hst) /\ W'.cell? ⟨hz, 5, none⟩ = some (.string hre) /\ W'.cell? ⟨hz, 6, none⟩ = some (.slice la ln lc) /\ W'.cell? ⟨gw, kk * 7, none⟩ = some (.bool hr) /\ W'.cell? ⟨gw, kk * 7 + 1, none⟩ = some (.string hme) /\ W'.cell? ⟨gw, kk * 7 + 2, none⟩ = some (.string hta) /\ W'.cell? ⟨gw, kk * 7 + 3, none⟩ = some (.int .i64 hmi) /\ W'.cell? ⟨gw, kk * 7 + 4, none⟩ = some (.int .i64 hst) /\ W'.cell? ⟨gw, kk * 7 + 5, none⟩ = some (.string hre) /\ W'.cell? ⟨gw, kk * 7 + 6, none⟩ = some (.slice ma hfs.length mc) /\ W'.cell? ⟨gd, kk, none⟩ = some (.string ⟨ob.toArray⟩) /\ (convert 31 9 (.slice ua un uc)).run Tryz.prog W' = .ok (.string ⟨ob.toArray⟩) W') (first | exact HKP.out _ HF8.out | exact HKP.out _ HF7.out | exact HKP.out _ HF6.out) (first
         | (go_at_call 21;refine (HGA.out _ HB6.out).mono ?_;rintro e z8 ⟨rfl,b8⟩;have HB7 := hide (HB6.out.trans (b8.mono HB6.out.size));have HF7 := hide (AK.of_below (A := A4) HB7.out);clear b8)
         | (go_at_call 15;refine (HAN.out _ HB7.out).mono ?_;rintro e z9 ⟨rfl,k9,o9⟩;have HF8 := hide k9;have HO8 := hide o9;clear k9 o9))
        go_wp2_with fail
        go_roundw
        case rel => exact ⟨p + n,kk + 1,ii + 1,0,csNew 65536,by omega,by go_num,by go_num,by go_num,by omega,by omega,HR3,HO8⟩
        case measure => simp [intOf];omega
     ·have hji : ¬ (ii : Int) < (CL.length : Int) := by omega
      have hnv : ((catL its).length : Int) <= (c9 : Int) := by omega
      have hkn1 : (p : Int) <= ((catL its).length : Int) := by omega
      have hkn2 : p <= (catL its).length := by omega
      have HRJ := hide (HD.out ((catL its).length - p) (by omega) (by omega));clear HD;go_upto_region 32 with (go_at_call 11;refine HRJ.out.mono ?_;rintro e w4 ⟨n,t,s',rfl,hn1,hnJ,hout,hos⟩;have HOUT := hide hout;have HOS := hide hos;clear hout hos HRJ)
      have hwp : IntKind.i64.wrap ((p : Int) + (n : Int)) = ((p + n : Nat) : Int) := (IntWalk.i64_in _ ⟨by omega,by omega⟩).trans (by omega);cases t with
      | false =>
       obtain ⟨ht,e1,e2⟩ : s'.told = false /\ n = (catL its).length - p /\ Rst (its.drop kk) (j + ((catL its).length - p)) s' := by
        rcases HOUT.out with ⟨h0,h1,h2,h3⟩ | ⟨h0,-⟩
        ·exact ⟨h1,h2,h3⟩
        ·cases h0
       have hne : ¬ ((p + n : Nat) : Int) < ((catL its).length : Int) := by omega
       have HR3 : Hid (p + n = (catL (its.take kk)).length + (j + ((catL its).length - p)) /\ Rst (its.drop kk) (j + ((catL its).length - p)) s') := hide ⟨by have := HPJ.out.1;omega,e2⟩;clear HOUT e2;go_wp2_with fail
       go_roundw
       case rel => exact ⟨p + n,kk,ii + 1,j + ((catL its).length - p),s',by omega,by go_num,rfl,by go_num,by omega,hkl,HR3,HOS⟩
       case measure => simp [intOf];omega
      | true =>
       obtain ⟨ht,hkl2,hp2,e3,e4⟩ : s'.told = true /\ ∃ h : kk < its.length,p + n = (catL (its.take (kk + 1))).length /\ s'.hi = its[kk].1 /\ s'.ob = its[kk].2 := by
        rcases HOUT.out with ⟨h0,-⟩ | ⟨h0,h1,h2⟩
        ·cases h0
        ·exact ⟨h1,h2⟩
       clear HOUT;have hkli : (kk : Int) < (its.length : Int) := by omega
       have HRO := hide (rok_bl (hok.out its[kk] (List.getElem_mem hkl2)));rw [<- e3,<- e4] at HRO;obtain ⟨A4,p1,p2,p3,p4⟩ := HOS.out;have AT4 := hide p1;have OW4 := hide p2;have AK4 := hide p3;have AL4 := hide p4;clear p1 p2 p3 p4 HOS;have hkC : kk < CSL.length := by rw [HC1.out.1];exact hkl2
       obtain ⟨lw,hcs,hfr⟩ := HC1.out.2 kk hkC hkl2;obtain ⟨gw,hgw,hgw1,hgw2,hwc⟩ := own_cell HC3.out HC1.out.1 HC2.out hkC;subst hgw;rw [hcs] at hwc;obtain ⟨gd,hgd,hdc⟩ := HDT.out.cell (j := kk) (by rw [sc_len,List.length_map];exact hkl2);subst hgd;obtain ⟨hgd1,hgd2⟩ := HDT.out.lt (g := gd) rfl;have hdc2 : w2.cell? ⟨gd,kk,none⟩ = some (.string (sS its[kk].2)) := by rw [hdc];simp [sc,hkl2]
       obtain ⟨⟨hr,hme,hta,hmi,hst,hre,hfs⟩,HHI⟩ : ∃ H,Hid (s'.hi = H) := ⟨_,hide rfl⟩
       obtain ⟨ob,HOB⟩ : ∃ O,Hid (s'.ob = O) := ⟨_,hide rfl⟩
       rw [HHI.out] at e3 HRO;rw [HOB.out] at e4 HRO;rw [<- e3] at hwc hfr;rw [<- e4] at hdc2;obtain ⟨ma,mc,hlw,-⟩ := id hfr.shape;subst hlw;have HFR := hide hfr;have HWC := hide hwc;have HDC := hide hdc2;have HOL9 := hide HRO.out.1;have HFL9 := hide HRO.out.2;clear hcs hfr hwc hdc hdc2 e3 e4 HRO
       have HRQ2 : Hid (Calls Tryz.prog 20 #[.pointer (some ⟨w.heap.size,0,none⟩)] w4 fun e w' => ∃ la ln lc ua un uc,e = .returned (.tuple #[.agg #[.bool hr,.string hme,.string hta,.int .i64 hmi,.int .i64 hst,.string hre,.slice la ln lc],.slice ua un uc,.bool true]) /\ Flds w' (.slice la ln lc) hfs /\ (∃ b1,w4.heap.size <= b1 /\ Row w' b1 5 (.slice ua un uc) (bc ob)) /\ Below w4.heap.size w4 w') := hide (by
        have q := AT4.out.requestx (by rw [HOB.out];have := HOL9.out;omega);rw [HHI.out,HOB.out,ht] at q;refine q.mono ?_;rintro e w' ⟨l',u',rfl,a1,⟨b1,a2,a3⟩,a4⟩;obtain ⟨la,lc,rfl,-⟩ := id a1;obtain ⟨ua,uc,rfl,-⟩ := a3.shape;exact ⟨la,_,lc,ua,_,uc,rfl,a1,⟨b1,a2,a3⟩,a4⟩)
       go_upto_region 36 with fail
       go_upto_region 37 with (go_at_call 20;refine HRQ2.out.mono ?_;rintro e w5 ⟨la,ln,lc,ua,un,uc,rfl,a1,⟨b1,a2,a3⟩,a4⟩;have LF5 := hide a1;have RX5 := hide a3;have hb1 := a2;have Y5 := hide a4;clear a1 a2 a3 a4 HRQ2)
       have hs5 := Y5.out.size;have b6 := hide ((Below.refl w5.heap.size w5).alloc (Nat.le_refl _) (.cells #[.bool hr,.string hme,.string hta,.int .i64 hmi,.int .i64 hst,.string hre,.slice la ln lc] 45));have G6 := hide (hp_new w5 (.cells #[.bool hr,.string hme,.string hta,.int .i64 hmi,.int .i64 hst,.string hre,.slice la ln lc] 45));generalize w5.alloc _ = w6 at *;obtain ⟨hz,HZ⟩ : ∃ z,w5.heap.size = z := ⟨_,rfl⟩
       rw [HZ] at b6 G6;have hz6 : hz < w6.heap.size := lt_heap G6.out;have Y6 := hide (Y5.out.trans (b6.out.mono (by omega)));have LF6 := hide (LF5.out.below (by rw [HZ];exact b6.out));have RX6 := hide (RX5.out.below (by rw [HZ];exact b6.out));have AT6 := hide (AT4.out.on OW4.out.me (fun q z => (OW4.out.lo q z).2) Y6.out);have OW6 := hide (OW4.out.upO Y6.out.size);have AK6 := hide (os_below AK4.out Y6.out);have hlt4 : Hid (∀ q,A4 q -> q < w4.heap.size) := hide (fun q z => (OW4.out.lo q z).2);have hrz := AK4.out.size;have FR6 : Hid (FRow w6 w1.heap.size (.slice ma hfs.length mc) hfs) := hide (HFR.out.frame fun g hg => AK6.out.block g (HFR.out.lt hg).2 (fun z => by have := (HFR.out.lt hg).1;have z2 : g < w1.heap.size := z.2;omega))
       have nA : Hid (∀ g,w1.heap.size <= g -> g < w2.heap.size -> ¬ A4 g) := hide (fun g h1 h2 z => by
        rcases AL4.out g z with y | y
        ·have y2 : g < w1.heap.size := y.2
         omega
        ·omega)
       have W6c : Hid (∀ i,i < 7 -> w6.cell? ⟨gw,kk * 7 + i,none⟩ = (hcl ((⟨hr,hme,hta,hmi,hst,hre,hfs⟩ : Hi)) (.slice ma hfs.length mc))[i]?) := hide (fun i hi => (show w6.cell? ⟨gw,kk * 7 + i,none⟩ = w2.cell? ⟨gw,kk * 7 + i,none⟩ from by unfold World.cell?;rw [show (⟨gw,kk * 7 + i,none⟩ : Addr).block = gw from rfl,AK6.out.block gw hgw2 (fun z => by have z2 : gw < w1.heap.size := z.2;omega)]).trans (HWC.out i hi));have D6c : Hid (w6.cell? ⟨gd,kk,none⟩ = some (.string ⟨ob.toArray⟩)) := hide ((show w6.cell? ⟨gd,kk,none⟩ = w2.cell? ⟨gd,kk,none⟩ from by unfold World.cell?;rw [show (⟨gd,kk,none⟩ : Addr).block = gd from rfl,AK6.out.block gd hgd2 (fun z => by have z2 : gd < w1.heap.size := z.2;omega)]).trans HDC.out);have hgw6 : gw < w6.heap.size := by omega
       have hgd6 : gd < w6.heap.size := by omega
       have HKP : Hid (∀ W',AK w6 W' A4 -> W'.cell? ⟨hz,0,none⟩ = some (.bool hr) /\ W'.cell? ⟨hz,1,none⟩ = some (.string hme) /\ W'.cell? ⟨hz,2,none⟩ = some (.string hta) /\ W'.cell? ⟨hz,3,none⟩ = some (.int .i64 hmi) /\ W'.cell? ⟨hz,4,none⟩ = some (.int .i64 hst) /\ W'.cell? ⟨hz,5,none⟩ = some (.string hre) /\ W'.cell? ⟨hz,6,none⟩ = some (.slice la ln lc) /\ W'.cell? ⟨gw,kk * 7,none⟩ = some (.bool hr) /\ W'.cell? ⟨gw,kk * 7 + 1,none⟩ = some (.string hme) /\ W'.cell? ⟨gw,kk * 7 + 2,none⟩ = some (.string hta) /\ W'.cell? ⟨gw,kk * 7 + 3,none⟩ = some (.int .i64 hmi) /\ W'.cell? ⟨gw,kk * 7 + 4,none⟩ = some (.int .i64 hst) /\ W'.cell? ⟨gw,kk * 7 + 5,none⟩ = some (.string hre) /\ W'.cell? ⟨gw,kk * 7 + 6,none⟩ = some (.slice ma hfs.length mc) /\ W'.cell? ⟨gd,kk,none⟩ = some (.string ⟨ob.toArray⟩) /\ (convert 31 9 (.slice ua un uc)).run Tryz.prog W' = .ok (.string ⟨ob.toArray⟩) W') := hide (fun W' k => by
        have kc : ∀ g i,g < w6.heap.size -> ¬ A4 g -> W'.cell? ⟨g,i,none⟩ = w6.cell? ⟨g,i,none⟩ := fun g i h1 h2 => by unfold World.cell?;rw [show (⟨g,i,none⟩ : Addr).block = g from rfl,k.block g h1 h2]
        have k1 := fun i => kc hz i hz6 (fun z => by have := hlt4.out hz z;omega)
        have k2 := fun i => kc gw i hgw6 (nA.out gw hgw1 hgw2)
        have k3 := kc gd kk hgd6 (nA.out gd hgd1 hgd2);refine ⟨(k1 0).trans (cell_at G6.out 0),(k1 1).trans (cell_at G6.out 1),(k1 2).trans (cell_at G6.out 2),(k1 3).trans (cell_at G6.out 3),(k1 4).trans (cell_at G6.out 4),(k1 5).trans (cell_at G6.out 5),(k1 6).trans (cell_at G6.out 6),(k2 _).trans (W6c.out 0 (by omega)),(k2 _).trans (W6c.out 1 (by omega)),(k2 _).trans (W6c.out 2 (by omega)),(k2 _).trans (W6c.out 3 (by omega)),(k2 _).trans (W6c.out 4 (by omega)),(k2 _).trans (W6c.out 5 (by omega)),(k2 _).trans (W6c.out 6 (by omega)),k3.trans D6c.out,?_⟩;exact (RX6.out.frame fun g hg => k.block g (RX6.out.lt hg).2 (fun z => by have h1 := hlt4.out g z;have h2 := (RX6.out.lt hg).1;omega)).text)
       have HGA : Hid (∀ W,Below w6.heap.size w6 W -> Calls Tryz.prog 21 #[.agg #[.bool hr,.string hme,.string hta,.int .i64 hmi,.int .i64 hst,.string hre,.slice la ln lc],.agg #[.bool hr,.string hme,.string hta,.int .i64 hmi,.int .i64 hst,.string hre,.slice ma hfs.length mc]] W fun e w' => e = .returned (.bool true) /\ Below W.heap.size W w') := hide (fun W k => by
        have q := plainH_any W (⟨hr,hme,hta,hmi,hst,hre,hfs⟩ : Hi) (⟨hr,hme,hta,hmi,hst,hre,hfs⟩ : Hi) (.slice la ln lc) (.slice ma hfs.length mc) (LF6.out.below k) ((Flds.of_row FR6.out).below k) (Nat.le_trans HFL9.out (by decide)) (Nat.le_trans HFL9.out (by decide));rw [hiEq_iff.2 rfl] at q;exact q)
       have HAN : Hid (∀ W,Below w6.heap.size w6 W -> Calls Tryz.prog 15 #[.pointer (some ⟨w.heap.size,0,none⟩),.bool true] W fun e w' => e = .returned (.int .i64 0) /\ AK w6 w' A4 /\ OS w2 w' w.heap.size (Nw w w1) (csNew 65536)) := hide (fun W k => by
        have a : At W w.heap.size ((65536 : Nat) : Int) 1000 A4 s' := AT6.out.on OW6.out.me (fun q z => (OW6.out.lo q z).2) k;have o := OW6.out.upO k.size;refine (At.answered (hd := 65536) a o.me (by omega) (by omega) true).mono ?_;rintro e w' ⟨rfl,q1,q2⟩;rw [csans_told ht] at q1;refine ⟨by rw [ht];rfl,(AK.of_below k).trans q2,grow A4 W w',q1,o.grow q2,os_on (os_below AK6.out k) q2 AL4.out (fun q z => (o.lo q z).2),fun q z => ?_⟩;rcases z with z | z
        ·exact AL4.out q z
        ·right;have := AK6.out.size;have := k.size;omega)
       have HB6 := hide ((Below.refl w6.heap.size w6).drew);have HF6 := hide (AK.of_below (A := A4) HB6.out);have hnx : (p + n : Nat) <= (catL its).length := by have h := congrArg List.length (catL_split its (kk + 1));rw [List.length_append] at h;omega
       have hkge : ¬ ((its.length : Int) <= (kk : Int)) := by omega
       have HR3 : Hid (p + n = (catL (its.take (kk + 1))).length + 0 /\ Rst (its.drop (kk + 1)) 0 (csNew 65536)) := hide ⟨by omega,rst_new _⟩;have hkw : IntKind.i64.wrap ((kk : Int) + 1) = ((kk + 1 : Nat) : Int) := (IntWalk.i64_in _ ⟨by omega,by omega⟩).trans (by omega);clear HFR HWC HDC LF5 RX5 Y5 b6 G6 AT4 OW4 AK4 W6c D6c Y6 HPJ hlt4 nA FR6 LF6 RX6 AT6 OW6 AK6
       go_region_held3 (fun W' => W'.cell? ⟨hz, 0, none⟩ = some (.bool hr) /\ W'.cell? ⟨hz, 1, none⟩ = some (.string hme) /\ W'.cell? ⟨hz, 2, none⟩ = some (.string hta) /\ W'.cell? ⟨hz, 3, none⟩ = some (.int .i64 hmi) /\ W'.cell? ⟨hz, 4, none⟩ = some (.int .i64 hst) /\ W'.cell? ⟨hz, 5, none⟩ = some (.string hre) /\ W'.cell? ⟨hz, 6, none⟩ = some (.slice la ln lc) /\ W'.cell? ⟨gw, kk * 7, none⟩ = some (.bool hr) /\ W'.cell? ⟨gw, kk * 7 + 1, none⟩ = some (.string hme) /\ W'.cell? ⟨gw, kk * 7 + 2, none⟩ = some (.string hta) /\ W'.cell? ⟨gw, kk * 7 + 3, none⟩ = some (.int .i64 hmi) /\ W'.cell? ⟨gw, kk * 7 + 4, none⟩ = some (.int .i64 hst) /\ W'.cell? ⟨gw, kk * 7 + 5, none⟩ = some (.string hre) /\ W'.cell? ⟨gw, kk * 7 + 6, none⟩ = some (.slice ma hfs.length mc) /\ W'.cell? ⟨gd, kk, none⟩ = some (.string ⟨ob.toArray⟩) /\ (convert 31 9 (.slice ua un uc)).run Tryz.prog W' = .ok (.string ⟨ob.toArray⟩) W') (first | exact HKP.out _ HF8.out | exact HKP.out _ HF7.out | exact HKP.out _ HF6.out) (first
        | (go_at_call 21;refine (HGA.out _ HB6.out).mono ?_;rintro e z8 ⟨rfl,b8⟩;have HB7 := hide (HB6.out.trans (b8.mono HB6.out.size));have HF7 := hide (AK.of_below (A := A4) HB7.out);clear b8)
        | (go_at_call 15;refine (HAN.out _ HB7.out).mono ?_;rintro e z9 ⟨rfl,k9,o9⟩;have HF8 := hide k9;have HO8 := hide o9;clear k9 o9))
       go_wp2_with fail
       go_roundw
       case rel => exact ⟨p + n,kk + 1,ii + 1,0,csNew 65536,by omega,by go_num,by go_num,by go_num,by omega,by omega,HR3,HO8⟩
       case measure => simp [intOf];omega
    ·have hpN : p = (catL its).length := by omega
     obtain ⟨hrest,hsn⟩ : its.drop kk = [] /\ s = csNew 65536 := by
      have hsp := catL_split its kk;have hlen : (catL its).length = (catL (its.take kk)).length + (catL (its.drop kk)).length := by rw [<- List.length_append,<- hsp]
      exact rst_end HPJ.out.2 (fun i hi => hok.out i (List.mem_of_mem_drop hi)) (by have := HPJ.out.1;omega)
     have hkN : kk = its.length := by
      have := congrArg List.length hrest;rw [List.length_drop,List.length_nil] at this;omega
     subst hsn;subst hkN;obtain ⟨A4,p1,p2,p3,p4⟩ := HOSq.out;have HWR := hide p1.wrong;have HEN := hide (p1.end_ p2.me);have BQ : Hid (Below w.heap.size w wr) := hide (BWr.out.trans (p3.low (B := w.heap.size) (fun q z => z.1) (by omega)));have hrz := p3.size;have HLOW : Hid (∀ q,A4 q -> w.heap.size <= q) := hide (fun q z => by rcases p4 q z with y | y;exact y.1;omega);clear p1 p2 p3 p4 HPJ HOSq;go_wp2_with fail
     refine HWR.out.mono ?_;rintro e x1 ⟨rfl,rfl⟩;go_wp2_with fail
     refine HEN.out.mono ?_;rintro e x2 ⟨rfl,q1,q2⟩;have HW2 := hide q1.wrong;have BX2 := hide (BQ.out.trans (q2.low HLOW.out BQ.out.size));clear q1 q2 HEN;go_wp2_with fail
     refine HW2.out.mono ?_;rintro e x3 ⟨rfl,rfl⟩;have HQ := hide (HP.out _ BX2.out);go_wp2_with fail
     refine HQ.out.mono ?_;rintro e x4 ⟨rfl,b9⟩;have BZ := hide (BX2.out.trans (b9.mono BX2.out.size));clear b9;go_wp2_with fail
     go_ret
     exact ⟨rfl,BZ.out⟩
end Go.Proofs.YtcagjipdldlehaaGreatDoor
