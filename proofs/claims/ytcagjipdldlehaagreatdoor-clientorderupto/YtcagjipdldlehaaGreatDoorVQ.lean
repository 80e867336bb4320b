/- VQ. -/
import Derived.Test.YtcagjipdldlehaaGreatDoorVC
import Derived.Test.YtcagjipdldlehaaGreatDoorVB
import Derived.Test.YtcagjipdldlehaaGreatDoorVD3
import Derived.Test.YtcagjipdldlehaaGreatDoorVG
import Derived.Deep.RegionLaw
import Derived.Laws.EntriesVeiled
import Derived.Lib.SlBytesConst
import Derived.Test.YtcagjipdldlehaaGreatDoorRows
import Derived.Lib.LaidTab
import Derived.LaidLaws
import Derived.LaidHandle
import Derived.LaidSub
import Derived.Stop.LaidErr
import Derived.Shelf.Vars
import Derived.Lay
import Derived.MakeChecks
namespace Go.Proofs.YtcagjipdldlehaaGreatDoor
open Go.ChangeShapes Go.WideShapes Go.ChangeAt Go.RowKit
set_option linter.unusedVariables false
set_option maxHeartbeats 16000000
set_option maxRecDepth 100000
def clC (hd bd : Int) (st : Value) (bg wt : Bool) (pv rv bv : Value) (wr : Int) : Array Value := #[.int .i64 hd,.int .i64 bd,st,.bool bg,.bool wt,pv,rv,bv,.int .i64 wr]
def stH (c : Nat) : Value := .func (.func 37) #[.pointer (some ⟨c,0,none⟩)] #[]
def stB (c : Nat) : Value := .func (.func 64) #[.pointer (some ⟨c,0,none⟩)] #[]
structure CK (w w' : World) (c : Nat) : Prop where
 os : w'.os = w.os
 tape : w'.tape = w.tape
 output : w'.output = w.output
 size : w.heap.size <= w'.heap.size
 block : ∀ k,k < w.heap.size -> k ≠ c -> w'.heap[k]? = w.heap[k]?
theorem CK.refl (w : World) (c : Nat) : CK w w c := ⟨rfl,rfl,rfl,Nat.le_refl _,fun _ _ _ => rfl⟩
theorem CK.trans {a b d : World} {c : Nat} (h : CK a b c) (k : CK b d c) : CK a d c := ⟨k.os.trans h.os,k.tape.trans h.tape,k.output.trans h.output,Nat.le_trans h.size k.size,fun i hi hc => (k.block i (Nat.lt_of_lt_of_le hi h.size) hc).trans (h.block i hi hc)⟩
theorem CK.of_below {w w' : World} (c : Nat) (b : Below w.heap.size w w') : CK w w' c := ⟨b.os,b.tape,b.output,b.size,fun k hk _ => b.block k hk⟩
theorem CK.set (w : World) (c i : Nat) (v : Value) : CK w (w.setCell ⟨c,i,none⟩ v) c := ⟨rfl,rfl,rfl,by simp,fun k _ hk => Below.heap_setCell w ⟨c,i,none⟩ v k hk⟩
theorem CK.low {w w' : World} {c base : Nat} (h : CK w w' c) (h1 : base <= c) (h2 : base <= w.heap.size) : Below base w w' := ⟨h.os,h.tape,h.output,h.size,fun k hk => h.block k (by omega) (by omega)⟩
section
variable {w : World} {c : Nat} {hd bd : Int} {st : Value} {bg wt : Bool} {pv rv bv : Value} {wr : Int}
abbrev ClB (w : World) (c : Nat) (hd bd : Int) (st : Value) (bg wt : Bool) (pv rv bv : Value) (wr : Int) : Prop := w.heap[c]? = some (.cells (clC hd bd st bg wt pv rv bv wr) 66 (0,0))
theorem cl_cells (h : ClB w c hd bd st bg wt pv rv bv wr) : w.cell? ⟨c,0,none⟩ = some (.int .i64 hd) /\ w.cell? ⟨c,1,none⟩ = some (.int .i64 bd) /\ w.cell? ⟨c,2,none⟩ = some st /\ w.cell? ⟨c,3,none⟩ = some (.bool bg) /\ w.cell? ⟨c,4,none⟩ = some (.bool wt) /\ w.cell? ⟨c,5,none⟩ = some pv /\ w.cell? ⟨c,6,none⟩ = some rv /\ w.cell? ⟨c,7,none⟩ = some bv /\ w.cell? ⟨c,8,none⟩ = some (.int .i64 wr) :=
 ⟨cell_at h 0,cell_at h 1,cell_at h 2,cell_at h 3,cell_at h 4,cell_at h 5,cell_at h 6,cell_at h 7,cell_at h 8⟩
theorem cl_fz (h : ClB w c hd bd st bg wt pv rv bv wr) (i : Nat) : w.frozen? ⟨c,i,none⟩ = false := by rw [frozen_at h];simp
end
theorem wait_any {w : World} {c : Nat} {hd bd : Int} {fn : Fn} {cs : Array Value} {bg wt : Bool} {pv bv : Value} {ro : Option Addr} {wr : Int} (h : ClB w c hd bd (.func fn cs #[]) bg wt pv (.pointer ro) bv wr) :
  Calls Tryz.prog 98 #[.pointer (some ⟨c,0,none⟩)] w fun e w' => e = .returned (.tuple #[]) /\ ClB w' c hd bd .nilFunc false true pv (.pointer none) bv wr /\ CK w w' c := by
 obtain ⟨k0,k1,k2,k3,k4,k5,k6,k7,k8⟩ := cl_cells h;have z := cl_fz h;have z2 := z 2;have z6 := z 6;have HH := hide h;clear h z k0 k1 k5 k7 k8;have H1 : Hid (ClB (w.setCell ⟨c,2,none⟩ .nilFunc) c hd bd .nilFunc bg wt pv (.pointer ro) bv wr) := hide (hp_set HH.out 2 _);have H2 : Hid (ClB ((w.setCell ⟨c,2,none⟩ .nilFunc).setCell ⟨c,6,none⟩ (.pointer none)) c hd bd .nilFunc bg wt pv (.pointer none) bv wr) := hide (hp_set H1.out 6 _);have K2 := hide ((CK.set w c 2 .nilFunc).trans (CK.set _ c 6 (.pointer none)));go_enter Tryz.func98,Tryz.ntmps98
 go_upto_region 1 with fail
 clear k2 k3 k4 k6 z2 z6 HH H1;generalize (w.setCell ⟨c,2,none⟩ .nilFunc).setCell ⟨c,6,none⟩ (.pointer none) = w1 at *;obtain ⟨k0,k1,k2,k3,k4,k5,k6,k7,k8⟩ := cl_cells H2.out;have z := cl_fz H2.out;have z3 := z 3;have z4 := z 4;clear z k0 k1 k2 k5 k6 k7 k8;have H3 : Hid (ClB (w1.setCell ⟨c,3,none⟩ (.bool false)) c hd bd .nilFunc false wt pv (.pointer none) bv wr) := hide (hp_set H2.out 3 _);have H4 : Hid (ClB ((w1.setCell ⟨c,3,none⟩ (.bool false)).setCell ⟨c,4,none⟩ (.bool true)) c hd bd .nilFunc false true pv (.pointer none) bv wr) := hide (hp_set H3.out 4 _);have K4 := hide (K2.out.trans ((CK.set w1 c 3 (.bool false)).trans (CK.set _ c 4 (.bool true))));go_wp2
 go_end0
 exact ⟨rfl,H4.out,K4.out⟩
def put9 (w : World) (c : Nat) (hd bd : Int) (st : Value) (bg wt : Bool) (pv rv bv : Value) (wr : Int) : World :=
 ((((((((w.setCell ⟨c,0,none⟩ (.int .i64 hd)).setCell ⟨c,1,none⟩ (.int .i64 bd)).setCell ⟨c,2,none⟩ st).setCell ⟨c,3,none⟩ (.bool bg)).setCell ⟨c,4,none⟩ (.bool wt)).setCell ⟨c,5,none⟩ pv).setCell ⟨c,6,none⟩ rv).setCell ⟨c,7,none⟩ bv).setCell ⟨c,8,none⟩ (.int .i64 wr)
theorem put9_ok {w : World} {c : Nat} {h0 b0 : Int} {s0 : Value} {g0 w0 : Bool} {p0 r0 v0 : Value} {e0 : Int} (h : ClB w c h0 b0 s0 g0 w0 p0 r0 v0 e0) (hd bd : Int) (st : Value) (bg wt : Bool) (pv rv bv : Value) (wr : Int) : ClB (put9 w c hd bd st bg wt pv rv bv wr) c hd bd st bg wt pv rv bv wr /\ CK w (put9 w c hd bd st bg wt pv rv bv wr) c := by
 have a0 : ClB (w.setCell ⟨c,0,none⟩ (.int .i64 hd)) c hd b0 s0 g0 w0 p0 r0 v0 e0 := hp_set h 0 _;have a1 : ClB (_) c hd bd s0 g0 w0 p0 r0 v0 e0 := hp_set a0 1 (.int .i64 bd);have a2 : ClB (_) c hd bd st g0 w0 p0 r0 v0 e0 := hp_set a1 2 st;have a3 : ClB (_) c hd bd st bg w0 p0 r0 v0 e0 := hp_set a2 3 (.bool bg);have a4 : ClB (_) c hd bd st bg wt p0 r0 v0 e0 := hp_set a3 4 (.bool wt);have a5 : ClB (_) c hd bd st bg wt pv r0 v0 e0 := hp_set a4 5 pv;have a6 : ClB (_) c hd bd st bg wt pv rv v0 e0 := hp_set a5 6 rv;have a7 : ClB (_) c hd bd st bg wt pv rv bv e0 := hp_set a6 7 bv;have a8 : ClB (_) c hd bd st bg wt pv rv bv wr := hp_set a7 8 (.int .i64 wr);exact ⟨a8,((((((((CK.set w c 0 _).trans (CK.set _ c 1 _)).trans (CK.set _ c 2 _)).trans (CK.set _ c 3 _)).trans (CK.set _ c 4 _)).trans (CK.set _ c 5 _)).trans (CK.set _ c 6 _)).trans (CK.set _ c 7 _)).trans (CK.set _ c 8 _)⟩
theorem Par.keep {w w' : World} {base g : Nat} {lv fv : Value} {p : Pz} (h : Par w base g lv fv p) (b : ∀ k,base <= k -> k < w.heap.size -> w'.heap[k]? = w.heap[k]?) : Par w' base g lv fv p :=
 ⟨(b g h.gb h.lt).trans h.blk,h.line.frame fun k hk => b k (h.line.lt hk).1 (h.line.lt hk).2,h.flds.frame fun k hk => b k (h.flds.lt hk).1 (h.flds.lt hk).2,h.gb,h.gl,h.gf,h.lf⟩
theorem Par.ck {w w' : World} {base g c : Nat} {lv fv : Value} {p : Pz} (h : Par w base g lv fv p) (k : CK w w' c) (hc : c < base) : Par w' base g lv fv p := h.keep fun i h1 h2 => k.block i h2 (by omega)
theorem listen_any {w : World} {c : Nat} {h0 b0 : Int} {st : Value} {bg wt : Bool} {pv rv bv : Value} {wr : Int} (h : ClB w c h0 b0 st bg wt pv rv bv wr) (hd : Nat) (bd : Int) (h1 : 16 <= hd) (h2 : hd <= 65536) :
  Calls Tryz.prog 25 #[.pointer (some ⟨c,0,none⟩),.agg #[.int .i64 (hd : Int),.int .i64 bd]] w fun e w' => e = .returned (.int .i64 0) /\ ∃ g,w.heap.size < g /\ Par w' g g (.slice none 0 0) (.slice none 0 0) (pNew true hd) /\ ClB w' c (hd : Int) bd (stH c) false false (.pointer (some ⟨g,0,none⟩)) (.pointer none) (.slice none 0 0) 0 /\ CK w w' c := by
 have HH := hide h;have hcl := lt_heap h;clear h;have HN := hide (fun W => hnew_any true hd W h1 h2);go_enter Tryz.func25,Tryz.ntmps25
 go_upto_region 1 with fail
 have B0 := hide (Bl.one w #[.int .i64 (hd : Int),.int .i64 bd] 61);generalize (w.alloc (.cells #[.int .i64 (hd : Int),.int .i64 bd] 61)) = w1 at B0 |-
 have e0 : w1.cell? ⟨w.heap.size,0,none⟩ = some (.int .i64 (hd : Int)) := B0.out.cell 0 rfl 0;go_wp2_with fail
 refine (HN.out w1).mono ?_;rintro e w2 ⟨rfl,hp,bb⟩;have HP := hide hp;have B1 := hide (B0.out.below bb);have hw1 : w.heap.size < w1.heap.size := by have := lt_heap (B0.out.hp 0 _ _ rfl);omega
 clear hp bb B0 e0 HN;generalize w1.heap.size = g at *;have e0 : w2.cell? ⟨w.heap.size,0,none⟩ = some (.int .i64 (hd : Int)) := B1.out.cell 0 rfl 0;have e1 : w2.cell? ⟨w.heap.size,1,none⟩ = some (.int .i64 bd) := B1.out.cell 0 rfl 1;have HH2 := hide ((B1.out.b.block c hcl).trans HH.out);obtain ⟨k0,k1,k2,k3,k4,k5,k6,k7,k8⟩ := cl_cells HH2.out;have z := cl_fz HH2.out;obtain ⟨y1,y2⟩ := put9_ok HH2.out (hd : Int) bd .nilFunc false false (.pointer (some ⟨g,0,none⟩)) (.pointer none) (.slice none 0 0) 0;have H3 := hide y1;have K3 := hide ((CK.of_below c B1.out.b).trans y2);have HP3 := hide (HP.out.ck y2 (by omega));clear y1 y2;have z0 := z 0;have z1 := z 1;have z2 := z 2;have z3 := z 3;have z4 := z 4;have z5 := z 5;have z6 := z 6;have z7 := z 7;have z8 := z 8;clear z;unfold put9 at H3 K3 HP3;go_upto_region 3 with fail
 clear k0 k1 k2 k3 k4 k5 k6 k7 k8 z0 z1 z2 z3 z4 z5 z6 z7 z8 e0 e1 HH2 HP;generalize ((((((((w2.setCell ⟨c,0,none⟩ (.int .i64 (hd : Int))).setCell ⟨c,1,none⟩ (.int .i64 bd)).setCell ⟨c,2,none⟩ .nilFunc).setCell ⟨c,3,none⟩ (.bool false)).setCell ⟨c,4,none⟩ (.bool false)).setCell ⟨c,5,none⟩ (.pointer (some ⟨g,0,none⟩))).setCell ⟨c,6,none⟩ (.pointer none)).setCell ⟨c,7,none⟩ (.slice none 0 0)).setCell ⟨c,8,none⟩ (.int .i64 0) = w3 at *;have k2 : w3.cell? ⟨c,2,none⟩ = some .nilFunc := (cl_cells H3.out).2.2.1;have z2 := cl_fz H3.out 2;have H4 : Hid (ClB (w3.setCell ⟨c,2,none⟩ (stH c)) c (hd : Int) bd (stH c) false false (.pointer (some ⟨g,0,none⟩)) (.pointer none) (.slice none 0 0) 0) := hide (hp_set H3.out 2 _);have K4 := hide (K3.out.trans (CK.set w3 c 2 (stH c)));have HP4 := hide (HP3.out.ck (CK.set w3 c 2 (stH c)) (by omega));unfold stH at H4 K4 HP4;go_wp2_with fail
 go_ret
 exact ⟨rfl,g,hw1,HP4.out,H4.out,K4.out⟩
theorem cnew_any (w : World) (hd : Nat) (bd : Int) (h1 : 16 <= hd) (h2 : hd <= 65536) (h3 : 0 <= bd) (h4 : bd <= 1048576) :
  Calls Tryz.prog 8 #[.int .i64 (hd : Int),.int .i64 bd] w fun e w' => e = .returned (.tuple #[.pointer (some ⟨w.heap.size,0,none⟩),.int .i64 0]) /\ ∃ g,w.heap.size < g /\ Par w' g g (.slice none 0 0) (.slice none 0 0) (pNew true hd) /\ ClB w' w.heap.size (hd : Int) bd (stH w.heap.size) false false (.pointer (some ⟨g,0,none⟩)) (.pointer none) (.slice none 0 0) 0 /\ Below w.heap.size w w' := by
 have t1 : ¬ bd < 0 := by omega
 have t2 : ¬ 1048576 < bd := by omega
 have H0 : Hid (ClB (w.alloc (.cells (clC 0 0 .nilFunc false false (.pointer none) (.pointer none) (.slice none 0 0) 0) 66)) w.heap.size 0 0 .nilFunc false false (.pointer none) (.pointer none) (.slice none 0 0) 0) := hide (hp_new w _);have B0 := hide ((Below.refl w.heap.size w).alloc (Nat.le_refl _) (.cells (clC 0 0 .nilFunc false false (.pointer none) (.pointer none) (.slice none 0 0) 0) 66));unfold clC at H0 B0;go_enter Tryz.func8,Tryz.ntmps8
 go_upto_region 4 with fail
 generalize w.alloc _ = w1 at *;have H0 : Hid (ClB w1 w.heap.size 0 0 .nilFunc false false (.pointer none) (.pointer none) (.slice none 0 0) 0) := H0;have HC := hide (listen_any H0.out hd bd h1 h2);have hs : w.heap.size < w1.heap.size := lt_heap H0.out;go_wp2_with fail
 refine HC.out.mono ?_;rintro e w2 ⟨rfl,g,hg,hp,hc,ck⟩;have HE := hide (⟨g,by omega,hp,hc,B0.out.trans (ck.low (Nat.le_refl _) (by omega))⟩ : ∃ g,w.heap.size < g /\ Par w2 g g (.slice none 0 0) (.slice none 0 0) (pNew true hd) /\ ClB w2 w.heap.size (hd : Int) bd (stH w.heap.size) false false (.pointer (some ⟨g,0,none⟩)) (.pointer none) (.slice none 0 0) 0 /\ Below w.heap.size w w2);clear hp hc ck hg HC H0 B0;go_wp2_with fail
 go_ret2
 exact ⟨rfl,HE.out⟩
theorem refuse_any {w : World} {c : Nat} {h0 b0 : Int} {s0 : Value} {g0 w0 : Bool} {p0 r0 v0 : Value} {e0 : Int} (h : ClB w c h0 b0 s0 g0 w0 p0 r0 v0 e0) (n : Int) :
  Calls Tryz.prog 28 #[.pointer (some ⟨c,0,none⟩),.int .i64 n] w fun e w' => e = .returned (.tuple #[]) /\ ClB w' c 0 0 .nilFunc false false (.pointer none) (.pointer none) (.slice none 0 0) n /\ CK w w' c := by
 obtain ⟨k0,k1,k2,k3,k4,k5,k6,k7,k8⟩ := cl_cells h;have z := cl_fz h;have z0 := z 0;have z1 := z 1;have z2 := z 2;have z3 := z 3;have z4 := z 4;have z5 := z 5;have z6 := z 6;have z7 := z 7;have z8 := z 8;have H2 := hide (put9_ok h 0 0 .nilFunc false false (.pointer none) (.pointer none) (.slice none 0 0) n);clear z h;unfold put9 at H2;go_enter Tryz.func28,Tryz.ntmps28
 go_wp2_with fail
 go_end0
 exact ⟨rfl,H2.out⟩
theorem leave_any {w : World} {c : Nat} {h0 b0 : Int} {s0 : Value} {g0 w0 : Bool} {p0 r0 v0 : Value} {e0 : Int} (h : ClB w c h0 b0 s0 g0 w0 p0 r0 v0 e0) :
  Calls Tryz.prog 29 #[.pointer (some ⟨c,0,none⟩)] w fun e w' => e = .returned (.tuple #[]) /\ ClB w' c 0 0 .nilFunc false false (.pointer none) (.pointer none) (.slice none 0 0) 0 /\ CK w w' c := by
 obtain ⟨k0,k1,k2,k3,k4,k5,k6,k7,k8⟩ := cl_cells h;have z := cl_fz h;have z0 := z 0;have z1 := z 1;have z2 := z 2;have z3 := z 3;have z4 := z 4;have z5 := z 5;have z6 := z 6;have z7 := z 7;have z8 := z 8;have H2 := hide (put9_ok h 0 0 .nilFunc false false (.pointer none) (.pointer none) (.slice none 0 0) 0);clear z h;unfold put9 at H2;go_enter Tryz.func29,Tryz.ntmps29
 go_wp2_with fail
 go_end0
 exact ⟨rfl,H2.out⟩
theorem look_whole {w : World} {c : Nat} {hd bd : Int} {fn : Fn} {cs : Array Value} {bg wt : Bool} {pv bv : Value} {wr : Int} {base gr g : Nat} {it ct : TypeId} {t : Tal} {X : List Value} (h : ClB w c hd bd (.func fn cs #[]) bg wt pv (.pointer (some ⟨gr, 0, none⟩)) bv wr) (hr : Rdr w base gr g it ct t X) (hk : KT it) (hw : t.whole = true) :
  Calls Tryz.prog 65 #[.pointer (some ⟨c,0,none⟩),.int .i64 0] w fun e w' => e = .returned (.tuple #[]) /\ ClB w' c hd bd .nilFunc false true pv (.pointer none) bv wr /\ CK w w' c := by
 have HR := hide (wholeR_any hr hk);rw [hw] at HR;have HW := hide (wait_any h);obtain ⟨-,-,-,-,-,-,k6,-,-⟩ := cl_cells h;clear h hr hk hw;go_enter Tryz.func65,Tryz.ntmps65
 go_wp2_with (first | (go_at_call 97;refine HR.out.mono ?_;rintro e w' ⟨rfl,rfl⟩) | (go_at_call 98;refine HW.out.mono ?_;rintro e w1 ⟨rfl,y1,y2⟩))
 go_end0
 exact ⟨rfl,y1,y2⟩
theorem look_part {w : World} {c : Nat} {hd bd : Int} {st : Value} {bg wt : Bool} {pv bv : Value} {wr : Int} {base gr g : Nat} {it ct : TypeId} {t : Tal} {X : List Value} (h : ClB w c hd bd st bg wt pv (.pointer (some ⟨gr, 0, none⟩)) bv wr) (hr : Rdr w base gr g it ct t X) (hk : KT it) (hw : t.whole = false) :
  Calls Tryz.prog 65 #[.pointer (some ⟨c,0,none⟩),.int .i64 0] w fun e w' => e = .returned (.tuple #[]) /\ w = w' := by
 have HR := hide (wholeR_any hr hk);rw [hw] at HR;obtain ⟨-,-,-,-,-,-,k6,-,-⟩ := cl_cells h;clear h hr hk hw;go_enter Tryz.func65,Tryz.ntmps65
 go_wp2_with (go_at_call 97;refine HR.out.mono ?_;rintro e w' ⟨rfl,rfl⟩)
 go_end0
 exact ⟨rfl,rfl⟩
def bodyS (e : Int) : Int := if e = 2 then 413 else 400
theorem look_wrong {w : World} {c : Nat} {hd bd : Int} {st : Value} {bg wt : Bool} {pv rv bv : Value} {wr e : Int} (h : ClB w c hd bd st bg wt pv rv bv wr) (he : e ≠ 0) :
  Calls Tryz.prog 65 #[.pointer (some ⟨c,0,none⟩),.int .i64 e] w fun e' w' => e' = .returned (.tuple #[]) /\ ClB w' c 0 0 .nilFunc false false (.pointer none) (.pointer none) (.slice none 0 0) (bodyS e) /\ CK w w' c := by
 have HF := hide (fun n => refuse_any h n);clear h;unfold bodyS;by_cases h2 : e = 2
 ·subst h2
  rw [if_pos rfl];go_enter Tryz.func65,Tryz.ntmps65
  go_wp2_with (go_at_call 28;refine (HF.out 413).mono ?_;rintro e w1 ⟨rfl,y1,y2⟩)
  go_end0
  exact ⟨rfl,y1,y2⟩
 ·rw [if_neg h2]
  have t2 : (e == 2) = false := by simpa using h2
  have t0 : (e == 0) = false := by simpa using he
  go_enter Tryz.func65,Tryz.ntmps65
  go_wp2_with (go_at_call 28;refine (HF.out 400).mono ?_;rintro e w1 ⟨rfl,y1,y2⟩)
  go_end0
  exact ⟨rfl,y1,y2⟩
theorem bnew_none (b : Bool) (bd : Int) (h0 : 0 <= bd) (hm : bd <= 9007199254740992) (W : World) :
  Calls Tryz.prog 63 #[frV 1 0 b,.int .i64 bd] W fun e w' => ∃ r,e = .returned r /\ ∃ gr g',r = .tuple #[.pointer (some ⟨gr,0,none⟩),.int .i64 0] /\ W.heap.size <= gr /\ W.heap.size <= g' /\ Rdr w' W.heap.size gr g' 213 215 ⟨0,true,0⟩ [] /\ Below W.heap.size W w' := by
 refine (new_of (it := 213) (ct := 215) (t := ⟨0,true,0⟩) (X := []) (k := 1) (len := 0) (x := b) (most := bd) (w := W) (.inr (.inr (.inr rfl))) h0 hm (by decide) h0 (fun V => framed_none 0 b bd V)).mono ?_;rintro e w' ⟨gr,g,rfl,a1,a2,a3,a4,-⟩;obtain ⟨g',b1,b2⟩ := a4 rfl;exact ⟨_,rfl,gr,g',rfl,a1,b1,b2,a3⟩
theorem Rdr.ck {w w' : World} {base gr g c : Nat} {it ct : TypeId} {t : Tal} {X : List Value} (h : Rdr w base gr g it ct t X) (k : CK w w' c) (h1 : gr ≠ c) (h2 : g ≠ c) : Rdr w' base gr g it ct t X :=
 ⟨(k.block gr (lt_heap' h.rd) h1).trans h.rd,(k.block g (lt_heap' h.fr) h2).trans h.fr,h.ne,h.rb,h.fb⟩
theorem begin_none {w : World} {c : Nat} {hd bd : Int} {bg wt : Bool} {rv bv : Value} {wr : Int} {base g : Nat} {lv fv : Value} {p : Pz} {b : Bool} (h : ClB w c hd bd (stH c) bg wt (.pointer (some ⟨g, 0, none⟩)) rv bv wr) (hp : Par w base g lv fv p) (hw : p.whole = true) (hz : Sz p) (hf : Fit p) (hq : reqO p.fs p.req (p.minor : Int) = ⟨1, 0, b, 0⟩) (hS : Sm p.fs) (h0 : 0 <= bd) (hm : bd <= 9007199254740992) :
  Calls Tryz.prog 47 #[.pointer (some ⟨c,0,none⟩)] w fun e w' => e = .returned (.tuple #[]) /\ ClB w' c hd bd .nilFunc false true (.pointer (some ⟨g,0,none⟩)) (.pointer none) bv wr /\ CK w w' c := by
 have HH := hide h;have HD := hide (head_whole hp hw hz hf);have HQ := hide (fun W l (hl : Flds W l p.fs) => req_any W p.req p.me p.ta (p.minor : Int) (p.status : Int) p.re l p.fs hl hS);rw [hq] at HQ;unfold hdC foV frVg at HQ;unfold hdV at HD;have HN := hide (fun W => bnew_none b bd h0 hm W);unfold frV at HN;obtain ⟨-,-,-,-,-,k5,-,-,-⟩ := cl_cells h;have hcl : c < w.heap.size := lt_heap h;clear h hp hw hz hf hq hS;go_enter Tryz.func47,Tryz.ntmps47
 go_wp2_with (go_at_call 34;refine HD.out.mono ?_;rintro e w1 ⟨l,rfl,hl,bb⟩;have HL := hide (HQ.out w1 l (Flds.of_row hl));have B1 := hide bb;have hll := hl.shape)
 refine HL.out.mono ?_;rintro e w2 ⟨rfl,b2⟩;have B2 := hide (B1.out.trans (b2.mono B1.out.size));clear b2 HL B1 HD HQ k5 bb hl hll;have B3 := hide (B2.out.alloc B2.out.size (.cells #[.int .i64 1,.int .i64 0,.bool b] 83));have F3 := hide (hp_new w2 (.cells #[.int .i64 1,.int .i64 0,.bool b] 83));go_upto_region 3 with fail
 clear B2;generalize w2.alloc _ = w3 at *;generalize w2.heap.size = ff at *;have H3 := hide ((B3.out.block c hcl).trans HH.out);have f0 : w3.cell? ⟨ff,0,none⟩ = some (.int .i64 1) := cell_at F3.out 0;have f1 : w3.cell? ⟨ff,1,none⟩ = some (.int .i64 0) := cell_at F3.out 1;have f2 : w3.cell? ⟨ff,2,none⟩ = some (.bool b) := cell_at F3.out 2;obtain ⟨k0,k1,k2,k3,k4,k5,k6,k7,k8⟩ := cl_cells H3.out;have hc3 : c < w3.heap.size := lt_heap H3.out;clear k2 k3 k4 k5 k6 k7 k8;go_region_law (refine step_callg rfl 63 _ _ rfl (enters_of Tryz.func63 (by kernel_rfl) rfl) #[.agg #[.int .i64 1,.int .i64 0,.bool b],.int .i64 bd] (by simp [Act.eval]) _ (HN.out _) ?_;rintro v y ⟨gr,g',rfl,y1,y2,y3,y4⟩;have HY : Hid (ClB y c hd bd (stH c) bg wt (.pointer (some ⟨g,0,none⟩)) rv bv wr) := hide ((y4.block c hc3).trans H3.out);have HRD := hide y3;have HBY : Hid (Below w.heap.size w y) := hide (by first | exact B3.out.trans (y4.mono B3.out.size) | exact B3.out.drew.trans (y4.mono B3.out.size));have gc : gr ≠ c := (fun e => absurd (e ▸ y1) (Nat.not_le_of_lt hc3));have gc' : g' ≠ c := (fun e => absurd (e ▸ y2) (Nat.not_le_of_lt hc3));have q6 := (cl_cells HY.out).2.2.2.2.2.2.1;have qz := cl_fz HY.out 6;clear y1 y2 y3 y4)
 all_goals
  have H4 : Hid (ClB (y.setCell ⟨c,6,none⟩ (.pointer (some ⟨gr,0,none⟩))) c hd bd (stH c) bg wt (.pointer (some ⟨g,0,none⟩)) (.pointer (some ⟨gr,0,none⟩)) bv wr) := hide (hp_set HY.out 6 _);have K4 := hide ((CK.of_below c HBY.out).trans (CK.set y c 6 (.pointer (some ⟨gr,0,none⟩))));have R4 := hide (HRD.out.ck (CK.set y c 6 (.pointer (some ⟨gr,0,none⟩))) gc gc');go_upto_region 4 with fail
  clear q6 qz HY HBY HRD f0 f1 f2 k0 k1 H3 F3 B3;generalize y.setCell ⟨c,6,none⟩ (.pointer (some ⟨gr,0,none⟩)) = y2 at *;have q2 := (cl_cells H4.out).2.2.1;have qz := cl_fz H4.out 2;have H5 : Hid (ClB (y2.setCell ⟨c,2,none⟩ (stB c)) c hd bd (stB c) bg wt (.pointer (some ⟨g,0,none⟩)) (.pointer (some ⟨gr,0,none⟩)) bv wr) := hide (hp_set H4.out 2 _);have K5 := hide (K4.out.trans (CK.set y2 c 2 (stB c)));have R5 := hide (R4.out.ck (CK.set y2 c 2 (stB c)) gc gc');unfold stH at q2;unfold stB at H5 K5 R5;go_upto_region 5 with fail
  clear q2 qz H4 K4 R4;generalize y2.setCell ⟨c,2,none⟩ _ = y3 at *;have HL := hide (look_whole H5.out R5.out (.inr (.inr (.inr rfl))) rfl);have HK5 := K5;clear R5 K5;go_wp2_with fail
  refine HL.out.mono ?_;rintro e y4 ⟨rfl,z1,z2⟩;have HZ := hide z1;have HZ2 := hide (HK5.out.trans z2);clear z1 z2 HL HK5 H5;go_wp2_with fail
  go_end0
  exact ⟨rfl,HZ.out,HZ2.out⟩
theorem PKh.low {w w' : World} {base g B : Nat} {lv fv lv' fv' : Value} {p : Pz} (k : PKh w w' g lv fv lv' fv') (hp : Par w base g lv fv p) (h1 : B <= base) (h2 : B <= w.heap.size) : Below B w w' :=
 ⟨k.os,k.tape,k.output,k.size,fun i hi => k.block i (by omega) (by have := hp.gb;omega) (fun e => by have := (hp.line.lt e).1;omega) (fun e => by have := (hp.flds.lt e).1;omega)⟩
theorem readHead_part {w : World} {c : Nat} {hd bd : Int} {st : Value} {bg wt : Bool} {rv bv : Value} {wr : Int} {base g : Nat} {lv fv : Value} {p p' : Pz} {n : Nat} (h : ClB w c hd bd st bg wt (.pointer (some ⟨g, 0, none⟩)) rv bv wr) (hp : Par w base g lv fv p) (hf : Fit p) (hm : MX w) (he : ET w) (hb : 3 <= base) (hc : c < base) (v : Value) (l : List UInt8) (hv : Bf w (Ap g lv fv) v l) (hl : l.length <= 140737488355328) (hF : pFeed p l = (n, false, 0, p')) :
  Calls Tryz.prog 37 #[.pointer (some ⟨c,0,none⟩),v] w fun e w' => e = .returned (.int .i64 (n : Int)) /\ ClB w' c hd bd st bg wt (.pointer (some ⟨g,0,none⟩)) rv bv wr /\ ∃ lv' fv',Par w' base g lv' fv' p' /\ PKh w w' g lv fv lv' fv' := by
 have HF := hide (hfeed_any hp hf hm he hb v l hv hl);rw [hF] at HF;unfold fdV at HF;dsimp only at HF;obtain ⟨-,-,-,-,-,k5,-,-,-⟩ := cl_cells h;have HH := hide h;have hcl : c < w.heap.size := lt_heap h;have HC : Hid (∀ w' lv' fv',PKh w w' g lv fv lv' fv' -> w'.heap[c]? = w.heap[c]?) := hide (fun w' lv' fv' k => k.block c hcl (by have := hp.gb;omega) (fun e => by have := (hp.line.lt e).1;omega) (fun e => by have := (hp.flds.lt e).1;omega));clear h hp hf hm he hv hF;go_enter Tryz.func37,Tryz.ntmps37
 go_wp2_with (go_at_call 46;refine HF.out.mono ?_;rintro e w1 ⟨rfl,lv',fv',y1,y2⟩)
 go_ret
 exact ⟨rfl,(HC.out _ _ _ y2).trans HH.out,lv',fv',y1,y2⟩
theorem readHead_none {w : World} {c : Nat} {hd bd : Int} {bg wt : Bool} {rv bv : Value} {wr : Int} {base g : Nat} {lv fv : Value} {p p' : Pz} {n : Nat} {b : Bool} (h : ClB w c hd bd (stH c) bg wt (.pointer (some ⟨g, 0, none⟩)) rv bv wr) (hp : Par w base g lv fv p) (hf : Fit p) (hz : Sz p) (hm : MX w) (he : ET w) (hb : 3 <= base) (hc : c < base) (v : Value) (l : List UInt8) (hv : Bf w (Ap g lv fv) v l) (hl : l.length <= 140737488355328) (hF : pFeed p l = (n, true, 0, p')) (hw : p'.whole = true)
  (hq : reqO p'.fs p'.req (p'.minor : Int) = ⟨1,0,b,0⟩) (hS : Sm p'.fs) (h0 : 0 <= bd) (h9 : bd <= 9007199254740992) :
  Calls Tryz.prog 37 #[.pointer (some ⟨c,0,none⟩),v] w fun e w' => e = .returned (.int .i64 (n : Int)) /\ ClB w' c hd bd .nilFunc false true (.pointer (some ⟨g,0,none⟩)) (.pointer none) bv wr /\ (∃ lv' fv',Par w' base g lv' fv' p') /\ Below c w w' := by
 have HF := hide (hfeed_any hp hf hm he hb v l hv hl);have hf2 := hf.feed l;have hz2 := hz.feed hf l;rw [hF] at HF hf2 hz2;dsimp only at hf2 hz2;unfold fdV at HF;dsimp only at HF;obtain ⟨-,-,-,-,-,k5,-,-,-⟩ := cl_cells h;have HH := hide h;have hcl : c < w.heap.size := lt_heap h;have HC : Hid (∀ w' lv' fv',PKh w w' g lv fv lv' fv' -> w'.heap[c]? = w.heap[c]? /\ Below c w w') := hide (fun w' lv' fv' k => ⟨k.block c hcl (by have := hp.gb;omega) (fun e => by have := (hp.line.lt e).1;omega) (fun e => by have := (hp.flds.lt e).1;omega),k.low hp (by omega) (by omega)⟩);have HB : Hid (∀ (w1 : World) (lv' fv' : Value),Par w1 base g lv' fv' p' -> ClB w1 c hd bd (stH c) bg wt (.pointer (some ⟨g,0,none⟩)) rv bv wr -> Calls Tryz.prog 47 #[.pointer (some ⟨c,0,none⟩)] w1 fun e w' => e = .returned (.tuple #[]) /\ ClB w' c hd bd .nilFunc false true (.pointer (some ⟨g,0,none⟩)) (.pointer none) bv wr /\ CK w1 w' c) := hide (fun w1 lv' fv' y1 y2 => begin_none y2 y1 hw hz2 hf2 hq hS h0 h9);clear h hp hf hm he hv hF hf2 hz2 hz hw hq hS;go_enter Tryz.func37,Tryz.ntmps37
 go_wp2_with (go_at_call 46;refine HF.out.mono ?_;rintro e w1 ⟨rfl,lv',fv',y1,y2⟩;have HY := hide y1;have HX := hide (HB.out w1 lv' fv' y1 ((HC.out _ _ _ y2).1.trans HH.out));have HL := hide (HC.out _ _ _ y2).2;have hs1 := y2.size;clear y1 y2)
 refine HX.out.mono ?_;rintro e w2 ⟨rfl,z1,z2⟩;have HZ := hide z1;have HZ2 := hide (⟨lv',fv',HY.out.ck z2 hc⟩ : ∃ lv' fv',Par w2 base g lv' fv' p');have HZ3 := hide (HL.out.trans (z2.low (Nat.le_refl _) (by omega)));clear z1 z2 HX HL HY;go_wp2_with fail
 go_ret
 exact ⟨rfl,HZ.out,HZ2.out,HZ3.out⟩
theorem ne_fun (fn : Nat) (c : Nat) (w : World) : (binOp BinOp.neq 62 (.func (.func fn) #[.pointer (some ⟨c,0,none⟩)] #[]) .nilFunc).run Tryz.prog w = .ok (.bool true) w := by kernel_rfl
theorem eq_fun (fn : Nat) (c : Nat) (w : World) : (binOp BinOp.eql 62 (.func (.func fn) #[.pointer (some ⟨c,0,none⟩)] #[]) .nilFunc).run Tryz.prog w = .ok (.bool false) w := by kernel_rfl
theorem ne_nil (w : World) : (binOp BinOp.neq 62 .nilFunc .nilFunc).run Tryz.prog w = .ok (.bool false) w := by kernel_rfl
theorem eq_nil (w : World) : (binOp BinOp.eql 62 .nilFunc .nilFunc).run Tryz.prog w = .ok (.bool true) w := by kernel_rfl
theorem answered_keep {w : World} {c : Nat} {st : Value} {bg : Bool} {pv rv bv : Value} {wr : Int} {hd : Nat} {bd : Int} (h : ClB w c (hd : Int) bd st bg true pv rv bv wr) (h1 : 16 <= hd) (h2 : hd <= 65536) :
  Calls Tryz.prog 15 #[.pointer (some ⟨c,0,none⟩),.bool true] w fun e w' => e = .returned (.int .i64 0) /\ ∃ g,w.heap.size < g /\ Par w' g g (.slice none 0 0) (.slice none 0 0) (pNew true hd) /\ ClB w' c (hd : Int) bd (stH c) false false (.pointer (some ⟨g,0,none⟩)) (.pointer none) (.slice none 0 0) 0 /\ CK w w' c := by
 have HL := hide (listen_any h hd bd h1 h2);obtain ⟨k0,k1,-,-,k4,-,-,-,-⟩ := cl_cells h;clear h;go_enter Tryz.func15,Tryz.ntmps15
 go_wp2_with (go_at_call 25;refine HL.out.mono ?_;rintro e w1 ⟨rfl,y⟩)
 go_ret
 exact ⟨rfl,y⟩
theorem answered_no {w : World} {c : Nat} {hd bd : Int} {st : Value} {bg : Bool} {pv rv bv : Value} {wr : Int} (h : ClB w c hd bd st bg false pv rv bv wr) (keep : Bool) :
  Calls Tryz.prog 15 #[.pointer (some ⟨c,0,none⟩),.bool keep] w fun e w' => e = .returned (.int .i64 7) /\ w = w' := by
 obtain ⟨-,-,-,-,k4,-,-,-,-⟩ := cl_cells h;clear h;go_enter Tryz.func15,Tryz.ntmps15
 go_wp2
 go_ret
 exact ⟨rfl,rfl⟩
section
variable {w : World} {c : Nat} {hd bd : Int} {st : Value} {bg wt : Bool} {pv rv bv : Value} {wr : Int}
theorem wrong_any (h : ClB w c hd bd st bg wt pv rv bv wr) : Calls Tryz.prog 22 #[.pointer (some ⟨c,0,none⟩)] w fun e w' => e = .returned (.int .i64 wr) /\ w = w' := by
 obtain ⟨-,-,-,-,-,-,-,-,k8⟩ := cl_cells h;clear h;go_enter Tryz.func22,Tryz.ntmps22
 go_wp2
 go_ret
 exact ⟨rfl,rfl⟩
theorem begun_cl (h : ClB w c hd bd st bg wt pv rv bv wr) : Calls Tryz.prog 24 #[.pointer (some ⟨c,0,none⟩)] w fun e w' => e = .returned (.bool bg) /\ w = w' := by
 obtain ⟨-,-,-,k3,-,-,-,-,-⟩ := cl_cells h;clear h;go_enter Tryz.func24,Tryz.ntmps24
 go_wp2
 go_ret
 exact ⟨rfl,rfl⟩
theorem shut_open {fn : Nat} (h : ClB w c hd bd (.func (.func fn) #[.pointer (some ⟨c,0,none⟩)] #[]) bg wt pv rv bv wr) : Calls Tryz.prog 23 #[.pointer (some ⟨c,0,none⟩)] w fun e w' => e = .returned (.bool false) /\ w = w' := by
 obtain ⟨-,-,k2,-,-,-,-,-,-⟩ := cl_cells h;have E := eq_fun fn c;clear h;go_enter Tryz.func23,Tryz.ntmps23
 go_wp2
 go_ret
 exact ⟨rfl,rfl⟩
theorem shut_nil' (h : ClB w c hd bd .nilFunc bg wt pv rv bv wr) : Calls Tryz.prog 23 #[.pointer (some ⟨c,0,none⟩)] w fun e w' => e = .returned (.bool (!wt)) /\ w = w' := by
 obtain ⟨-,-,k2,-,k4,-,-,-,-⟩ := cl_cells h;have E := eq_nil;clear h;cases wt
 all_goals
  go_enter Tryz.func23,Tryz.ntmps23
  go_wp2
  go_ret
  exact ⟨rfl,rfl⟩
end
theorem app_nil (W : World) (ty : TypeId) : (Builtin.append_ #[31,31] ty #[.slice none 0 0,.slice none 0 0]).run Tryz.prog W = .ok (.slice none 0 0) W := by kernel_rfl
def hdA (r : Bool) (me ta : ByteArray) (mi st : Int) (re : ByteArray) (l : Value) : Array Value := #[.bool r,.string me,.string ta,.int .i64 mi,.int .i64 st,.string re,l]
def put7 (w : World) (b : Nat) (r : Bool) (me ta : ByteArray) (mi st : Int) (re : ByteArray) (l : Value) : World :=
 ((((((w.setCell ⟨b,0,none⟩ (.bool r)).setCell ⟨b,1,none⟩ (.string me)).setCell ⟨b,2,none⟩ (.string ta)).setCell ⟨b,3,none⟩ (.int .i64 mi)).setCell ⟨b,4,none⟩ (.int .i64 st)).setCell ⟨b,5,none⟩ (.string re)).setCell ⟨b,6,none⟩ l
theorem put7_ok {w : World} {b : Nat} {r0 : Bool} {m0 t0 : ByteArray} {i0 s0 : Int} {e0 : ByteArray} {l0 : Value} (h : w.heap[b]? = some (.cells (hdA r0 m0 t0 i0 s0 e0 l0) 45 (0,0))) (r : Bool) (me ta : ByteArray) (mi st : Int) (re : ByteArray) (l : Value) : (put7 w b r me ta mi st re l).heap[b]? = some (.cells (hdA r me ta mi st re l) 45 (0,0)) /\ CK w (put7 w b r me ta mi st re l) b := by
 have a0 : (_ : World).heap[b]? = some (.cells (hdA r m0 t0 i0 s0 e0 l0) 45 (0,0)) := hp_set h 0 (.bool r);have a1 : (_ : World).heap[b]? = some (.cells (hdA r me t0 i0 s0 e0 l0) 45 (0,0)) := hp_set a0 1 (.string me);have a2 : (_ : World).heap[b]? = some (.cells (hdA r me ta i0 s0 e0 l0) 45 (0,0)) := hp_set a1 2 (.string ta);have a3 : (_ : World).heap[b]? = some (.cells (hdA r me ta mi s0 e0 l0) 45 (0,0)) := hp_set a2 3 (.int .i64 mi);have a4 : (_ : World).heap[b]? = some (.cells (hdA r me ta mi st e0 l0) 45 (0,0)) := hp_set a3 4 (.int .i64 st);have a5 : (_ : World).heap[b]? = some (.cells (hdA r me ta mi st re l0) 45 (0,0)) := hp_set a4 5 (.string re);have a6 : (_ : World).heap[b]? = some (.cells (hdA r me ta mi st re l) 45 (0,0)) := hp_set a5 6 l;exact ⟨a6,((((((CK.set w b 0 _).trans (CK.set _ b 1 _)).trans (CK.set _ b 2 _)).trans (CK.set _ b 3 _)).trans (CK.set _ b 4 _)).trans (CK.set _ b 5 _)).trans (CK.set _ b 6 _)⟩
theorem hd_cells {w : World} {b : Nat} {r : Bool} {me ta : ByteArray} {mi st : Int} {re : ByteArray} {l : Value} (h : w.heap[b]? = some (.cells (hdA r me ta mi st re l) 45 (0,0))) : w.cell? ⟨b,0,none⟩ = some (.bool r) /\ w.cell? ⟨b,1,none⟩ = some (.string me) /\ w.cell? ⟨b,2,none⟩ = some (.string ta) /\ w.cell? ⟨b,3,none⟩ = some (.int .i64 mi) /\ w.cell? ⟨b,4,none⟩ = some (.int .i64 st) /\ w.cell? ⟨b,5,none⟩ = some (.string re) /\ w.cell? ⟨b,6,none⟩ = some l :=
 ⟨cell_at h 0,cell_at h 1,cell_at h 2,cell_at h 3,cell_at h 4,cell_at h 5,cell_at h 6⟩
theorem request_bare {w : World} {c : Nat} {hd bd : Int} {st : Value} {bg : Bool} {rv : Value} {wr : Int} {base g : Nat} {lv fv : Value} {p : Pz} (h : ClB w c hd bd st bg true (.pointer (some ⟨g, 0, none⟩)) rv (.slice none 0 0) wr) (hp : Par w base g lv fv p) (hw : p.whole = true) (hz : Sz p) (hf : Fit p) :
  Calls Tryz.prog 20 #[.pointer (some ⟨c,0,none⟩)] w fun e w' => ∃ l,e = .returned (.tuple #[hdV p l,.slice none 0 0,.bool true]) /\ Flds w' l p.fs /\ Below w.heap.size w w' := by
 have HH := hide h;have HD := hide (fun W (b : Below w.heap.size w W) => head_whole (hp.below b) hw hz hf);unfold hdV at HD |-
 have hcl : c < w.heap.size := lt_heap h;clear h hp hw hz hf;have B0 := hide ((Below.refl w.heap.size w).alloc (Nat.le_refl _) (.cells #[.bool false,.string ⟨#[]⟩,.string ⟨#[]⟩,.int .i64 0,.int .i64 0,.string ⟨#[]⟩,.slice none 0 0] 45));have F0 := hide (hp_new w (.cells #[.bool false,.string ⟨#[]⟩,.string ⟨#[]⟩,.int .i64 0,.int .i64 0,.string ⟨#[]⟩,.slice none 0 0] 45));have H0 := hide ((B0.out.block c hcl).trans HH.out);obtain ⟨-,-,-,-,k4,-,-,-,-⟩ := cl_cells HH.out;go_enter Tryz.func20,Tryz.ntmps20
 go_upto_region 1 with fail
 clear k4;generalize w.alloc _ = w1 at *;obtain ⟨-,-,-,-,k4,k5,-,k7,-⟩ := cl_cells H0.out;go_upto_region 3 with fail
 have HA := app_nil;have hcl1 : c < w1.heap.size := lt_heap H0.out;have hbl1 : w.heap.size < w1.heap.size := lt_heap F0.out;have HD2 : Hid (Calls Tryz.prog 34 #[.pointer (some ⟨g,0,none⟩)] w1.drew fun e w' => ∃ r,e = .returned r /\ ∃ l,r = .agg #[.bool p.req,.string p.me,.string p.ta,.int .i64 (p.minor : Int),.int .i64 (p.status : Int),.string p.re,l] /\ FRow w' w1.drew.heap.size l p.fs /\ Below w1.drew.heap.size w1.drew w') := hide ((HD.out w1.drew B0.out.drew).mono (fun e w' ⟨l,a1,a2,a3⟩ => ⟨_,a1,l,rfl,a2,a3⟩))
 have HAF : Hid (∀ (y : World) (l : Value),FRow y w1.drew.heap.size l p.fs -> Below w1.drew.heap.size w1.drew y -> ClB y c hd bd st bg true (.pointer (some ⟨g,0,none⟩)) rv (.slice none 0 0) wr /\ y.heap[w.heap.size]? = some (.cells (hdA false ⟨#[]⟩ ⟨#[]⟩ 0 0 ⟨#[]⟩ (.slice none 0 0)) 45 (0,0)) /\ Below w.heap.size w y /\ (∃ a n k,l = .slice a n k) /\ Flds (put7 y w.heap.size p.req p.me p.ta (p.minor : Int) (p.status : Int) p.re l) l p.fs) := hide (fun y l y1 y2 => by
  have hF : y.heap[w.heap.size]? = some (.cells (hdA false ⟨#[]⟩ ⟨#[]⟩ 0 0 ⟨#[]⟩ (.slice none 0 0)) 45 (0,0)) := (y2.block w.heap.size hbl1).trans F0.out;refine ⟨(y2.block c hcl1).trans H0.out,hF,B0.out.drew.trans (y2.mono B0.out.size),?_,?_⟩
  ·obtain ⟨a, k, e, -⟩ := y1.shape
   exact ⟨a,_,k,e⟩
  ·have ck := (put7_ok hF p.req p.me p.ta (p.minor : Int) (p.status : Int) p.re l).2
   refine Flds.of_row (base := w1.drew.heap.size) (y1.frame fun k hk => ck.block k (y1.lt hk).2 (fun e => ?_));have := (y1.lt hk).1;rw [e] at this;exact absurd this (Nat.not_le_of_lt hbl1))
 clear HD
 go_region_law (first
  | (refine step_callg rfl 34 _ _ rfl (enters_of Tryz.func34 (by kernel_rfl) rfl) #[.pointer (some ⟨g,0,none⟩)] (by simp [Act.eval]) _ HD2.out ?_;rintro v y ⟨l,rfl,y1,y2⟩;obtain ⟨aa1,aa2,aa3,⟨la,ln,lk,rfl⟩,aa5⟩ := HAF.out y l y1 y2;have HY := hide aa1;have FY := hide aa2;have HBY := hide aa3;have HFL := hide aa5;have q7 := (cl_cells aa1).2.2.2.2.2.2.2.1;obtain ⟨r0,r1,r2,r3,r4,r5,r6⟩ := hd_cells aa2;have rz := (fun i => (by rw [frozen_at aa2];simp : y.frozen? ⟨w.heap.size,i,none⟩ = false));have rz0 := rz 0;have rz1 := rz 1;have rz2 := rz 2;have rz3 := rz 3;have rz4 := rz 4;have rz5 := rz 5;have rz6 := rz 6;clear y1 y2 rz aa1 aa2 aa3 aa5)
  | (refine step_append_is rfl _ _ 31 rfl (.slice none 0 0) (.slice none 0 0) _ (by simp [Act.eval]) (by simp [Act.eval]) (HA _ _) ?_))
 all_goals
  have P7 := hide (put7_ok FY.out p.req p.me p.ta (p.minor : Int) (p.status : Int) p.re (.slice la ln lk));have BP := hide (HBY.out.trans (P7.out.2.low (Nat.le_refl _) HBY.out.size));unfold put7 at P7 BP HFL;clear r0 r1 r2 r3 r4 r5 r6 rz0 rz1 rz2 rz3 rz4 rz5 rz6 q7 k4 k5 k7 HY FY HBY HD2 HAF HA;generalize ((((((y.setCell ⟨w.heap.size,0,none⟩ (.bool p.req)).setCell ⟨w.heap.size,1,none⟩ (.string p.me)).setCell ⟨w.heap.size,2,none⟩ (.string p.ta)).setCell ⟨w.heap.size,3,none⟩ (.int .i64 (p.minor : Int))).setCell ⟨w.heap.size,4,none⟩ (.int .i64 (p.status : Int))).setCell ⟨w.heap.size,5,none⟩ (.string p.re)).setCell ⟨w.heap.size,6,none⟩ (.slice la ln lk) = y9 at *;obtain ⟨s0,s1,s2,s3,s4,s5,s6⟩ := hd_cells P7.out.1;go_wp2
  exact bodyPost_ret (v := .tuple #[.agg #[.bool p.req,.string p.me,.string p.ta,.int .i64 (p.minor : Int),.int .i64 (p.status : Int),.string p.re,.slice la ln lk],.slice none 0 0,.bool true]) (by simp [results,Tryz.results20,go_sem,s0,s1,s2,s3,s4,s5,s6]) rfl ⟨_,rfl,HFL.out,BP.out⟩
theorem step_callv {P : Program} {ops : Array Oper} {o : Oper} {a : Act} {w : World} {K : Act -> World -> Prop} {Q : Exit -> Act -> World -> Prop} {E : Prop}
  (hw : Region.wanted o (yielded ops a.tmps) = true) (x : Operand) (xs : Array Operand) (ts : Array TypeId) (hop : o.op = Op.call { callee := Callee.value x,args := xs,argTypes := ts }) (f : Nat) (r0 : Value) (hf : a.eval x = .func (.func f) #[r0] #[]) (he : ∀ args w,(callFunc f args).run P w = .ok (.enter f args) w) (v : Value) (hx : xs.map a.eval = #[v])
  (R : Value -> World -> Prop) (C : Calls P f #[r0,v] w fun e w' => ∃ r,e = .returned r /\ R r w') (hK : ∀ r w',R r w' -> K (a.put o.dst r) w') : if Region.wanted o (yielded ops a.tmps) = true then Oper.wp P o a w K Q else E := by
 rw [if_pos hw]
 have hr : (execOp a.eval o).run P w = .ok (.enter f #[r0,v]) w := by
  simp [execOp,hop,resolve,invoke,Deferred.ofValue,hx,hf,he]
 unfold Oper.wp;rw [hr];refine C.mono ?_;rintro e w' ⟨r,rfl,h⟩;exact hK r w' h
theorem cell_blk {w w' : World} {b o : Nat} (e : w'.heap[b]? = w.heap[b]?) : w'.cell? ⟨b,o,none⟩ = w.cell? ⟨b,o,none⟩ := by
 unfold World.cell?;rw [show (⟨b,o,none⟩ : Addr).block = b from rfl,e]
theorem MX.of {w w' : World} (h : MX w) (e : w'.heap[2]? = w.heap[2]?) (s : w.heap.size <= w'.heap.size) : MX w' := by
 obtain ⟨h0,m,hm⟩ := h;exact ⟨Nat.lt_of_lt_of_le h0 s,m,(cell_blk e).trans hm⟩
theorem ET.of {w w' : World} (h : ET w) (e : w'.heap[0]? = w.heap[0]?) : ET w' := (cell_blk e).trans h
theorem bf_blk {W : World} {A : Nat -> Prop} {bk : Nat} {cs : Array Value} {fr : Nat × Nat} {l : List UInt8} (h : W.heap[bk]? = some (.cells cs 5 fr)) (hc : cs.toList = l.map fun x => Value.int .u8 (x.toNat : Int)) (hA : A bk) : Bf W A (.slice (some ⟨bk,0,none⟩) l.length l.length) l := by
 refine ⟨_,_,rfl,Nat.le_refl _,fun j hj => ⟨bk,0,rfl,hA,lt_heap h,?_⟩⟩;rw [cell_at h,Nat.zero_add,<- Array.getElem?_toList,hc,List.getElem?_map,List.getElem?_eq_getElem hj];rfl
theorem cread_none {w : World} {c : Nat} {hd bd : Int} {bg : Bool} {rv bv : Value} {wr : Int} {base g : Nat} {lv fv : Value} {p p' : Pz} {n : Nat} {b : Bool} (h : ClB w c hd bd (stH c) bg false (.pointer (some ⟨g, 0, none⟩)) rv bv wr) (hp : Par w base g lv fv p) (hf : Fit p) (hz : Sz p) (hm : MX w) (he : ET w) (h3 : 3 <= c) (hc : c < base) (bk : Nat) (cs : Array Value) (fr : Nat × Nat) (l : List UInt8) (hb : w.heap[bk]? = some (.cells cs 5 fr)) (hcs : cs.toList = l.map fun x => Value.int .u8 (x.toNat : Int)) (hA : Ap g lv fv bk) (hbc : bk ≠ c) (m : Nat) (hlm : l.length = m) (hm0 : 0 < m) (hl : m <= 140737488355328) (hn : n <= m) (hF : pFeed p l = (n, true, 0, p')) (hw : p'.whole = true)
  (hq : reqO p'.fs p'.req (p'.minor : Int) = ⟨1,0,b,0⟩) (hS : Sm p'.fs) (h0 : 0 <= bd) (h9 : bd <= 9007199254740992) :
  Calls Tryz.prog 11 #[.pointer (some ⟨c,0,none⟩),.slice (some ⟨bk,0,none⟩) m m] w fun e w' => e = .returned (.tuple #[.int .i64 (n : Int),.bool true]) /\ ClB w' c hd bd .nilFunc false true (.pointer (some ⟨g,0,none⟩)) (.pointer none) bv wr /\ (∃ lv' fv',Par w' base g lv' fv' p') /\ Below c w w' := by
 subst hlm;have H1 : Hid (ClB (w.setCell ⟨c,3,none⟩ (.bool true)) c hd bd (stH c) true false (.pointer (some ⟨g,0,none⟩)) rv bv wr) := hide (hp_set h 3 _);have K1 := hide (CK.set w c 3 (.bool true));have hcl : c < w.heap.size := lt_heap h
 have HR : Hid (∀ W : World,W.heap = (w.setCell ⟨c,3,none⟩ (.bool true)).heap -> Calls Tryz.prog 37 #[.pointer (some ⟨c,0,none⟩),.slice (some ⟨bk,0,none⟩) l.length l.length] W fun e w' => ∃ r,e = .returned r /\ r = .int .i64 (n : Int) /\ ClB w' c hd bd .nilFunc false true (.pointer (some ⟨g,0,none⟩)) (.pointer none) bv wr /\ (∃ lv' fv',Par w' base g lv' fv' p') /\ Below c W w') := hide (fun W hW => by
  have ck : ∀ k,k < w.heap.size -> k ≠ c -> W.heap[k]? = w.heap[k]? := fun k hk hkc => by rw [hW];exact K1.out.block k hk hkc
  have hs : w.heap.size <= W.heap.size := by rw [hW];exact K1.out.size
  refine (readHead_none (w := W) (bg := true) (wt := false) (rv := rv) (wr := wr) (by show W.heap[c]? = _;rw [hW];exact H1.out) (hp.keep fun k a1 a2 => ck k a2 (by omega)) hf hz (hm.of (ck _ hm.1 (by omega)) hs) (he.of (ck 0 he.lt (by omega))) (by omega) hc _ l (bf_blk ((ck bk (lt_heap hb) hbc).trans hb) hcs hA) hl hF hw hq hS h0 h9).mono ?_;rintro e w' ⟨rfl,y1,y2,y3⟩;exact ⟨_,rfl,rfl,y1,y2,y3⟩)
 obtain ⟨-,-,k2,k3,-,-,-,-,-⟩ := cl_cells h;have z3 := cl_fz h 3;clear h hp hf hz hm he hb hcs hA hF hw hq hS;generalize l.length = m at *;have E1 := ne_fun 37 c;have E2 := ne_nil;unfold stH at k2;have hmi : (0 : Int) < (m : Int) := by omega
 go_enter Tryz.func11,Tryz.ntmps11
 go_wp2_with fail
 refine wp_loop_rounds 2 ?_;rw [rounds_succ];go_upto_region 6 with fail
 clear k2 k3 z3;generalize w.setCell ⟨c,3,none⟩ (.bool true) = w1 at *;have k2 : w1.cell? ⟨c,2,none⟩ = some (.func (.func 37) #[.pointer (some ⟨c,0,none⟩)] #[]) := (cl_cells H1.out).2.2.1;have HR1 := hide (HR.out w1.drew rfl);have HB1 : Hid (Below c w w1.drew) := hide (K1.out.low (Nat.le_refl _) (by omega)).drew;have hs1 := K1.out.size;clear HR;go_region_law (refine step_callv rfl _ _ _ rfl 37 (.pointer (some ⟨c,0,none⟩)) (by simp [Act.eval]) (enters_of Tryz.func37 (by kernel_rfl) rfl) (.slice (some ⟨bk,0,none⟩) m m) (by simp [Act.eval]) _ HR1.out ?_;rintro v y ⟨rfl,y1,y2,y3⟩;have HY := hide y1;have HPY := hide y2;have HBY := hide (HB1.out.trans y3);clear y1 y2 y3)
 all_goals
  clear k2 HR1 HB1 H1 K1;have k2 : y.cell? ⟨c,2,none⟩ = some .nilFunc := (cl_cells HY.out).2.2.1;have k4 : y.cell? ⟨c,4,none⟩ = some (.bool true) := (cl_cells HY.out).2.2.2.2.1;go_wp2_with fail
  rw [rounds_succ];by_cases hnm : n < m
  ·have hni : (n : Int) < (m : Int) := by omega
   go_wp2_with fail
   go_quiet (fail)
   have HZ := hide (HBY.out.trans (⟨rfl,rfl,rfl,Nat.le_refl _,fun _ _ => rfl⟩ : Below c y (y.drewN nq)));go_wp2_with fail
   go_ret2
   exact ⟨rfl,HY.out,HPY.out.imp fun lv' z => z.imp fun fv' q => q.keep fun _ _ _ => rfl,HZ.out⟩
  ·have hni : ¬ (n : Int) < (m : Int) := by omega
   go_wp2_with fail
   go_quiet (fail)
   have HZ := hide (HBY.out.trans (⟨rfl,rfl,rfl,Nat.le_refl _,fun _ _ => rfl⟩ : Below c y (y.drewN nq)));go_wp2_with fail
   go_ret2
   exact ⟨rfl,HY.out,HPY.out.imp fun lv' z => z.imp fun fv' q => q.keep fun _ _ _ => rfl,HZ.out⟩
theorem cread_part {w : World} {c : Nat} {hd bd : Int} {bg : Bool} {rv bv : Value} {wr : Int} {base g : Nat} {lv fv : Value} {p p' : Pz} (h : ClB w c hd bd (stH c) bg false (.pointer (some ⟨g, 0, none⟩)) rv bv wr) (hp : Par w base g lv fv p) (hf : Fit p) (hm : MX w) (he : ET w) (h3 : 3 <= c) (hc : c < base) (bk : Nat) (cs : Array Value) (fr : Nat × Nat) (l : List UInt8) (hb : w.heap[bk]? = some (.cells cs 5 fr)) (hcs : cs.toList = l.map fun x => Value.int .u8 (x.toNat : Int)) (hA : Ap g lv fv bk) (hbc : bk ≠ c) (m : Nat) (hlm : l.length = m) (hm0 : 0 < m) (hl : m <= 140737488355328) (hF : pFeed p l = (m, false, 0, p')) :
  Calls Tryz.prog 11 #[.pointer (some ⟨c,0,none⟩),.slice (some ⟨bk,0,none⟩) m m] w fun e w' => e = .returned (.tuple #[.int .i64 (m : Int),.bool false]) /\ ClB w' c hd bd (stH c) true false (.pointer (some ⟨g,0,none⟩)) rv bv wr /\ (∃ lv' fv',Par w' base g lv' fv' p') /\ Below c w w' /\ ∀ k,k < w.heap.size -> k ≠ c -> k < base -> w'.heap[k]? = w.heap[k]? := by
 subst hlm;have H1 : Hid (ClB (w.setCell ⟨c,3,none⟩ (.bool true)) c hd bd (stH c) true false (.pointer (some ⟨g,0,none⟩)) rv bv wr) := hide (hp_set h 3 _);have K1 := hide (CK.set w c 3 (.bool true));have hcl : c < w.heap.size := lt_heap h
 have HR : Hid (∀ W : World,W.heap = (w.setCell ⟨c,3,none⟩ (.bool true)).heap -> Calls Tryz.prog 37 #[.pointer (some ⟨c,0,none⟩),.slice (some ⟨bk,0,none⟩) l.length l.length] W fun e w' => ∃ r,e = .returned r /\ r = .int .i64 (l.length : Int) /\ ClB w' c hd bd (stH c) true false (.pointer (some ⟨g,0,none⟩)) rv bv wr /\ (∃ lv' fv',Par w' base g lv' fv' p') /\ Below c W w' /\ ∀ k,k < w.heap.size -> k ≠ c -> k < base -> w'.heap[k]? = w.heap[k]?) := hide (fun W hW => by
  have ck : ∀ k,k < w.heap.size -> k ≠ c -> W.heap[k]? = w.heap[k]? := fun k hk hkc => by rw [hW];exact K1.out.block k hk hkc
  have hs : w.heap.size <= W.heap.size := by rw [hW];exact K1.out.size
  have hpW : Par W base g lv fv p := hp.keep fun k a1 a2 => ck k a2 (by omega)
  refine (readHead_part (w := W) (bg := true) (wt := false) (rv := rv) (wr := wr) (st := stH c) (by show W.heap[c]? = _;rw [hW];exact H1.out) hpW hf (hm.of (ck _ hm.1 (by omega)) hs) (he.of (ck 0 he.lt (by omega))) (by omega) hc _ l (bf_blk ((ck bk (lt_heap hb) hbc).trans hb) hcs hA) hl hF).mono ?_;rintro e w' ⟨rfl,y1,lv',fv',y2,y3⟩;exact ⟨_,rfl,rfl,y1,⟨lv',fv',y2⟩,y3.low hpW (by omega) (by omega),fun k q1 q2 q3 => (y3.block k (Nat.lt_of_lt_of_le q1 hs) (by have := hpW.gb;omega) (fun e => by have := (hpW.line.lt e).1;omega) (fun e => by have := (hpW.flds.lt e).1;omega)).trans (ck k q1 q2)⟩)
 obtain ⟨-,-,k2,k3,-,-,-,-,-⟩ := cl_cells h;have z3 := cl_fz h 3;clear h hp hf hm he hb hcs hA hF;generalize l.length = m at *;have E1 := ne_fun 37 c;have E2 := ne_nil;unfold stH at k2;have hmi : (0 : Int) < (m : Int) := by omega
 go_enter Tryz.func11,Tryz.ntmps11
 go_wp2_with fail
 refine wp_loop_rounds 2 ?_;rw [rounds_succ];go_upto_region 6 with fail
 clear k2 k3 z3;generalize w.setCell ⟨c,3,none⟩ (.bool true) = w1 at *;have k2 : w1.cell? ⟨c,2,none⟩ = some (.func (.func 37) #[.pointer (some ⟨c,0,none⟩)] #[]) := (cl_cells H1.out).2.2.1;have HR1 := hide (HR.out w1.drew rfl);have HB1 : Hid (Below c w w1.drew) := hide (K1.out.low (Nat.le_refl _) (by omega)).drew;have hs1 := K1.out.size;clear HR;go_region_law (refine step_callv rfl _ _ _ rfl 37 (.pointer (some ⟨c,0,none⟩)) (by simp [Act.eval]) (enters_of Tryz.func37 (by kernel_rfl) rfl) (.slice (some ⟨bk,0,none⟩) m m) (by simp [Act.eval]) _ HR1.out ?_;rintro v y ⟨rfl,y1,y2,y3,y4⟩;have HY := hide y1;have HPY := hide y2;have HBY := hide (HB1.out.trans y3);have HKY := hide y4;clear y1 y2 y3 y4)
 all_goals
  clear k2 HR1 HB1 H1 K1;have k4 : y.cell? ⟨c,4,none⟩ = some (.bool false) := (cl_cells HY.out).2.2.2.2.1;go_wp2_with fail
  rw [rounds_succ];go_wp2_with fail
  go_quiet (fail)
  have HZ := hide (HBY.out.trans (⟨rfl,rfl,rfl,Nat.le_refl _,fun _ _ => rfl⟩ : Below c y (y.drewN nq)));go_wp2_with fail
  go_ret2
  exact ⟨rfl,HY.out,HPY.out.imp fun lv' z => z.imp fun fv' q => q.keep fun _ _ _ => rfl,HZ.out,HKY.out⟩
def sq1 : List UInt8 := [71,69,84,32,47,32,72,84,84,80,47,49,46,49,13,10,13,10,80,85,84,32,47,97,32,72,84,84,80,47,49,46,49,13,10]
def pz1 : Pz := (pFeed (pNew true 100) sq1).2.2.2
theorem sq1_fed : pFeed (pNew true 100) sq1 = (18,true,0,pz1) := by kernel_rfl
theorem pz1_whole : pz1.whole = true := by decide +kernel
theorem pz1_fs : pz1.fs = [] := by decide +kernel
theorem pz1_req : pz1.req = true := by decide +kernel
theorem pz1_minor : pz1.minor = 1 := by decide +kernel
theorem pz1_me : pz1.me = ⟨#[71,69,84]⟩ := by decide +kernel
def pz2 : Pz := (pFeed (pNew true 100) [120]).2.2.2
theorem sq2_fed : pFeed (pNew true 100) [120] = (1,false,0,pz2) := by kernel_rfl
theorem pz1_q : reqO pz1.fs pz1.req (pz1.minor : Int) = ⟨1,0,true,0⟩ := by rw [pz1_fs,pz1_req,pz1_minor];kernel_rfl
theorem ap_nil {g bk : Nat} (h : bk ≠ g) : Ap g (.slice none 0 0) (.slice none 0 0) bk := ⟨h,by simp [Value.ownBlock],by simp [Value.ownBlock]⟩
theorem fst_read {w : World} {c g : Nat} (hp : Par w g g (.slice none 0 0) (.slice none 0 0) (pNew true 100)) (hc : ClB w c 100 10 (stH c) false false (.pointer (some ⟨g, 0, none⟩)) (.pointer none) (.slice none 0 0) 0) (hg : c < g) (h3 : 3 <= c) (hm : MX w) (he : ET w) :
  Calls Tryz.prog 11 #[.pointer (some ⟨c,0,none⟩),.slice (some ⟨w.heap.size,0,none⟩) 35 35] (w.alloc (.cells #[.int .u8 71,.int .u8 69,.int .u8 84,.int .u8 32,.int .u8 47,.int .u8 32,.int .u8 72,.int .u8 84,.int .u8 84,.int .u8 80,.int .u8 47,.int .u8 49,.int .u8 46,.int .u8 49,.int .u8 13,.int .u8 10,.int .u8 13,.int .u8 10,.int .u8 80,.int .u8 85,.int .u8 84,.int .u8 32,.int .u8 47,.int .u8 97,.int .u8 32,.int .u8 72,.int .u8 84,.int .u8 84,.int .u8 80,.int .u8 47,.int .u8 49,.int .u8 46,.int .u8 49,.int .u8 13,.int .u8 10] 5 (35,36))) fun e w' => e = .returned (.tuple #[.int .i64 18,.bool true]) /\ ClB w' c 100 10 .nilFunc false true (.pointer (some ⟨g,0,none⟩)) (.pointer none) (.slice none 0 0) 0 /\ (∃ lv fv,Par w' g g lv fv pz1) /\ Below c w w' := by
 have b := (Below.refl w.heap.size w).alloc (Nat.le_refl _) (.cells #[.int .u8 71,.int .u8 69,.int .u8 84,.int .u8 32,.int .u8 47,.int .u8 32,.int .u8 72,.int .u8 84,.int .u8 84,.int .u8 80,.int .u8 47,.int .u8 49,.int .u8 46,.int .u8 49,.int .u8 13,.int .u8 10,.int .u8 13,.int .u8 10,.int .u8 80,.int .u8 85,.int .u8 84,.int .u8 32,.int .u8 47,.int .u8 97,.int .u8 32,.int .u8 72,.int .u8 84,.int .u8 84,.int .u8 80,.int .u8 47,.int .u8 49,.int .u8 46,.int .u8 49,.int .u8 13,.int .u8 10] 5 (35,36));have hcl := lt_heap hc;have := cread_none (n := 18) (b := true) (p' := pz1) ((b.block c hcl).trans hc) (hp.below b) (fit_new true 100 (by omega)) (sz_new true 100) (hm.below b) (he.below b) h3 hg w.heap.size #[.int .u8 71,.int .u8 69,.int .u8 84,.int .u8 32,.int .u8 47,.int .u8 32,.int .u8 72,.int .u8 84,.int .u8 84,.int .u8 80,.int .u8 47,.int .u8 49,.int .u8 46,.int .u8 49,.int .u8 13,.int .u8 10,.int .u8 13,.int .u8 10,.int .u8 80,.int .u8 85,.int .u8 84,.int .u8 32,.int .u8 47,.int .u8 97,.int .u8 32,.int .u8 72,.int .u8 84,.int .u8 84,.int .u8 80,.int .u8 47,.int .u8 49,.int .u8 46,.int .u8 49,.int .u8 13,.int .u8 10] (35,36) sq1 (hp_new w _) (by rfl) (ap_nil (by have := hp.lt;omega)) (by omega) 35 rfl (by omega) (by omega) (by omega) sq1_fed pz1_whole pz1_q (by rw [pz1_fs];exact ⟨by simp,fun f hf => by simp at hf⟩) (by omega) (by omega);refine this.mono ?_;rintro e w' ⟨rfl,y1,y2,y3⟩;exact ⟨rfl,y1,y2,(b.mono (by omega)).trans y3⟩
theorem snd_read {w : World} {c g : Nat} (hp : Par w g g (.slice none 0 0) (.slice none 0 0) (pNew true 100)) (hc : ClB w c 100 10 (stH c) false false (.pointer (some ⟨g, 0, none⟩)) (.pointer none) (.slice none 0 0) 0) (hg : c < g) (h3 : 3 <= c) (hm : MX w) (he : ET w) :
  Calls Tryz.prog 11 #[.pointer (some ⟨c,0,none⟩),.slice (some ⟨w.heap.size,0,none⟩) 1 1] (w.alloc (.cells #[.int .u8 120] 5 (1,2))) fun e w' => e = .returned (.tuple #[.int .i64 1,.bool false]) /\ ClB w' c 100 10 (stH c) true false (.pointer (some ⟨g,0,none⟩)) (.pointer none) (.slice none 0 0) 0 /\ Below c w w' /\ ∀ k,k < w.heap.size -> k ≠ c -> k < g -> w'.heap[k]? = w.heap[k]? := by
 have b := (Below.refl w.heap.size w).alloc (Nat.le_refl _) (.cells #[.int .u8 120] 5 (1,2));have hcl := lt_heap hc;have := cread_part (p' := pz2) ((b.block c hcl).trans hc) (hp.below b) (fit_new true 100 (by omega)) (hm.below b) (he.below b) h3 hg w.heap.size #[.int .u8 120] (1,2) [120] (hp_new w _) (by rfl) (ap_nil (by have := hp.lt;omega)) (by omega) 1 rfl (by omega) (by omega) sq2_fed;refine this.mono ?_;rintro e w' ⟨rfl,y1,-,y3,y4⟩;exact ⟨rfl,y1,(b.mono (by omega)).trans y3,fun k q1 q2 q3 => (y4 k (Nat.lt_of_lt_of_le q1 b.size) q2 q3).trans (b.block k q1)⟩
theorem speaks_any (w : World) (hm : MX w) (he : ET w) : Calls Tryz.prog 10 #[] w fun e w' => e = .returned (.bool true) /\ Below w.heap.size w w' := by
 have h3 : 3 <= w.heap.size := by have := hm.1;omega
 have HM := hide hm;have HE := hide he;have HN := hide (cnew_any w 100 10 (by omega) (by omega) (by omega) (by omega));rw [show ((100 : Nat) : Int) = 100 from rfl] at HN;clear hm he;go_enter Tryz.func10,Tryz.ntmps10
 go_wp2_with fail
 refine HN.out.mono ?_;rintro e w1 ⟨rfl,g,hg,hp,hc,b1⟩;have HR := hide (fst_read hp hc hg h3 (HM.out.below b1) (HE.out.below b1));have B1 := hide b1;have hcv : (convert 31 31 (.slice (some ⟨w1.heap.size,0,none⟩) 35 35)).run Tryz.prog (w1.alloc (.cells #[.int .u8 71,.int .u8 69,.int .u8 84,.int .u8 32,.int .u8 47,.int .u8 32,.int .u8 72,.int .u8 84,.int .u8 84,.int .u8 80,.int .u8 47,.int .u8 49,.int .u8 46,.int .u8 49,.int .u8 13,.int .u8 10,.int .u8 13,.int .u8 10,.int .u8 80,.int .u8 85,.int .u8 84,.int .u8 32,.int .u8 47,.int .u8 97,.int .u8 32,.int .u8 72,.int .u8 84,.int .u8 84,.int .u8 80,.int .u8 47,.int .u8 49,.int .u8 46,.int .u8 49,.int .u8 13,.int .u8 10] 5)) = .ok (.slice (some ⟨w1.heap.size,0,none⟩) 35 35) (w1.alloc (.cells #[.int .u8 71,.int .u8 69,.int .u8 84,.int .u8 32,.int .u8 47,.int .u8 32,.int .u8 72,.int .u8 84,.int .u8 84,.int .u8 80,.int .u8 47,.int .u8 49,.int .u8 46,.int .u8 49,.int .u8 13,.int .u8 10,.int .u8 13,.int .u8 10,.int .u8 80,.int .u8 85,.int .u8 84,.int .u8 32,.int .u8 47,.int .u8 97,.int .u8 32,.int .u8 72,.int .u8 84,.int .u8 84,.int .u8 80,.int .u8 47,.int .u8 49,.int .u8 46,.int .u8 49,.int .u8 13,.int .u8 10] 5 (35,36))) := Lib.run_convert_bytes_const w1 31 5 #[.int .u8 71,.int .u8 69,.int .u8 84,.int .u8 32,.int .u8 47,.int .u8 32,.int .u8 72,.int .u8 84,.int .u8 84,.int .u8 80,.int .u8 47,.int .u8 49,.int .u8 46,.int .u8 49,.int .u8 13,.int .u8 10,.int .u8 13,.int .u8 10,.int .u8 80,.int .u8 85,.int .u8 84,.int .u8 32,.int .u8 47,.int .u8 97,.int .u8 32,.int .u8 72,.int .u8 84,.int .u8 84,.int .u8 80,.int .u8 47,.int .u8 49,.int .u8 46,.int .u8 49,.int .u8 13,.int .u8 10] 35 35 Tryz.underlying31 Tryz.underlying5;clear hp hc b1 HN;go_wp2_with fail
 refine HR.out.mono ?_;rintro e w2 ⟨rfl,hc,⟨lv,fv,hp⟩,b2⟩;have B2 := hide (B1.out.trans b2);have H2 := hide hc;have HQ := hide (request_bare hc hp pz1_whole ((sz_new true 100).feed (fit_new true 100 (by omega)) sq1) ((fit_new true 100 (by omega)).feed sq1));unfold hdV at HQ;rw [pz1_me] at HQ;clear hp hc b2 B1 HR hcv;generalize pz1.req = rq at *;generalize pz1.ta = ta at *;generalize (pz1.minor : Int) = mi at *;generalize (pz1.status : Int) = st at *;generalize pz1.re = re at *;go_wp2_with fail
 refine HQ.out.mono ?_;rintro e w3 ⟨l,rfl,hl,b3⟩;obtain ⟨la,ln,lk,rfl⟩ : ∃ a n k,l = .slice a n k := by obtain ⟨a,k,h,_⟩ := hl;exact ⟨a,_,k,h⟩
 have H3 := hide ((b3.block w.heap.size (lt_heap H2.out)).trans H2.out);have B3 := hide (B2.out.trans (b3.mono B2.out.size));clear hl b3 HQ H2 B2;have F4 := hide (hp_new w3 (.cells #[.bool rq,.string ⟨#[71,69,84]⟩,.string ta,.int .i64 mi,.int .i64 st,.string re,.slice la ln lk] 45));have b4 := (Below.refl w3.heap.size w3).alloc (Nat.le_refl _) (.cells #[.bool rq,.string ⟨#[71,69,84]⟩,.string ta,.int .i64 mi,.int .i64 st,.string re,.slice la ln lk] 45);have H4 := hide ((b4.block w.heap.size (lt_heap H3.out)).trans H3.out);have B4 := hide (B3.out.trans (b4.mono B3.out.size));have hs3 : w.heap.size < w3.heap.size := lt_heap H3.out;clear b4;go_upto_region 6 with fail
 clear H3 B3;generalize w3.alloc _ = w4 at *;generalize w3.heap.size = hb at *;have HA := hide (answered_keep (hd := 100) H4.out (by omega) (by omega));rw [show ((100 : Nat) : Int) = 100 from rfl] at HA;have hs4 : hb < w4.heap.size := lt_heap F4.out;go_wp2_with fail
 refine HA.out.mono ?_;rintro e w5 ⟨rfl,g2,hg2,hp,hc,ck⟩;have F5 := hide ((ck.block hb hs4 (by omega)).trans F4.out);have B5 := hide (B4.out.trans (ck.low (Nat.le_refl _) (by omega)));have HR := hide (snd_read hp hc (by omega) h3 ((HM.out.below B5.out)) (HE.out.below B5.out));have hcv : (convert 31 31 (.slice (some ⟨w5.heap.size,0,none⟩) 1 1)).run Tryz.prog (w5.alloc (.cells #[.int .u8 120] 5)) = .ok (.slice (some ⟨w5.heap.size,0,none⟩) 1 1) (w5.alloc (.cells #[.int .u8 120] 5 (1,2))) := Lib.run_convert_bytes_const w5 31 5 #[.int .u8 120] 1 1 Tryz.underlying31 Tryz.underlying5;have hs5 := lt_heap F5.out;clear hp hc ck HA H4 B4 F4;go_wp2_with fail
 refine HR.out.mono ?_;rintro e w6 ⟨rfl,hc,b6,y6⟩;have F6 := hide ((y6 hb hs5 (by omega) (by omega)).trans F5.out);have B6 := hide (B5.out.trans b6);have m1 : w6.cell? ⟨hb,1,none⟩ = some (.string ⟨#[71,69,84]⟩) := cell_at F6.out 1;have HG := hide (begun_cl hc);have HS := hide (shut_open hc);have HW := hide (wrong_any hc);clear hc b6 y6 F5 B5 F6 HR hcv;go_wp2_with (first | (go_at_call 24;refine HG.out.mono ?_;rintro e w' ⟨rfl,rfl⟩) | (go_at_call 23;refine HS.out.mono ?_;rintro e w' ⟨rfl,rfl⟩) | (go_at_call 22;refine HW.out.mono ?_;rintro e w' ⟨rfl,rfl⟩))
 go_ret
 exact ⟨rfl,B6.out⟩
def laid6 : List (String × DataW Unit) := [("unicode/utf8.acceptRanges", Rows.laid_unicode_utf8_acceptRanges), ("errors.errorType", Rows.laid_errors_errorType), ("unicode/utf8.first", Rows.laid_unicode_utf8_first)]
def laid5 : List (String × DataW Unit) := [("unicode/utf8.acceptRanges", Rows.laid_unicode_utf8_acceptRanges), ("unicode/utf8.first", Rows.laid_unicode_utf8_first)]
def laid1 : List (String × DataW Unit) := [("errors.errorType", Rows.laid_errors_errorType)]
theorem parts6 : (laid6.filter fun x => x.2.handleName?.isNone) = laid5 := by kernel_rfl
theorem hands6 : (laid6.filter fun x => x.2.handleName?.isSome) = laid1 := by kernel_rfl
theorem split6 {W : World} (h : laidMetH Tryz.prog laid6 W) : laidMet Tryz.prog laid5 W /\ handlesMet Tryz.prog laid1 W := by
 have := laidMetH_iff.1 h;rw [parts6,hands6] at this;exact this
theorem et : Tryz.prog.globalNamed "errors.errorType" = some 0 := by kernel_rfl
theorem rt : (Tryz.prog.cutTypes.find? (·.1 == "internal/reflectlite.rtype")).map (·.2) = some 185 := by kernel_rfl
theorem oneRow : ((List.range 293).filter fun t => Tryz.prog.rowNamed t [101,114,114,111,114]) = [102] := by kernel_rfl
theorem tysize : Tryz.prog.types.size = 293 := by kernel_rfl
theorem et_of {W : World} (h : laidMetH Tryz.prog laid6 W) : ET W := by
 obtain ⟨name,u,ty,e1,e2,e3,e4,e5⟩ := (split6 h).2 _ (List.mem_singleton.2 rfl);have en : name = [101,114,114,111,114] := (Option.some.inj e1).symm;subst en;obtain rfl := Option.some.inj (rt.symm.trans e2);have hm : ty ∈ (List.range 293).filter fun t => Tryz.prog.rowNamed t [101,114,114,111,114] := List.mem_filter.2 ⟨List.mem_range.2 (by rw [<- tysize];exact e3),e4⟩
 rw [oneRow] at hm;obtain rfl := List.mem_singleton.1 hm;have hh : typeHandle Tryz.prog 102 = .pointer (some ⟨7,102,none⟩) := by kernel_rfl
 rw [hh] at e5;unfold ET;simpa using World.var?_cell et e5 0
theorem mx_of {W : World} (h : W.ShapedOpen Tryz.prog) : MX W := by
 obtain ⟨cs,hh,_⟩ := h.1 2 #[.int .i64 0] 3 (of_decide_eq_true (by kernel_rfl)) (by kernel_rfl);refine ⟨?_,cell_of_shapedOpen_int (P := Tryz.prog) (g := 2) (t := 3) (zero := #[.int .i64 0]) h (of_decide_eq_true (by kernel_rfl)) (by kernel_rfl) rfl (by kernel_rfl) (by kernel_rfl) Tryz.underlying3⟩;rcases Nat.lt_or_ge 2 W.heap.size with h0 | h0
 ·exact h0
 ·rw [Array.getElem?_eq_none (by omega)] at hh
  simp at hh
noncomputable def w60 (os : Os) : World :=
 let w0 := World.holding Tryz.prog os ⟨#[],#[],[]⟩
 { w0 with heap := w0.heap.modify 0 fun
   | .cells _ t frozen => .cells #[.iface 185 (.agg #[.pointer (some ⟨7,102,none⟩)])] t frozen
   | o => o }
noncomputable def w6 (os : Os) : World := (w60 os).layVars Tryz.prog laid5
theorem w6_os (os : Os) : (w6 os).os = os := World.layVars_os _ _ _
theorem met6 (os : Os) (args : Array Value) : laidMetH Tryz.prog laid6 ((w6 os).forCall (fun _ _ => 0) ⟨#[],args,[]⟩).memory := by
 refine laidMetH_of_parts ?_ (by rw [hands6];kernel_rfl);rw [parts6];have e1 : (laid5.filter fun x => (laid5.map (·.1)).contains x.1) = laid5 := List.filter_eq_self.2 fun x hx => List.contains_iff_mem.2 (List.mem_map.2 ⟨x,hx,rfl⟩)
 have e2 : (laid5.filter fun x => !(laid5.map (·.1)).contains x.1) = [] := List.filter_eq_nil_iff.2 fun x hx => by rw [List.contains_iff_mem.2 (List.mem_map.2 ⟨x,hx,rfl⟩)];simp
 have h : laidMet Tryz.prog laid5 (w6 os) := laidMet_layVars (w0 := w60 os) (laid5.map (·.1)) [] (by rw [e1];rfl) (by rw [e1];kernel_rfl) (by rw [e1];kernel_rfl) (by rw [e2];exact LaidIn.none);exact h.of_heap (by simp [World.memory,World.forCall,Input.heap])
theorem begin_of {w : World} {c : Nat} {hd bd : Int} {bg wt : Bool} {rv bv : Value} {wr : Int} {base g : Nat} {lv fv : Value} {p : Pz} {k n : Int} {b : Bool} (h : ClB w c hd bd (stH c) bg wt (.pointer (some ⟨g, 0, none⟩)) rv bv wr) (hp : Par w base g lv fv p) (hw : p.whole = true) (hz : Sz p) (hf : Fit p) (hq : reqO p.fs p.req (p.minor : Int) = ⟨k, n, b, 0⟩) (hS : Sm p.fs)
  (R : World -> World -> Option Addr -> Int -> Prop) (hN : ∀ W,Calls Tryz.prog 63 #[frV k n b,.int .i64 bd] W fun e w' => ∃ r,e = .returned r /\ ∃ ro er,r = .tuple #[.pointer ro,.int .i64 er] /\ R W w' ro er /\ Below W.heap.size W w')
  (Post : World -> Prop) (hL : ∀ W y y3 ro er,c < W.heap.size -> R W y ro er -> CK y y3 c -> ClB y3 c hd bd (stB c) bg wt (.pointer (some ⟨g,0,none⟩)) (.pointer ro) bv wr -> Calls Tryz.prog 65 #[.pointer (some ⟨c,0,none⟩),.int .i64 er] y3 fun e w' => e = .returned (.tuple #[]) /\ Post w' /\ CK y3 w' c) :
  Calls Tryz.prog 47 #[.pointer (some ⟨c,0,none⟩)] w fun e w' => e = .returned (.tuple #[]) /\ Post w' /\ CK w w' c := by
 have HH := hide h;have HD := hide (head_whole hp hw hz hf);have HQ := hide (fun W l (hl : Flds W l p.fs) => req_any W p.req p.me p.ta (p.minor : Int) (p.status : Int) p.re l p.fs hl hS);rw [hq] at HQ;unfold hdC foV frVg at HQ;unfold hdV at HD;have HN := hide hN;have HLK := hide hL;unfold frV at HN;obtain ⟨-,-,-,-,-,k5,-,-,-⟩ := cl_cells h;have hcl : c < w.heap.size := lt_heap h;clear h hp hw hz hf hq hS hN hL;go_enter Tryz.func47,Tryz.ntmps47
 go_wp2_with (go_at_call 34;refine HD.out.mono ?_;rintro e w1 ⟨l,rfl,hl,bb⟩;have HL := hide (HQ.out w1 l (Flds.of_row hl));have B1 := hide bb;have hll := hl.shape)
 refine HL.out.mono ?_;rintro e w2 ⟨rfl,b2⟩;have B2 := hide (B1.out.trans (b2.mono B1.out.size));clear b2 HL B1 HD HQ k5 bb hl hll;have B3 := hide (B2.out.alloc B2.out.size (.cells #[.int .i64 k,.int .i64 n,.bool b] 83));have F3 := hide (hp_new w2 (.cells #[.int .i64 k,.int .i64 n,.bool b] 83));go_upto_region 3 with fail
 clear B2;generalize w2.alloc _ = w3 at *;generalize w2.heap.size = ff at *;have H3 := hide ((B3.out.block c hcl).trans HH.out);have f0 : w3.cell? ⟨ff,0,none⟩ = some (.int .i64 k) := cell_at F3.out 0;have f1 : w3.cell? ⟨ff,1,none⟩ = some (.int .i64 n) := cell_at F3.out 1;have f2 : w3.cell? ⟨ff,2,none⟩ = some (.bool b) := cell_at F3.out 2;obtain ⟨k0,k1,k2,k3,k4,k5,k6,k7,k8⟩ := cl_cells H3.out;have hc3 : c < w3.heap.size := lt_heap H3.out;clear k2 k3 k4 k5 k6 k7 k8;go_region_law (refine step_callg rfl 63 _ _ rfl (enters_of Tryz.func63 (by kernel_rfl) rfl) #[.agg #[.int .i64 k,.int .i64 n,.bool b],.int .i64 bd] (by simp [Act.eval]) _ (HN.out _) ?_;rintro v y ⟨ro,er,rfl,y1,y4⟩;have HY : Hid (ClB y c hd bd (stH c) bg wt (.pointer (some ⟨g,0,none⟩)) rv bv wr) := hide ((y4.block c hc3).trans H3.out);have HRD := hide (fun y3 => HLK.out w3.drew y y3 ro er hc3 y1);have HBY : Hid (Below w.heap.size w y) := hide (by first | exact B3.out.trans (y4.mono B3.out.size) | exact B3.out.drew.trans (y4.mono B3.out.size));have q6 := (cl_cells HY.out).2.2.2.2.2.2.1;have qz := cl_fz HY.out 6;clear y1 y4)
 all_goals
  have H4 : Hid (ClB (y.setCell ⟨c,6,none⟩ (.pointer ro)) c hd bd (stH c) bg wt (.pointer (some ⟨g,0,none⟩)) (.pointer ro) bv wr) := hide (hp_set HY.out 6 _);have C4 := hide (CK.set y c 6 (.pointer ro));have K4 := hide ((CK.of_below c HBY.out).trans C4.out);go_upto_region 4 with fail
  clear q6 qz HY HBY f0 f1 f2 k0 k1 H3 F3 B3;generalize y.setCell ⟨c,6,none⟩ (.pointer ro) = y2 at *;have q2 := (cl_cells H4.out).2.2.1;have qz := cl_fz H4.out 2;have H5 : Hid (ClB (y2.setCell ⟨c,2,none⟩ (stB c)) c hd bd (stB c) bg wt (.pointer (some ⟨g,0,none⟩)) (.pointer ro) bv wr) := hide (hp_set H4.out 2 _);have C5 := hide (C4.out.trans (CK.set y2 c 2 (stB c)));have K5 := hide (K4.out.trans (CK.set y2 c 2 (stB c)));have HL := hide (HRD.out _ C5.out H5.out);unfold stH at q2;clear H5 C4 C5 HRD;unfold stB at K5 HL;go_upto_region 5 with fail
  clear q2 qz H4 K4;generalize y2.setCell ⟨c,2,none⟩ _ = y3 at *;go_wp2_with fail
  refine HL.out.mono ?_;rintro e y4 ⟨rfl,z1,z2⟩;have HZ := hide z1;have HZ2 := hide (K5.out.trans z2);clear z1 z2 HL K5;go_wp2_with fail
  go_end0
  exact ⟨rfl,HZ.out,HZ2.out⟩
section
variable {w : World} {c : Nat} {hd bd : Int} {bg wt : Bool} {rv bv : Value} {wr : Int} {base g : Nat} {lv fv : Value} {p : Pz} {n : Int} {b : Bool}
theorem begin_wrong {e : Int} (h : ClB w c hd bd (stH c) bg wt (.pointer (some ⟨g, 0, none⟩)) rv bv wr) (hp : Par w base g lv fv p) (hw : p.whole = true) (hz : Sz p) (hf : Fit p) {k : Int} (hq : reqO p.fs p.req (p.minor : Int) = ⟨k, n, b, e⟩) (he : e ≠ 0) (hS : Sm p.fs) :
  Calls Tryz.prog 47 #[.pointer (some ⟨c,0,none⟩)] w fun e w' => e = .returned (.tuple #[]) /\ ClB w' c 0 0 .nilFunc false false (.pointer none) (.pointer none) (.slice none 0 0) 400 /\ CK w w' c := by
 have HH := hide h;have HD := hide (head_whole hp hw hz hf);have HQ := hide (fun W l (hl : Flds W l p.fs) => req_any W p.req p.me p.ta (p.minor : Int) (p.status : Int) p.re l p.fs hl hS);rw [hq] at HQ;unfold hdC foV frVg at HQ;unfold hdV at HD;obtain ⟨-,-,-,-,-,k5,-,-,-⟩ := cl_cells h;have hcl : c < w.heap.size := lt_heap h;have e0 : (e == 0) = false := by simpa using he
 clear h hp hw hz hf hq hS;go_enter Tryz.func47,Tryz.ntmps47
 go_wp2_with (go_at_call 34;refine HD.out.mono ?_;rintro e w1 ⟨l,rfl,hl,bb⟩;have HL := hide (HQ.out w1 l (Flds.of_row hl));have B1 := hide bb;have hll := hl.shape)
 refine HL.out.mono ?_;rintro e' w2 ⟨rfl,b2⟩;have B2 := hide (B1.out.trans (b2.mono B1.out.size));clear b2 HL B1 HD HQ k5 bb hl hll;have B3 := hide (B2.out.alloc B2.out.size (.cells #[.int .i64 k,.int .i64 n,.bool b] 83));go_upto_region 1 with fail
 clear B2;generalize w2.alloc _ = w3 at *;have H3 := hide ((B3.out.block c hcl).trans HH.out);have HF := hide (refuse_any H3.out 400);go_wp2_with (go_at_call 28;refine HF.out.mono ?_;rintro e' w4 ⟨rfl,y1,y2⟩;have HY := hide y1;have HY2 := hide ((CK.of_below c B3.out).trans y2);clear y1 y2)
 all_goals first
  | (refine bodyPost_ret (v := .tuple #[]) (by simp [results,Tryz.results47,go_sem]) rfl ⟨rfl,HY.out,HY2.out⟩)
  | (go_end0;exact ⟨rfl,HY.out,HY2.out⟩)
theorem begin_long (h : ClB w c hd bd (stH c) bg wt (.pointer (some ⟨g, 0, none⟩)) rv bv wr) (hp : Par w base g lv fv p) (hw : p.whole = true) (hz : Sz p) (hf : Fit p) (hq : reqO p.fs p.req (p.minor : Int) = ⟨2, n, b, 0⟩) (hS : Sm p.fs) (h0 : 0 <= bd) (hm : bd <= 9007199254740992) (hn : n <= 9007199254740992) (hl : bd < n) :
  Calls Tryz.prog 47 #[.pointer (some ⟨c,0,none⟩)] w fun e w' => e = .returned (.tuple #[]) /\ ClB w' c 0 0 .nilFunc false false (.pointer none) (.pointer none) (.slice none 0 0) 413 /\ CK w w' c := by
 refine begin_of h hp hw hz hf hq hS (fun W y ro er => ro = none /\ er = 2) (fun W => ?_) (fun w' => ClB w' c 0 0 .nilFunc false false (.pointer none) (.pointer none) (.slice none 0 0) 413) (fun W y y3 ro er _ r _ hc => ?_)
 ·refine (new_long 2 n b bd W (by simp [isR]; omega) h0 hm hl).mono ?_
  rintro e w' ⟨rfl,b1⟩;exact ⟨_,rfl,_,_,rfl,⟨rfl,rfl⟩,b1⟩
 ·obtain ⟨rfl, rfl⟩ := r
  exact look_wrong hc (by decide)
end
theorem Rdr.keep {w w' : World} {base gr g : Nat} {it ct : TypeId} {t : Tal} {X : List Value} (h : Rdr w base gr g it ct t X) (b : ∀ k,base <= k -> k < w.heap.size -> w'.heap[k]? = w.heap[k]?) : Rdr w' base gr g it ct t X :=
 ⟨(b gr h.rb (lt_heap' h.rd)).trans h.rd,(b g h.fb (lt_heap' h.fr)).trans h.fr,h.ne,h.rb,h.fb⟩
theorem PRd.keep {w w' : World} {base gr g gd : Nat} {lv tv : Value} {t : Tal} {d : Dz} (h : PRd w base gr g gd lv tv t d) (b : ∀ k,base <= k -> k < w.heap.size -> w'.heap[k]? = w.heap[k]?) : PRd w' base gr g gd lv tv t d := by
 refine ⟨h.rdr.keep b,⟨?_,h.pt.dec.frame fun k e => ?_,h.pt.fb,h.pt.gd,h.pt.gl,h.pt.gt⟩,h.rd,h.rl,h.rt⟩
 ·exact ⟨(b g h.rdr.fb (lt_heap' h.rdr.fr)).trans h.pt.fr.fr⟩
 ·rcases e with rfl | e | e
  ·exact b _ h.pt.dec.gb h.pt.dec.lt
  ·exact b k (h.pt.dec.line.lt e).1 (h.pt.dec.line.lt e).2
  ·exact b k (h.pt.dec.trs.lt e).1 (h.pt.dec.trs.lt e).2
section
variable {w : World} {c : Nat} {hd bd : Int} {bg wt : Bool} {rv bv : Value} {wr : Int} {base g : Nat} {lv fv : Value} {p : Pz} {b : Bool}
theorem begin_len0 (h : ClB w c hd bd (stH c) bg wt (.pointer (some ⟨g, 0, none⟩)) rv bv wr) (hp : Par w base g lv fv p) (hw : p.whole = true) (hz : Sz p) (hf : Fit p) (hq : reqO p.fs p.req (p.minor : Int) = ⟨2, 0, b, 0⟩) (hS : Sm p.fs) (h0 : 0 <= bd) (hm : bd <= 9007199254740992) :
  Calls Tryz.prog 47 #[.pointer (some ⟨c,0,none⟩)] w fun e w' => e = .returned (.tuple #[]) /\ ClB w' c hd bd .nilFunc false true (.pointer (some ⟨g,0,none⟩)) (.pointer none) bv wr /\ CK w w' c := by
 refine begin_of h hp hw hz hf hq hS (fun W y ro er => er = 0 /\ ∃ gr g',ro = some ⟨gr,0,none⟩ /\ W.heap.size <= gr /\ W.heap.size <= g' /\ Rdr y W.heap.size gr g' 213 215 ⟨0,true,0⟩ []) (fun W => ?_) (fun w' => ClB w' c hd bd .nilFunc false true (.pointer (some ⟨g,0,none⟩)) (.pointer none) bv wr) (fun W y y3 ro er hcW r k3 hc => ?_)
 ·refine (new_of (it := 199) (ct := 203) (t := ⟨0, decide (0 = 0), 0⟩) (X := [.int .i64 ((0 : Nat) : Int)]) (k := 2) (len := 0) (x := b) (most := bd) (w := W) (.inl rfl) h0 hm (by decide) h0 (fun V => framed_len 0 b bd V)).mono ?_
  rintro e w' ⟨gr,g2,rfl,a1,a2,a3,a4,-⟩;obtain ⟨g',b1,b2⟩ := a4 rfl;exact ⟨_,rfl,_,_,rfl,⟨rfl,gr,g',rfl,a1,b1,b2⟩,a3⟩
 ·obtain ⟨rfl, gr, g', rfl, a1, a2, a3⟩ := r
  exact look_whole hc (a3.ck k3 (by omega) (by omega)) (.inr (.inr (.inr rfl))) rfl
end
structure Came (w1 : World) (c base : Nat) (hd bd : Int) (bg wt : Bool) (pv bv u : Value) (gr : Nat) (wr : Int) (O l : List UInt8) : Prop where
 cl : ClB w1 c hd bd (stB c) bg wt pv (.pointer (some ⟨gr,0,none⟩)) bv wr
 row : Row w1 base 5 bv (bc O)
 bs : ∃ nb,Bs w1 nb u l
 shp : Shp u
 low : base <= w1.heap.size
 fit : O.length + l.length <= 140737488355328
 cb : c < base
theorem readBody_of {w : World} {c base gr : Nat} {hd bd : Int} {bg wt : Bool} {pv bv : Value} {wr : Int} {O l : List UInt8} {n er : Int} {wh : Bool} (v : Value) (h : ClB w c hd bd (stB c) bg wt pv (.pointer (some ⟨gr, 0, none⟩)) bv wr)
  (R : World -> Value -> Prop) (hF : Calls Tryz.prog 96 #[.pointer (some ⟨gr,0,none⟩),v] w fun e w' => ∃ ua un uc,e = .returned (.tuple #[.slice ua un uc,.int .i64 n,.bool wh,.int .i64 er]) /\ R w' (.slice ua un uc) /\ Came w' c base hd bd bg wt pv bv (.slice ua un uc) gr wr O l)
  (Post : World -> Prop) (hL : ∀ (w1 W1 : World) (u v' : Value), R w1 u -> Came w1 c base hd bd bg wt pv bv u gr wr O l -> Row W1 base 5 v' (bc (O ++ l)) -> Below base w1 W1 -> Kept w1 W1 bv v' -> ClB (W1.setCell ⟨c, 7, none⟩ v') c hd bd (stB c) bg wt pv (.pointer (some ⟨gr, 0, none⟩)) v' wr ->
   Calls Tryz.prog 65 #[.pointer (some ⟨c,0,none⟩),.int .i64 er] (W1.setCell ⟨c,7,none⟩ v') fun e w' => e = .returned (.tuple #[]) /\ Post w') :
  Calls Tryz.prog 64 #[.pointer (some ⟨c,0,none⟩),v] w fun e w' => e = .returned (.int .i64 n) /\ Post w' := by
 have HF := hide hF;have HL := hide hL;obtain ⟨-,-,-,-,-,-,k6,-,-⟩ := cl_cells h;clear h hF hL;go_enter Tryz.func64,Tryz.ntmps64
 go_wp2_with fail
 refine HF.out.mono ?_;rintro e w1 ⟨ua,un,uc,rfl,r1,cm⟩;have HR := hide r1;have HC := hide cm;clear r1 cm k6 HF;have k7 := (cl_cells HC.out.cl).2.2.2.2.2.2.2.1;obtain ⟨ba,bn,bk,rfl⟩ : ∃ a n k,bv = .slice a n k := by obtain ⟨a,k,e,_⟩ := HC.out.row.shape;exact ⟨a,_,k,e⟩
 obtain ⟨nb,hbs⟩ := HC.out.bs;have HBS := hide hbs;clear hbs;go_wp2_with (at_builtin;apply Hid.out)
 unfold Hid;refine wpList_append_bs_k rfl _ _ rfl w1 base nb (.slice ba bn bk) (.slice ua un uc) O l rfl rfl HC.out.row HBS.out HC.out.shp HC.out.fit HC.out.low ?_;intro v' W1 a1 a2 a3;have hcl : c < w1.heap.size := lt_heap HC.out.cl;have H1 : Hid (ClB W1 c hd bd (stB c) bg wt pv (.pointer (some ⟨gr,0,none⟩)) (.slice ba bn bk) wr) := hide ((a2.block c HC.out.cb).trans HC.out.cl);have H2 : Hid (ClB (W1.setCell ⟨c,7,none⟩ v') c hd bd (stB c) bg wt pv (.pointer (some ⟨gr,0,none⟩)) v' wr) := hide (hp_set H1.out 7 _);have HLK := hide (HL.out w1 W1 (.slice ua un uc) v' HR.out HC.out a1 a2 a3 H2.out);obtain ⟨va,vn,vk,rfl⟩ : ∃ a n k,v' = .slice a n k := by obtain ⟨a,k,e,_⟩ := a1.shape;exact ⟨a,_,k,e⟩
 have q7 := (cl_cells H1.out).2.2.2.2.2.2.2.1;have qz := cl_fz H1.out 7;clear a1 a2 a3 HL HR HC k7 H2;go_upto_region 3 with fail
 clear q7 qz H1;generalize W1.setCell ⟨c,7,none⟩ _ = y at *;go_wp2_with (go_at_call 65;refine HLK.out.mono ?_;rintro e w2 ⟨rfl,z⟩;have HZ := hide z;clear z)
 go_ret
 exact ⟨rfl,HZ.out⟩
def headSt (e : Nat) : Int := if e = 85 then 431 else 400
theorem by_le : ∀ (l : List UInt8) (p : Pz), (pBytes p l).2.1 <= l.length
 | [],p => by simp [pBytes]
 | x :: r,p => by
  unfold pBytes;have := by_le r (pNext p x).2;split
  ·simp
  ·split
   ·simp
   ·simp only [List.length_cons];omega
theorem by_pos (x : UInt8) (r : List UInt8) (p : Pz) : 1 <= (pBytes p (x :: r)).2.1 := by
 unfold pBytes;split
 ·exact Nat.le_refl _
 ·split
  ·exact Nat.le_refl _
  ·simp only;omega
theorem reqO_cases (A : List (ByteArray × ByteArray)) (r : Bool) (m : Int) : (reqO A r m).e ≠ 0 ∨ (∃ b,reqO A r m = ⟨1,0,b,0⟩) ∨ (∃ (n : Nat) (b : Bool),reqO A r m = ⟨2,(n : Int),b,0⟩ /\ n <= 9007199254740992) ∨ ∃ b,reqO A r m = ⟨3,0,b,0⟩ := by
 unfold reqO;cases r with
 | false => exact .inl (by rw [if_neg (by simp)];show (1 : Int) ≠ 0;decide)
 | true =>
  rw [if_pos rfl];unfold toldO;split
  ·left;decide
  split
  ·left;decide
  split
  ·left;decide
  split
  ·exact .inr (.inr (.inr ⟨_,rfl⟩))
  split
  ·refine .inr (.inr (.inl ⟨_, _, rfl, ?_⟩))
   unfold lenN;split
   ·unfold firstN
    split
    ·omega
    ·exact num_topH _
   ·omega
  ·exact .inr (.inl ⟨_,rfl⟩)
theorem Bs.of_row {w : World} {base : Nat} {v : Value} {l : List UInt8} (h : Row w base 5 v (bc l)) : Bs w w.heap.size v l := by
 obtain ⟨a,c,rfl,hc,_⟩ := h.shape;rw [bc_len] at h hc;refine ⟨a,c,by rw [bc_len],hc,fun j hj => ?_⟩;obtain ⟨g,rfl,hcell⟩ := h.cell (j := j) (by rw [bc_len];exact hj);have hg := (h.lt rfl).2;refine ⟨g,0,rfl,hg,hg,?_⟩;rw [Nat.zero_add,hcell];simp [bc,hj]
theorem Shp.of_row {w : World} {base : Nat} {a : Option Addr} {n c : Nat} {xs : List Value} (h : Row w base 5 (.slice a n c) xs) : Shp (.slice a n c) := by
 rcases h.2 with ⟨h1,h0⟩ | ⟨g,cap,cur,h1,-⟩
 ·exact .inl h1
 ·rw [h1];exact .inr ⟨_,_,_,rfl⟩
theorem Rdr.same {w w' : World} {base gr g : Nat} {it ct : TypeId} {t : Tal} {X : List Value} (h : Rdr w base gr g it ct t X) (e1 : w'.heap[gr]? = w.heap[gr]?) (e2 : w'.heap[g]? = w.heap[g]?) : Rdr w' base gr g it ct t X := ⟨e1.trans h.rd,e2.trans h.fr,h.ne,h.rb,h.fb⟩
structure BFr (w w' : World) (c gr g : Nat) (bv : Value) : Prop where
 os : w'.os = w.os
 tape : w'.tape = w.tape
 output : w'.output = w.output
 size : w.heap.size <= w'.heap.size
 block : ∀ k,k < w.heap.size -> k ≠ c -> k ≠ gr -> k ≠ g -> bv.ownBlock ≠ some k -> w'.heap[k]? = w.heap[k]?
theorem readBody_meas {w : World} {c base b0 gr g L : Nat} {hd bd : Int} {bg wt : Bool} {pv bv : Value} {wr : Int} {O : List UInt8} {t : Tal} (h : ClB w c hd bd (stB c) bg wt pv (.pointer (some ⟨gr, 0, none⟩)) bv wr) (hr : Rdr w base gr g 199 203 t [.int .i64 (L : Int)]) (hrow : Row w b0 5 bv (bc O)) (cb : c < b0) (cr : c ≠ gr) (cg : c ≠ g) (br : ∀ k, bv.ownBlock = some k -> k ≠ gr /\ k ≠ g) (b0w : b0 <= w.heap.size) (hb : base <= w.heap.size) (v : Value) (b : List UInt8) (hB : Bs w w.heap.size v b) (hS : Shp v) (hL : L <= 9007199254740992) (hg : t.got <= L) (ht : t.wrong = 0) (hl : b.length <= 140737488355328) (hfit : O.length + b.length <= 140737488355328) :
  Calls Tryz.prog 64 #[.pointer (some ⟨c, 0, none⟩), v] w fun e w' => e = .returned (.int .i64 ((tkN b L t.got : Nat) : Int)) /\ ∃ v', Row w' b0 5 v' (bc (O ++ b.take (tkN b L t.got))) /\ (∀ k, k < w.heap.size -> bv.ownBlock ≠ some k -> v'.ownBlock ≠ some k) /\
   (t.got + tkN b L t.got = L -> ClB w' c hd bd .nilFunc false true pv (.pointer none) v' wr) /\ (t.got + tkN b L t.got ≠ L -> ClB w' c hd bd (stB c) bg wt pv (.pointer (some ⟨gr,0,none⟩)) v' wr /\ Rdr w' base gr g 199 203 ⟨t.got + tkN b L t.got,false,0⟩ [.int .i64 (L : Int)]) /\ BFr w w' c gr g bv := by
 have hF := feed_meas hr hb v b hB hS hL hg hl;rw [ht] at hF;generalize hk : tkN b L t.got = k at *;have hcl : c < w.heap.size := lt_heap h;refine readBody_of (base := b0) (O := O) (l := b.take k) (n := (k : Int)) (er := 0) (wh := decide (t.got + k = L)) v h (fun w1 u => FdP w w1 base gr g 199 203 ⟨t.got + k,decide (t.got + k = L),0⟩ [.int .i64 (L : Int)]) (hF.mono ?_) _ ?_
 ·rintro e w1 ⟨ua, uc, rfl, r1, r2⟩
  refine ⟨ua,k,uc,rfl,r2,⟨(r2.2.2.block c hcl cr cg).trans h,hrow.frame fun i hi => r2.2.2.block i (hrow.lt hi).2 (br i hi).1 (br i hi).2,⟨_,Bs.of_row r1⟩,Shp.of_row r1,Nat.le_trans b0w r2.2.2.size,?_,cb⟩⟩;have := List.length_take_le k b;have : (b.take k).length <= b.length := by rw [List.length_take];omega
  omega
 ·intro w1 W1 u v' r2 cm a1 a2 a3 hc
  have hv7 : v'.ownBlock ≠ some c := fun e => by have := (a1.lt e).1;omega
  have sameY : ∀ i,i < w1.heap.size -> i ≠ c -> bv.ownBlock ≠ some i -> (W1.setCell ⟨c,7,none⟩ v').heap[i]? = w1.heap[i]? := fun i h1 h2 h3 => (Below.heap_setCell W1 ⟨c,7,none⟩ v' i h2).trans (a3.block i h1 h3)
  have rowY : Row (W1.setCell ⟨c,7,none⟩ v') b0 5 v' (bc (O ++ b.take k)) := a1.frame fun i hi => Below.heap_setCell W1 ⟨c,7,none⟩ v' i (fun e => hv7 (by rw [hi,e]))
  have frY : BFr w (W1.setCell ⟨c,7,none⟩ v') c gr g bv := by
   refine ⟨a2.os.trans r2.2.2.os,a2.tape.trans r2.2.2.tape,a2.output.trans r2.2.2.output,Nat.le_trans r2.2.2.size (Nat.le_trans a3.size (by simp)),fun i h1 h2 h3 h4 h5 => ?_⟩;exact (sameY i (Nat.lt_of_lt_of_le h1 r2.2.2.size) h2 h5).trans (r2.2.2.block i h1 h3 h4)
  have apY : ∀ i,i < w.heap.size -> bv.ownBlock ≠ some i -> v'.ownBlock ≠ some i := fun i h1 h2 => a3.apart i (Nat.lt_of_lt_of_le h1 r2.2.2.size) h2
  by_cases hd' : t.got + k = L
  ·obtain ⟨g2, q1, q2⟩ := r2.1 (by simp [overT, hd'])
   have q3 := q2.same (sameY gr (lt_heap' q2.rd) (fun e => cr e.symm) (fun e => (br gr e).1 rfl)) (sameY g2 (lt_heap' q2.fr) (by omega) (fun e => by have := (hrow.lt e).2;omega));refine (look_whole hc q3 (.inr (.inr (.inr rfl))) (by simp [hd'])).mono ?_;rintro e w' ⟨rfl,z1,z2⟩;exact ⟨rfl,v',rowY.frame fun i hi => z2.block i (rowY.lt hi).2 (fun e => hv7 (by rw [hi,e])),apY,fun _ => z1,fun x => absurd hd' x,⟨z2.os.trans frY.os,z2.tape.trans frY.tape,z2.output.trans frY.output,Nat.le_trans frY.size z2.size,fun i h1 h2 h3 h4 h5 => (z2.block i (Nat.lt_of_lt_of_le h1 frY.size) h2).trans (frY.block i h1 h2 h3 h4 h5)⟩⟩
  ·have q2 := r2.2.1 (by simp [overT, hd'])
   have q3 := q2.same (sameY gr (lt_heap' q2.rd) (fun e => cr e.symm) (fun e => (br gr e).1 rfl)) (sameY g (lt_heap' q2.fr) (fun e => cg e.symm) (fun e => (br g e).2 rfl));have e0 : decide (t.got + k = L) = false := decide_eq_false hd';rw [e0] at q3;refine (look_part hc q3 (.inl rfl) rfl).mono ?_;rintro e w' ⟨rfl,rfl⟩;exact ⟨rfl,v',rowY,apY,fun x => absurd x hd',fun _ => ⟨hc,q3⟩,frY⟩
structure PFr (w w' : World) (gr g gd : Nat) (lv tv lv' tv' : Value) : Prop where
 block : ∀ k,k < w.heap.size -> k ≠ gr -> k ≠ g -> k ≠ gd -> lv.ownBlock ≠ some k -> tv.ownBlock ≠ some k -> w'.heap[k]? = w.heap[k]?
 la : ∀ k,k < w.heap.size -> lv.ownBlock ≠ some k -> lv'.ownBlock ≠ some k
 fa : ∀ k,k < w.heap.size -> tv.ownBlock ≠ some k -> tv'.ownBlock ≠ some k
theorem feed_part2 {w : World} {base gr g gd : Nat} {lv tv : Value} {t : Tal} {d : Dz} (h : PRd w base gr g gd lv tv t d) (hf : FitD d) (hw : d.whole = false) (hwr : d.wrong = 0) (hm : MX w) (hb2 : 3 <= base) {A : Nat -> Prop} (va : Option Addr) (vc : Nat) (b : List UInt8) (hv : Bf w A (.slice va b.length vc) b) (hs : Shp (.slice va b.length vc)) (gA : ¬ A gd) (lA : ∀ k, lv.ownBlock = some k -> ¬ A k) (tA : ∀ k, tv.ownBlock = some k -> ¬ A k) (AL : ∀ k, A k -> k < w.heap.size) (hl : b.length <= 70368744177664) (hg : t.got <= 9007199254740992) :
  Calls Tryz.prog 96 #[.pointer (some ⟨gr,0,none⟩),.slice va b.length vc] w fun e w' => ∃ ua uc lv' tv',e = .returned (.tuple #[.slice ua (dBytes d b).2.2.1.length uc,.int .i64 ((dBytes d b).2.1 : Int),.bool (dBytes d b).2.2.2.whole,.int .i64 ((dBytes d b).1 : Int)]) /\ Row w' w.heap.size 5 (.slice ua (dBytes d b).2.2.1.length uc) (bc (dBytes d b).2.2.1) /\ (overT ⟨t.got + (dBytes d b).2.2.1.length,(dBytes d b).2.2.2.whole,(dBytes d b).1⟩ = true -> ∃ g',w.heap.size <= g' /\ Rdr w' base gr g' 213 215 ⟨t.got + (dBytes d b).2.2.1.length,(dBytes d b).2.2.2.whole,(dBytes d b).1⟩ []) /\ (overT ⟨t.got + (dBytes d b).2.2.1.length,(dBytes d b).2.2.2.whole,(dBytes d b).1⟩ = false -> PRd w' base gr g gd lv' tv' ⟨t.got + (dBytes d b).2.2.1.length,(dBytes d b).2.2.2.whole,(dBytes d b).1⟩ (dForget { (dBytes d b).2.2.2 with wrong := (dBytes d b).1 })) /\ Below base w w' /\ PFr w w' gr g gd lv tv lv' tv' := by
 have HP := hide h;have HN := hide (isNone_any h.rdr);have HRD := hide (read_part h.pt hf hw hwr hm hb2 va vc b hv hs gA lA tA AL hl hg);have c0 := h.rdr.c0;have hgrl := lt_heap' h.rdr.rd;have hgl := h.pt.fr.lt;have hgdl := h.pt.dec.lt;have hbb : base <= w.heap.size := by have := h.pt.dec.gb;omega
 clear h hv hs;generalize dBytes d b = R at HRD |-
 obtain ⟨en,n,o,dd⟩ := R;dsimp only at HRD |-
 generalize hd2 : dForget { dd with wrong := en } = d2 at HRD |-
 clear hd2;obtain ⟨tt,htt⟩ : ∃ x : Tal,(⟨t.got + o.length,dd.whole,en⟩ : Tal) = x := ⟨_,rfl⟩
 rw [htt] at HRD |-
 have e1 : dd.whole = tt.whole := by rw [<- htt]
 have e2 : en = tt.wrong := by rw [<- htt]
 rw [e1,e2];clear e1 e2 htt;go_enter Tryz.func96,Tryz.ntmps96
 go_wp2_with fail
 refine HN.out.mono ?_;rintro e w1 ⟨rfl,rfl⟩;clear HN;go_wp2_with fail
 refine HRD.out.mono ?_;rintro e W1 ⟨ua,uc,lv',tv',rfl,q1,q2,q3⟩;have HR1 : Hid (Rdr W1 base gr g 207 209 tt (ptX gd)) := hide ⟨(q3.block gr hgrl HP.out.rdr.ne HP.out.rd HP.out.rl HP.out.rt).trans HP.out.rdr.rd,q2.fr.fr,HP.out.rdr.ne,HP.out.rdr.rb,HP.out.rdr.fb⟩;have hw1 := q3.size;have R1 := hide q1;have P1 := hide q2;have B1 := hide (q3.low HP.out.pt);have hrl' : lv'.ownBlock ≠ some gr := q3.la gr hgrl HP.out.rl;have hrt' : tv'.ownBlock ≠ some gr := q3.fa gr hgrl HP.out.rt;have Q3 := hide q3;clear q1 q2 q3 HRD c0;go_wp2_with fail
 refine (settle_any HR1.out (.inr (.inl rfl)) (by omega)).mono ?_;rintro e W2 ⟨rfl,hs⟩;have HS := hide hs;have R2 : Hid (Row W2 w.heap.size 5 (.slice ua o.length uc) (bc o)) := hide (R1.out.frame fun j e => hs.2.2.1.block j (R1.out.lt e).2 (by have := (R1.out.lt e).1;omega) (by have := (R1.out.lt e).1;omega));have B2 := hide (B1.out.trans (hs.2.2.1.low (base := base) HP.out.rdr.rb HP.out.rdr.fb (by omega)));have DK2 := hide (P1.out.dec.keepR hs.2.2.1 (fun e => HP.out.rd e.symm) (fun e => P1.out.gd e.symm) hrl' P1.out.gl hrt' P1.out.gt);have FPO : Hid (overT tt = true -> ∃ g',w.heap.size <= g' /\ Rdr W2 base gr g' 213 215 tt []) := hide (fun h => (by obtain ⟨g',h1,h2⟩ := hs.1 h;exact ⟨g',Nat.le_trans hw1 h1,h2⟩));have FPN : Hid (overT tt = false -> PRd W2 base gr g gd lv' tv' tt d2) := hide (fun h => ⟨hs.2.1 h,⟨⟨(hs.2.1 h).fr⟩,DK2.out,P1.out.fb,P1.out.gd,P1.out.gl,P1.out.gt⟩,HP.out.rd,hrl',hrt'⟩);have PF2 : Hid (PFr w W2 gr g gd lv tv lv' tv') := hide ⟨fun k hk h1 h2 h3 h4 h5 => (hs.2.2.1.block k (Nat.lt_of_lt_of_le hk hw1) h1 h2).trans (Q3.out.block k hk h2 h3 h4 h5),Q3.out.la,Q3.out.fa⟩;clear hs R1 HR1 Q3;cases ho : overT tt with
 | true =>
  obtain ⟨g2,_,hr2⟩ := HS.out.1 ho;have HT := hide (told_any g2 W2);have c := hr2.c0;have c1 := hr2.t1;have c2 := hr2.t2;clear hr2 ho;go_wp2_with fail
  refine HT.out.mono ?_;rintro e w3 ⟨rfl,rfl⟩;go_wp2_with fail
  go_quiet (fail)
  go_wp2
  exact bodyPost_ret (v := .tuple #[.slice ua o.length uc,.int .i64 (n : Int),.bool tt.whole,.int .i64 (tt.wrong : Int)]) (by simp [results,Tryz.results96,go_sem]) rfl ⟨_,_,_,_,rfl,R2.out.below (below_drewN _ _),fun h => (by obtain ⟨g',h1,h2⟩ := FPO.out h;exact ⟨g',h1,h2.below (below_drewN _ _)⟩),fun h => (FPN.out h).below (below_drewN _ _),B2.out.trans ((below_drewN _ _).mono (by have := B2.out.size;omega)),⟨PF2.out.block,PF2.out.la,PF2.out.fa⟩⟩
 | false =>
  have hr2 := HS.out.2.1 ho;obtain ⟨g2,hg2⟩ : ∃ x,g = x := ⟨_,rfl⟩
  rw [hg2] at hr2;have HT := hide (told_any g2 W2);have c := hr2.c0;have c1 := hr2.t1;have c2 := hr2.t2;clear hr2 ho hg2;go_wp2_with fail
  refine HT.out.mono ?_;rintro e w3 ⟨rfl,rfl⟩;go_wp2_with fail
  go_quiet (fail)
  go_wp2
  exact bodyPost_ret (v := .tuple #[.slice ua o.length uc,.int .i64 (n : Int),.bool tt.whole,.int .i64 (tt.wrong : Int)]) (by simp [results,Tryz.results96,go_sem]) rfl ⟨_,_,_,_,rfl,R2.out.below (below_drewN _ _),fun h => (by obtain ⟨g',h1,h2⟩ := FPO.out h;exact ⟨g',h1,h2.below (below_drewN _ _)⟩),fun h => (FPN.out h).below (below_drewN _ _),B2.out.trans ((below_drewN _ _).mono (by have := B2.out.size;omega)),⟨PF2.out.block,PF2.out.la,PF2.out.fa⟩⟩
def fiv (gr g gd : Nat) (lv tv : Value) (k : Nat) : Prop := k = gr ∨ k = g ∨ k = gd ∨ lv.ownBlock = some k ∨ tv.ownBlock = some k
structure BF5 (w w' : World) (c : Nat) (F : Nat -> Prop) (bv : Value) : Prop where
 os : w'.os = w.os
 tape : w'.tape = w.tape
 output : w'.output = w.output
 size : w.heap.size <= w'.heap.size
 block : ∀ k,k < w.heap.size -> k ≠ c -> ¬ F k -> bv.ownBlock ≠ some k -> w'.heap[k]? = w.heap[k]?
theorem BF5.ck {w w' w2 : World} {c : Nat} {F : Nat -> Prop} {bv : Value} (h : BF5 w w' c F bv) (k : CK w' w2 c) : BF5 w w2 c F bv :=
 ⟨k.os.trans h.os,k.tape.trans h.tape,k.output.trans h.output,Nat.le_trans h.size k.size,fun i h1 h2 h3 h4 => (k.block i (Nat.lt_of_lt_of_le h1 h.size) h2).trans (h.block i h1 h2 h3 h4)⟩
theorem PRd.fiv_lt {w : World} {base gr g gd : Nat} {lv tv : Value} {t : Tal} {d : Dz} (h : PRd w base gr g gd lv tv t d) {k : Nat} (hk : fiv gr g gd lv tv k) : k < w.heap.size := by
 rcases hk with rfl | rfl | rfl | e | e
 ·exact lt_heap' h.rdr.rd
 ·exact lt_heap' h.rdr.fr
 ·exact h.pt.dec.lt
 ·exact (h.pt.dec.line.lt e).2
 ·exact (h.pt.dec.trs.lt e).2
theorem PRd.same {w w' : World} {base gr g gd : Nat} {lv tv : Value} {t : Tal} {d : Dz} (h : PRd w base gr g gd lv tv t d) (b : ∀ k,fiv gr g gd lv tv k -> w'.heap[k]? = w.heap[k]?) : PRd w' base gr g gd lv tv t d := by
 refine ⟨h.rdr.same (b gr (.inl rfl)) (b g (.inr (.inl rfl))),⟨⟨(b g (.inr (.inl rfl))).trans h.pt.fr.fr⟩,h.pt.dec.frame fun k e => ?_,h.pt.fb,h.pt.gd,h.pt.gl,h.pt.gt⟩,h.rd,h.rl,h.rt⟩;rcases e with rfl | e | e
 ·exact b _ (.inr (.inr (.inl rfl)))
 ·exact b k (.inr (.inr (.inr (.inl e))))
 ·exact b k (.inr (.inr (.inr (.inr e))))
theorem readBody_part {w : World} {c base b0 gr g gd : Nat} {lv tv : Value} {hd bd : Int} {bg wt : Bool} {pv bv : Value} {wr : Int} {O : List UInt8} {t : Tal} {d : Dz} (h : ClB w c hd bd (stB c) bg wt pv (.pointer (some ⟨gr, 0, none⟩)) bv wr) (hr : PRd w base gr g gd lv tv t d) (hf : FitD d) (hw : d.whole = false) (hwr : d.wrong = 0) (hm : MX w) (hb3 : 3 <= base) (hrow : Row w b0 5 bv (bc O)) (cb : c < b0) (apc : ¬ fiv gr g gd lv tv c) (apb : ∀ k, bv.ownBlock = some k -> ¬ fiv gr g gd lv tv k) (b0w : b0 <= w.heap.size)
  {A : Nat -> Prop} (va : Option Addr) (vc : Nat) (b : List UInt8) (hv : Bf w A (.slice va b.length vc) b) (hs : Shp (.slice va b.length vc)) (apA : ∀ k,fiv gr g gd lv tv k -> ¬ A k) (AL : ∀ k,A k -> k < w.heap.size) (hl : b.length <= 70368744177664) (hg : t.got <= 9007199254740992) (hfit : O.length + (dBytes d b).2.2.1.length <= 140737488355328) :
  Calls Tryz.prog 64 #[.pointer (some ⟨c, 0, none⟩), .slice va b.length vc] w fun e w' => e = .returned (.int .i64 ((dBytes d b).2.1 : Int)) /\ BF5 w w' c (fiv gr g gd lv tv) bv /\
   ((dBytes d b).1 ≠ 0 -> ClB w' c 0 0 .nilFunc false false (.pointer none) (.pointer none) (.slice none 0 0) (bodyS ((dBytes d b).1 : Int))) /\
   ((dBytes d b).1 = 0 -> ∃ v', Row w' b0 5 v' (bc (O ++ (dBytes d b).2.2.1)) /\ (∀ k, k < w.heap.size -> bv.ownBlock ≠ some k -> v'.ownBlock ≠ some k) /\
    ((dBytes d b).2.2.2.whole = true -> ClB w' c hd bd .nilFunc false true pv (.pointer none) v' wr) /\
    ((dBytes d b).2.2.2.whole = false -> ClB w' c hd bd (stB c) bg wt pv (.pointer (some ⟨gr,0,none⟩)) v' wr /\ ∃ lv' tv',PRd w' base gr g gd lv' tv' ⟨t.got + (dBytes d b).2.2.1.length,false,0⟩ (dForget { (dBytes d b).2.2.2 with wrong := 0 }) /\ (∀ k,k < w.heap.size -> ¬ fiv gr g gd lv tv k -> ¬ fiv gr g gd lv' tv' k) /\ (∀ k,v'.ownBlock = some k -> ¬ fiv gr g gd lv' tv' k))) := by
 have hF := feed_part2 hr hf hw hwr hm hb3 va vc b hv hs (fun x => apA gd (.inr (.inr (.inl rfl))) x) (fun k e => apA k (.inr (.inr (.inr (.inl e))))) (fun k e => apA k (.inr (.inr (.inr (.inr e))))) AL hl hg;have hcl : c < w.heap.size := lt_heap h;have hnot : ∀ {k : Nat},¬ fiv gr g gd lv tv k -> k ≠ gr /\ k ≠ g /\ k ≠ gd /\ lv.ownBlock ≠ some k /\ tv.ownBlock ≠ some k := fun {k} n => ⟨fun e => n (.inl e),fun e => n (.inr (.inl e)),fun e => n (.inr (.inr (.inl e))),fun e => n (.inr (.inr (.inr (.inl e)))),fun e => n (.inr (.inr (.inr (.inr e))))⟩
 generalize hD : dBytes d b = D at *;obtain ⟨er,n,out,d2⟩ := D;dsimp only at *
 refine readBody_of (base := b0) (O := O) (l := out) (n := (n : Int)) (er := (er : Int)) (wh := d2.whole) (.slice va b.length vc) h
  (fun w1 u => ∃ lv' tv',(overT ⟨t.got + out.length,d2.whole,er⟩ = true -> ∃ g',w.heap.size <= g' /\ Rdr w1 base gr g' 213 215 ⟨t.got + out.length,d2.whole,er⟩ []) /\ (overT ⟨t.got + out.length,d2.whole,er⟩ = false -> PRd w1 base gr g gd lv' tv' ⟨t.got + out.length,d2.whole,er⟩ (dForget { d2 with wrong := er })) /\ Below base w w1 /\ PFr w w1 gr g gd lv tv lv' tv') (hF.mono ?_) _ ?_
 ·rintro e w1 ⟨ua, uc, lv', tv', rfl, r1, r2, r3, r4, r5⟩
  refine ⟨ua,out.length,uc,rfl,⟨lv',tv',r2,r3,r4,r5⟩,⟨?_,hrow.frame fun i hi => ?_,⟨_,Bs.of_row r1⟩,Shp.of_row r1,Nat.le_trans b0w r4.size,hfit,cb⟩⟩
  ·obtain ⟨n1, n2, n3, n4, n5⟩ := hnot apc
   exact (r5.block c hcl n1 n2 n3 n4 n5).trans h
  ·obtain ⟨n1, n2, n3, n4, n5⟩ := hnot (apb i hi)
   exact r5.block i (hrow.lt hi).2 n1 n2 n3 n4 n5
 ·rintro w1 W1 u v' ⟨lv', tv', r2, r3, r4, r5⟩ cm a1 a2 a3 hc
  have hv7 : v'.ownBlock ≠ some c := fun e => by have := (a1.lt e).1;omega
  have sameY : ∀ i,i < w1.heap.size -> i ≠ c -> bv.ownBlock ≠ some i -> (W1.setCell ⟨c,7,none⟩ v').heap[i]? = w1.heap[i]? := fun i h1 h2 h3 => (Below.heap_setCell W1 ⟨c,7,none⟩ v' i h2).trans (a3.block i h1 h3)
  have rowY : Row (W1.setCell ⟨c,7,none⟩ v') b0 5 v' (bc (O ++ out)) := a1.frame fun i hi => Below.heap_setCell W1 ⟨c,7,none⟩ v' i (fun e => hv7 (by rw [hi,e]))
  have frY : BF5 w (W1.setCell ⟨c,7,none⟩ v') c (fiv gr g gd lv tv) bv := by
   refine ⟨a2.os.trans r4.os,a2.tape.trans r4.tape,a2.output.trans r4.output,Nat.le_trans r4.size (Nat.le_trans a3.size (by simp)),fun i h1 h2 h3 h4 => ?_⟩;obtain ⟨n1,n2,n3,n4,n5⟩ := hnot h3;exact (sameY i (Nat.lt_of_lt_of_le h1 r4.size) h2 h4).trans (r5.block i h1 n1 n2 n3 n4 n5)
  have apY : ∀ i,i < w.heap.size -> bv.ownBlock ≠ some i -> v'.ownBlock ≠ some i := fun i h1 h2 => a3.apart i (Nat.lt_of_lt_of_le h1 r4.size) h2
  have mv : ∀ k,k < w.heap.size -> ¬ fiv gr g gd lv tv k -> ¬ fiv gr g gd lv' tv' k := fun k hk hn x => by
   obtain ⟨n1,n2,n3,n4,n5⟩ := hnot hn;rcases x with e | e | e | e | e
   ·exact n1 e
   ·exact n2 e
   ·exact n3 e
   ·exact r5.la k hk n4 e
   ·exact r5.fa k hk n5 e
  by_cases h0 : er = 0
  ·subst h0
   cases hwh : d2.whole with
   | true =>
    rw [hwh] at r2;obtain ⟨g2,q1,q2⟩ := r2 rfl;have q3 := q2.same (sameY gr (lt_heap' q2.rd) (fun e => apc (.inl e.symm)) (fun e => apb gr e (.inl rfl))) (sameY g2 (lt_heap' q2.fr) (by omega) (fun e => by have := (hrow.lt e).2;omega));refine (look_whole hc q3 (.inr (.inr (.inr rfl))) rfl).mono ?_;rintro e w' ⟨rfl,z1,z2⟩;exact ⟨rfl,frY.ck z2,fun x => absurd rfl x,fun _ => ⟨v',rowY.frame fun i hi => z2.block i (rowY.lt hi).2 (fun e => hv7 (by rw [hi,e])),apY,fun _ => z1,fun x => absurd x (by simp)⟩⟩
   | false =>
    rw [hwh] at r3;have q2 := r3 rfl;have hfc : ¬ fiv gr g gd lv' tv' c := mv c hcl apc;have hfb : ∀ k,bv.ownBlock = some k -> ¬ fiv gr g gd lv' tv' k := fun k e => mv k (hrow.lt e).2 (apb k e)
    have q3 := q2.same (w' := W1.setCell ⟨c,7,none⟩ v') (fun k hk => sameY k (q2.fiv_lt hk) (fun e => hfc (e ▸ hk)) (fun e => hfb k e hk));refine (look_part hc q3.rdr (.inr (.inl rfl)) rfl).mono ?_;rintro e w' ⟨rfl,rfl⟩;refine ⟨rfl,frY,fun x => absurd rfl x,fun _ => ⟨v',rowY,apY,fun x => absurd x (by simp),fun _ => ⟨hc,lv',tv',q3,mv,fun k e x => ?_⟩⟩⟩;by_cases hvb : bv.ownBlock = some k
    ·exact hfb k hvb x
    ·exact a3.apart k (q2.fiv_lt x) hvb e
  ·refine (look_wrong hc (by omega)).mono ?_
   rintro e w' ⟨rfl,z1,z2⟩;exact ⟨rfl,frY.ck z2,fun _ => z1,fun x => absurd x h0⟩
end Go.Proofs.YtcagjipdldlehaaGreatDoor
