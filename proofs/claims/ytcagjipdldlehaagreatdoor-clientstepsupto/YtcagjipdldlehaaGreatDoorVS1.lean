/- VS1. -/
import Derived.Test.YtcagjipdldlehaaGreatDoorVA
import Derived.Test.YtcagjipdldlehaaGreatDoorVH3
import Derived.Test.YtcagjipdldlehaaGreatDoorVR3
import Derived.Test.YtcagjipdldlehaaGreatDoorVK
namespace Go.Proofs.YtcagjipdldlehaaGreatDoor
open Go.ChangeShapes Go.WideShapes Go.ChangeAt Go.RowKit
set_option linter.unusedVariables false
set_option maxHeartbeats 16000000
set_option maxRecDepth 100000
def Sw (w : World) : Type := { W : World // Below w.heap.size w W }
instance Sw.some (w : World) : Nonempty (Sw w) := ⟨⟨w,Below.refl _ _⟩⟩
def cw {w : World} (u : Sw w) : World := u.1
theorem cw_b {w : World} (u : Sw w) : Below w.heap.size w (cw u) := u.2
theorem cw_cell {w : World} {a : Addr} {v : Value} (h : w.cell? a = some v) (u : Sw w) : (cw u).cell? a = some v := ((cw_b u).cell (World.block_lt_of_cell? w a h)).trans h
theorem call_cw {P : Program} {f : Nat} {args : Array Value} {w : World} {u : Sw w} {r : Value} (c : Calls P f args (cw u) fun e w' => e = .returned r /\ Below (cw u).heap.size (cw u) w') : Calls P f args (cw u) fun e w' => e = .returned r /\ ∃ u' : Sw w,w' = cw u' :=
 c.mono fun _ w' ⟨h1,h2⟩ => ⟨h1,⟨w',(cw_b u).trans (h2.mono (cw_b u).size)⟩,rfl⟩
theorem wp_region_cw {P : Program} {id : Nat} {Q : Exit -> Act -> World -> Prop} {a : Act} {w : World} {l : List Oper} (hm : P.follows .mixedOrders = true) (hB : Region.lexB .any l.toArray = true)
  (h : wpQuiet P l.toArray (fun W => ∃ u : Sw w,W = cw u) (fun a' => ∀ w',(∃ u : Sw w,w' = cw u) -> Q .normal a' w') l a) : (Code.region id l.toArray true).wp P Q a w :=
 wp_region_quiet (C := fun W => ∃ u : Sw w,W = cw u) hm hB ⟨⟨w.drew,(Below.refl _ w).drew⟩,rfl⟩ (by simpa using h)
theorem ask_other (k : Int) (x : Bool) (most : Int) (w : World) (hk : k = 1 ∨ k = 3) (t5 : ¬ most < 0) (t6 : ¬ 9007199254740992 < most) : Calls Tryz.prog 40 #[frV k 0 x,.int .i64 most] w fun e w' => e = .returned (.int .i64 0) /\ Below w.heap.size w w' := by
 have FIN : Hid (∀ W,W = w.alloc (.cells #[.int .i64 k,.int .i64 0,.bool x] 83) -> Below w.heap.size w W) := hide (by rintro W rfl;exact (Below.refl w.heap.size w).alloc (Nat.le_refl _) _);unfold frV;rcases hk with rfl | rfl
 all_goals
  go_enter Tryz.func40,Tryz.ntmps40
  go_wp2
  go_ret
  exact ⟨rfl,FIN.out _ rfl⟩
theorem ask_len (len : Int) (x : Bool) (most : Int) (w : World) (t2 : ¬ len < 0) (t3 : ¬ 9007199254740992 < len) (t5 : ¬ most < 0) (t6 : ¬ 9007199254740992 < most) : Calls Tryz.prog 40 #[frV 2 len x,.int .i64 most] w fun e w' => e = .returned (.int .i64 (if most < len then 2 else 0)) /\ Below w.heap.size w w' := by
 have FIN : Hid (∀ W,W = w.alloc (.cells #[.int .i64 2,.int .i64 len,.bool x] 83) -> Below w.heap.size w W) := hide (by rintro W rfl;exact (Below.refl w.heap.size w).alloc (Nat.le_refl _) _);unfold frV;by_cases t8 : most < len
 ·rw [if_pos t8]
  go_enter Tryz.func40,Tryz.ntmps40
  go_wp2
  go_ret
  exact ⟨rfl,FIN.out _ rfl⟩
 ·rw [if_neg t8]
  go_enter Tryz.func40,Tryz.ntmps40
  go_wp2
  go_ret
  exact ⟨rfl,FIN.out _ rfl⟩
def rcC (M bd : Int) (B : Value) (wt sh : Bool) (st : Int) (hr : Bool) (me ta : ByteArray) (mi hs : Int) (re : ByteArray) (fl dv : Value) : Array Value := #[.int .i64 M,.int .i64 bd,B,.bool wt,.bool sh,.int .i64 st,.bool hr,.string me,.string ta,.int .i64 mi,.int .i64 hs,.string re,fl,dv]
theorem rr_no (W : World) (M : Nat) (hM : M <= 65536) (vb : Value) (li : List UInt8) (hB : Bs W W.heap.size vb li) (hl : li.length <= 140737488355328) {er k : Nat} {q : Pz} (hP : pBytes (pNew true M) li = (er, k, q)) (hw : er ≠ 0 ∨ q.whole = false) :
  Calls Tryz.prog 38 #[.bool true,.int .i64 (M : Int),vb] W fun e w' => ∃ ua un uc,e = .returned (.tuple #[.agg #[.bool false,.string ⟨#[]⟩,.string ⟨#[]⟩,.int .i64 0,.int .i64 0,.string ⟨#[]⟩,.slice ua un uc],.int .i64 (k : Int),.bool false,.int .i64 (er : Int)]) /\ Below W.heap.size W w' := by
 refine (rread_any W true M hM vb li hB hl).mono ?_;rintro e w' ⟨u,rfl,h1,h2⟩;rw [hP] at h1 |-
 have e1 : rdW (er,k,q) = false := by
  unfold rdW;rcases hw with h | h
  ·rw [decide_eq_false h];rfl
  ·show (decide (er = 0) && q.whole) = false;rw [h];simp
 have e2 : rdH (er,k,q) = hx0 := by unfold rdH;rw [if_neg (by simp [e1])]
 rw [e2] at h1 |-
 rw [e1];obtain ⟨ua,uc,rfl,-⟩ := h1.shape;exact ⟨ua,_,uc,rfl,h2⟩
theorem rr_yes (W : World) (M : Nat) (hM : M <= 65536) (vb : Value) (li : List UInt8) (hB : Bs W W.heap.size vb li) (hl : li.length <= 140737488355328) {k : Nat} {q : Pz} (hP : pBytes (pNew true M) li = (0, k, q)) (hw : q.whole = true) :
  Calls Tryz.prog 38 #[.bool true,.int .i64 (M : Int),vb] W fun e w' => ∃ ua uc,e = .returned (.tuple #[.agg #[.bool q.req,.string q.me,.string q.ta,.int .i64 (q.minor : Int),.int .i64 (q.status : Int),.string q.re,.slice ua q.fs.length uc],.int .i64 (k : Int),.bool true,.int .i64 0]) /\ FRow w' W.heap.size (.slice ua q.fs.length uc) q.fs /\ Below W.heap.size W w' := by
 refine (rread_any W true M hM vb li hB hl).mono ?_;rintro e w' ⟨u,rfl,h1,h2⟩;rw [hP] at h1 |-
 have e1 : rdW (0,k,q) = true := by unfold rdW;simp [hw]
 have e2 : rdH (0,k,q) = q.hx := by unfold rdH;rw [if_pos e1]
 rw [e2] at h1 |-
 rw [e1];obtain ⟨ua,uc,rfl,-⟩ := id h1.shape;exact ⟨ua,uc,rfl,h1,h2⟩
section
variable {w : World} {c M bd : Nat} {B : Value} {wt sh : Bool} {st : Int} {hr : Bool} {me ta : ByteArray} {mi hs : Int} {re : ByteArray} {fl dv : Value}
theorem look_head (hc : w.heap[c]? = some (.cells (rcC M bd B wt sh st hr me ta mi hs re fl dv) 70 (0, 0))) (hM : M <= 65536) (v : Value) (l : List UInt8) (hB : Bs w w.heap.size v l) (hl : l.length <= 140737488355328) {er k : Nat} {q : Pz} (hP : pBytes (pNew true M) l = (er, k, q)) (hw : er ≠ 0 ∨ q.whole = false) :
  Calls Tryz.prog 27 #[.pointer (some ⟨c,0,none⟩),v] w fun e w' => e = .returned (.tuple #[.int .i64 (k : Int),.bool false,.int .i64 (if er = 0 then 0 else headSt er)]) /\ Below w.heap.size w w' := by
 have HR := hide (rr_no w M hM v l hB hl hP hw);have c0 : w.cell? ⟨c,0,none⟩ = some (.int .i64 (M : Int)) := cell_at hc 0;unfold headSt;clear hc hB hP hw;by_cases h0 : er = 0
 ·subst h0
  rw [if_pos rfl];rw [show ((0 : Nat) : Int) = 0 from rfl] at HR;go_enter Tryz.func27,Tryz.ntmps27
  go_wp2_with fail
  refine HR.out.mono ?_;rintro e w1 ⟨ua,un,uc,rfl,b1⟩;have BZ := hide (b1.trans (((Below.refl w1.heap.size w1).alloc (Nat.le_refl _) (.cells #[.bool false,.string ⟨#[]⟩,.string ⟨#[]⟩,.int .i64 0,.int .i64 0,.string ⟨#[]⟩,.slice ua un uc] 45)).mono b1.size));clear b1 HR c0;go_wp2_with fail
  exact bodyPost_ret (v := .tuple #[.int .i64 (k : Int),.bool false,.int .i64 0]) (by simp [results,Tryz.results27,go_sem]) rfl ⟨rfl,BZ.out⟩
 ·rw [if_neg h0]
  have t0 : ((er : Int) != 0) = true := by simp;omega
  by_cases h85 : er = 85
  ·subst h85
   rw [if_pos rfl];rw [show ((85 : Nat) : Int) = 85 from rfl] at HR;go_enter Tryz.func27,Tryz.ntmps27
   go_wp2_with fail
   refine HR.out.mono ?_;rintro e w1 ⟨ua,un,uc,rfl,b1⟩;have BZ := hide (b1.trans (((Below.refl w1.heap.size w1).alloc (Nat.le_refl _) (.cells #[.bool false,.string ⟨#[]⟩,.string ⟨#[]⟩,.int .i64 0,.int .i64 0,.string ⟨#[]⟩,.slice ua un uc] 45)).mono b1.size));clear b1 HR c0;go_wp2_with fail
   exact bodyPost_ret (v := .tuple #[.int .i64 (k : Int),.bool false,.int .i64 431]) (by simp [results,Tryz.results27,go_sem]) rfl ⟨rfl,BZ.out⟩
  ·rw [if_neg h85]
   have t85 : ((er : Int) == 85) = false := by simp;omega
   have n85 : ¬ (er : Int) = 85 := by omega
   have n0 : ¬ (er : Int) = 0 := by omega
   go_enter Tryz.func27,Tryz.ntmps27
   go_wp2_with fail
   refine HR.out.mono ?_;rintro e w1 ⟨ua,un,uc,rfl,b1⟩;have BZ := hide (b1.trans (((Below.refl w1.heap.size w1).alloc (Nat.le_refl _) (.cells #[.bool false,.string ⟨#[]⟩,.string ⟨#[]⟩,.int .i64 0,.int .i64 0,.string ⟨#[]⟩,.slice ua un uc] 45)).mono b1.size));clear b1 HR c0;go_wp2_with fail
   exact bodyPost_ret (v := .tuple #[.int .i64 (k : Int),.bool false,.int .i64 400]) (by simp [results,Tryz.results27,go_sem]) rfl ⟨rfl,BZ.out⟩
end
section
variable {w : World} {c M bd : Nat} {B : Value} {wt sh : Bool} {st : Int} {hr : Bool} {me ta : ByteArray} {mi hs : Int} {re : ByteArray} {fl dv : Value}
theorem look_refused (hc : w.heap[c]? = some (.cells (rcC M bd B wt sh st hr me ta mi hs re fl dv) 70 (0, 0))) (hM : M <= 65536) (hbd : bd <= 1048576) (v : Value) (l : List UInt8) (hB : Bs w w.heap.size v l) (hl : l.length <= 140737488355328) {k : Nat} {q : Pz} (hP : pBytes (pNew true M) l = (0, k, q)) (hw : q.whole = true) (hS : Sm q.fs) {fk fn : Int} {fb : Bool} {fe : Int} (hq : reqO q.fs q.req (q.minor : Int) = ⟨fk, fn, fb, fe⟩) (he : fe ≠ 0) :
  Calls Tryz.prog 27 #[.pointer (some ⟨c,0,none⟩),v] w fun e w' => e = .returned (.tuple #[.int .i64 (k : Int),.bool false,.int .i64 400]) /\ Below w.heap.size w w' := by
 have HR := hide (rr_yes w M hM v l hB hl hP hw);have HQ := hide (fun W l (h : Flds W l q.fs) => rreq_any W q.req q.me q.ta (q.minor : Int) (q.status : Int) q.re l q.fs h hS);rw [hq] at HQ;unfold hdC foV frVg at HQ;dsimp only at HQ;have HC := hide hc;have hcl : c < w.heap.size := lt_heap' hc;have c0 : w.cell? ⟨c,0,none⟩ = some (.int .i64 (M : Int)) := cell_at hc 0;have hbdi : ¬ (bd : Int) < 0 := by omega
 clear hc hB hP hw hS hq;have t0 : (fe != 0) = true := by simpa using he
 go_enter Tryz.func27,Tryz.ntmps27
 go_wp2_with fail
 refine HR.out.mono ?_;rintro e w1 ⟨ua,uc,rfl,f1,b1⟩;have a2 := (Below.refl w1.heap.size w1).alloc (Nat.le_refl _) (.cells #[.bool q.req,.string q.me,.string q.ta,.int .i64 (q.minor : Int),.int .i64 (q.status : Int),.string q.re,.slice ua q.fs.length uc] 45);have B2 := hide (b1.trans (a2.mono b1.size));have FL := hide ((Flds.of_row f1).below a2);have G2 := hide (hp_new w1 (.cells #[.bool q.req,.string q.me,.string q.ta,.int .i64 (q.minor : Int),.int .i64 (q.status : Int),.string q.re,.slice ua q.fs.length uc] 45));clear f1 b1 a2 HR c0;go_upto_region 2 with fail
 generalize w1.alloc _ = w2 at *;have g0 : w2.cell? ⟨w1.heap.size,0,none⟩ = some (.bool q.req) := cell_at G2.out 0;have g1 : w2.cell? ⟨w1.heap.size,1,none⟩ = some (.string q.me) := cell_at G2.out 1;have g2 : w2.cell? ⟨w1.heap.size,2,none⟩ = some (.string q.ta) := cell_at G2.out 2;have g3 : w2.cell? ⟨w1.heap.size,3,none⟩ = some (.int .i64 (q.minor : Int)) := cell_at G2.out 3;have g4 : w2.cell? ⟨w1.heap.size,4,none⟩ = some (.int .i64 (q.status : Int)) := cell_at G2.out 4;have g5 : w2.cell? ⟨w1.heap.size,5,none⟩ = some (.string q.re) := cell_at G2.out 5;have g6 : w2.cell? ⟨w1.heap.size,6,none⟩ = some (.slice ua q.fs.length uc) := cell_at G2.out 6;go_wp2_with fail
 refine (HQ.out _ _ FL.out).mono ?_;rintro e w3 ⟨rfl,b3⟩;have a4 := (Below.refl w3.heap.size w3).alloc (Nat.le_refl _) (.cells #[.int .i64 fk,.int .i64 fn,.bool fb] 83);have Z4 := hide (b3.trans (a4.mono b3.size));have B4 := hide (B2.out.trans (Z4.out.mono B2.out.size));have G4 := hide (hp_new w3 (.cells #[.int .i64 fk,.int .i64 fn,.bool fb] 83));clear b3 a4 HQ g0 g1 g2 g3 g4 g5 g6;go_upto_region 9 with fail
 generalize w3.alloc _ = w4 at *;go_wp2_with fail
 exact bodyPost_ret (v := .tuple #[.int .i64 (k : Int),.bool false,.int .i64 400]) (by simp [results,Tryz.results27,go_sem]) rfl ⟨rfl,B4.out⟩
theorem look_long (hc : w.heap[c]? = some (.cells (rcC M bd B wt sh st hr me ta mi hs re fl dv) 70 (0, 0))) (hM : M <= 65536) (hbd : bd <= 1048576) (v : Value) (l : List UInt8) (hB : Bs w w.heap.size v l) (hl : l.length <= 140737488355328) {k : Nat} {q : Pz} (hP : pBytes (pNew true M) l = (0, k, q)) (hw : q.whole = true) (hS : Sm q.fs) {fk fn : Int} {fb : Bool} {fe : Int} (hq : reqO q.fs q.req (q.minor : Int) = ⟨fk, fn, fb, fe⟩) (he : fe = 0) (hk : fk = 2) (hn0 : 0 <= fn) (hn : fn <= 9007199254740992) (hlong : (bd : Int) < fn) :
  Calls Tryz.prog 27 #[.pointer (some ⟨c,0,none⟩),v] w fun e w' => e = .returned (.tuple #[.int .i64 (k : Int),.bool false,.int .i64 413]) /\ Below w.heap.size w w' := by
 have HR := hide (rr_yes w M hM v l hB hl hP hw);have HQ := hide (fun W l (h : Flds W l q.fs) => rreq_any W q.req q.me q.ta (q.minor : Int) (q.status : Int) q.re l q.fs h hS);rw [hq] at HQ;unfold hdC foV frVg at HQ;dsimp only at HQ;have HC := hide hc;have hcl : c < w.heap.size := lt_heap' hc;have c0 : w.cell? ⟨c,0,none⟩ = some (.int .i64 (M : Int)) := cell_at hc 0;have hbdi : ¬ (bd : Int) < 0 := by omega
 clear hc hB hP hw hS hq;subst he hk;have HA := hide (fun W => ask_len fn fb (bd : Int) W (by omega) (by omega) (by omega) (by omega));rw [if_pos hlong] at HA;unfold frV at HA;go_enter Tryz.func27,Tryz.ntmps27
 go_wp2_with fail
 refine HR.out.mono ?_;rintro e w1 ⟨ua,uc,rfl,f1,b1⟩;have a2 := (Below.refl w1.heap.size w1).alloc (Nat.le_refl _) (.cells #[.bool q.req,.string q.me,.string q.ta,.int .i64 (q.minor : Int),.int .i64 (q.status : Int),.string q.re,.slice ua q.fs.length uc] 45);have B2 := hide (b1.trans (a2.mono b1.size));have FL := hide ((Flds.of_row f1).below a2);have G2 := hide (hp_new w1 (.cells #[.bool q.req,.string q.me,.string q.ta,.int .i64 (q.minor : Int),.int .i64 (q.status : Int),.string q.re,.slice ua q.fs.length uc] 45));clear f1 b1 a2 HR c0;go_upto_region 2 with fail
 generalize w1.alloc _ = w2 at *;have g0 : w2.cell? ⟨w1.heap.size,0,none⟩ = some (.bool q.req) := cell_at G2.out 0;have g1 : w2.cell? ⟨w1.heap.size,1,none⟩ = some (.string q.me) := cell_at G2.out 1;have g2 : w2.cell? ⟨w1.heap.size,2,none⟩ = some (.string q.ta) := cell_at G2.out 2;have g3 : w2.cell? ⟨w1.heap.size,3,none⟩ = some (.int .i64 (q.minor : Int)) := cell_at G2.out 3;have g4 : w2.cell? ⟨w1.heap.size,4,none⟩ = some (.int .i64 (q.status : Int)) := cell_at G2.out 4;have g5 : w2.cell? ⟨w1.heap.size,5,none⟩ = some (.string q.re) := cell_at G2.out 5;have g6 : w2.cell? ⟨w1.heap.size,6,none⟩ = some (.slice ua q.fs.length uc) := cell_at G2.out 6;go_wp2_with fail
 refine (HQ.out _ _ FL.out).mono ?_;rintro e w3 ⟨rfl,b3⟩;have a4 := (Below.refl w3.heap.size w3).alloc (Nat.le_refl _) (.cells #[.int .i64 2,.int .i64 fn,.bool fb] 83);have Z4 := hide (b3.trans (a4.mono b3.size));have B4 := hide (B2.out.trans (Z4.out.mono B2.out.size));have G4 := hide (hp_new w3 (.cells #[.int .i64 2,.int .i64 fn,.bool fb] 83));clear b3 a4 HQ g0 g1 g2 g3 g4 g5 g6;go_upto_region 9 with fail
 generalize w3.alloc _ = w4 at *;have C4 := hide ((B4.out.block c hcl).trans HC.out);have HAS := hide (fun u : Sw w4 => call_cw (u := u) (HA.out (cw u)));have e1 := cw_cell (show w4.cell? ⟨c,1,none⟩ = some (.int .i64 (bd : Int)) from cell_at C4.out 1);have f0 := cw_cell (show w4.cell? ⟨w3.heap.size,0,none⟩ = some (.int .i64 2) from cell_at G4.out 0);have f1 := cw_cell (show w4.cell? ⟨w3.heap.size,1,none⟩ = some (.int .i64 fn) from cell_at G4.out 1);have f2 := cw_cell (show w4.cell? ⟨w3.heap.size,2,none⟩ = some (.bool fb) from cell_at G4.out 2);clear C4 G4 HA HC G2 FL;go_upto_region 11 with fail
 refine wp_region_cw (by kernel_rfl) (by kernel_rfl) ?_;repeat (go_big_quiet_step ((go_at_call 40;refine HAS.out _)))
 refine wpQuiet_nil ?_;intro _ hw';obtain ⟨z,hw''⟩ := hw';subst hw'';have BZ := hide (B4.out.trans ((cw_b z).mono B4.out.size));generalize cw z = wz at *;go_wp2_with fail
 exact bodyPost_ret (v := .tuple #[.int .i64 (k : Int),.bool false,.int .i64 413]) (by simp [results,Tryz.results27,go_sem]) rfl ⟨rfl,BZ.out⟩
end
theorem Bs.fromx {w : World} {base bk o vc : Nat} {l : List UInt8} (h : Bs w base (.slice (some ⟨bk,o,none⟩) l.length vc) l) (k : Nat) (hk : k <= l.length) : Bs w base (.slice (some ⟨bk,o + k,none⟩) (l.length - k) (vc - k)) (l.drop k) := by
 obtain ⟨a,n,e,h1,h2⟩ := h;simp only [Value.slice.injEq,true_and] at e;obtain ⟨rfl,rfl⟩ := e;refine ⟨_,_,by rw [List.length_drop],by rw [List.length_drop];omega,fun j hj => ?_⟩;rw [List.length_drop] at hj;obtain ⟨b,o',q1,q2,q3,q4⟩ := h2 (k + j) (by omega);simp only [Option.some.injEq,Addr.mk.injEq,and_true] at q1;obtain ⟨rfl,rfl⟩ := q1;exact ⟨bk,o + k,rfl,q2,q3,by rw [Nat.add_assoc];simpa using q4⟩
def LkT (w w' : World) (c M bd : Nat) (B : Value) (wt sh : Bool) (st : Int) (h : Hi) (o : List UInt8) : Prop := ∃ ua uc oa on oc,w'.heap[c]? = some (.cells (rcC M bd B wt sh st h.r h.me h.ta h.mi h.st h.re (.slice ua h.fs.length uc) (.slice oa on oc)) 70 (0,0)) /\ FRow w' w.heap.size (.slice ua h.fs.length uc) h.fs /\ Row w' w.heap.size 5 (.slice oa on oc) (bc o) /\ CK w w' c
def LkS (w w' : World) (c M bd : Nat) (B : Value) (wt sh : Bool) (st : Int) (s : CS) : Prop :=
 (s.told = false -> Below w.heap.size w w') /\ (s.told = true -> LkT w w' c M bd B wt sh st s.hi s.ob)
abbrev qHi (q : Pz) : Hi := ⟨q.req,q.me,q.ta,(q.minor : Int),(q.status : Int),q.re,q.fs⟩
theorem lks_of {w w' : World} {c M bd : Nat} {B : Value} {wt sh : Bool} {st : Int} {s : CS} {T : Bool} {q : Pz} {o : List UInt8} (ht : s.told = T) (hs : T = true -> s = .waits (pShut q) o) (h1 : T = false -> Below w.heap.size w w') (h2 : T = true -> LkT w w' c M bd B wt sh st (qHi q) o) : LkS w w' c M bd B wt sh st s :=
 ⟨fun h => h1 (ht ▸ h),fun h => by have e := hs (ht ▸ h);rw [e];exact h2 (ht ▸ h)⟩
theorem ball_to {fk fn bd : Int} {fb : Bool} {v2 : Value} {W : World} {o : List UInt8} {N : Nat} {wh : Bool} {E : Nat} (h : Calls Tryz.prog 41 #[frV fk fn fb, .int .i64 bd, v2, .bool false] W fun e w' => BAllP W o N wh E e w') :
  Calls Tryz.prog 41 #[.agg #[.int .i64 fk,.int .i64 fn,.bool fb],.int .i64 bd,v2,.bool false] W fun e w' => ∃ oa on oc ta tl tc,e = .returned (.agg #[.slice oa on oc,.slice ta tl tc,.int .i64 (N : Int),.bool wh,.int .i64 (E : Int)]) /\ Row w' W.heap.size 5 (.slice oa on oc) (bc o) /\ Below W.heap.size W w' := by
 refine h.mono ?_;rintro e w' ⟨ov,ta,tl,tc,rfl,h1,h2⟩;obtain ⟨oa,oc,rfl,-⟩ := id h1.shape;exact ⟨oa,_,oc,ta,tl,tc,rfl,h1,h2⟩
theorem Row.lowx {W : World} {base b : Nat} {e : TypeId} {v : Value} {xs : List Value} (h : Row W base e v xs) (hb : b <= base) : Row W b e v xs := by
 rcases h with ⟨h1,h2⟩
 refine ⟨h1,?_⟩;rcases h2 with h2 | ⟨g,cap,cur,q1,q2,q3⟩
 ·exact .inl h2
 ·exact .inr ⟨g,cap,cur,q1,Nat.le_trans hb q2,q3⟩
def LkP (w : World) (c M bd : Nat) (B : Value) (wt sh : Bool) (st : Int) (q : Pz) (k N E : Nat) (wh : Bool) (o : List UInt8) (e : Ending) (w' : World) : Prop := e = .returned (.tuple #[.int .i64 ((k + N : Nat) : Int),.bool (decide (E = 0) && wh),.int .i64 (if E = 0 then 0 else bodyS (E : Int))]) /\ ((decide (E = 0) && wh) = false -> Below w.heap.size w w') /\ ((decide (E = 0) && wh) = true -> LkT w w' c M bd B wt sh st (qHi q) o)
section
variable {w w' : World} {c M bd : Nat} {B : Value} {wt sh : Bool} {st : Int} {q : Pz} {k N E : Nat} {wh : Bool} {o : List UInt8}
theorem lk_no {R : Int} (h : Below w.heap.size w w') (hB : (decide (E = 0) && wh) = false) (hR : (if E = 0 then 0 else bodyS (E : Int)) = R) : LkP w c M bd B wt sh st q k N E wh o (.returned (.tuple #[.int .i64 ((k : Int) + (N : Int)),.bool false,.int .i64 R])) w' :=
 ⟨by rw [hB,hR,show ((k + N : Nat) : Int) = (k : Int) + (N : Int) from Int.natCast_add k N],fun _ => h,fun e => by rw [hB] at e;cases e⟩
theorem lk_yes (hE : E = 0) (hw : wh = true) (h : LkT w w' c M bd B wt sh st (qHi q) o) : LkP w c M bd B wt sh st q k N E wh o (.returned (.tuple #[.int .i64 ((k : Int) + (N : Int)),.bool true,.int .i64 0])) w' := by
 subst hE hw;exact ⟨by rw [show ((k + N : Nat) : Int) = (k : Int) + (N : Int) from Int.natCast_add k N];rfl,(fun e => by cases e),fun _ => h⟩
end
section
variable {w : World} {c M bd : Nat} {B : Value} {wt sh : Bool} {st : Int} {hr : Bool} {me9 ta9 : ByteArray} {mi hs : Int} {re : ByteArray} {fl dv : Value}
theorem rlook_body (hc : w.heap[c]? = some (.cells (rcC M bd B wt sh st hr me9 ta9 mi hs re fl dv) 70 (0, 0))) (hM : M <= 65536) (hbd : bd <= 1048576) (bk ofs vc : Nat) (l : List UInt8) (hB : Bs w w.heap.size (.slice (some ⟨bk, ofs, none⟩) l.length vc) l) (hl : l.length <= 140737488355328) {k : Nat} {q : Pz} (hP : pBytes (pNew true M) l = (0, k, q)) (hw : q.whole = true) (hS : Sm q.fs) {fk fn : Int} {fb : Bool} {fe : Int} (hq : reqO q.fs q.req (q.minor : Int) = ⟨fk, fn, fb, fe⟩)     (hk : fk = 1 ∨ fk = 3 ∨ fk = 2) (hfn0 : 0 <= fn) (hfn : fn <= (bd : Int)) (hf13 : fk ≠ 2 -> fn = 0) (he : fe = 0) {N E : Nat} {wh : Bool} {o : List UInt8} (hN : k + N <= 140737488355328)
  (HALL : ∀ W v2,Bs W W.heap.size v2 (l.drop k) -> Calls Tryz.prog 41 #[.agg #[.int .i64 fk,.int .i64 fn,.bool fb],.int .i64 (bd : Int),v2,.bool false] W fun e w' => ∃ oa on oc ta tl tc,e = .returned (.agg #[.slice oa on oc,.slice ta tl tc,.int .i64 (N : Int),.bool wh,.int .i64 (E : Int)]) /\ Row w' W.heap.size 5 (.slice oa on oc) (bc o) /\ Below W.heap.size W w') (hkl : k <= l.length) (hE0 : k = l.length -> E = 0)  :
  Calls Tryz.prog 27 #[.pointer (some ⟨c,0,none⟩),.slice (some ⟨bk,ofs,none⟩) l.length vc] w (LkP w c M bd B wt sh st q k N E wh o) := by
 have hvc : l.length <= vc := by obtain ⟨a,n,e,h1,-⟩ := hB;simp only [Value.slice.injEq] at e;omega
 have hBs : ∀ W,Below w.heap.size w W -> Bs W W.heap.size (.slice (some ⟨bk,ofs + k,none⟩) (l.length - k) (vc - k)) (l.drop k) := fun W b => (hB.fromx k hkl).below b.size b
 have HR := hide (rr_yes w M hM _ l hB hl hP hw);have HQ := hide (fun W l (h : Flds W l q.fs) => rreq_any W q.req q.me q.ta (q.minor : Int) (q.status : Int) q.re l q.fs h hS);rw [hq] at HQ;unfold hdC foV frVg at HQ;dsimp only at HQ;have HC := hide hc;have hcl : c < w.heap.size := lt_heap' hc;have c0 : w.cell? ⟨c,0,none⟩ = some (.int .i64 (M : Int)) := cell_at hc 0;have hbdi : ¬ (bd : Int) < 0 := by omega
 clear hc hB hP hw hS hq;subst he;have HAL := hide HALL;have HE0 := hide hE0;clear hE0;have hkc2 : k <= vc := by omega
 have hkli : (k : Int) <= (l.length : Int) := by omega
 have hk0 : ¬ (k : Int) < 0 := by omega
 have HBD := hide (fun W (b : Below w.heap.size w W) => hBs W b)
 have HA : Hid (∀ W,Calls Tryz.prog 40 #[.agg #[.int .i64 fk,.int .i64 fn,.bool fb],.int .i64 (bd : Int)] W fun e w' => e = .returned (.int .i64 0) /\ Below W.heap.size W w') := hide (fun W => by
  rcases hk with rfl | rfl | rfl
  ·rw [hf13 (by decide)];exact ask_other 1 fb (bd : Int) W (.inl rfl) (by omega) (by omega)
  ·rw [hf13 (by decide)];exact ask_other 3 fb (bd : Int) W (.inr rfl) (by omega) (by omega)
  ·have q := ask_len fn fb (bd : Int) W (by omega) (by omega) (by omega) (by omega)
   rw [if_neg (by omega)] at q;exact q)
 go_enter Tryz.func27,Tryz.ntmps27
 go_wp2_with fail
 refine HR.out.mono ?_;rintro e w1 ⟨ua,uc,rfl,f1,b1⟩;have a2 := (Below.refl w1.heap.size w1).alloc (Nat.le_refl _) (.cells #[.bool q.req,.string q.me,.string q.ta,.int .i64 (q.minor : Int),.int .i64 (q.status : Int),.string q.re,.slice ua q.fs.length uc] 45);have B2 := hide (b1.trans (a2.mono b1.size));have FL := hide ((Flds.of_row f1).below a2);have G2 := hide (hp_new w1 (.cells #[.bool q.req,.string q.me,.string q.ta,.int .i64 (q.minor : Int),.int .i64 (q.status : Int),.string q.re,.slice ua q.fs.length uc] 45));have FRW := hide (f1.below a2);have hsw1 := b1.size;clear f1 b1 a2 HR c0;go_upto_region 2 with fail
 generalize w1.alloc _ = w2 at *;have g0 : w2.cell? ⟨w1.heap.size,0,none⟩ = some (.bool q.req) := cell_at G2.out 0;have g1 : w2.cell? ⟨w1.heap.size,1,none⟩ = some (.string q.me) := cell_at G2.out 1;have g2 : w2.cell? ⟨w1.heap.size,2,none⟩ = some (.string q.ta) := cell_at G2.out 2;have g3 : w2.cell? ⟨w1.heap.size,3,none⟩ = some (.int .i64 (q.minor : Int)) := cell_at G2.out 3;have g4 : w2.cell? ⟨w1.heap.size,4,none⟩ = some (.int .i64 (q.status : Int)) := cell_at G2.out 4;have g5 : w2.cell? ⟨w1.heap.size,5,none⟩ = some (.string q.re) := cell_at G2.out 5;have g6 : w2.cell? ⟨w1.heap.size,6,none⟩ = some (.slice ua q.fs.length uc) := cell_at G2.out 6;go_wp2_with fail
 refine (HQ.out _ _ FL.out).mono ?_;rintro e w3 ⟨rfl,b3⟩;have a4 := (Below.refl w3.heap.size w3).alloc (Nat.le_refl _) (.cells #[.int .i64 fk,.int .i64 fn,.bool fb] 83);have Z4 := hide (b3.trans (a4.mono b3.size));have B4 := hide (B2.out.trans (Z4.out.mono B2.out.size));have G4 := hide (hp_new w3 (.cells #[.int .i64 fk,.int .i64 fn,.bool fb] 83));clear b3 a4 HQ g0 g1 g2 g3 g4 g5 g6;go_upto_region 9 with fail
 generalize w3.alloc _ = w4 at *;have C4 := hide ((B4.out.block c hcl).trans HC.out);have G24 := hide ((Z4.out.block _ (lt_heap G2.out)).trans G2.out);have FL4 := hide (FRW.out.below Z4.out);have HAS := hide (fun u : Sw w4 => call_cw (u := u) (HA.out (cw u)));have e1 := cw_cell (show w4.cell? ⟨c,1,none⟩ = some (.int .i64 (bd : Int)) from cell_at C4.out 1);have f0 := cw_cell (show w4.cell? ⟨w3.heap.size,0,none⟩ = some (.int .i64 fk) from cell_at G4.out 0);have f1 := cw_cell (show w4.cell? ⟨w3.heap.size,1,none⟩ = some (.int .i64 fn) from cell_at G4.out 1);have f2 := cw_cell (show w4.cell? ⟨w3.heap.size,2,none⟩ = some (.bool fb) from cell_at G4.out 2);have hf0 : w3.heap.size < w4.heap.size := lt_heap G4.out;have hcz : c < w4.heap.size := lt_heap' C4.out;clear HA HC G2 FL FRW G4 Z4;go_upto_region 11 with fail
 refine wp_region_cw (by kernel_rfl) (by kernel_rfl) ?_;repeat (go_big_quiet_step ((go_at_call 40;refine HAS.out _)))
 refine wpQuiet_nil ?_;intro _ hw';obtain ⟨z,hw''⟩ := hw';subst hw'';have BQ := hide (cw_b z);have e1 := e1 z;have f0 := f0 z;have f1 := f1 z;have f2 := f2 z;have hf0 : w3.heap.size < (cw z).heap.size := Nat.lt_of_lt_of_le hf0 BQ.out.size;have hcz : c < (cw z).heap.size := Nat.lt_of_lt_of_le hcz BQ.out.size;have BZ := hide (B4.out.trans (BQ.out.mono B4.out.size));have CZ := hide ((BQ.out.block c (lt_heap' C4.out)).trans C4.out);have GZ := hide ((BQ.out.block _ (lt_heap G24.out)).trans G24.out);have FRZ := hide (FL4.out.below BQ.out);clear HAS C4 G24 FL4 B4 B2 BQ;generalize cw z = wz at *;have HBS := hide (fun W (b : Below wz.heap.size wz W) => HBD.out W (BZ.out.trans (b.mono BZ.out.size)));clear HBD;go_upto_region 13 with fail
 have HQS : Hid (∀ W,Below wz.heap.size wz W -> W.cell? ⟨w3.heap.size,0,none⟩ = some (.int .i64 fk) /\ W.cell? ⟨w3.heap.size,1,none⟩ = some (.int .i64 fn) /\ W.cell? ⟨w3.heap.size,2,none⟩ = some (.bool fb) /\ W.cell? ⟨c,1,none⟩ = some (.int .i64 (bd : Int))) := hide (fun W hSw => ⟨(hSw.cell (p := ⟨w3.heap.size,0,none⟩) hf0).trans f0,(hSw.cell (p := ⟨w3.heap.size,1,none⟩) hf0).trans f1,(hSw.cell (p := ⟨w3.heap.size,2,none⟩) hf0).trans f2,(hSw.cell (p := ⟨c,1,none⟩) hcz).trans e1⟩);by_cases hkv : k < vc
 ·have hkc : ¬ vc = k := by omega
  refine wp_region_noPanic ?_;refine wp_region_held_drew (S := fun W => Below wz.heap.size wz W) (by kernel_rfl) ((Below.refl wz.heap.size wz).drew) (fun hHeld => ?_);refine wpAnyH_take (i := 0) (v := ?_) rfl (by kernel_rfl) (by kernel_rfl) (by kernel_rfl) (fun _ _ _ h => h) (Or.inl ⟨by rfl,?_⟩) (by assumption) ?_;rotate_left
  ·(intro W hSw;obtain ⟨q0,q1,q2,qc⟩ := HQS.out W hSw;go_simp;try with_reducible rfl)
  simp only [ge_,Act.put,sl_];refine wpAnyH_take (i := 1) (v := ?_) rfl (by kernel_rfl) (by kernel_rfl) (by kernel_rfl) (fun _ _ _ h => h) (Or.inl ⟨by rfl,?_⟩) (by assumption) ?_;rotate_left
  ·(intro W hSw;obtain ⟨q0,q1,q2,qc⟩ := HQS.out W hSw;go_simp;try with_reducible rfl)
  simp only [ge_,Act.put,sl_];refine wpAnyH_take (i := 2) (v := ?_) rfl (by kernel_rfl) (by kernel_rfl) (by kernel_rfl) (fun _ _ _ h => h) (Or.inl ⟨by rfl,?_⟩) (by assumption) ?_;rotate_left
  ·(intro W hSw;obtain ⟨q0,q1,q2,qc⟩ := HQS.out W hSw;go_simp;try with_reducible rfl)
  simp only [ge_,Act.put,sl_];refine wpAnyH_take (i := 3) (v := ?_) rfl (by kernel_rfl) (by kernel_rfl) (by kernel_rfl) (fun _ _ _ h => h) (Or.inl ⟨by rfl,?_⟩) (by assumption) ?_;rotate_left
  ·(intro W hSw;obtain ⟨q0,q1,q2,qc⟩ := HQS.out W hSw;go_simp;try with_reducible rfl)
  simp only [ge_,Act.put,sl_];refine wpAnyH_take (i := 4) (v := ?_) rfl (by kernel_rfl) (by kernel_rfl) (by kernel_rfl) (fun _ _ _ h => h) (Or.inl ⟨by rfl,?_⟩) (by assumption) ?_;rotate_left
  ·(intro W hSw;obtain ⟨q0,q1,q2,qc⟩ := HQS.out W hSw;go_simp;try with_reducible rfl)
  simp only [ge_,Act.put,sl_];refine wpAnyH_take (i := 5) (v := ?_) rfl (by kernel_rfl) (by kernel_rfl) (by kernel_rfl) (fun _ _ _ h => h) (Or.inl ⟨by rfl,?_⟩) (by assumption) ?_;rotate_left
  ·(intro W hSw;obtain ⟨q0,q1,q2,qc⟩ := HQS.out W hSw;go_simp;try with_reducible rfl)
  simp only [ge_,Act.put,sl_];refine wpAnyH_take (i := 6) (v := ?_) rfl (by kernel_rfl) (by kernel_rfl) (by kernel_rfl) (fun _ _ _ h => h) (Or.inl ⟨by rfl,?_⟩) (by assumption) ?_;rotate_left
  ·(intro W hSw;obtain ⟨q0,q1,q2,qc⟩ := HQS.out W hSw;go_simp;try with_reducible rfl)
  simp only [ge_,Act.put,sl_];refine wpAnyH_take (i := 7) (v := ?_) rfl (by kernel_rfl) (by kernel_rfl) (by kernel_rfl) (fun _ _ _ h => h) (Or.inl ⟨by rfl,?_⟩) (by assumption) ?_;rotate_left
  ·(intro W hSw;obtain ⟨q0,q1,q2,qc⟩ := HQS.out W hSw;go_simp;try with_reducible rfl)
  simp only [ge_,Act.put,sl_];refine wpAnyH_ready (rs := [8,9]) (by kernel_rfl) (by simp) ?_;refine AllReadyH.cons rfl (fun K hK => ?_) (AllReadyH.cons rfl (fun K hK => ?_) AllReadyH.nil)
  ·go_simp
   refine (HAL.out _ _ (HBS.out _ (Below.refl wz.heap.size wz).drew)).mono ?_;rintro e y ⟨oa,on,oc,ta,tl,tc,rfl,q3,q4⟩;have HOV := hide q3;have HY := hide q4;clear q3 q4
   (try go_wp2_with fail)
   have HYW := hide (((Below.refl wz.heap.size wz).drew).trans (HY.out.mono ((Below.refl wz.heap.size wz).drew).size));refine hK.out _ _ (HYW.out) (fun hHeld => ?_);clear hK K
   try simp only [ge_,Act.put,sl_]
   refine wpAnyH_ready (rs := [9]) (by kernel_rfl) (by simp) ?_;refine AllReadyH.cons rfl (fun K hK => ?_) AllReadyH.nil;go_simp
   refine hK.out _ _ (HYW.out.alloc HYW.out.size _) (fun hHeld => ?_);clear hK K
   try simp only [ge_,Act.put,sl_]
   refine wpAnyH_ready (rs := [10]) (by kernel_rfl) (by simp) ?_;refine AllReadyH.cons rfl (fun K hK => ?_) AllReadyH.nil;go_simp
   refine hK.out _ _ (HYW.out.alloc HYW.out.size _) (fun hHeld => ?_);clear hK K
   try simp only [ge_,Act.put,sl_]
   refine wpAnyH_done (by kernel_rfl) ?_ _;refine NoPanic.normal ?_;have hys : wz.heap.size <= y.heap.size := HYW.out.size;have b5 := (Below.refl y.heap.size y).alloc (Nat.le_refl _) (.cells #[.slice oa on oc,.slice ta tl tc,.int .i64 (N : Int),.bool wh,.int .i64 (E : Int)] 88);have F5 := hide (hp_new y (.cells #[.slice oa on oc,.slice ta tl tc,.int .i64 (N : Int),.bool wh,.int .i64 (E : Int)] 88));have Y5 := hide (HYW.out.trans (b5.mono hys));have O5 := hide ((HOV.out.frame fun j e => b5.block j (HOV.out.lt e).2).lowx BZ.out.size);clear b5 HOV HY HYW e1 f0 f1 f2;generalize y.alloc (.cells #[.slice oa on oc,.slice ta tl tc,.int .i64 (N : Int),.bool wh,.int .i64 (E : Int)] 88) = w5 at F5 Y5 O5 |-
   obtain ⟨tb,htb⟩ : ∃ tb,y.heap.size = tb := ⟨_,rfl⟩
   rw [htb] at F5 |-
   have htz : wz.heap.size <= tb := by omega
   clear htb hys;by_cases hE : E = 0
   ·have HE := hide hE
    clear hE;by_cases hwh : wh = true
    ·have HWH := hide hwh
     clear hwh;have t2 : w5.cell? ⟨tb,2,none⟩ = some (.int .i64 (N : Int)) := cell_at F5.out 2;have t3 : w5.cell? ⟨tb,3,none⟩ = some (.bool true) := by rw [<- HWH.out];exact cell_at F5.out 3
     have t4 : w5.cell? ⟨tb,4,none⟩ = some (.int .i64 0) := by rw [cell_at F5.out 4,HE.out];rfl
     have t0 : w5.cell? ⟨tb,0,none⟩ = some (.slice oa on oc) := cell_at F5.out 0;have hwk : IntKind.i64.wrap ((k : Int) + (N : Int)) = ((k + N : Nat) : Int) := (IntWalk.i64_in _ ⟨by omega,by omega⟩).trans (by omega);have BE := hide (BZ.out.trans (Y5.out.mono BZ.out.size));have C5 := hide ((Y5.out.block c (lt_heap' CZ.out)).trans CZ.out);have G5 := hide ((Y5.out.block _ (lt_heap GZ.out)).trans GZ.out);have R5 := hide (FRZ.out.below Y5.out);have hct : c < tb := by omega
     have hcw1 : c < w1.heap.size := by omega
     have g0 : w5.cell? ⟨w1.heap.size,0,none⟩ = some (.bool q.req) := cell_at G5.out 0;have g1 : w5.cell? ⟨w1.heap.size,1,none⟩ = some (.string q.me) := cell_at G5.out 1;have g2 : w5.cell? ⟨w1.heap.size,2,none⟩ = some (.string q.ta) := cell_at G5.out 2;have g3 : w5.cell? ⟨w1.heap.size,3,none⟩ = some (.int .i64 (q.minor : Int)) := cell_at G5.out 3;have g4 : w5.cell? ⟨w1.heap.size,4,none⟩ = some (.int .i64 (q.status : Int)) := cell_at G5.out 4;have g5 : w5.cell? ⟨w1.heap.size,5,none⟩ = some (.string q.re) := cell_at G5.out 5;have g6 : w5.cell? ⟨w1.heap.size,6,none⟩ = some (.slice ua q.fs.length uc) := cell_at G5.out 6;have z := (fun i => (by rw [frozen_at C5.out];simp : w5.frozen? ⟨c,i,none⟩ = false));have z6 := z 6;obtain ⟨o6,d6⟩ : ∃ x,w5.cell? ⟨c,6,none⟩ = some x := ⟨_,cell_at C5.out 6⟩
     have z7 := z 7;obtain ⟨o7,d7⟩ : ∃ x,w5.cell? ⟨c,7,none⟩ = some x := ⟨_,cell_at C5.out 7⟩
     have z8 := z 8;obtain ⟨o8,d8⟩ : ∃ x,w5.cell? ⟨c,8,none⟩ = some x := ⟨_,cell_at C5.out 8⟩
     have z9 := z 9;obtain ⟨o9,d9⟩ : ∃ x,w5.cell? ⟨c,9,none⟩ = some x := ⟨_,cell_at C5.out 9⟩
     have z10 := z 10;obtain ⟨o10,d10⟩ : ∃ x,w5.cell? ⟨c,10,none⟩ = some x := ⟨_,cell_at C5.out 10⟩
     have z11 := z 11;obtain ⟨o11,d11⟩ : ∃ x,w5.cell? ⟨c,11,none⟩ = some x := ⟨_,cell_at C5.out 11⟩
     have z12 := z 12;obtain ⟨o12,d12⟩ : ∃ x,w5.cell? ⟨c,12,none⟩ = some x := ⟨_,cell_at C5.out 12⟩
     have z13 := z 13;obtain ⟨o13,d13⟩ : ∃ x,w5.cell? ⟨c,13,none⟩ = some x := ⟨_,cell_at C5.out 13⟩
     clear z;have P6 : (_ : World).heap[c]? = some (.cells (rcC M bd B wt sh st q.req me9 ta9 mi hs re fl dv) 70 (0,0)) := hp_set C5.out 6 (.bool q.req);have P7 : (_ : World).heap[c]? = some (.cells (rcC M bd B wt sh st q.req q.me ta9 mi hs re fl dv) 70 (0,0)) := hp_set P6 7 (.string q.me);have P8 : (_ : World).heap[c]? = some (.cells (rcC M bd B wt sh st q.req q.me q.ta mi hs re fl dv) 70 (0,0)) := hp_set P7 8 (.string q.ta);have P9 : (_ : World).heap[c]? = some (.cells (rcC M bd B wt sh st q.req q.me q.ta (q.minor : Int) hs re fl dv) 70 (0,0)) := hp_set P8 9 (.int .i64 (q.minor : Int));have P10 : (_ : World).heap[c]? = some (.cells (rcC M bd B wt sh st q.req q.me q.ta (q.minor : Int) (q.status : Int) re fl dv) 70 (0,0)) := hp_set P9 10 (.int .i64 (q.status : Int));have P11 : (_ : World).heap[c]? = some (.cells (rcC M bd B wt sh st q.req q.me q.ta (q.minor : Int) (q.status : Int) q.re fl dv) 70 (0,0)) := hp_set P10 11 (.string q.re);have P12 : (_ : World).heap[c]? = some (.cells (rcC M bd B wt sh st q.req q.me q.ta (q.minor : Int) (q.status : Int) q.re (.slice ua q.fs.length uc) dv) 70 (0,0)) := hp_set P11 12 (.slice ua q.fs.length uc);have P13 : (_ : World).heap[c]? = some (.cells (rcC M bd B wt sh st q.req q.me q.ta (q.minor : Int) (q.status : Int) q.re (.slice ua q.fs.length uc) (.slice oa on oc)) 70 (0,0)) := hp_set P12 13 (.slice oa on oc);replace P13 := hide P13;have K13 := hide ((((((((CK.set w5 c 6 (.bool q.req)).trans (CK.set _ c 7 (.string q.me))).trans (CK.set _ c 8 (.string q.ta))).trans (CK.set _ c 9 (.int .i64 (q.minor : Int)))).trans (CK.set _ c 10 (.int .i64 (q.status : Int)))).trans (CK.set _ c 11 (.string q.re))).trans (CK.set _ c 12 (.slice ua q.fs.length uc))).trans (CK.set _ c 13 (.slice oa on oc)));have R13 := hide (R5.out.frame fun g hg => K13.out.block g (R5.out.lt hg).2 (fun e => by have := (R5.out.lt hg).1;omega))
     have O13 := hide (O5.out.frame fun g hg => K13.out.block g (O5.out.lt hg).2 (fun e => by have := (O5.out.lt hg).1;omega));clear P6 P7 P8 P9 P10 P11 P12;go_upto_region 21 with fail
     generalize ((((((((w5.setCell ⟨c,6,none⟩ (.bool q.req)).setCell ⟨c,7,none⟩ (.string q.me)).setCell ⟨c,8,none⟩ (.string q.ta)).setCell ⟨c,9,none⟩ (.int .i64 (q.minor : Int))).setCell ⟨c,10,none⟩ (.int .i64 (q.status : Int))).setCell ⟨c,11,none⟩ (.string q.re)).setCell ⟨c,12,none⟩ (.slice ua q.fs.length uc)).setCell ⟨c,13,none⟩ (.slice oa on oc)) = w6 at P13 K13 R13 O13 |-
     have P14 : Hid (w6.heap[c]? = some (.cells (rcC M bd B wt sh st q.req q.me q.ta (q.minor : Int) (q.status : Int) q.re (.slice ua q.fs.length uc) (.slice oa on oc)) 70 (0,0))) := P13;have T6 := hide ((K13.out.block tb (lt_heap F5.out) (by omega)).trans F5.out);have t2 : w6.cell? ⟨tb,2,none⟩ = some (.int .i64 (N : Int)) := cell_at T6.out 2;have t3 : w6.cell? ⟨tb,3,none⟩ = some (.bool true) := by rw [<- HWH.out];exact cell_at T6.out 3
     have CE := hide ((CK.of_below c BE.out).trans K13.out);clear P13 K13 C5 G5 R5 O5 F5 Y5 BE BZ CZ GZ FRZ d6 d7 d8 d9 d10 d11 d12 d13 z6 z7 z8 z9 z10 z11 z12 z13 g0 g1 g2 g3 g4 g5 g6 t0 t4;go_quiet (fail)
     have Q13 := hide (R13.out.below (below_drewN w6 nq));have V13 := hide (O13.out.below (below_drewN w6 nq));have W13 : Hid ((w6.drewN nq).heap[c]? = some (.cells (rcC M bd B wt sh st q.req q.me q.ta (q.minor : Int) (q.status : Int) q.re (.slice ua q.fs.length uc) (.slice oa on oc)) 70 (0,0))) := P14;have X13 := hide (CE.out.trans (CK.of_below c (below_drewN w6 nq)));go_wp2_with fail
     exact bodyPost_ret (v := .tuple #[.int .i64 ((k : Int) + (N : Int)),.bool true,.int .i64 0]) (by simp [results,Tryz.results27,go_sem]) rfl (lk_yes HE.out HWH.out ⟨_,_,_,_,_,W13.out,Q13.out,V13.out,X13.out⟩)
    ·have HWH : Hid (wh = false) := hide (by simpa using hwh)
     clear hwh;have t2 : w5.cell? ⟨tb,2,none⟩ = some (.int .i64 (N : Int)) := cell_at F5.out 2;have t3 : w5.cell? ⟨tb,3,none⟩ = some (.bool wh) := cell_at F5.out 3;have t4 : w5.cell? ⟨tb,4,none⟩ = some (.int .i64 (E : Int)) := cell_at F5.out 4;have hwk : IntKind.i64.wrap ((k : Int) + (N : Int)) = ((k + N : Nat) : Int) := (IntWalk.i64_in _ ⟨by omega,by omega⟩).trans (by omega);replace t4 : w5.cell? ⟨tb,4,none⟩ = some (.int .i64 0) := by rw [t4,HE.out];rfl
     replace t3 : w5.cell? ⟨tb,3,none⟩ = some (.bool false) := by rw [t3,HWH.out]
     have BE := hide (BZ.out.trans (Y5.out.mono BZ.out.size));go_wp2_with fail
     go_quiet (fail)
     have BE2 := hide (BE.out.trans ((below_drewN w5 nq).mono BE.out.size));go_wp2_with fail
     exact bodyPost_ret (v := .tuple #[.int .i64 ((k : Int) + (N : Int)),.bool false,.int .i64 0]) (by simp [results,Tryz.results27,go_sem]) rfl (lk_no BE2.out (by simp [HWH.out]) (by rw [HE.out];rfl))
   ·by_cases hE2 : E = 2
    ·have HE := hide hE2
     clear hE hE2;have t2 : w5.cell? ⟨tb,2,none⟩ = some (.int .i64 (N : Int)) := cell_at F5.out 2;have t3 : w5.cell? ⟨tb,3,none⟩ = some (.bool wh) := cell_at F5.out 3;have t4 : w5.cell? ⟨tb,4,none⟩ = some (.int .i64 (E : Int)) := cell_at F5.out 4;have hwk : IntKind.i64.wrap ((k : Int) + (N : Int)) = ((k + N : Nat) : Int) := (IntWalk.i64_in _ ⟨by omega,by omega⟩).trans (by omega);replace t4 : w5.cell? ⟨tb,4,none⟩ = some (.int .i64 2) := by rw [t4,HE.out];rfl
     have BE := hide (BZ.out.trans (Y5.out.mono BZ.out.size));go_wp2_with fail
     exact bodyPost_ret (v := .tuple #[.int .i64 ((k : Int) + (N : Int)),.bool false,.int .i64 413]) (by simp [results,Tryz.results27,go_sem]) rfl (lk_no BE.out (by simp [HE.out]) (by rw [HE.out];rfl))
    ·have t2 : w5.cell? ⟨tb, 2, none⟩ = some (.int .i64 (N : Int)) := cell_at F5.out 2
     have t3 : w5.cell? ⟨tb,3,none⟩ = some (.bool wh) := cell_at F5.out 3;have t4 : w5.cell? ⟨tb,4,none⟩ = some (.int .i64 (E : Int)) := cell_at F5.out 4;have hwk : IntKind.i64.wrap ((k : Int) + (N : Int)) = ((k + N : Nat) : Int) := (IntWalk.i64_in _ ⟨by omega,by omega⟩).trans (by omega);have BE := hide (BZ.out.trans (Y5.out.mono BZ.out.size));go_wp2_with fail
     exact bodyPost_ret (v := .tuple #[.int .i64 ((k : Int) + (N : Int)),.bool false,.int .i64 400]) (by simp [results,Tryz.results27,go_sem]) rfl (lk_no BE.out (by simp [hE]) (by rw [if_neg hE];unfold bodyS;rw [if_neg (by omega)]))
  ·go_simp
   refine hK.out _ _ (((Below.refl wz.heap.size wz).alloc (Nat.le_refl _) _).drew) (fun hHeld => ?_);clear hK K
   try simp only [ge_,Act.put,sl_]
   refine wpAnyH_ready (rs := [8]) (by kernel_rfl) (by simp) ?_;refine AllReadyH.cons rfl (fun K hK => ?_) AllReadyH.nil;go_simp
   refine (HAL.out _ _ (HBS.out _ (((Below.refl wz.heap.size wz).alloc (Nat.le_refl _) _).drew))).mono ?_;rintro e y ⟨oa,on,oc,ta,tl,tc,rfl,q3,q4⟩;have HOV := hide q3;have HY := hide q4;clear q3 q4
   (try go_wp2_with fail)
   have hlt0 : wz.heap.size < (wz.alloc (.cells #[.slice none 0 0,.slice none 0 0,.int .i64 0,.bool false,.int .i64 0] 88)).drew.heap.size := lt_heap (hp_new wz (.cells #[.slice none 0 0,.slice none 0 0,.int .i64 0,.bool false,.int .i64 0] 88));have HYW := hide ((((Below.refl wz.heap.size wz).alloc (Nat.le_refl _) (.cells #[.slice none 0 0,.slice none 0 0,.int .i64 0,.bool false,.int .i64 0] 88)).drew).trans (HY.out.mono (Nat.le_of_lt hlt0)));have T0 := hide ((HY.out.block _ hlt0).trans (hp_new wz (.cells #[.slice none 0 0,.slice none 0 0,.int .i64 0,.bool false,.int .i64 0] 88)));have q0 : y.cell? ⟨wz.heap.size,0,none⟩ = some (.slice none 0 0) := cell_at T0.out 0;have q1 : y.cell? ⟨wz.heap.size,1,none⟩ = some (.slice none 0 0) := cell_at T0.out 1;have q2 : y.cell? ⟨wz.heap.size,2,none⟩ = some (.int .i64 0) := cell_at T0.out 2;have q3 : y.cell? ⟨wz.heap.size,3,none⟩ = some (.bool false) := cell_at T0.out 3;have q4 : y.cell? ⟨wz.heap.size,4,none⟩ = some (.int .i64 0) := cell_at T0.out 4;have x0 : y.frozen? ⟨wz.heap.size,0,none⟩ = false := (by rw [frozen_at T0.out];simp);have x1 : y.frozen? ⟨wz.heap.size,1,none⟩ = false := (by rw [frozen_at T0.out];simp);have x2 : y.frozen? ⟨wz.heap.size,2,none⟩ = false := (by rw [frozen_at T0.out];simp);have x3 : y.frozen? ⟨wz.heap.size,3,none⟩ = false := (by rw [frozen_at T0.out];simp);have x4 : y.frozen? ⟨wz.heap.size,4,none⟩ = false := (by rw [frozen_at T0.out];simp);refine hK.out _ _ (HYW.out) (fun hHeld => ?_);clear hK K
   try simp only [ge_,Act.put,sl_]
   refine wpAnyH_ready (rs := [10]) (by kernel_rfl) (by simp) ?_;refine AllReadyH.cons rfl (fun K hK => ?_) AllReadyH.nil;go_simp
   have a0 : (_ : World).heap[wz.heap.size]? = some (.cells #[.slice oa on oc,.slice none 0 0,.int .i64 0,.bool false,.int .i64 0] 88 (0,0)) := hp_set T0.out 0 (.slice oa on oc);have a1 : (_ : World).heap[wz.heap.size]? = some (.cells #[.slice oa on oc,.slice ta tl tc,.int .i64 0,.bool false,.int .i64 0] 88 (0,0)) := hp_set a0 1 (.slice ta tl tc);have a2 : (_ : World).heap[wz.heap.size]? = some (.cells #[.slice oa on oc,.slice ta tl tc,.int .i64 (N : Int),.bool false,.int .i64 0] 88 (0,0)) := hp_set a1 2 (.int .i64 (N : Int));have a3 : (_ : World).heap[wz.heap.size]? = some (.cells #[.slice oa on oc,.slice ta tl tc,.int .i64 (N : Int),.bool wh,.int .i64 0] 88 (0,0)) := hp_set a2 3 (.bool wh);have F5 := hide (hp_set a3 4 (.int .i64 (E : Int)));have K5 := ((((CK.set y wz.heap.size 0 (.slice oa on oc)).trans (CK.set _ wz.heap.size 1 (.slice ta tl tc))).trans (CK.set _ wz.heap.size 2 (.int .i64 (N : Int)))).trans (CK.set _ wz.heap.size 3 (.bool wh))).trans (CK.set _ wz.heap.size 4 (.int .i64 (E : Int)));have Y5 := hide (HYW.out.trans (K5.low (Nat.le_refl _) HYW.out.size));have O5 := hide ((HOV.out.frame fun j e => K5.block j (HOV.out.lt e).2 (by have := (HOV.out.lt e).1;omega)).lowx (Nat.le_trans BZ.out.size (Nat.le_of_lt hlt0)));refine hK.out _ _ Y5.out (fun hHeld => ?_);clear hK K
   try simp only [ge_,Act.put,sl_]
   refine wpAnyH_done (by kernel_rfl) ?_ _;refine NoPanic.normal ?_;clear a0 a1 a2 a3 K5 q0 q1 q2 q3 q4 x0 x1 x2 x3 x4 hlt0 T0 HOV HY HYW e1 f0 f1 f2;generalize ((((y.setCell ⟨wz.heap.size,0,none⟩ (.slice oa on oc)).setCell ⟨wz.heap.size,1,none⟩ (.slice ta tl tc)).setCell ⟨wz.heap.size,2,none⟩ (.int .i64 (N : Int))).setCell ⟨wz.heap.size,3,none⟩ (.bool wh)).setCell ⟨wz.heap.size,4,none⟩ (.int .i64 (E : Int)) = w5 at F5 Y5 O5 |-
   obtain ⟨tb,htb⟩ : ∃ tb,wz.heap.size = tb := ⟨_,rfl⟩
   have htz : wz.heap.size <= tb := by omega
   rw [htb] at F5;rw [htb];clear htb;by_cases hE : E = 0
   ·have HE := hide hE
    clear hE;by_cases hwh : wh = true
    ·have HWH := hide hwh
     clear hwh;have t2 : w5.cell? ⟨tb,2,none⟩ = some (.int .i64 (N : Int)) := cell_at F5.out 2;have t3 : w5.cell? ⟨tb,3,none⟩ = some (.bool true) := by rw [<- HWH.out];exact cell_at F5.out 3
     have t4 : w5.cell? ⟨tb,4,none⟩ = some (.int .i64 0) := by rw [cell_at F5.out 4,HE.out];rfl
     have t0 : w5.cell? ⟨tb,0,none⟩ = some (.slice oa on oc) := cell_at F5.out 0;have hwk : IntKind.i64.wrap ((k : Int) + (N : Int)) = ((k + N : Nat) : Int) := (IntWalk.i64_in _ ⟨by omega,by omega⟩).trans (by omega);have BE := hide (BZ.out.trans (Y5.out.mono BZ.out.size));have C5 := hide ((Y5.out.block c (lt_heap' CZ.out)).trans CZ.out);have G5 := hide ((Y5.out.block _ (lt_heap GZ.out)).trans GZ.out);have R5 := hide (FRZ.out.below Y5.out);have hct : c < tb := by omega
     have hcw1 : c < w1.heap.size := by omega
     have g0 : w5.cell? ⟨w1.heap.size,0,none⟩ = some (.bool q.req) := cell_at G5.out 0;have g1 : w5.cell? ⟨w1.heap.size,1,none⟩ = some (.string q.me) := cell_at G5.out 1;have g2 : w5.cell? ⟨w1.heap.size,2,none⟩ = some (.string q.ta) := cell_at G5.out 2;have g3 : w5.cell? ⟨w1.heap.size,3,none⟩ = some (.int .i64 (q.minor : Int)) := cell_at G5.out 3;have g4 : w5.cell? ⟨w1.heap.size,4,none⟩ = some (.int .i64 (q.status : Int)) := cell_at G5.out 4;have g5 : w5.cell? ⟨w1.heap.size,5,none⟩ = some (.string q.re) := cell_at G5.out 5;have g6 : w5.cell? ⟨w1.heap.size,6,none⟩ = some (.slice ua q.fs.length uc) := cell_at G5.out 6;have z := (fun i => (by rw [frozen_at C5.out];simp : w5.frozen? ⟨c,i,none⟩ = false));have z6 := z 6;obtain ⟨o6,d6⟩ : ∃ x,w5.cell? ⟨c,6,none⟩ = some x := ⟨_,cell_at C5.out 6⟩
     have z7 := z 7;obtain ⟨o7,d7⟩ : ∃ x,w5.cell? ⟨c,7,none⟩ = some x := ⟨_,cell_at C5.out 7⟩
     have z8 := z 8;obtain ⟨o8,d8⟩ : ∃ x,w5.cell? ⟨c,8,none⟩ = some x := ⟨_,cell_at C5.out 8⟩
     have z9 := z 9;obtain ⟨o9,d9⟩ : ∃ x,w5.cell? ⟨c,9,none⟩ = some x := ⟨_,cell_at C5.out 9⟩
     have z10 := z 10;obtain ⟨o10,d10⟩ : ∃ x,w5.cell? ⟨c,10,none⟩ = some x := ⟨_,cell_at C5.out 10⟩
     have z11 := z 11;obtain ⟨o11,d11⟩ : ∃ x,w5.cell? ⟨c,11,none⟩ = some x := ⟨_,cell_at C5.out 11⟩
     have z12 := z 12;obtain ⟨o12,d12⟩ : ∃ x,w5.cell? ⟨c,12,none⟩ = some x := ⟨_,cell_at C5.out 12⟩
     have z13 := z 13;obtain ⟨o13,d13⟩ : ∃ x,w5.cell? ⟨c,13,none⟩ = some x := ⟨_,cell_at C5.out 13⟩
     clear z;have P6 : (_ : World).heap[c]? = some (.cells (rcC M bd B wt sh st q.req me9 ta9 mi hs re fl dv) 70 (0,0)) := hp_set C5.out 6 (.bool q.req);have P7 : (_ : World).heap[c]? = some (.cells (rcC M bd B wt sh st q.req q.me ta9 mi hs re fl dv) 70 (0,0)) := hp_set P6 7 (.string q.me);have P8 : (_ : World).heap[c]? = some (.cells (rcC M bd B wt sh st q.req q.me q.ta mi hs re fl dv) 70 (0,0)) := hp_set P7 8 (.string q.ta);have P9 : (_ : World).heap[c]? = some (.cells (rcC M bd B wt sh st q.req q.me q.ta (q.minor : Int) hs re fl dv) 70 (0,0)) := hp_set P8 9 (.int .i64 (q.minor : Int));have P10 : (_ : World).heap[c]? = some (.cells (rcC M bd B wt sh st q.req q.me q.ta (q.minor : Int) (q.status : Int) re fl dv) 70 (0,0)) := hp_set P9 10 (.int .i64 (q.status : Int));have P11 : (_ : World).heap[c]? = some (.cells (rcC M bd B wt sh st q.req q.me q.ta (q.minor : Int) (q.status : Int) q.re fl dv) 70 (0,0)) := hp_set P10 11 (.string q.re);have P12 : (_ : World).heap[c]? = some (.cells (rcC M bd B wt sh st q.req q.me q.ta (q.minor : Int) (q.status : Int) q.re (.slice ua q.fs.length uc) dv) 70 (0,0)) := hp_set P11 12 (.slice ua q.fs.length uc);have P13 : (_ : World).heap[c]? = some (.cells (rcC M bd B wt sh st q.req q.me q.ta (q.minor : Int) (q.status : Int) q.re (.slice ua q.fs.length uc) (.slice oa on oc)) 70 (0,0)) := hp_set P12 13 (.slice oa on oc);replace P13 := hide P13;have K13 := hide ((((((((CK.set w5 c 6 (.bool q.req)).trans (CK.set _ c 7 (.string q.me))).trans (CK.set _ c 8 (.string q.ta))).trans (CK.set _ c 9 (.int .i64 (q.minor : Int)))).trans (CK.set _ c 10 (.int .i64 (q.status : Int)))).trans (CK.set _ c 11 (.string q.re))).trans (CK.set _ c 12 (.slice ua q.fs.length uc))).trans (CK.set _ c 13 (.slice oa on oc)));have R13 := hide (R5.out.frame fun g hg => K13.out.block g (R5.out.lt hg).2 (fun e => by have := (R5.out.lt hg).1;omega))
     have O13 := hide (O5.out.frame fun g hg => K13.out.block g (O5.out.lt hg).2 (fun e => by have := (O5.out.lt hg).1;omega));clear P6 P7 P8 P9 P10 P11 P12;go_upto_region 21 with fail
     generalize ((((((((w5.setCell ⟨c,6,none⟩ (.bool q.req)).setCell ⟨c,7,none⟩ (.string q.me)).setCell ⟨c,8,none⟩ (.string q.ta)).setCell ⟨c,9,none⟩ (.int .i64 (q.minor : Int))).setCell ⟨c,10,none⟩ (.int .i64 (q.status : Int))).setCell ⟨c,11,none⟩ (.string q.re)).setCell ⟨c,12,none⟩ (.slice ua q.fs.length uc)).setCell ⟨c,13,none⟩ (.slice oa on oc)) = w6 at P13 K13 R13 O13 |-
     have P14 : Hid (w6.heap[c]? = some (.cells (rcC M bd B wt sh st q.req q.me q.ta (q.minor : Int) (q.status : Int) q.re (.slice ua q.fs.length uc) (.slice oa on oc)) 70 (0,0))) := P13;have T6 := hide ((K13.out.block tb (lt_heap F5.out) (by omega)).trans F5.out);have t2 : w6.cell? ⟨tb,2,none⟩ = some (.int .i64 (N : Int)) := cell_at T6.out 2;have t3 : w6.cell? ⟨tb,3,none⟩ = some (.bool true) := by rw [<- HWH.out];exact cell_at T6.out 3
     have CE := hide ((CK.of_below c BE.out).trans K13.out);clear P13 K13 C5 G5 R5 O5 F5 Y5 BE BZ CZ GZ FRZ d6 d7 d8 d9 d10 d11 d12 d13 z6 z7 z8 z9 z10 z11 z12 z13 g0 g1 g2 g3 g4 g5 g6 t0 t4;go_quiet (fail)
     have Q13 := hide (R13.out.below (below_drewN w6 nq));have V13 := hide (O13.out.below (below_drewN w6 nq));have W13 : Hid ((w6.drewN nq).heap[c]? = some (.cells (rcC M bd B wt sh st q.req q.me q.ta (q.minor : Int) (q.status : Int) q.re (.slice ua q.fs.length uc) (.slice oa on oc)) 70 (0,0))) := P14;have X13 := hide (CE.out.trans (CK.of_below c (below_drewN w6 nq)));go_wp2_with fail
     exact bodyPost_ret (v := .tuple #[.int .i64 ((k : Int) + (N : Int)),.bool true,.int .i64 0]) (by simp [results,Tryz.results27,go_sem]) rfl (lk_yes HE.out HWH.out ⟨_,_,_,_,_,W13.out,Q13.out,V13.out,X13.out⟩)
    ·have HWH : Hid (wh = false) := hide (by simpa using hwh)
     clear hwh;have t2 : w5.cell? ⟨tb,2,none⟩ = some (.int .i64 (N : Int)) := cell_at F5.out 2;have t3 : w5.cell? ⟨tb,3,none⟩ = some (.bool wh) := cell_at F5.out 3;have t4 : w5.cell? ⟨tb,4,none⟩ = some (.int .i64 (E : Int)) := cell_at F5.out 4;have hwk : IntKind.i64.wrap ((k : Int) + (N : Int)) = ((k + N : Nat) : Int) := (IntWalk.i64_in _ ⟨by omega,by omega⟩).trans (by omega);replace t4 : w5.cell? ⟨tb,4,none⟩ = some (.int .i64 0) := by rw [t4,HE.out];rfl
     replace t3 : w5.cell? ⟨tb,3,none⟩ = some (.bool false) := by rw [t3,HWH.out]
     have BE := hide (BZ.out.trans (Y5.out.mono BZ.out.size));go_wp2_with fail
     go_quiet (fail)
     have BE2 := hide (BE.out.trans ((below_drewN w5 nq).mono BE.out.size));go_wp2_with fail
     exact bodyPost_ret (v := .tuple #[.int .i64 ((k : Int) + (N : Int)),.bool false,.int .i64 0]) (by simp [results,Tryz.results27,go_sem]) rfl (lk_no BE2.out (by simp [HWH.out]) (by rw [HE.out];rfl))
   ·by_cases hE2 : E = 2
    ·have HE := hide hE2
     clear hE hE2;have t2 : w5.cell? ⟨tb,2,none⟩ = some (.int .i64 (N : Int)) := cell_at F5.out 2;have t3 : w5.cell? ⟨tb,3,none⟩ = some (.bool wh) := cell_at F5.out 3;have t4 : w5.cell? ⟨tb,4,none⟩ = some (.int .i64 (E : Int)) := cell_at F5.out 4;have hwk : IntKind.i64.wrap ((k : Int) + (N : Int)) = ((k + N : Nat) : Int) := (IntWalk.i64_in _ ⟨by omega,by omega⟩).trans (by omega);replace t4 : w5.cell? ⟨tb,4,none⟩ = some (.int .i64 2) := by rw [t4,HE.out];rfl
     have BE := hide (BZ.out.trans (Y5.out.mono BZ.out.size));go_wp2_with fail
     exact bodyPost_ret (v := .tuple #[.int .i64 ((k : Int) + (N : Int)),.bool false,.int .i64 413]) (by simp [results,Tryz.results27,go_sem]) rfl (lk_no BE.out (by simp [HE.out]) (by rw [HE.out];rfl))
    ·have t2 : w5.cell? ⟨tb, 2, none⟩ = some (.int .i64 (N : Int)) := cell_at F5.out 2
     have t3 : w5.cell? ⟨tb,3,none⟩ = some (.bool wh) := cell_at F5.out 3;have t4 : w5.cell? ⟨tb,4,none⟩ = some (.int .i64 (E : Int)) := cell_at F5.out 4;have hwk : IntKind.i64.wrap ((k : Int) + (N : Int)) = ((k + N : Nat) : Int) := (IntWalk.i64_in _ ⟨by omega,by omega⟩).trans (by omega);have BE := hide (BZ.out.trans (Y5.out.mono BZ.out.size));go_wp2_with fail
     exact bodyPost_ret (v := .tuple #[.int .i64 ((k : Int) + (N : Int)),.bool false,.int .i64 400]) (by simp [results,Tryz.results27,go_sem]) rfl (lk_no BE.out (by simp [hE]) (by rw [if_neg hE];unfold bodyS;rw [if_neg (by omega)]))
 ·have HKV : Hid (vc = k /\ l.length = k) := hide (by omega)
  clear hkv;have HBS := hide (fun W (b : Below wz.heap.size wz W) => (show Bs W W.heap.size (.slice (some ⟨bk,ofs,none⟩) 0 0) (l.drop k) from by rw [List.drop_of_length_le (by rw [HKV.out.2];exact Nat.le_refl _)];exact ⟨_,_,rfl,Nat.zero_le _,fun j hj => by simp at hj⟩));have hkc := HKV.out.1;have hkl2 := HKV.out.2;have hlN : (l.length : Int) - (k : Int) = 0 := by omega
  have hcN : (vc : Int) - (k : Int) = 0 := by omega
  clear HKV;refine wp_region_noPanic ?_;refine wp_region_held_drew (S := fun W => Below wz.heap.size wz W) (by kernel_rfl) ((Below.refl wz.heap.size wz).drew) (fun hHeld => ?_);refine wpAnyH_take (i := 0) (v := ?_) rfl (by kernel_rfl) (by kernel_rfl) (by kernel_rfl) (fun _ _ _ h => h) (Or.inl ⟨by rfl,?_⟩) (by assumption) ?_;rotate_left
  ·(intro W hSw;obtain ⟨q0,q1,q2,qc⟩ := HQS.out W hSw;go_simp;try with_reducible rfl)
  simp only [ge_,Act.put,sl_];refine wpAnyH_take (i := 1) (v := ?_) rfl (by kernel_rfl) (by kernel_rfl) (by kernel_rfl) (fun _ _ _ h => h) (Or.inl ⟨by rfl,?_⟩) (by assumption) ?_;rotate_left
  ·(intro W hSw;obtain ⟨q0,q1,q2,qc⟩ := HQS.out W hSw;go_simp;try with_reducible rfl)
  simp only [ge_,Act.put,sl_];refine wpAnyH_take (i := 2) (v := ?_) rfl (by kernel_rfl) (by kernel_rfl) (by kernel_rfl) (fun _ _ _ h => h) (Or.inl ⟨by rfl,?_⟩) (by assumption) ?_;rotate_left
  ·(intro W hSw;obtain ⟨q0,q1,q2,qc⟩ := HQS.out W hSw;go_simp;try with_reducible rfl)
  simp only [ge_,Act.put,sl_];refine wpAnyH_take (i := 3) (v := ?_) rfl (by kernel_rfl) (by kernel_rfl) (by kernel_rfl) (fun _ _ _ h => h) (Or.inl ⟨by rfl,?_⟩) (by assumption) ?_;rotate_left
  ·(intro W hSw;obtain ⟨q0,q1,q2,qc⟩ := HQS.out W hSw;go_simp;try with_reducible rfl)
  simp only [ge_,Act.put,sl_];refine wpAnyH_take (i := 4) (v := ?_) rfl (by kernel_rfl) (by kernel_rfl) (by kernel_rfl) (fun _ _ _ h => h) (Or.inl ⟨by rfl,?_⟩) (by assumption) ?_;rotate_left
  ·(intro W hSw;obtain ⟨q0,q1,q2,qc⟩ := HQS.out W hSw;go_simp;try with_reducible rfl)
  simp only [ge_,Act.put,sl_];refine wpAnyH_take (i := 5) (v := ?_) rfl (by kernel_rfl) (by kernel_rfl) (by kernel_rfl) (fun _ _ _ h => h) (Or.inl ⟨by rfl,?_⟩) (by assumption) ?_;rotate_left
  ·(intro W hSw;obtain ⟨q0,q1,q2,qc⟩ := HQS.out W hSw;go_simp;try with_reducible rfl)
  simp only [ge_,Act.put,sl_];refine wpAnyH_take (i := 6) (v := ?_) rfl (by kernel_rfl) (by kernel_rfl) (by kernel_rfl) (fun _ _ _ h => h) (Or.inl ⟨by rfl,?_⟩) (by assumption) ?_;rotate_left
  ·(intro W hSw;obtain ⟨q0,q1,q2,qc⟩ := HQS.out W hSw;go_simp;try with_reducible rfl)
  simp only [ge_,Act.put,sl_];refine wpAnyH_take (i := 7) (v := ?_) rfl (by kernel_rfl) (by kernel_rfl) (by kernel_rfl) (fun _ _ _ h => h) (Or.inl ⟨by rfl,?_⟩) (by assumption) ?_;rotate_left
  ·(intro W hSw;obtain ⟨q0,q1,q2,qc⟩ := HQS.out W hSw;go_simp;try with_reducible rfl)
  simp only [ge_,Act.put,sl_];refine wpAnyH_ready (rs := [8,9]) (by kernel_rfl) (by simp) ?_;refine AllReadyH.cons rfl (fun K hK => ?_) (AllReadyH.cons rfl (fun K hK => ?_) AllReadyH.nil)
  ·go_simp
   refine (HAL.out _ _ (HBS.out _ (Below.refl wz.heap.size wz).drew)).mono ?_;rintro e y ⟨oa,on,oc,ta,tl,tc,rfl,q3,q4⟩;have HOV := hide q3;have HY := hide q4;clear q3 q4
   (try go_wp2_with fail)
   have HYW := hide (((Below.refl wz.heap.size wz).drew).trans (HY.out.mono ((Below.refl wz.heap.size wz).drew).size));refine hK.out _ _ (HYW.out) (fun hHeld => ?_);clear hK K
   try simp only [ge_,Act.put,sl_]
   refine wpAnyH_ready (rs := [9]) (by kernel_rfl) (by simp) ?_;refine AllReadyH.cons rfl (fun K hK => ?_) AllReadyH.nil;go_simp
   refine hK.out _ _ (HYW.out.alloc HYW.out.size _) (fun hHeld => ?_);clear hK K
   try simp only [ge_,Act.put,sl_]
   refine wpAnyH_ready (rs := [10]) (by kernel_rfl) (by simp) ?_;refine AllReadyH.cons rfl (fun K hK => ?_) AllReadyH.nil;go_simp
   refine hK.out _ _ (HYW.out.alloc HYW.out.size _) (fun hHeld => ?_);clear hK K
   try simp only [ge_,Act.put,sl_]
   refine wpAnyH_done (by kernel_rfl) ?_ _;refine NoPanic.normal ?_;have hys : wz.heap.size <= y.heap.size := HYW.out.size;have b5 := (Below.refl y.heap.size y).alloc (Nat.le_refl _) (.cells #[.slice oa on oc,.slice ta tl tc,.int .i64 (N : Int),.bool wh,.int .i64 (E : Int)] 88);have F5 := hide (hp_new y (.cells #[.slice oa on oc,.slice ta tl tc,.int .i64 (N : Int),.bool wh,.int .i64 (E : Int)] 88));have Y5 := hide (HYW.out.trans (b5.mono hys));have O5 := hide ((HOV.out.frame fun j e => b5.block j (HOV.out.lt e).2).lowx BZ.out.size);clear b5 HOV HY HYW e1 f0 f1 f2;generalize y.alloc (.cells #[.slice oa on oc,.slice ta tl tc,.int .i64 (N : Int),.bool wh,.int .i64 (E : Int)] 88) = w5 at F5 Y5 O5 |-
   obtain ⟨tb,htb⟩ : ∃ tb,y.heap.size = tb := ⟨_,rfl⟩
   rw [htb] at F5 |-
   have htz : wz.heap.size <= tb := by omega
   clear htb hys;by_cases hE : E = 0
   ·have HE := hide hE
    clear hE;by_cases hwh : wh = true
    ·have HWH := hide hwh
     clear hwh;have t2 : w5.cell? ⟨tb,2,none⟩ = some (.int .i64 (N : Int)) := cell_at F5.out 2;have t3 : w5.cell? ⟨tb,3,none⟩ = some (.bool true) := by rw [<- HWH.out];exact cell_at F5.out 3
     have t4 : w5.cell? ⟨tb,4,none⟩ = some (.int .i64 0) := by rw [cell_at F5.out 4,HE.out];rfl
     have t0 : w5.cell? ⟨tb,0,none⟩ = some (.slice oa on oc) := cell_at F5.out 0;have hwk : IntKind.i64.wrap ((k : Int) + (N : Int)) = ((k + N : Nat) : Int) := (IntWalk.i64_in _ ⟨by omega,by omega⟩).trans (by omega);have BE := hide (BZ.out.trans (Y5.out.mono BZ.out.size));have C5 := hide ((Y5.out.block c (lt_heap' CZ.out)).trans CZ.out);have G5 := hide ((Y5.out.block _ (lt_heap GZ.out)).trans GZ.out);have R5 := hide (FRZ.out.below Y5.out);have hct : c < tb := by omega
     have hcw1 : c < w1.heap.size := by omega
     have g0 : w5.cell? ⟨w1.heap.size,0,none⟩ = some (.bool q.req) := cell_at G5.out 0;have g1 : w5.cell? ⟨w1.heap.size,1,none⟩ = some (.string q.me) := cell_at G5.out 1;have g2 : w5.cell? ⟨w1.heap.size,2,none⟩ = some (.string q.ta) := cell_at G5.out 2;have g3 : w5.cell? ⟨w1.heap.size,3,none⟩ = some (.int .i64 (q.minor : Int)) := cell_at G5.out 3;have g4 : w5.cell? ⟨w1.heap.size,4,none⟩ = some (.int .i64 (q.status : Int)) := cell_at G5.out 4;have g5 : w5.cell? ⟨w1.heap.size,5,none⟩ = some (.string q.re) := cell_at G5.out 5;have g6 : w5.cell? ⟨w1.heap.size,6,none⟩ = some (.slice ua q.fs.length uc) := cell_at G5.out 6;have z := (fun i => (by rw [frozen_at C5.out];simp : w5.frozen? ⟨c,i,none⟩ = false));have z6 := z 6;obtain ⟨o6,d6⟩ : ∃ x,w5.cell? ⟨c,6,none⟩ = some x := ⟨_,cell_at C5.out 6⟩
     have z7 := z 7;obtain ⟨o7,d7⟩ : ∃ x,w5.cell? ⟨c,7,none⟩ = some x := ⟨_,cell_at C5.out 7⟩
     have z8 := z 8;obtain ⟨o8,d8⟩ : ∃ x,w5.cell? ⟨c,8,none⟩ = some x := ⟨_,cell_at C5.out 8⟩
     have z9 := z 9;obtain ⟨o9,d9⟩ : ∃ x,w5.cell? ⟨c,9,none⟩ = some x := ⟨_,cell_at C5.out 9⟩
     have z10 := z 10;obtain ⟨o10,d10⟩ : ∃ x,w5.cell? ⟨c,10,none⟩ = some x := ⟨_,cell_at C5.out 10⟩
     have z11 := z 11;obtain ⟨o11,d11⟩ : ∃ x,w5.cell? ⟨c,11,none⟩ = some x := ⟨_,cell_at C5.out 11⟩
     have z12 := z 12;obtain ⟨o12,d12⟩ : ∃ x,w5.cell? ⟨c,12,none⟩ = some x := ⟨_,cell_at C5.out 12⟩
     have z13 := z 13;obtain ⟨o13,d13⟩ : ∃ x,w5.cell? ⟨c,13,none⟩ = some x := ⟨_,cell_at C5.out 13⟩
     clear z;have P6 : (_ : World).heap[c]? = some (.cells (rcC M bd B wt sh st q.req me9 ta9 mi hs re fl dv) 70 (0,0)) := hp_set C5.out 6 (.bool q.req);have P7 : (_ : World).heap[c]? = some (.cells (rcC M bd B wt sh st q.req q.me ta9 mi hs re fl dv) 70 (0,0)) := hp_set P6 7 (.string q.me);have P8 : (_ : World).heap[c]? = some (.cells (rcC M bd B wt sh st q.req q.me q.ta mi hs re fl dv) 70 (0,0)) := hp_set P7 8 (.string q.ta);have P9 : (_ : World).heap[c]? = some (.cells (rcC M bd B wt sh st q.req q.me q.ta (q.minor : Int) hs re fl dv) 70 (0,0)) := hp_set P8 9 (.int .i64 (q.minor : Int));have P10 : (_ : World).heap[c]? = some (.cells (rcC M bd B wt sh st q.req q.me q.ta (q.minor : Int) (q.status : Int) re fl dv) 70 (0,0)) := hp_set P9 10 (.int .i64 (q.status : Int));have P11 : (_ : World).heap[c]? = some (.cells (rcC M bd B wt sh st q.req q.me q.ta (q.minor : Int) (q.status : Int) q.re fl dv) 70 (0,0)) := hp_set P10 11 (.string q.re);have P12 : (_ : World).heap[c]? = some (.cells (rcC M bd B wt sh st q.req q.me q.ta (q.minor : Int) (q.status : Int) q.re (.slice ua q.fs.length uc) dv) 70 (0,0)) := hp_set P11 12 (.slice ua q.fs.length uc);have P13 : (_ : World).heap[c]? = some (.cells (rcC M bd B wt sh st q.req q.me q.ta (q.minor : Int) (q.status : Int) q.re (.slice ua q.fs.length uc) (.slice oa on oc)) 70 (0,0)) := hp_set P12 13 (.slice oa on oc);replace P13 := hide P13;have K13 := hide ((((((((CK.set w5 c 6 (.bool q.req)).trans (CK.set _ c 7 (.string q.me))).trans (CK.set _ c 8 (.string q.ta))).trans (CK.set _ c 9 (.int .i64 (q.minor : Int)))).trans (CK.set _ c 10 (.int .i64 (q.status : Int)))).trans (CK.set _ c 11 (.string q.re))).trans (CK.set _ c 12 (.slice ua q.fs.length uc))).trans (CK.set _ c 13 (.slice oa on oc)));have R13 := hide (R5.out.frame fun g hg => K13.out.block g (R5.out.lt hg).2 (fun e => by have := (R5.out.lt hg).1;omega))
     have O13 := hide (O5.out.frame fun g hg => K13.out.block g (O5.out.lt hg).2 (fun e => by have := (O5.out.lt hg).1;omega));clear P6 P7 P8 P9 P10 P11 P12;go_upto_region 21 with fail
     generalize ((((((((w5.setCell ⟨c,6,none⟩ (.bool q.req)).setCell ⟨c,7,none⟩ (.string q.me)).setCell ⟨c,8,none⟩ (.string q.ta)).setCell ⟨c,9,none⟩ (.int .i64 (q.minor : Int))).setCell ⟨c,10,none⟩ (.int .i64 (q.status : Int))).setCell ⟨c,11,none⟩ (.string q.re)).setCell ⟨c,12,none⟩ (.slice ua q.fs.length uc)).setCell ⟨c,13,none⟩ (.slice oa on oc)) = w6 at P13 K13 R13 O13 |-
     have P14 : Hid (w6.heap[c]? = some (.cells (rcC M bd B wt sh st q.req q.me q.ta (q.minor : Int) (q.status : Int) q.re (.slice ua q.fs.length uc) (.slice oa on oc)) 70 (0,0))) := P13;have T6 := hide ((K13.out.block tb (lt_heap F5.out) (by omega)).trans F5.out);have t2 : w6.cell? ⟨tb,2,none⟩ = some (.int .i64 (N : Int)) := cell_at T6.out 2;have t3 : w6.cell? ⟨tb,3,none⟩ = some (.bool true) := by rw [<- HWH.out];exact cell_at T6.out 3
     have CE := hide ((CK.of_below c BE.out).trans K13.out);clear P13 K13 C5 G5 R5 O5 F5 Y5 BE BZ CZ GZ FRZ d6 d7 d8 d9 d10 d11 d12 d13 z6 z7 z8 z9 z10 z11 z12 z13 g0 g1 g2 g3 g4 g5 g6 t0 t4;go_quiet (fail)
     have Q13 := hide (R13.out.below (below_drewN w6 nq));have V13 := hide (O13.out.below (below_drewN w6 nq));have W13 : Hid ((w6.drewN nq).heap[c]? = some (.cells (rcC M bd B wt sh st q.req q.me q.ta (q.minor : Int) (q.status : Int) q.re (.slice ua q.fs.length uc) (.slice oa on oc)) 70 (0,0))) := P14;have X13 := hide (CE.out.trans (CK.of_below c (below_drewN w6 nq)));go_wp2_with fail
     exact bodyPost_ret (v := .tuple #[.int .i64 ((k : Int) + (N : Int)),.bool true,.int .i64 0]) (by simp [results,Tryz.results27,go_sem]) rfl (lk_yes HE.out HWH.out ⟨_,_,_,_,_,W13.out,Q13.out,V13.out,X13.out⟩)
    ·have HWH : Hid (wh = false) := hide (by simpa using hwh)
     clear hwh;have t2 : w5.cell? ⟨tb,2,none⟩ = some (.int .i64 (N : Int)) := cell_at F5.out 2;have t3 : w5.cell? ⟨tb,3,none⟩ = some (.bool wh) := cell_at F5.out 3;have t4 : w5.cell? ⟨tb,4,none⟩ = some (.int .i64 (E : Int)) := cell_at F5.out 4;have hwk : IntKind.i64.wrap ((k : Int) + (N : Int)) = ((k + N : Nat) : Int) := (IntWalk.i64_in _ ⟨by omega,by omega⟩).trans (by omega);replace t4 : w5.cell? ⟨tb,4,none⟩ = some (.int .i64 0) := by rw [t4,HE.out];rfl
     replace t3 : w5.cell? ⟨tb,3,none⟩ = some (.bool false) := by rw [t3,HWH.out]
     have BE := hide (BZ.out.trans (Y5.out.mono BZ.out.size));go_wp2_with fail
     go_quiet (fail)
     have BE2 := hide (BE.out.trans ((below_drewN w5 nq).mono BE.out.size));go_wp2_with fail
     exact bodyPost_ret (v := .tuple #[.int .i64 ((k : Int) + (N : Int)),.bool false,.int .i64 0]) (by simp [results,Tryz.results27,go_sem]) rfl (lk_no BE2.out (by simp [HWH.out]) (by rw [HE.out];rfl))
   ·by_cases hE2 : E = 2
    ·have HE := hide hE2
     clear hE hE2;have t2 : w5.cell? ⟨tb,2,none⟩ = some (.int .i64 (N : Int)) := cell_at F5.out 2;have t3 : w5.cell? ⟨tb,3,none⟩ = some (.bool wh) := cell_at F5.out 3;have t4 : w5.cell? ⟨tb,4,none⟩ = some (.int .i64 (E : Int)) := cell_at F5.out 4;have hwk : IntKind.i64.wrap ((k : Int) + (N : Int)) = ((k + N : Nat) : Int) := (IntWalk.i64_in _ ⟨by omega,by omega⟩).trans (by omega);replace t4 : w5.cell? ⟨tb,4,none⟩ = some (.int .i64 2) := by rw [t4,HE.out];rfl
     have BE := hide (BZ.out.trans (Y5.out.mono BZ.out.size));go_wp2_with fail
     exact bodyPost_ret (v := .tuple #[.int .i64 ((k : Int) + (N : Int)),.bool false,.int .i64 413]) (by simp [results,Tryz.results27,go_sem]) rfl (lk_no BE.out (by simp [HE.out]) (by rw [HE.out];rfl))
    ·have t2 : w5.cell? ⟨tb, 2, none⟩ = some (.int .i64 (N : Int)) := cell_at F5.out 2
     have t3 : w5.cell? ⟨tb,3,none⟩ = some (.bool wh) := cell_at F5.out 3;have t4 : w5.cell? ⟨tb,4,none⟩ = some (.int .i64 (E : Int)) := cell_at F5.out 4;have hwk : IntKind.i64.wrap ((k : Int) + (N : Int)) = ((k + N : Nat) : Int) := (IntWalk.i64_in _ ⟨by omega,by omega⟩).trans (by omega);have BE := hide (BZ.out.trans (Y5.out.mono BZ.out.size));go_wp2_with fail
     exact bodyPost_ret (v := .tuple #[.int .i64 ((k : Int) + (N : Int)),.bool false,.int .i64 400]) (by simp [results,Tryz.results27,go_sem]) rfl (lk_no BE.out (by simp [hE]) (by rw [if_neg hE];unfold bodyS;rw [if_neg (by omega)]))
  ·go_simp
   refine hK.out _ _ (((Below.refl wz.heap.size wz).alloc (Nat.le_refl _) _).drew) (fun hHeld => ?_);clear hK K
   try simp only [ge_,Act.put,sl_]
   refine wpAnyH_ready (rs := [8]) (by kernel_rfl) (by simp) ?_;refine AllReadyH.cons rfl (fun K hK => ?_) AllReadyH.nil;go_simp
   refine (HAL.out _ _ (HBS.out _ (((Below.refl wz.heap.size wz).alloc (Nat.le_refl _) _).drew))).mono ?_;rintro e y ⟨oa,on,oc,ta,tl,tc,rfl,q3,q4⟩;have HOV := hide q3;have HY := hide q4;clear q3 q4
   (try go_wp2_with fail)
   have hlt0 : wz.heap.size < (wz.alloc (.cells #[.slice none 0 0,.slice none 0 0,.int .i64 0,.bool false,.int .i64 0] 88)).drew.heap.size := lt_heap (hp_new wz (.cells #[.slice none 0 0,.slice none 0 0,.int .i64 0,.bool false,.int .i64 0] 88));have HYW := hide ((((Below.refl wz.heap.size wz).alloc (Nat.le_refl _) (.cells #[.slice none 0 0,.slice none 0 0,.int .i64 0,.bool false,.int .i64 0] 88)).drew).trans (HY.out.mono (Nat.le_of_lt hlt0)));have T0 := hide ((HY.out.block _ hlt0).trans (hp_new wz (.cells #[.slice none 0 0,.slice none 0 0,.int .i64 0,.bool false,.int .i64 0] 88)));have q0 : y.cell? ⟨wz.heap.size,0,none⟩ = some (.slice none 0 0) := cell_at T0.out 0;have q1 : y.cell? ⟨wz.heap.size,1,none⟩ = some (.slice none 0 0) := cell_at T0.out 1;have q2 : y.cell? ⟨wz.heap.size,2,none⟩ = some (.int .i64 0) := cell_at T0.out 2;have q3 : y.cell? ⟨wz.heap.size,3,none⟩ = some (.bool false) := cell_at T0.out 3;have q4 : y.cell? ⟨wz.heap.size,4,none⟩ = some (.int .i64 0) := cell_at T0.out 4;have x0 : y.frozen? ⟨wz.heap.size,0,none⟩ = false := (by rw [frozen_at T0.out];simp);have x1 : y.frozen? ⟨wz.heap.size,1,none⟩ = false := (by rw [frozen_at T0.out];simp);have x2 : y.frozen? ⟨wz.heap.size,2,none⟩ = false := (by rw [frozen_at T0.out];simp);have x3 : y.frozen? ⟨wz.heap.size,3,none⟩ = false := (by rw [frozen_at T0.out];simp);have x4 : y.frozen? ⟨wz.heap.size,4,none⟩ = false := (by rw [frozen_at T0.out];simp);refine hK.out _ _ (HYW.out) (fun hHeld => ?_);clear hK K
   try simp only [ge_,Act.put,sl_]
   refine wpAnyH_ready (rs := [10]) (by kernel_rfl) (by simp) ?_;refine AllReadyH.cons rfl (fun K hK => ?_) AllReadyH.nil;go_simp
   have a0 : (_ : World).heap[wz.heap.size]? = some (.cells #[.slice oa on oc,.slice none 0 0,.int .i64 0,.bool false,.int .i64 0] 88 (0,0)) := hp_set T0.out 0 (.slice oa on oc);have a1 : (_ : World).heap[wz.heap.size]? = some (.cells #[.slice oa on oc,.slice ta tl tc,.int .i64 0,.bool false,.int .i64 0] 88 (0,0)) := hp_set a0 1 (.slice ta tl tc);have a2 : (_ : World).heap[wz.heap.size]? = some (.cells #[.slice oa on oc,.slice ta tl tc,.int .i64 (N : Int),.bool false,.int .i64 0] 88 (0,0)) := hp_set a1 2 (.int .i64 (N : Int));have a3 : (_ : World).heap[wz.heap.size]? = some (.cells #[.slice oa on oc,.slice ta tl tc,.int .i64 (N : Int),.bool wh,.int .i64 0] 88 (0,0)) := hp_set a2 3 (.bool wh);have F5 := hide (hp_set a3 4 (.int .i64 (E : Int)));have K5 := ((((CK.set y wz.heap.size 0 (.slice oa on oc)).trans (CK.set _ wz.heap.size 1 (.slice ta tl tc))).trans (CK.set _ wz.heap.size 2 (.int .i64 (N : Int)))).trans (CK.set _ wz.heap.size 3 (.bool wh))).trans (CK.set _ wz.heap.size 4 (.int .i64 (E : Int)));have Y5 := hide (HYW.out.trans (K5.low (Nat.le_refl _) HYW.out.size));have O5 := hide ((HOV.out.frame fun j e => K5.block j (HOV.out.lt e).2 (by have := (HOV.out.lt e).1;omega)).lowx (Nat.le_trans BZ.out.size (Nat.le_of_lt hlt0)));refine hK.out _ _ Y5.out (fun hHeld => ?_);clear hK K
   try simp only [ge_,Act.put,sl_]
   refine wpAnyH_done (by kernel_rfl) ?_ _;refine NoPanic.normal ?_;clear a0 a1 a2 a3 K5 q0 q1 q2 q3 q4 x0 x1 x2 x3 x4 hlt0 T0 HOV HY HYW e1 f0 f1 f2;generalize ((((y.setCell ⟨wz.heap.size,0,none⟩ (.slice oa on oc)).setCell ⟨wz.heap.size,1,none⟩ (.slice ta tl tc)).setCell ⟨wz.heap.size,2,none⟩ (.int .i64 (N : Int))).setCell ⟨wz.heap.size,3,none⟩ (.bool wh)).setCell ⟨wz.heap.size,4,none⟩ (.int .i64 (E : Int)) = w5 at F5 Y5 O5 |-
   obtain ⟨tb,htb⟩ : ∃ tb,wz.heap.size = tb := ⟨_,rfl⟩
   have htz : wz.heap.size <= tb := by omega
   rw [htb] at F5;rw [htb];clear htb;by_cases hE : E = 0
   ·have HE := hide hE
    clear hE;by_cases hwh : wh = true
    ·have HWH := hide hwh
     clear hwh;have t2 : w5.cell? ⟨tb,2,none⟩ = some (.int .i64 (N : Int)) := cell_at F5.out 2;have t3 : w5.cell? ⟨tb,3,none⟩ = some (.bool true) := by rw [<- HWH.out];exact cell_at F5.out 3
     have t4 : w5.cell? ⟨tb,4,none⟩ = some (.int .i64 0) := by rw [cell_at F5.out 4,HE.out];rfl
     have t0 : w5.cell? ⟨tb,0,none⟩ = some (.slice oa on oc) := cell_at F5.out 0;have hwk : IntKind.i64.wrap ((k : Int) + (N : Int)) = ((k + N : Nat) : Int) := (IntWalk.i64_in _ ⟨by omega,by omega⟩).trans (by omega);have BE := hide (BZ.out.trans (Y5.out.mono BZ.out.size));have C5 := hide ((Y5.out.block c (lt_heap' CZ.out)).trans CZ.out);have G5 := hide ((Y5.out.block _ (lt_heap GZ.out)).trans GZ.out);have R5 := hide (FRZ.out.below Y5.out);have hct : c < tb := by omega
     have hcw1 : c < w1.heap.size := by omega
     have g0 : w5.cell? ⟨w1.heap.size,0,none⟩ = some (.bool q.req) := cell_at G5.out 0;have g1 : w5.cell? ⟨w1.heap.size,1,none⟩ = some (.string q.me) := cell_at G5.out 1;have g2 : w5.cell? ⟨w1.heap.size,2,none⟩ = some (.string q.ta) := cell_at G5.out 2;have g3 : w5.cell? ⟨w1.heap.size,3,none⟩ = some (.int .i64 (q.minor : Int)) := cell_at G5.out 3;have g4 : w5.cell? ⟨w1.heap.size,4,none⟩ = some (.int .i64 (q.status : Int)) := cell_at G5.out 4;have g5 : w5.cell? ⟨w1.heap.size,5,none⟩ = some (.string q.re) := cell_at G5.out 5;have g6 : w5.cell? ⟨w1.heap.size,6,none⟩ = some (.slice ua q.fs.length uc) := cell_at G5.out 6;have z := (fun i => (by rw [frozen_at C5.out];simp : w5.frozen? ⟨c,i,none⟩ = false));have z6 := z 6;obtain ⟨o6,d6⟩ : ∃ x,w5.cell? ⟨c,6,none⟩ = some x := ⟨_,cell_at C5.out 6⟩
     have z7 := z 7;obtain ⟨o7,d7⟩ : ∃ x,w5.cell? ⟨c,7,none⟩ = some x := ⟨_,cell_at C5.out 7⟩
     have z8 := z 8;obtain ⟨o8,d8⟩ : ∃ x,w5.cell? ⟨c,8,none⟩ = some x := ⟨_,cell_at C5.out 8⟩
     have z9 := z 9;obtain ⟨o9,d9⟩ : ∃ x,w5.cell? ⟨c,9,none⟩ = some x := ⟨_,cell_at C5.out 9⟩
     have z10 := z 10;obtain ⟨o10,d10⟩ : ∃ x,w5.cell? ⟨c,10,none⟩ = some x := ⟨_,cell_at C5.out 10⟩
     have z11 := z 11;obtain ⟨o11,d11⟩ : ∃ x,w5.cell? ⟨c,11,none⟩ = some x := ⟨_,cell_at C5.out 11⟩
     have z12 := z 12;obtain ⟨o12,d12⟩ : ∃ x,w5.cell? ⟨c,12,none⟩ = some x := ⟨_,cell_at C5.out 12⟩
     have z13 := z 13;obtain ⟨o13,d13⟩ : ∃ x,w5.cell? ⟨c,13,none⟩ = some x := ⟨_,cell_at C5.out 13⟩
     clear z;have P6 : (_ : World).heap[c]? = some (.cells (rcC M bd B wt sh st q.req me9 ta9 mi hs re fl dv) 70 (0,0)) := hp_set C5.out 6 (.bool q.req);have P7 : (_ : World).heap[c]? = some (.cells (rcC M bd B wt sh st q.req q.me ta9 mi hs re fl dv) 70 (0,0)) := hp_set P6 7 (.string q.me);have P8 : (_ : World).heap[c]? = some (.cells (rcC M bd B wt sh st q.req q.me q.ta mi hs re fl dv) 70 (0,0)) := hp_set P7 8 (.string q.ta);have P9 : (_ : World).heap[c]? = some (.cells (rcC M bd B wt sh st q.req q.me q.ta (q.minor : Int) hs re fl dv) 70 (0,0)) := hp_set P8 9 (.int .i64 (q.minor : Int));have P10 : (_ : World).heap[c]? = some (.cells (rcC M bd B wt sh st q.req q.me q.ta (q.minor : Int) (q.status : Int) re fl dv) 70 (0,0)) := hp_set P9 10 (.int .i64 (q.status : Int));have P11 : (_ : World).heap[c]? = some (.cells (rcC M bd B wt sh st q.req q.me q.ta (q.minor : Int) (q.status : Int) q.re fl dv) 70 (0,0)) := hp_set P10 11 (.string q.re);have P12 : (_ : World).heap[c]? = some (.cells (rcC M bd B wt sh st q.req q.me q.ta (q.minor : Int) (q.status : Int) q.re (.slice ua q.fs.length uc) dv) 70 (0,0)) := hp_set P11 12 (.slice ua q.fs.length uc);have P13 : (_ : World).heap[c]? = some (.cells (rcC M bd B wt sh st q.req q.me q.ta (q.minor : Int) (q.status : Int) q.re (.slice ua q.fs.length uc) (.slice oa on oc)) 70 (0,0)) := hp_set P12 13 (.slice oa on oc);replace P13 := hide P13;have K13 := hide ((((((((CK.set w5 c 6 (.bool q.req)).trans (CK.set _ c 7 (.string q.me))).trans (CK.set _ c 8 (.string q.ta))).trans (CK.set _ c 9 (.int .i64 (q.minor : Int)))).trans (CK.set _ c 10 (.int .i64 (q.status : Int)))).trans (CK.set _ c 11 (.string q.re))).trans (CK.set _ c 12 (.slice ua q.fs.length uc))).trans (CK.set _ c 13 (.slice oa on oc)));have R13 := hide (R5.out.frame fun g hg => K13.out.block g (R5.out.lt hg).2 (fun e => by have := (R5.out.lt hg).1;omega))
     have O13 := hide (O5.out.frame fun g hg => K13.out.block g (O5.out.lt hg).2 (fun e => by have := (O5.out.lt hg).1;omega));clear P6 P7 P8 P9 P10 P11 P12;go_upto_region 21 with fail
     generalize ((((((((w5.setCell ⟨c,6,none⟩ (.bool q.req)).setCell ⟨c,7,none⟩ (.string q.me)).setCell ⟨c,8,none⟩ (.string q.ta)).setCell ⟨c,9,none⟩ (.int .i64 (q.minor : Int))).setCell ⟨c,10,none⟩ (.int .i64 (q.status : Int))).setCell ⟨c,11,none⟩ (.string q.re)).setCell ⟨c,12,none⟩ (.slice ua q.fs.length uc)).setCell ⟨c,13,none⟩ (.slice oa on oc)) = w6 at P13 K13 R13 O13 |-
     have P14 : Hid (w6.heap[c]? = some (.cells (rcC M bd B wt sh st q.req q.me q.ta (q.minor : Int) (q.status : Int) q.re (.slice ua q.fs.length uc) (.slice oa on oc)) 70 (0,0))) := P13;have T6 := hide ((K13.out.block tb (lt_heap F5.out) (by omega)).trans F5.out);have t2 : w6.cell? ⟨tb,2,none⟩ = some (.int .i64 (N : Int)) := cell_at T6.out 2;have t3 : w6.cell? ⟨tb,3,none⟩ = some (.bool true) := by rw [<- HWH.out];exact cell_at T6.out 3
     have CE := hide ((CK.of_below c BE.out).trans K13.out);clear P13 K13 C5 G5 R5 O5 F5 Y5 BE BZ CZ GZ FRZ d6 d7 d8 d9 d10 d11 d12 d13 z6 z7 z8 z9 z10 z11 z12 z13 g0 g1 g2 g3 g4 g5 g6 t0 t4;go_quiet (fail)
     have Q13 := hide (R13.out.below (below_drewN w6 nq));have V13 := hide (O13.out.below (below_drewN w6 nq));have W13 : Hid ((w6.drewN nq).heap[c]? = some (.cells (rcC M bd B wt sh st q.req q.me q.ta (q.minor : Int) (q.status : Int) q.re (.slice ua q.fs.length uc) (.slice oa on oc)) 70 (0,0))) := P14;have X13 := hide (CE.out.trans (CK.of_below c (below_drewN w6 nq)));go_wp2_with fail
     exact bodyPost_ret (v := .tuple #[.int .i64 ((k : Int) + (N : Int)),.bool true,.int .i64 0]) (by simp [results,Tryz.results27,go_sem]) rfl (lk_yes HE.out HWH.out ⟨_,_,_,_,_,W13.out,Q13.out,V13.out,X13.out⟩)
    ·have HWH : Hid (wh = false) := hide (by simpa using hwh)
     clear hwh;have t2 : w5.cell? ⟨tb,2,none⟩ = some (.int .i64 (N : Int)) := cell_at F5.out 2;have t3 : w5.cell? ⟨tb,3,none⟩ = some (.bool wh) := cell_at F5.out 3;have t4 : w5.cell? ⟨tb,4,none⟩ = some (.int .i64 (E : Int)) := cell_at F5.out 4;have hwk : IntKind.i64.wrap ((k : Int) + (N : Int)) = ((k + N : Nat) : Int) := (IntWalk.i64_in _ ⟨by omega,by omega⟩).trans (by omega);replace t4 : w5.cell? ⟨tb,4,none⟩ = some (.int .i64 0) := by rw [t4,HE.out];rfl
     replace t3 : w5.cell? ⟨tb,3,none⟩ = some (.bool false) := by rw [t3,HWH.out]
     have BE := hide (BZ.out.trans (Y5.out.mono BZ.out.size));go_wp2_with fail
     go_quiet (fail)
     have BE2 := hide (BE.out.trans ((below_drewN w5 nq).mono BE.out.size));go_wp2_with fail
     exact bodyPost_ret (v := .tuple #[.int .i64 ((k : Int) + (N : Int)),.bool false,.int .i64 0]) (by simp [results,Tryz.results27,go_sem]) rfl (lk_no BE2.out (by simp [HWH.out]) (by rw [HE.out];rfl))
   ·by_cases hE2 : E = 2
    ·have HE := hide hE2
     clear hE hE2;have t2 : w5.cell? ⟨tb,2,none⟩ = some (.int .i64 (N : Int)) := cell_at F5.out 2;have t3 : w5.cell? ⟨tb,3,none⟩ = some (.bool wh) := cell_at F5.out 3;have t4 : w5.cell? ⟨tb,4,none⟩ = some (.int .i64 (E : Int)) := cell_at F5.out 4;have hwk : IntKind.i64.wrap ((k : Int) + (N : Int)) = ((k + N : Nat) : Int) := (IntWalk.i64_in _ ⟨by omega,by omega⟩).trans (by omega);replace t4 : w5.cell? ⟨tb,4,none⟩ = some (.int .i64 2) := by rw [t4,HE.out];rfl
     have BE := hide (BZ.out.trans (Y5.out.mono BZ.out.size));go_wp2_with fail
     exact bodyPost_ret (v := .tuple #[.int .i64 ((k : Int) + (N : Int)),.bool false,.int .i64 413]) (by simp [results,Tryz.results27,go_sem]) rfl (lk_no BE.out (by simp [HE.out]) (by rw [HE.out];rfl))
    ·have t2 : w5.cell? ⟨tb, 2, none⟩ = some (.int .i64 (N : Int)) := cell_at F5.out 2
     have t3 : w5.cell? ⟨tb,3,none⟩ = some (.bool wh) := cell_at F5.out 3;have t4 : w5.cell? ⟨tb,4,none⟩ = some (.int .i64 (E : Int)) := cell_at F5.out 4;have hwk : IntKind.i64.wrap ((k : Int) + (N : Int)) = ((k + N : Nat) : Int) := (IntWalk.i64_in _ ⟨by omega,by omega⟩).trans (by omega);have BE := hide (BZ.out.trans (Y5.out.mono BZ.out.size));go_wp2_with fail
     exact bodyPost_ret (v := .tuple #[.int .i64 ((k : Int) + (N : Int)),.bool false,.int .i64 400]) (by simp [results,Tryz.results27,go_sem]) rfl (lk_no BE.out (by simp [hE]) (by rw [if_neg hE];unfold bodyS;rw [if_neg (by omega)]))
end
end Go.Proofs.YtcagjipdldlehaaGreatDoor
