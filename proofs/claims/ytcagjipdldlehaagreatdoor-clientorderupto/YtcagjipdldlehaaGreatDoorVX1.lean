/- VX1. -/
import Derived.Test.YtcagjipdldlehaaGreatDoorVA
import Derived.Test.YtcagjipdldlehaaGreatDoorVG
import Derived.Test.YtcagjipdldlehaaGreatDoorVQ
import Derived.Test.YtcagjipdldlehaaGreatDoorVR3
import Derived.Test.YtcagjipdldlehaaGreatDoorVO
import Derived.Test.YtcagjipdldlehaaGreatDoorVH3
import Derived.Test.YtcagjipdldlehaaGreatDoorVB
import Derived.Lib.SlTrimSet
import Derived.Lib.ItoaMem
namespace Go.Proofs.YtcagjipdldlehaaGreatDoor
open Go.ChangeShapes Go.WideShapes Go.ChangeAt Go.RowKit
set_option linter.unusedVariables false
set_option maxHeartbeats 16000000
set_option maxRecDepth 100000
theorem digv_decc : ∀ d : Fin 10,digv (UInt8.ofNat (48 + d.val)) = d.val := by decide
theorem digv_dec {d : Nat} (h : d < 10) : digv (UInt8.ofNat (48 + d)) = d := digv_decc ⟨d,h⟩
theorem decD_ne (u : Nat) : Lib.decDigits u ≠ [] := by rw [Lib.decDigits];split <;> simp
theorem decD_back (u : Nat) : u <= top -> (Lib.decDigits u).all (fun c => decide (digv c < 10)) = true /\ accu 10 (Lib.decDigits u) = u := by
 induction u using Nat.strongRecOn with
 | ind u ih =>
  intro hu;rw [Lib.decDigits];by_cases h : u < 10
  ·rw [dif_pos h]
   have e := digv_dec h;generalize UInt8.ofNat (48 + u) = c at e |-
   simp [e,h,accu,stp,top]
  ·rw [dif_neg h]
   obtain ⟨h1,h2⟩ := ih (u / 10) (by omega) (by omega);have h3 : u % 10 < 10 := Nat.mod_lt _ (by decide);rw [List.all_append,h1,accu_snoc,h2];have e := digv_dec h3;generalize UInt8.ofNat (48 + u % 10) = c at e |-
   refine ⟨by simp [e,h3],?_⟩;unfold stp;rw [if_pos (by omega),e];omega
theorem num_dec {u : Nat} (h : u <= top) : numV 10 (Lib.decDigits u) = u /\ numE 10 (Lib.decDigits u) = 0 := by
 obtain ⟨h1,h2⟩ := decD_back u h;have h3 := decD_ne u;have h4 : ¬ top < u := by omega
 unfold numV numE;rw [h1,h2];simp [h3,h4]
theorem sS_of (s : ByteArray) : sS s.data.toList = s := by cases s;simp [sS]
def moreN : ByteArray := ⟨#[67,111,110,116,101,110,116,45,76,101,110,103,116,104]⟩
def decS (n : Nat) : ByteArray := sS (Lib.decDigits n)
theorem digv_plain : ∀ n : Fin 256,digv (UInt8.ofNat n.val) < 10 -> UInt8.ofNat n.val ≠ 44 /\ UInt8.ofNat n.val ≠ 92 /\ UInt8.ofNat n.val ≠ 34 /\ blankc (UInt8.ofNat n.val) = false /\ lowc (UInt8.ofNat n.val) = UInt8.ofNat n.val := by decide +kernel
theorem digv_at (c : UInt8) (h : digv c < 10) : c ≠ 44 /\ c ≠ 92 /\ c ≠ 34 /\ blankc c = false /\ lowc c = c := by
 have := digv_plain ⟨c.toNat,UInt8.toNat_lt c⟩;simp only [UInt8.ofNat_toNat] at this;exact this h
theorem pend_dig : ∀ (l : List UInt8), (∀ c ∈ l, digv c < 10) -> pend false false l = l.length
 | [],_ => rfl
 | c :: r,h => by
  have hc := digv_at c (h c (by simp));rw [pend,if_neg (by simp [hc.1])];have : nx false false c = (false,false) := by simp [nx,hc.2.2.1]
  rw [this,pend_dig r (fun x hx => h x (List.mem_cons_of_mem _ hx))];rfl
theorem trim_dig (l : List UInt8) (h : ∀ c ∈ l,digv c < 10) : trimB l = l := by
 have := (trim_id l).2 ⟨fun c hc => (digv_at c (h c (List.mem_of_mem_head? hc))).2.2.2.1,fun c hc => (digv_at c (h c (List.mem_of_mem_getLast? hc))).2.2.2.1⟩;exact this.symm
theorem list_dig (l : List UInt8) (h : ∀ c ∈ l,digv c < 10) (h0 : l ≠ []) : listB l = [l] := by
 rw [listB_cons h0,pend_dig l h,List.take_length,List.drop_of_length_le (by omega),listB_nil];unfold elem;rw [trim_dig l h,if_neg h0];rfl
theorem low_dig (l : List UInt8) (h : ∀ c ∈ l,digv c < 10) : lowerB l = l := by
 unfold lowerB;rw [List.map_congr_left (g := id) (fun c hc => (digv_at c (h c hc)).2.2.2.2)];simp
theorem dec_dig (n : Nat) (h : n <= top) : ∀ c ∈ Lib.decDigits n,digv c < 10 := by
 intro c hc;have := List.all_eq_true.1 (decD_back n h).1 c hc;exact of_decide_eq_true this
theorem small_dec (n : Nat) (h : n <= top) : smallS (decS n) = [decS n] := by
 unfold smallS listS decS;rw [sS_list,list_dig _ (dec_dig n h) (decD_ne n)];simp only [List.map_cons,List.map_nil];unfold lowS;rw [sS_list,low_dig _ (dec_dig n h)];rfl
theorem num_decS (n : Nat) (h : n <= top) : numE 10 (decS n).data.toList = 0 /\ numV 10 (decS n).data.toList = n := by
 unfold decS;rw [sS_list];exact ⟨(num_dec h).2,(num_dec h).1⟩
theorem nm_more (v : ByteArray) : nmB teS (moreN,v) = false /\ nmB clS (moreN,v) = true /\ nmB coS (moreN,v) = false := by
 have h1 : sameB moreN.data.toList teS.data.toList = false := by decide +kernel
 have h2 : sameB moreN.data.toList clS.data.toList = true := by decide +kernel
 have h3 : sameB moreN.data.toList coS.data.toList = false := by decide +kernel
 exact ⟨h1,h2,h3⟩
def withN (A : List (ByteArray × ByteArray)) (n : Nat) (front : Bool) : List (ByteArray × ByteArray) := if front then (moreN,decS n) :: A else A ++ [(moreN,decS n)]
theorem all_with (A : List (ByteArray × ByteArray)) (n : Nat) (front : Bool) : allS (withN A n front) teS = allS A teS /\ allS (withN A n front) coS = allS A coS /\ allS (withN A n front) clS = if front then decS n :: allS A clS else allS A clS ++ [decS n] := by
 have h := nm_more (decS n);unfold withN allS;cases front
 ·simp only [if_false, Bool.false_eq_true, List.filter_append, List.map_append, List.filter_cons, List.filter_nil, h.1, h.2.1, h.2.2, if_true]
  simp
 ·simp only [if_true, List.filter_cons, h.1, h.2.1, h.2.2, Bool.false_eq_true, if_false]
  simp
theorem items_with (A : List (ByteArray × ByteArray)) (n : Nat) (front : Bool) (h : n <= top) : itemsS (withN A n front) clS = if front then decS n :: itemsS A clS else itemsS A clS ++ [decS n] := by
 unfold itemsS;rw [(all_with A n front).2.2];cases front
 ·simp only [Bool.false_eq_true, if_false, itemsV, List.flatMap_append, List.flatMap_cons, List.flatMap_nil, small_dec n h]
  simp
 ·simp only [if_true, itemsV, List.flatMap_cons, small_dec n h]
  rfl
theorem len_alone (n : Nat) (h : n <= top) : lenOk [decS n] = true /\ lenN [decS n] = n := by
 have hd := num_decS n h
 have h1 : lenOk [decS n] = true := by
  rw [lenOk_cons (by simp)];unfold oneIs;simp [firstN,hd.1]
 exact ⟨h1,by unfold lenN;rw [h1];exact hd.2⟩
def pParse (rq : Bool) (l : List UInt8) : Hx × Nat × Nat :=
 if (pFeed (pNew rq 65536) l).2.2.1 ≠ 0 then (hx0,0,(pFeed (pNew rq 65536) l).2.2.1) else if (pFeed (pNew rq 65536) l).2.1 = false then (hx0,0,6) else ((pFeed (pNew rq 65536) l).2.2.2.hx,(pFeed (pNew rq 65536) l).1,0)
theorem run_pos (bd : Nat) {s : CS} (h : s.goes = true) (x : UInt8) (r : List UInt8) : 1 <= (csRun bd s (x :: r)).1 := by rw [run_cons bd h];dsimp only;omega
theorem run_pre (bd : Nat) {s : CS} {l : List UInt8} {k : Nat} (h : k <= (csRun bd s l).1) : (csRun bd s (l.take k)).1 = k := by
 have hl := run_le bd l s;have ht : (l.take k).length = k := by rw [List.length_take];omega
 have e := run_app bd (l.take k) s (l.drop k);rw [List.take_append_drop,ht] at e;by_cases q : (csRun bd s (l.take k)).1 = k
 ·exact q
 ·rw [if_neg q] at e
  have := run_le bd (l.take k) s;rw [e] at h;omega
theorem run_all (bd : Nat) (s : CS) (l : List UInt8) : csRun bd s (l.take (csRun bd s l).1) = csRun bd s l := by
 have hl := run_le bd l s;have h1 := run_pre bd (s := s) (l := l) (Nat.le_refl _);have ht : (l.take (csRun bd s l).1).length = (csRun bd s l).1 := by rw [List.length_take];omega
 have e := run_app bd (l.take (csRun bd s l).1) s (l.drop (csRun bd s l).1);rw [List.take_append_drop,ht,if_pos h1] at e
 have e1 : (csRun bd (csRun bd s (l.take (csRun bd s l).1)).2 (l.drop (csRun bd s l).1)).1 = 0 := by
  have := congrArg Prod.fst e;dsimp only at this;omega
 refine Prod.ext h1 ?_;have e2 := congrArg Prod.snd e;dsimp only at e2;rw [e2];cases hd : l.drop (csRun bd s l).1 with
 | nil => rw [run_nil]
 | cons x r =>
  rw [hd] at e1;cases g : (csRun bd s (l.take (csRun bd s l).1)).2.goes with
  | false => rw [run_stop bd g]
  | true => have := run_pos bd g x r;omega
def Ir (W : World) (v : Value) (L : List Int) : Prop := ∃ (a : Option Addr) (c : Nat),v = .slice a L.length c /\ ∀ j (h : j < L.length),∃ g o,a = some ⟨g,o,none⟩ /\ g < W.heap.size /\ W.cell? ⟨g,o + j,none⟩ = some (.int .i64 L[j])
theorem Bf.sub {w : World} {A : Nat -> Prop} {bk o vc : Nat} {l : List UInt8} (h : Bf w A (.slice (some ⟨bk,o,none⟩) l.length vc) l) (k J : Nat) (hk : k + J <= l.length) : Bf w A (.slice (some ⟨bk,o + k,none⟩) J (vc - k)) ((l.drop k).take J) := by
 obtain ⟨a,n,e,h1,h2⟩ := h;simp only [Value.slice.injEq,true_and] at e;obtain ⟨rfl,rfl⟩ := e;have hlen : ((l.drop k).take J).length = J := by rw [List.length_take,List.length_drop];omega
 refine ⟨_,_,by rw [hlen],by rw [hlen];omega,fun j hj => ?_⟩;rw [hlen] at hj;obtain ⟨b,o',q1,q2,q3,q4⟩ := h2 (k + j) (by omega);simp only [Option.some.injEq,Addr.mk.injEq,and_true] at q1;obtain ⟨rfl,rfl⟩ := q1;refine ⟨bk,o + k,rfl,q2,q3,?_⟩;rw [Nat.add_assoc,q4];simp
end Go.Proofs.YtcagjipdldlehaaGreatDoor
