/- VC. -/
import Derived.Test.YtcagjipdldlehaaGreatDoorVA
import Derived.Deep.QuietTactic
import Derived.BigQuiet
import Derived.Handy
import Derived.Deep.Cut
import Derived.Laws.EntriesVeiled
import Derived.Test.YtcagjipdldlehaaGreatDoorLibB
import Derived.Deep.RegionLaw
import Derived.WalkKit
import Derived.LaidEql
import Derived.RowKitTokens
import Derived.Stop.Asserts
import Derived.Laws.Tables
import Derived.Laws.Cells
namespace Go.Proofs.YtcagjipdldlehaaGreatDoor
open Go.ChangeShapes Go.WideShapes Go.ChangeAt Go.RowKit
set_option linter.unusedVariables false
open Go.RowKit Go.Extern
set_option maxHeartbeats 16000000
set_option maxRecDepth 100000
theorem data_inj {a b : ByteArray} (h : a.data.toList = b.data.toList) : a = b := by
 cases a;cases b;simp only [ByteArray.mk.injEq];exact Array.toList_inj.1 h
theorem str_eq (a : ByteArray) (l : List UInt8) : (a.toList == l) = decide (a.data.toList = l) := by rw [Lib.toList_data,beq_list]
def cu1 (c : UInt8) (l : List UInt8) : List UInt8 := l.takeWhile fun x => x != c
def cu2 (c : UInt8) (l : List UInt8) : List UInt8 := (l.dropWhile fun x => x != c).tail
def cu3 (c : UInt8) (l : List UInt8) : Bool := l.contains c
theorem cu_no {c : UInt8} : ∀ {l : List UInt8},(∀ x ∈ l,x ≠ c) -> cu1 c l = l /\ cu2 c l = [] /\ cu3 c l = false := by
 intro l h;have h1 : ∀ x ∈ l,(x != c) = true := fun x hx => by simpa using h x hx
 have hd : ∀ {l : List UInt8},(∀ x ∈ l,(x != c) = true) -> l.takeWhile (fun x => x != c) = l /\ l.dropWhile (fun x => x != c) = [] := by
  intro l
  induction l with
  | nil => intro _;exact ⟨rfl,rfl⟩
  | cons y r ih =>
   intro hh;have hy := hh y List.mem_cons_self;have hr := ih fun x hx => hh x (List.mem_cons_of_mem _ hx)
   rw [List.takeWhile_cons,List.dropWhile_cons,hy];simp only [if_true];exact ⟨by rw [hr.1],hr.2⟩
 refine ⟨(hd h1).1,?_,?_⟩
 ·unfold cu2
  rw [(hd h1).2];rfl
 ·unfold cu3
  rw [List.contains_eq_mem];exact decide_eq_false fun hm => h c hm rfl
theorem cu_yes {c : UInt8} {a b : List UInt8} (h : ∀ x ∈ a,x ≠ c) : cu1 c (a ++ c :: b) = a /\ cu2 c (a ++ c :: b) = b /\ cu3 c (a ++ c :: b) = true := by
 have h1 : ∀ x ∈ a,(x != c) = true := fun x hx => by simpa using h x hx
 refine ⟨?_,?_,?_⟩
 ·unfold cu1
  rw [List.takeWhile_append_of_pos h1];simp
 ·unfold cu2
  rw [List.dropWhile_append_of_pos h1];simp
 ·unfold cu3
  simp
theorem cu_at {c : UInt8} {l : List UInt8} {k : Nat} (hk : k < l.length) (h : ∀ x ∈ l.take k,x ≠ c) (he : l[k] = c) : cu1 c l = l.take k /\ cu2 c l = l.drop (k + 1) /\ cu3 c l = true := by
 have e : l = l.take k ++ c :: l.drop (k + 1) := by rw [<- he];simp
 have := cu_yes (c := c) (a := l.take k) (b := l.drop (k + 1)) h;rw [<- e] at this;exact this
theorem cu_form (c : UInt8) (l : List UInt8) : (∀ x ∈ l,x ≠ c) ∨ ∃ a b,l = a ++ c :: b /\ ∀ x ∈ a,x ≠ c := by
 induction l with
 | nil => exact .inl fun x hx => by simp at hx
 | cons y r ih =>
  by_cases hy : y = c
  ·exact .inr ⟨[],r,by rw [hy];rfl,fun x hx => by simp at hx⟩
  ·rcases ih with h | ⟨a, b, h1, h2⟩
   ·exact .inl fun x hx => by
     rcases List.mem_cons.1 hx with rfl | hx
     ·exact hy
     ·exact h x hx
   ·exact .inr ⟨y :: a,b,by rw [h1];rfl,fun x hx => by
     rcases List.mem_cons.1 hx with rfl | hx
     ·exact hy
     ·exact h2 x hx⟩
def k1 (c : UInt8) (s : ByteArray) : ByteArray := sS (cu1 c s.data.toList)
def k2 (c : UInt8) (s : ByteArray) : ByteArray := sS (cu2 c s.data.toList)
def k3 (c : UInt8) (s : ByteArray) : Bool := cu3 c s.data.toList
theorem k1_size (c : UInt8) (s : ByteArray) : (k1 c s).size <= s.size := by
 unfold k1;rw [sS_size,<- size_len];unfold cu1;exact (List.takeWhile_sublist _).length_le
theorem k2_size (c : UInt8) (s : ByteArray) : (k2 c s).size <= s.size := by
 unfold k2;rw [sS_size,<- size_len];unfold cu2;have h := (List.dropWhile_sublist (fun x => x != c) (l := s.data.toList)).length_le;rw [List.length_tail];omega
theorem rcut_any (s : ByteArray) (c : UInt8) (w : World) (hs : s.size <= 65536) :
  Calls Tryz.prog 99 #[.string s,.int .u8 (c.toNat : Int)] w fun e w' => e = .returned (.tuple #[.string (k1 c s),.string (k2 c s),.bool (k3 c s)]) /\ Below w.heap.size w w' := by
 have hc := byte_lt c;unfold k1 k2 k3;go_enter Tryz.func99,Tryz.ntmps99
 go_wp2
 go_loop [7] (fun i => ∃ k : Nat,k <= s.size /\ i = .int .i64 k /\ Hid (∀ x ∈ s.data.toList.take k,x ≠ c)) (fun i => s.size - (intOf i).toNat)
 case atStart => exact ⟨0,Nat.zero_le _,rfl,hide (fun x hx => by simp at hx)⟩
 case round =>
  obtain ⟨k,hk,rfl,HN⟩ := hrel;by_cases hlt : k < s.size
  ·have HTS := hide (take_snoc s k hlt)
   have hlen : k < s.data.toList.length := by rw [size_len];exact hlt
   by_cases he : s[k] = c
   ·have t1 : (((s[k].toNat : Int)) == (c.toNat : Int)) = true := by rw [byte_eqI, he]; simp
    have HC := hide (cu_at (c := c) hlen HN.out (by rw [<- he];rfl));clear he HTS;go_wp2
    go_quiet (fail)
    go_wp2
    have E1 : sS (cu1 c s.data.toList) = s.extract 0 k := data_inj (by rw [sS_list,HC.out.1,ext_list,List.drop_zero,Nat.sub_zero])
    have E2 : sS (cu2 c s.data.toList) = s.extract (k + 1) s.size := data_inj (by
     rw [sS_list,HC.out.2.1,ext_list,List.take_of_length_le];rw [List.length_drop,size_len];omega)
    exact bodyPost_ret (v := .tuple #[.string (s.extract 0 k),.string (s.extract (k + 1) s.size),.bool true]) (by simp [results,Tryz.results99,go_sem]) rfl ⟨by rw [E1,E2,HC.out.2.2],⟨rfl,rfl,rfl,Nat.le_refl _,fun _ _ => rfl⟩⟩
   ·have t1 : (((s[k].toNat : Int)) == (c.toNat : Int)) = false := by rw [byte_eqI]; simpa using he
    have HN2 : Hid (∀ x ∈ s.data.toList.take (k + 1),x ≠ c) := hide (fun x hx => by
     rw [HTS.out,List.mem_append] at hx;rcases hx with h1 | h1
     ·exact HN.out x h1
     ·simp only [List.mem_singleton] at h1
      rw [h1];exact he)
    clear he HTS;go_wp2
    exact ⟨⟨k + 1,by omega,by go_num,HN2⟩,by simp [intOf];omega⟩
  ·have HC := hide (cu_no (c := c) (by have := HN.out; rw [take_all s k (by omega)] at this; exact this))
   go_wp2
   exact bodyPost_ret (v := .tuple #[.string s,.string ⟨#[]⟩,.bool false]) (by simp [results,Tryz.results99,go_sem]) rfl ⟨by rw [HC.out.1,HC.out.2.1,HC.out.2.2,show sS s.data.toList = s from data_inj (sS_list _)];rfl,Below.refl _ _⟩
theorem idx_no {c : UInt8} : ∀ {l : List UInt8}, (∀ x ∈ l, x ≠ c) -> Lib.index l [c] = -1
 | [],_ => rfl
 | y :: r,h => by
  have hy : y ≠ c := h y List.mem_cons_self;have ih := idx_no (c := c) (l := r) fun x hx => h x (List.mem_cons_of_mem _ hx)
  unfold Lib.index;rw [ih];simp [List.isPrefixOf,Ne.symm hy]
theorem idx_yes {c : UInt8} {b : List UInt8} : ∀ {a : List UInt8}, (∀ x ∈ a, x ≠ c) -> Lib.index (a ++ c :: b) [c] = a.length
 | [],_ => by simp [Lib.index,List.isPrefixOf]
 | y :: r,h => by
  have hy : y ≠ c := h y List.mem_cons_self;have ih := idx_yes (c := c) (b := b) (a := r) fun x hx => h x (List.mem_cons_of_mem _ hx)
  rw [List.cons_append];unfold Lib.index;rw [ih,if_neg (by simp [List.isPrefixOf,Ne.symm hy]),if_neg (by simp only [beq_iff_eq];omega),List.length_cons];omega
theorem cut_eq (c : UInt8) (l : List UInt8) : Lib.cut l [c] = (cu1 c l,cu2 c l,cu3 c l) := by
 unfold Lib.cut;rcases cu_form c l with h | ⟨a,b,rfl,h⟩
 ·rw [idx_no h, (cu_no h).1, (cu_no h).2.1, (cu_no h).2.2]
  rfl
 ·rw [idx_yes h, (cu_yes h).1, (cu_yes h).2.1, (cu_yes h).2.2, if_pos (by omega)]
  simp
def MX (w : World) : Prop := 2 < w.heap.size /\ ∃ m : Int,w.cell? ⟨2,0,none⟩ = some (.int .i64 m)
theorem MX.below {w w' : World} (h : MX w) (b : Below w.heap.size w w') : MX w' := by
 obtain ⟨h0,m,hm⟩ := h;exact ⟨Nat.lt_of_lt_of_le h0 b.size,m,(b.cell (p := ⟨2,0,none⟩) (show 2 < _ by omega)).trans hm⟩
theorem pcut_any (s : ByteArray) (c : UInt8) (w : World) (hs : s.size <= 65536) (hm : MX w) :
  Calls Tryz.prog 53 #[.string s,.string ⟨#[c]⟩] w fun e w' => e = .returned (.tuple #[.string (k1 c s),.string (k2 c s),.bool (k3 c s)]) /\ Below w.heap.size w w' := by
 obtain ⟨_,m,hm⟩ := hm;refine (Tryz.strings_Cut s ⟨#[c]⟩ m w (by omega) hm).mono ?_;rintro e w' ⟨rfl,n,rfl⟩;refine ⟨?_,below_drewN w n⟩;rw [show (ByteArray.mk #[c]).data.toList = [c] from rfl,cut_eq];rfl
def tgc (c : UInt8) : Bool := decide (33 <= c.toNat) && decide (c.toNat <= 126)
def tgtB (l : List UInt8) : Bool := l.all tgc && !l.isEmpty
theorem isTarget_any (s : ByteArray) (w : World) (hs : s.size <= maxLen) :
  Calls Tryz.prog 59 #[.string s] w fun e w' => e = .returned (.bool (tgtB s.data.toList)) /\ w = w' := by
 unfold maxLen at hs;go_enter Tryz.func59,Tryz.ntmps59
 go_wp2
 go_loop [6] (fun i => ∃ k : Nat,k <= s.size /\ i = .int .i64 k /\ Hid ((s.data.toList.take k).all tgc = true)) (fun i => s.size - (intOf i).toNat)
 case atStart => exact ⟨0,Nat.zero_le _,rfl,by simp [Hid]⟩
 case round =>
  obtain ⟨k,hk,rfl,H⟩ := hrel;by_cases hlt : k < s.size
  ·have HA := hide (all_snoc tgc s k hlt)
   have HB := hide (all_no tgc s k hlt);by_cases h1 : s[k].toNat <= 32
   ·have t1 : (s[k].toNat : Int) <= 32 := by omega
    have HE : Hid (tgtB s.data.toList = false) := by unfold tgtB;rw [HB.out (by unfold tgc;simp;omega)];simp [Hid]
    go_wp2
    go_ret
    exact ⟨ret_bool HE.out.symm,rfl⟩
   ·have t1 : ¬ (s[k].toNat : Int) <= 32 := by omega
    by_cases h2 : 126 < s[k].toNat
    ·have t2 : (126 : Int) < (s[k].toNat : Int) := by omega
     have HE : Hid (tgtB s.data.toList = false) := by unfold tgtB;rw [HB.out (by unfold tgc;simp;omega)];simp [Hid]
     go_wp2
     go_ret
     exact ⟨ret_bool HE.out.symm,rfl⟩
    ·have t2 : ¬ (126 : Int) < (s[k].toNat : Int) := by omega
     have HC : Hid ((s.data.toList.take (k + 1)).all tgc = true) := by
      rw [HA.out,H.out];unfold tgc;simp [Hid]
      omega
     go_wp2
     exact ⟨⟨k + 1,by omega,by go_num,HC⟩,by simp [intOf];omega⟩
  ·have e1 : tgtB s.data.toList = decide (s.size ≠ 0) := by
    have h := H.out;rw [take_all s k (by omega)] at h;unfold tgtB;rw [h,isEmpty_size];by_cases h0 : s.size = 0 <;> simp [h0]
   have HE := hide e1;clear e1;go_wp2
   go_ret
   refine ⟨ret_bool ?_,rfl⟩;rw [HE.out,Lib.toList_data,isEmpty_size];by_cases h0 : s.size = 0 <;> simp [h0]
def statB (l : List UInt8) : Bool := decide (numE 10 l = 0) && (decide (l.length = 3) && (decide (100 <= numV 10 l) && decide (numV 10 l <= 599)))
theorem isStatus_any (s : ByteArray) (w : World) (hs : s.size <= maxLen) :
  Calls Tryz.prog 54 #[.string s] w fun e w' => e = .returned (.bool (statB s.data.toList)) /\ w = w' := by
 have HN := hide (Number_any s w hs);have HL := hide (size_len s);unfold statB;generalize hv : numV 10 s.data.toList = v at HN |-
 generalize he : numE 10 s.data.toList = f at HN |-
 clear hv he;go_enter Tryz.func54,Tryz.ntmps54
 by_cases h0 : f = 0
 ·have t0 : ((f : Int) == 0) = true := by simp [h0]
  by_cases h1 : s.size = 3
  ·have t1 : ((s.size : Int) == 3) = true := by simp [h1]; 
   by_cases h2 : 100 <= v
   ·have t2 : decide ((v : Int) ≥ 100) = true := by simp; omega
    by_cases h3 : v <= 599
    ·have t3 : decide ((v : Int) <= 599) = true := by simp; omega
     have HE : Hid ((decide (f = 0) && (decide (s.data.toList.length = 3) && (decide (100 <= v) && decide (v <= 599)))) = true) := by rw [HL.out];simp [Hid,h0,h1,h2,h3]
     clear h0 h1 h2 h3;go_wp2_with (refine HN.out.mono ?_;rintro e w' ⟨rfl,rfl⟩)
     go_ret
     exact ⟨ret_bool HE.out.symm,rfl⟩
    ·have t3 : decide ((v : Int) <= 599) = false := by simp; omega
     have HE : Hid ((decide (f = 0) && (decide (s.data.toList.length = 3) && (decide (100 <= v) && decide (v <= 599)))) = false) := by rw [HL.out];simp [Hid,h3]
     clear h0 h1 h2 h3;go_wp2_with (refine HN.out.mono ?_;rintro e w' ⟨rfl,rfl⟩)
     go_ret
     exact ⟨ret_bool HE.out.symm,rfl⟩
   ·have t2 : decide ((v : Int) ≥ 100) = false := by simp; omega
    have HE : Hid ((decide (f = 0) && (decide (s.data.toList.length = 3) && (decide (100 <= v) && decide (v <= 599)))) = false) := by rw [HL.out];simp [Hid,h2]
    clear h0 h1 h2;go_wp2_with (refine HN.out.mono ?_;rintro e w' ⟨rfl,rfl⟩)
    go_ret
    exact ⟨ret_bool HE.out.symm,rfl⟩
  ·have t1 : ((s.size : Int) == 3) = false := by simp; omega
   have HE : Hid ((decide (f = 0) && (decide (s.data.toList.length = 3) && (decide (100 <= v) && decide (v <= 599)))) = false) := by rw [HL.out];simp [Hid,h1]
   clear h0 h1;go_wp2_with (refine HN.out.mono ?_;rintro e w' ⟨rfl,rfl⟩)
   go_ret
   exact ⟨ret_bool HE.out.symm,rfl⟩
 ·have t0 : ((f : Int) == 0) = false := by simp; omega
  have HE : Hid ((decide (f = 0) && (decide (s.data.toList.length = 3) && (decide (100 <= v) && decide (v <= 599)))) = false) := by rw [HL.out];simp [Hid,h0]
  clear h0;go_wp2_with (refine HN.out.mono ?_;rintro e w' ⟨rfl,rfl⟩)
  go_ret
  exact ⟨ret_bool HE.out.symm,rfl⟩
theorem rsn_eq (l : List UInt8) : valueB (trimB l) = l.all valc := by
 unfold valueB;rw [trimB_idem,decide_eq_true rfl,Bool.and_true,trimB_eq]
 have hb : ∀ c,blankc c = true -> valc c = true := by
  intro c h;unfold blankc at h;unfold valc;simp only [Bool.or_eq_true,decide_eq_true_eq] at h;rcases h with h | h <;> simp [h]
 have hd : ∀ l : List UInt8,(l.dropWhile blankc).all valc = l.all valc := by
  intro l
  induction l with
  | nil => rfl
  | cons y r ih =>
   rw [List.dropWhile_cons];cases hy : blankc y with
   | true => rw [if_pos rfl,ih,List.all_cons,hb y hy,Bool.true_and]
   | false => rw [if_neg (by simp)]
 unfold ltrim rtrim;rw [hd,List.all_reverse,hd,List.all_reverse]
theorem isReason_any (s : ByteArray) (w : World) (hs : s.size <= 281474976710656) :
  Calls Tryz.prog 55 #[.string s] w fun e w' => e = .returned (.bool (s.data.toList.all valc)) /\ Below w.heap.size w w' := by
 have HT := hide (trim_any s w hs);have HV := hide (fun W => value_any (trimS s) W (by have := trim_size s;unfold maxLen;omega))
 have e1 : valueB (trimS s).data.toList = s.data.toList.all valc := by
  rw [<- rsn_eq,show (trimS s).data.toList = trimB s.data.toList by simp [trimS]]
 rw [e1] at HV;clear e1;generalize s.data.toList.all valc = r at HV |-
 generalize trimS s = t at HT HV;go_enter Tryz.func55,Tryz.ntmps55
 go_wp2_with fail
 refine HT.out.mono ?_;rintro e w1 ⟨rfl,b1⟩;go_wp2_with fail
 refine (HV.out _).mono ?_;rintro e w2 ⟨rfl,b2⟩;go_wp2
 go_ret
 exact ⟨rfl,b1.trans (b2.mono b1.size)⟩
def dgc (c : UInt8) : Bool := decide (48 <= c.toNat) && decide (c.toNat <= 57)
theorem isDigit_any (c : UInt8) (w : World) : Calls Tryz.prog 121 #[.int .u8 (c.toNat : Int)] w fun e w' => e = .returned (.bool (dgc c)) /\ w = w' := by
 have hc := byte_lt c;unfold dgc;by_cases h1 : 48 <= c.toNat
 ·have t1 : (48 : Int) <= (c.toNat : Int) := by omega
  by_cases h2 : c.toNat <= 57
  ·have t2 : (c.toNat : Int) <= 57 := by omega
   go_enter Tryz.func121,Tryz.ntmps121
   go_wp2
   go_ret
   exact ⟨ret_bool (by simp [h1,h2]),rfl⟩
  ·have t2 : ¬ (c.toNat : Int) <= 57 := by omega
   go_enter Tryz.func121,Tryz.ntmps121
   go_wp2
   go_ret
   exact ⟨ret_bool rfl,rfl⟩
 ·have t1 : ¬ (48 : Int) <= (c.toNat : Int) := by omega
  go_enter Tryz.func121,Tryz.ntmps121
  go_wp2
  go_ret
  exact ⟨ret_bool rfl,rfl⟩
def verB : List UInt8 -> Bool
 | [72,84,84,80,47,d,46,e] => dgc d && dgc e
 | _ => false
def ver10 : List UInt8 := [72,84,84,80,47,49,46,48]
def ver11 : List UInt8 := [72,84,84,80,47,49,46,49]
def proto : List UInt8 := [72,84,84,80,47]
theorem ver_not {l : List UInt8} (h : Lib.hasPrefix l proto = false) : verB l = false := by
 unfold verB;split
 ·simp [Lib.hasPrefix,proto,List.isPrefixOf] at h
 ·rfl
theorem pre_form {l : List UInt8} (h : Lib.hasPrefix l proto = true) : ∃ r,l = proto ++ r /\ Lib.trimPrefix l proto = r := by
 unfold Lib.trimPrefix;rw [if_pos h];unfold Lib.hasPrefix at h;obtain ⟨r,rfl⟩ := List.isPrefixOf_iff_prefix.1 h;exact ⟨r,rfl,by simp⟩
theorem ver_len {r : List UInt8} (h : r.length ≠ 3) : verB (proto ++ r) = false := by
 unfold verB proto;split
 ·rename_i h2
  simp at h2
  rw [h2] at h;simp at h
 ·rfl
theorem ver_three (a b c : UInt8) : verB (proto ++ [a,b,c]) = (dgc a && (decide (b = 46) && dgc c)) := by
 unfold proto;by_cases h : b = 46
 ·subst h;simp [verB]
 ·have : verB ([72,84,84,80,47] ++ [a,b,c]) = false := by
   unfold verB;split
   ·rename_i h2
    simp at h2
    exact absurd h2.2.1 h
   ·rfl
  rw [this];simp [h]
theorem three (r : ByteArray) (h : r.size = 3) : r.data.toList = [r[0]'(by omega),r[1]'(by omega),r[2]'(by omega)] := by
 apply List.ext_getElem
 ·rw [size_len];exact h
 ·intro i h1 h2
  rcases i with _ | _ | _ | i
  ·rfl
  ·rfl
  ·rfl
  ·rw [size_len] at h1;omega
theorem isVersion_any (s : ByteArray) (w : World) :
  Calls Tryz.prog 83 #[.string s] w fun e w' => e = .returned (.bool (verB s.data.toList)) /\ w = w' := by
 have HC := hide (Tryz.strings_CutPrefix s ⟨#[72,84,84,80,47]⟩ w);rw [show (ByteArray.mk #[72,84,84,80,47]).data.toList = proto from rfl] at HC;cases hp : Lib.hasPrefix s.data.toList proto with
 | false =>
  have HE := hide (ver_not hp);rw [hp] at HC;generalize (ByteArray.mk (Lib.trimPrefix s.data.toList proto).toArray) = r at HC;clear hp;go_enter Tryz.func83,Tryz.ntmps83
  go_wp2_with (refine HC.out.mono ?_;rintro e w' ⟨rfl,rfl⟩)
  go_ret
  exact ⟨ret_bool HE.out.symm,rfl⟩
 | true =>
  obtain ⟨r0,hr0,hr1⟩ := pre_form hp;rw [hp,hr1] at HC;rw [hr0];have er : (ByteArray.mk r0.toArray).data.toList = r0 := by simp
  generalize ByteArray.mk r0.toArray = r at HC er;subst er;clear hr1 hp;by_cases h3 : r.size = 3
  ·have t3 : ((r.size : Int) == 3) = true := by simp [h3]
   have u0 : 0 < r.size := by omega
   have u1 : 1 < r.size := by omega
   have u2 : 2 < r.size := by omega
   have HE := hide (ver_three r[0] r[1] r[2]);rw [<- show r.data.toList = [r[0],r[1],r[2]] from three r h3] at HE;have H3 := hide h3;clear h3 hr0;have HD1 := hide (byte_eqI r[1] 46);cases d0 : dgc r[0] with
   | false =>
    go_enter Tryz.func83,Tryz.ntmps83
    go_wp2_with (first | (refine HC.out.mono ?_;rintro e w' ⟨rfl,rfl⟩) | (refine (isDigit_any _ _).mono ?_;rintro e w' ⟨rfl,rfl⟩))
    go_ret
    exact ⟨ret_bool (by rw [HE.out];simp [d0]),rfl⟩
   | true =>
    by_cases d1 : r[1] = 46
    ·have t1 : (((r[1].toNat : Int)) == 46) = true := by rw [show (46 : Int) = ((46 : UInt8).toNat : Int) from rfl, HD1.out, d1]; rfl
     have D1 := hide d1;clear d1;cases d2 : dgc r[2] with
     | false =>
      go_enter Tryz.func83,Tryz.ntmps83
      go_wp2_with (first | (refine HC.out.mono ?_;rintro e w' ⟨rfl,rfl⟩) | (refine (isDigit_any _ _).mono ?_;rintro e w' ⟨rfl,rfl⟩))
      go_ret
      exact ⟨ret_bool (by rw [HE.out];simp [d2]),rfl⟩
     | true =>
      go_enter Tryz.func83,Tryz.ntmps83
      go_wp2_with (first | (refine HC.out.mono ?_;rintro e w' ⟨rfl,rfl⟩) | (refine (isDigit_any _ _).mono ?_;rintro e w' ⟨rfl,rfl⟩))
      go_ret
      exact ⟨ret_bool (by rw [HE.out];simp [d0,d2,D1.out]),rfl⟩
    ·have t1 : (((r[1].toNat : Int)) == 46) = false := by rw [show (46 : Int) = ((46 : UInt8).toNat : Int) from rfl, HD1.out]; simpa using d1
     have D1 := hide d1;clear d1;go_enter Tryz.func83,Tryz.ntmps83
     go_wp2_with (first | (refine HC.out.mono ?_;rintro e w' ⟨rfl,rfl⟩) | (refine (isDigit_any _ _).mono ?_;rintro e w' ⟨rfl,rfl⟩))
     go_ret
     exact ⟨ret_bool (by rw [HE.out];simp [D1.out]),rfl⟩
  ·have t3 : ((r.size : Int) == 3) = false := by simp; omega
   have HE := hide (ver_len (r := r.data.toList) (by rw [size_len];exact h3));clear h3 hr0;go_enter Tryz.func83,Tryz.ntmps83
   go_wp2_with (refine HC.out.mono ?_;rintro e w' ⟨rfl,rfl⟩)
   go_ret
   exact ⟨ret_bool HE.out.symm,rfl⟩
def verE (l : List UInt8) : Nat := if l = ver10 ∨ l = ver11 then 0 else if verB l then 86 else 80
def verM (l : List UInt8) : Nat := if l = ver11 then 1 else 0
theorem eight (r : ByteArray) (h : r.size = 8) : r.data.toList = (r.extract 0 5).data.toList ++ [r[5]'(by omega),r[6]'(by omega),r[7]'(by omega)] := by
 rw [ext_take]
 have e : r.data.toList.drop 5 = [r[5]'(by omega),r[6]'(by omega),r[7]'(by omega)] := by
  apply List.ext_getElem
  ·rw [List.length_drop, size_len]
   show r.size - 5 = 3
   omega
  ·intro i h1 h2
   rw [List.length_drop,size_len] at h1;rcases i with _ | _ | _ | i
   ·rw [List.getElem_drop];rfl
   ·rw [List.getElem_drop];rfl
   ·rw [List.getElem_drop];rfl
   ·omega
 rw [<- e,List.take_append_drop]
theorem ver_size {l : List UInt8} (h : l.length ≠ 8) : verB l = false := by
 unfold verB;split
 ·simp at h
 ·rfl
theorem ver_pre {p r : List UInt8} (hp : p.length = 5) (h : p ≠ proto) : verB (p ++ r) = false := by
 unfold verB;split
 ·rename_i d e h2
  exfalso
  apply h
  have := congrArg (List.take 5) h2;rw [List.take_append_of_le_length (by omega),List.take_of_length_le (by omega)] at this;rw [this];rfl
 ·rfl
theorem ver_eight (p : List UInt8) (hp : p.length = 5) (a b c : UInt8) : verB (p ++ [a,b,c]) = (decide (p = proto) && (decide (b = 46) && (dgc a && dgc c))) := by
 by_cases h : p = proto
 ·rw [h, ver_three]
  by_cases h2 : b = 46 <;> simp [h2]
 ·rw [ver_pre hp h,decide_eq_false h,Bool.false_and]
theorem rversion_any (s : ByteArray) (w : World) (hs : s.size <= maxLen) :
  Calls Tryz.prog 101 #[.string s] w fun e w' => e = .returned (.tuple #[.int .i64 (verM s.data.toList : Nat),.int .i64 (verE s.data.toList : Nat)]) /\ w = w' := by
 unfold maxLen at hs;by_cases h0 : s.data.toList = ver10
 ·obtain rfl : s = ⟨#[72, 84, 84, 80, 47, 49, 46, 48]⟩ := data_inj h0
  go_enter Tryz.func101,Tryz.ntmps101
  go_wp2
  go_ret2
  exact ⟨rfl,rfl⟩
 ·by_cases h1 : s.data.toList = ver11
  ·obtain rfl : s = ⟨#[72, 84, 84, 80, 47, 49, 46, 49]⟩ := data_inj h1
   go_enter Tryz.func101,Tryz.ntmps101
   go_wp2
   go_ret2
   exact ⟨rfl,rfl⟩
  ·have hM : verM s.data.toList = 0 := by unfold verM; rw [if_neg h1]
   have hE : verE s.data.toList = if verB s.data.toList then 86 else 80 := by unfold verE;rw [if_neg (by simp [h0,h1])]
   rw [hM,hE];have t0 : (s.toList == [72,84,84,80,47,49,46,48]) = false := by rw [str_eq];exact decide_eq_false h0
   have t1 : (s.toList == [72,84,84,80,47,49,46,49]) = false := by rw [str_eq];exact decide_eq_false h1
   clear h0 h1 hM hE;by_cases h8 : s.size = 8
   ·have t8 : ((s.size : Int) == 8) = true := by simp [h8]
    have u5 : 5 < s.size := by omega
    have u6 : 6 < s.size := by omega
    have u7 : 7 < s.size := by omega
    have HE := hide (ver_eight (s.extract 0 5).data.toList (by rw [size_len,ext_size,h8];rfl) s[5] s[6] s[7]);rw [<- show s.data.toList = (s.extract 0 5).data.toList ++ [s[5],s[6],s[7]] from eight s h8] at HE;have H8 := hide h8;clear h8;by_cases p : (s.extract 0 5).data.toList = proto
    ·have tp : ((s.extract 0 5).toList == [72, 84, 84, 80, 47]) = true := by rw [str_eq]; exact decide_eq_true p
     by_cases q : s[6] = 46
     ·have tq : (((s[6].toNat : Int)) == 46) = true := by rw [show (46 : Int) = ((46 : UInt8).toNat : Int) from rfl, byte_eqI, q]; rfl
      by_cases a : 48 <= s[5].toNat
      ·have ta : (48 : Int) <= (s[5].toNat : Int) := by omega
       by_cases b : s[5].toNat <= 57
       ·have tb : (s[5].toNat : Int) <= 57 := by omega
        by_cases c : 48 <= s[7].toNat
        ·have tc : (48 : Int) <= (s[7].toNat : Int) := by omega
         by_cases d : s[7].toNat <= 57
         ·have td : (s[7].toNat : Int) <= 57 := by omega
          have HX : Hid (verB s.data.toList = true) := by rw [HE.out,decide_eq_true p];simp [Hid,dgc,q,a,b,c,d]
          clear HE;rw [HX.out];go_enter Tryz.func101,Tryz.ntmps101
          go_wp2
          go_ret2
          exact ⟨rfl,rfl⟩
         ·have td : ¬ (s[7].toNat : Int) <= 57 := by omega
          have HX : Hid (verB s.data.toList = false) := by rw [HE.out];simp [Hid,dgc,d]
          clear HE;rw [HX.out];go_enter Tryz.func101,Tryz.ntmps101
          go_wp2
          go_ret2
          exact ⟨rfl,rfl⟩
        ·have tc : ¬ (48 : Int) <= (s[7].toNat : Int) := by omega
         have HX : Hid (verB s.data.toList = false) := by rw [HE.out];simp [Hid,dgc,c]
         clear HE;rw [HX.out];go_enter Tryz.func101,Tryz.ntmps101
         go_wp2
         go_ret2
         exact ⟨rfl,rfl⟩
       ·have tb : ¬ (s[5].toNat : Int) <= 57 := by omega
        have HX : Hid (verB s.data.toList = false) := by rw [HE.out];simp [Hid,dgc,b]
        clear HE;rw [HX.out];go_enter Tryz.func101,Tryz.ntmps101
        go_wp2
        go_ret2
        exact ⟨rfl,rfl⟩
      ·have ta : ¬ (48 : Int) <= (s[5].toNat : Int) := by omega
       have HX : Hid (verB s.data.toList = false) := by rw [HE.out];simp [Hid,dgc,a]
       clear HE;rw [HX.out];go_enter Tryz.func101,Tryz.ntmps101
       go_wp2
       go_ret2
       exact ⟨rfl,rfl⟩
     ·have tq : (((s[6].toNat : Int)) == 46) = false := by rw [show (46 : Int) = ((46 : UInt8).toNat : Int) from rfl, byte_eqI]; simpa using q
      have HX : Hid (verB s.data.toList = false) := by rw [HE.out];simp [Hid,q]
      clear HE;rw [HX.out];go_enter Tryz.func101,Tryz.ntmps101
      go_wp2
      go_ret2
      exact ⟨rfl,rfl⟩
    ·have tp : ((s.extract 0 5).toList == [72, 84, 84, 80, 47]) = false := by rw [str_eq]; exact decide_eq_false p
     have HX : Hid (verB s.data.toList = false) := by rw [HE.out,decide_eq_false p];rfl
     clear HE;rw [HX.out];go_enter Tryz.func101,Tryz.ntmps101
     go_wp2
     go_ret2
     exact ⟨rfl,rfl⟩
   ·have t8 : ((s.size : Int) == 8) = false := by simp; omega
    rw [ver_size (by rw [size_len];exact h8)];clear h8;go_enter Tryz.func101,Tryz.ntmps101
    go_wp2
    go_ret2
    exact ⟨rfl,rfl⟩
/-! ### The parser,as plain data -/
structure Pz where
 most : Nat
 read : Nat
 line : List UInt8
 ending : Bool
 passed : Nat
 fn : Nat
 req : Bool
 me : ByteArray
 ta : ByteArray
 minor : Nat
 status : Nat
 re : ByteArray
 fs : List (ByteArray × ByteArray)
 whole : Bool
 wrong : Nat
def fnReq : Nat := 45
def fnRes : Nat := 44
def fnFld : Nat := 84
def pBegun (p : Pz) (v : ByteArray) : Nat × Pz :=
 if verB v.data.toList then (if v.data.toList = ver11 then (0,{ p with minor := 1,fn := fnFld }) else if v.data.toList = ver10 then (0,{ p with fn := fnFld }) else (86,p)) else (80,p)
def pReq (p : Pz) (s : ByteArray) : Nat × Pz :=
 if s.size = 0 /\ p.passed < 4 then (0,{ p with passed := p.passed + 1 })
 else if tokenB (k1 32 s).data.toList && tgtB (k1 32 (k2 32 s)).data.toList then pBegun { p with me := k1 32 s,ta := k1 32 (k2 32 s) } (k2 32 (k2 32 s)) else (80,p)
def pRes (p : Pz) (s : ByteArray) : Nat × Pz :=
 if k3 32 (k2 32 s) && (statB (k1 32 (k2 32 s)).data.toList && (k2 32 (k2 32 s)).data.toList.all valc) then
  pBegun { p with status := numV 10 (k1 32 (k2 32 s)).data.toList,re := k2 32 (k2 32 s) } (k1 32 s) else (80,p)
/-! ### The parser in memory -/
def stVh (fn g : Nat) : Value := .func (.func fn) #[.pointer (some ⟨g,0,none⟩)] #[]
def pcells (p : Pz) (g : Nat) (lv fv : Value) : Array Value :=
 #[.int .i64 (p.most : Int),.int .i64 (p.read : Int),lv,.bool p.ending,.int .i64 (p.passed : Int),stVh p.fn g,.bool p.req,.string p.me,.string p.ta,.int .i64 (p.minor : Int),.int .i64 (p.status : Int),.string p.re,fv,.bool p.whole,.int .i64 (p.wrong : Int)]
structure Par (w : World) (base g : Nat) (lv fv : Value) (p : Pz) : Prop where
 blk : w.heap[g]? = some (.cells (pcells p g lv fv) 92 (0,0))
 line : Row w base 5 lv (bc p.line)
 flds : FRow w base fv p.fs
 gb : base <= g
 gl : lv.ownBlock ≠ some g
 gf : fv.ownBlock ≠ some g
 lf : ∀ k,lv.ownBlock = some k -> fv.ownBlock ≠ some k
structure PKh (w w' : World) (g : Nat) (lv fv lv' fv' : Value) : Prop where
 os : w'.os = w.os
 tape : w'.tape = w.tape
 output : w'.output = w.output
 size : w.heap.size <= w'.heap.size
 block : ∀ k,k < w.heap.size -> k ≠ g -> lv.ownBlock ≠ some k -> fv.ownBlock ≠ some k -> w'.heap[k]? = w.heap[k]?
 la : ∀ k,k < w.heap.size -> lv.ownBlock ≠ some k -> lv'.ownBlock ≠ some k
 fa : ∀ k,k < w.heap.size -> fv.ownBlock ≠ some k -> fv'.ownBlock ≠ some k
theorem PKh.refl (w : World) (g : Nat) (lv fv : Value) : PKh w w g lv fv lv fv := ⟨rfl,rfl,rfl,Nat.le_refl _,fun _ _ _ _ _ => rfl,fun _ _ h => h,fun _ _ h => h⟩
theorem PKh.trans {a b c : World} {g : Nat} {l f l1 f1 l2 f2 : Value} (h : PKh a b g l f l1 f1) (k : PKh b c g l1 f1 l2 f2) : PKh a c g l f l2 f2 :=
 ⟨k.os.trans h.os, k.tape.trans h.tape, k.output.trans h.output, Nat.le_trans h.size k.size,
  fun i hi h1 h2 h3 => (k.block i (Nat.lt_of_lt_of_le hi h.size) h1 (h.la i hi h2) (h.fa i hi h3)).trans (h.block i hi h1 h2 h3),
  fun i hi h2 => k.la i (Nat.lt_of_lt_of_le hi h.size) (h.la i hi h2),fun i hi h2 => k.fa i (Nat.lt_of_lt_of_le hi h.size) (h.fa i hi h2)⟩
theorem PKh.of_below {w w' : World} (g : Nat) (lv fv : Value) (b : Below w.heap.size w w') : PKh w w' g lv fv lv fv :=
 ⟨b.os,b.tape,b.output,b.size,fun k hk _ _ _ => b.block k hk,fun _ _ h => h,fun _ _ h => h⟩
theorem PKh.set (w : World) (g i : Nat) (v lv fv : Value) : PKh w (w.setCell ⟨g,i,none⟩ v) g lv fv lv fv :=
 ⟨rfl,rfl,rfl,by simp,fun k _ hk _ _ => Below.heap_setCell w ⟨g,i,none⟩ v k hk,fun _ _ h => h,fun _ _ h => h⟩
theorem Par.lt {w : World} {base g : Nat} {lv fv : Value} {p : Pz} (h : Par w base g lv fv p) : g < w.heap.size := lt_heap h.blk
theorem Par.below {w w' : World} {base g : Nat} {lv fv : Value} {p : Pz} (h : Par w base g lv fv p) (b : Below w.heap.size w w') : Par w' base g lv fv p :=
 ⟨(b.block g h.lt).trans h.blk,h.line.below b,h.flds.below b,h.gb,h.gl,h.gf,h.lf⟩
theorem Par.set {w : World} {base g : Nat} {lv fv : Value} {p : Pz} (h : Par w base g lv fv p) (i : Nat) (v : Value) (p' : Pz) (hc : (pcells p g lv fv).setIfInBounds i v = pcells p' g lv fv) (hl : p'.line = p.line) (hf : p'.fs = p.fs) : Par (w.setCell ⟨g,i,none⟩ v) base g lv fv p' := by
 refine ⟨by rw [<- hc];exact hp_set h.blk i v,?_,?_,h.gb,h.gl,h.gf,h.lf⟩
 ·rw [hl]
  exact h.line.frame fun k hk => Below.heap_setCell w ⟨g,i,none⟩ v k (fun e => h.gl (by rw [hk,e]))
 ·rw [hf]
  exact h.flds.frame fun k hk => Below.heap_setCell w ⟨g,i,none⟩ v k (fun e => h.gf (by rw [hk,e]))
theorem Par.cell {w : World} {base g : Nat} {lv fv : Value} {p : Pz} (h : Par w base g lv fv p) (i : Nat) : w.cell? ⟨g,i,none⟩ = (pcells p g lv fv)[i]? := cell_at h.blk i
theorem Par.froz {w : World} {base g : Nat} {lv fv : Value} {p : Pz} (h : Par w base g lv fv p) (i : Nat) : w.frozen? ⟨g,i,none⟩ = false := by rw [frozen_at h.blk];simp
def errV (n : Nat) : Value := if n = 0 then .nilIface else .iface 24 (.int .i64 (n : Int))
theorem begun_any {w : World} {base g : Nat} {lv fv : Value} {p : Pz} (h : Par w base g lv fv p) (s : ByteArray) :
  Calls Tryz.prog 57 #[.pointer (some ⟨g,0,none⟩),.string s] w fun e w' => e = .returned (errV (pBegun p s).1) /\ Par w' base g lv fv (pBegun p s).2 /\ PKh w w' g lv fv lv fv := by
 have HP := hide h;have c5 := h.cell 5;have c9 := h.cell 9;have f5 := h.froz 5;have f9 := h.froz 9;clear h;have HV := hide (fun W => isVersion_any s W);unfold pBegun;cases hv : verB s.data.toList with
 | false =>
  rw [hv] at HV;go_enter Tryz.func57,Tryz.ntmps57
  go_wp2_with (refine (HV.out _).mono ?_;rintro e w' ⟨rfl,rfl⟩)
  go_ret
  exact ⟨rfl,HP.out,PKh.refl _ _ _ _⟩
 | true =>
  rw [hv] at HV;by_cases h1 : s.data.toList = ver11
  ·have t1 : (s.toList == [72, 84, 84, 80, 47, 49, 46, 49]) = true := by rw [str_eq]; exact decide_eq_true h1
   rw [if_pos rfl,if_pos h1];clear h1 hv;go_enter Tryz.func57,Tryz.ntmps57
   go_upto_region 4 with (go_at_call 83;refine (HV.out _).mono ?_;rintro e w' ⟨rfl,rfl⟩)
   go_upto_region 7 with fail
   have HQ := hide (HP.out.set 9 (.int .i64 1) { p with minor := 1 } rfl rfl rfl);have HK := hide (PKh.set w g 9 (.int .i64 1) lv fv);clear c5 c9 f5 f9;generalize w.setCell ⟨g,9,none⟩ (.int .i64 1) = w2 at HQ HK |-
   have c5 := HQ.out.cell 5;have f5 := HQ.out.froz 5;go_wp2_with fail
   go_ret
   exact ⟨rfl,HQ.out.set 5 (stVh fnFld g) { p with minor := 1,fn := fnFld } rfl rfl rfl,HK.out.trans (PKh.set _ _ _ _ _ _)⟩
  ·have t1 : (s.toList == [72, 84, 84, 80, 47, 49, 46, 49]) = false := by rw [str_eq]; exact decide_eq_false h1
   rw [if_pos rfl,if_neg h1];clear h1 hv;by_cases h2 : s.data.toList = ver10
   ·have t2 : (s.toList == [72, 84, 84, 80, 47, 49, 46, 48]) = true := by rw [str_eq]; exact decide_eq_true h2
    rw [if_pos h2];clear h2;go_enter Tryz.func57,Tryz.ntmps57
    go_wp2_with (refine (HV.out _).mono ?_;rintro e w' ⟨rfl,rfl⟩)
    go_ret
    exact ⟨rfl,HP.out.set 5 (stVh fnFld g) { p with fn := fnFld } rfl rfl rfl,PKh.set _ _ _ _ _ _⟩
   ·have t2 : (s.toList == [72, 84, 84, 80, 47, 49, 46, 48]) = false := by rw [str_eq]; exact decide_eq_false h2
    rw [if_neg h2];clear h2;go_enter Tryz.func57,Tryz.ntmps57
    go_wp2_with (refine (HV.out _).mono ?_;rintro e w' ⟨rfl,rfl⟩)
    go_ret
    exact ⟨rfl,HP.out,PKh.refl _ _ _ _⟩
theorem emp_th {s : ByteArray} (h : s.size = 0) : s.toList.isEmpty = true := by rw [Lib.toList_data,isEmpty_size,decide_eq_true h]
theorem emp_fh {s : ByteArray} (h : ¬ s.size = 0) : s.toList.isEmpty = false := by rw [Lib.toList_data,isEmpty_size,decide_eq_false h]
theorem requestLine_any {w : World} {base g : Nat} {lv fv : Value} {p : Pz} (h : Par w base g lv fv p) (hm : MX w) (s : ByteArray) (hs : s.size <= 65536) (hp : p.passed <= 65536) :
  Calls Tryz.prog 45 #[.pointer (some ⟨g,0,none⟩),.string s] w fun e w' => e = .returned (errV (pReq p s).1) /\ Par w' base g lv fv (pReq p s).2 /\ PKh w w' g lv fv lv fv := by
 have HP := hide h;have HM := hide hm;have c4 := h.cell 4;have f4 := h.froz 4;rw [show (pcells p g lv fv)[4]? = some (.int .i64 (p.passed : Int)) from rfl] at c4;clear h hm;unfold pReq;by_cases h0 : s.size = 0 /\ p.passed < 4
 ·have t0 := emp_th h0.1
  have t1 : (p.passed : Int) < 4 := by omega
  rw [if_pos h0];clear h0;go_enter Tryz.func45,Tryz.ntmps45
  go_wp2_with fail
  go_ret
  exact ⟨rfl,HP.out.set 4 (.int .i64 ((p.passed : Int) + 1)) { p with passed := p.passed + 1 } rfl rfl rfl,PKh.set _ _ _ _ _ _⟩
 ·rw [if_neg h0]
  have HC1 := hide (pcut_any s 32 w hs HM.out);have HC2 := hide (fun W (hW : MX W) => pcut_any (k2 32 s) 32 W (Nat.le_trans (k2_size 32 s) hs) hW);have z1 : (k1 32 s).size <= maxLen := by have := k1_size 32 s;unfold maxLen;omega
  have z2 : (k1 32 (k2 32 s)).size <= maxLen := by have := k1_size 32 (k2 32 s);have := k2_size 32 s;unfold maxLen;omega
  have HT := hide (fun W => token_any (k1 32 s) W z1);have HG := hide (fun W => isTarget_any (k1 32 (k2 32 s)) W z2);clear z1 z2;generalize k1 32 (k2 32 s) = ta at HC2 HG |-
  generalize k2 32 (k2 32 s) = ve at HC2 |-
  generalize k3 32 (k2 32 s) = o2 at HC2;generalize k1 32 s = me at HC1 HT |-
  generalize k2 32 s = r at HC1 HC2;generalize k3 32 s = o1 at HC1;generalize tokenB me.data.toList = bt at HT |-
  generalize tgtB ta.data.toList = bg at HG |-
  go_enter Tryz.func45,Tryz.ntmps45
  by_cases h1 : s.size = 0
  ·have t0 := emp_th h1
   have t1 : ¬ (p.passed : Int) < 4 := by omega
   clear h0 h1;go_upto_region 5 with (go_at_call 53;refine HC1.out.mono ?_;rintro e w1 ⟨rfl,b1⟩)
   have HM1 := hide (HM.out.below b1);have HP1 := hide (HP.out.below b1);have HK1 := hide (PKh.of_below g lv fv b1);clear b1 c4 f4;go_upto_region 6 with (go_at_call 53;refine (HC2.out _ HM1.out).mono ?_;rintro e w2 ⟨rfl,b2⟩)
   have HP2 := hide (HP1.out.below b2);have HK2 := hide (HK1.out.trans (PKh.of_below g lv fv b2));clear b2;cases bt with
   | false =>
    go_wp2_with (go_at_call 58;refine (HT.out _).mono ?_;rintro e w3 ⟨rfl,rfl⟩)
    go_ret
    exact ⟨rfl,HP2.out,HK2.out⟩
   | true =>
    cases bg with
    | false =>
     go_wp2_with (first | (go_at_call 58;refine (HT.out _).mono ?_;rintro e w3 ⟨rfl,rfl⟩) | (go_at_call 59;refine (HG.out _).mono ?_;rintro e w3 ⟨rfl,rfl⟩))
     go_ret
     exact ⟨rfl,HP2.out,HK2.out⟩
    | true =>
     go_upto_region 8 with (first | (go_at_call 58;refine (HT.out _).mono ?_;rintro e w3 ⟨rfl,rfl⟩) | (go_at_call 59;refine (HG.out _).mono ?_;rintro e w3 ⟨rfl,rfl⟩))
     rename_i w2
     have c7 := HP2.out.cell 7;have c8 := HP2.out.cell 8;have f7 := HP2.out.froz 7;have f8 := HP2.out.froz 8;go_upto_region 9 with fail
     have HP3 := hide ((HP2.out.set 7 (.string me) { p with me := me } rfl rfl rfl).set 8 (.string ta) { p with me := me,ta := ta } rfl rfl rfl);have HK3 := hide (HK2.out.trans ((PKh.set w2 g 7 (.string me) lv fv).trans (PKh.set _ g 8 (.string ta) lv fv)));clear c7 c8 f7 f8;generalize (w2.setCell ⟨g,7,none⟩ (.string me)).setCell ⟨g,8,none⟩ (.string ta) = w5 at HP3 HK3 |-
     have HB := hide (begun_any HP3.out ve);go_wp2_with (go_at_call 57;refine HB.out.mono ?_;rintro e w6 ⟨rfl,h6,k6⟩)
     go_ret
     exact ⟨rfl,h6,HK3.out.trans k6⟩
  ·have t0 := emp_fh h1
   clear h0 h1;go_upto_region 5 with (go_at_call 53;refine HC1.out.mono ?_;rintro e w1 ⟨rfl,b1⟩)
   have HM1 := hide (HM.out.below b1);have HP1 := hide (HP.out.below b1);have HK1 := hide (PKh.of_below g lv fv b1);clear b1 c4 f4;go_upto_region 6 with (go_at_call 53;refine (HC2.out _ HM1.out).mono ?_;rintro e w2 ⟨rfl,b2⟩)
   have HP2 := hide (HP1.out.below b2);have HK2 := hide (HK1.out.trans (PKh.of_below g lv fv b2));clear b2;cases bt with
   | false =>
    go_wp2_with (go_at_call 58;refine (HT.out _).mono ?_;rintro e w3 ⟨rfl,rfl⟩)
    go_ret
    exact ⟨rfl,HP2.out,HK2.out⟩
   | true =>
    cases bg with
    | false =>
     go_wp2_with (first | (go_at_call 58;refine (HT.out _).mono ?_;rintro e w3 ⟨rfl,rfl⟩) | (go_at_call 59;refine (HG.out _).mono ?_;rintro e w3 ⟨rfl,rfl⟩))
     go_ret
     exact ⟨rfl,HP2.out,HK2.out⟩
    | true =>
     go_upto_region 8 with (first | (go_at_call 58;refine (HT.out _).mono ?_;rintro e w3 ⟨rfl,rfl⟩) | (go_at_call 59;refine (HG.out _).mono ?_;rintro e w3 ⟨rfl,rfl⟩))
     rename_i w2
     have c7 := HP2.out.cell 7;have c8 := HP2.out.cell 8;have f7 := HP2.out.froz 7;have f8 := HP2.out.froz 8;go_upto_region 9 with fail
     have HP3 := hide ((HP2.out.set 7 (.string me) { p with me := me } rfl rfl rfl).set 8 (.string ta) { p with me := me,ta := ta } rfl rfl rfl);have HK3 := hide (HK2.out.trans ((PKh.set w2 g 7 (.string me) lv fv).trans (PKh.set _ g 8 (.string ta) lv fv)));clear c7 c8 f7 f8;generalize (w2.setCell ⟨g,7,none⟩ (.string me)).setCell ⟨g,8,none⟩ (.string ta) = w5 at HP3 HK3 |-
     have HB := hide (begun_any HP3.out ve);go_wp2_with (go_at_call 57;refine HB.out.mono ?_;rintro e w6 ⟨rfl,h6,k6⟩)
     go_ret
     exact ⟨rfl,h6,HK3.out.trans k6⟩
theorem responseLine_any {w : World} {base g : Nat} {lv fv : Value} {p : Pz} (h : Par w base g lv fv p) (hm : MX w) (s : ByteArray) (hs : s.size <= 65536) :
  Calls Tryz.prog 44 #[.pointer (some ⟨g,0,none⟩),.string s] w fun e w' => e = .returned (errV (pRes p s).1) /\ Par w' base g lv fv (pRes p s).2 /\ PKh w w' g lv fv lv fv := by
 have HP := hide h;have HM := hide hm;clear h hm;unfold pRes;have HC1 := hide (pcut_any s 32 w hs HM.out);have HC2 := hide (fun W (hW : MX W) => pcut_any (k2 32 s) 32 W (Nat.le_trans (k2_size 32 s) hs) hW);have z2 : (k1 32 (k2 32 s)).size <= maxLen := by have := k1_size 32 (k2 32 s);have := k2_size 32 s;unfold maxLen;omega
 have z3 : (k2 32 (k2 32 s)).size <= 281474976710656 := by have := k2_size 32 (k2 32 s);have := k2_size 32 s;omega
 have HS := hide (fun W => isStatus_any (k1 32 (k2 32 s)) W z2);have HN := hide (fun W => Number_any (k1 32 (k2 32 s)) W z2);have HR := hide (fun W => isReason_any (k2 32 (k2 32 s)) W z3);clear z2 z3;generalize k1 32 (k2 32 s) = st at HC2 HS HN |-
 generalize k2 32 (k2 32 s) = re at HC2 HR |-
 generalize k3 32 (k2 32 s) = o2 at HC2 |-
 generalize k1 32 s = ve at HC1 |-
 generalize k2 32 s = r at HC1 HC2;generalize k3 32 s = o1 at HC1;generalize statB st.data.toList = bs at HS |-
 generalize numV 10 st.data.toList = nv at HN |-
 generalize numE 10 st.data.toList = ne at HN;generalize re.data.toList.all valc = br at HR |-
 go_enter Tryz.func44,Tryz.ntmps44
 go_upto_region 2 with (go_at_call 53;refine HC1.out.mono ?_;rintro e w1 ⟨rfl,b1⟩)
 have HM1 := hide (HM.out.below b1);have HP1 := hide (HP.out.below b1);have HK1 := hide (PKh.of_below g lv fv b1);clear b1;go_upto_region 3 with (go_at_call 53;refine (HC2.out _ HM1.out).mono ?_;rintro e w2 ⟨rfl,b2⟩)
 have HP2 := hide (HP1.out.below b2);have HK2 := hide (HK1.out.trans (PKh.of_below g lv fv b2));clear b2;cases o2 with
 | false =>
  go_wp2_with fail
  go_ret
  exact ⟨rfl,HP2.out,HK2.out⟩
 | true =>
  cases bs with
  | false =>
   go_wp2_with (go_at_call 54;refine (HS.out _).mono ?_;rintro e w3 ⟨rfl,rfl⟩)
   go_ret
   exact ⟨rfl,HP2.out,HK2.out⟩
  | true =>
   cases br with
   | false =>
    go_wp2_with (first | (go_at_call 54;refine (HS.out _).mono ?_;rintro e w3 ⟨rfl,rfl⟩) | (go_at_call 55;refine (HR.out _).mono ?_;rintro e w4 ⟨rfl,b4⟩))
    go_ret
    exact ⟨rfl,HP2.out.below b4,HK2.out.trans (PKh.of_below g lv fv b4)⟩
   | true =>
    go_upto_region 5 with (first | (go_at_call 54;refine (HS.out _).mono ?_;rintro e w3 ⟨rfl,rfl⟩) | (go_at_call 55;refine (HR.out _).mono ?_;rintro e w4 ⟨rfl,b4⟩))
    have HP3 := hide (HP2.out.below b4);have HK3 := hide (HK2.out.trans (PKh.of_below g lv fv b4));have f10 := HP3.out.froz 10;have c10 := HP3.out.cell 10;clear b4;go_upto_region 6 with (go_at_call 56;refine (HN.out _).mono ?_;rintro e w5 ⟨rfl,rfl⟩)
    have HP4 := hide (HP3.out.set 10 (.int .i64 (nv : Int)) { p with status := nv } rfl rfl rfl);have HK4 := hide (HK3.out.trans (PKh.set w4 g 10 (.int .i64 (nv : Int)) lv fv));clear f10 c10;generalize w4.setCell ⟨g,10,none⟩ (.int .i64 (nv : Int)) = w5 at HP4 HK4 |-
    have f11 := HP4.out.froz 11;have c11 := HP4.out.cell 11;go_upto_region 7 with fail
    have HP5 := hide (HP4.out.set 11 (.string re) { p with status := nv,re := re } rfl rfl rfl);have HK5 := hide (HK4.out.trans (PKh.set w5 g 11 (.string re) lv fv));clear f11 c11;generalize w5.setCell ⟨g,11,none⟩ (.string re) = w6 at HP5 HK5 |-
    have HB := hide (begun_any HP5.out ve);go_wp2_with (go_at_call 57;refine HB.out.mono ?_;rintro e w7 ⟨rfl,h6,k6⟩)
    go_ret
    exact ⟨rfl,h6,HK5.out.trans k6⟩
theorem append_fld_kh (W : World) (base : Nat) (ty : TypeId) (v : Value) (A : List (ByteArray × ByteArray)) (f : ByteArray × ByteArray) (hown : FRow W base v A) (hn : A.length <= 1099511627776) (hbase : base <= W.heap.size) :
  ∃ v' W',(Builtin.append_ #[43,43] ty #[v,.slice (some ⟨W.heap.size,0,none⟩) 1 1]).run Tryz.prog (W.alloc (.cells #[.string f.1,.string f.2] 48)) = .ok v' W' /\ FRow W' base v' (A ++ [f]) /\ Below base W W' /\ Kept W W' v v' := by
 obtain ⟨i,hi,hz,hs1,hb1⟩ := infoF;have ho : FRow (W.alloc (.cells #[.string f.1,.string f.2] 48)) base v A := hown.frame fun g hg => Below.heap_alloc W _ g (hown.lt hg).2
 have hsz : (W.alloc (.cells #[.string f.1,.string f.2] 48)).heap.size = W.heap.size + 1 := by show (W.heap.push _).size = _;simp
 obtain ⟨v',W',hr,h1,hg,_,hloc⟩ := run_append_own_at (w := W.alloc (.cells #[.string f.1,.string f.2] 48)) base 43 ty 48 i _ 2 32 Tryz.underlying43 hi hz hs1 hb1 rfl (by omega) v A.length (fcs A) ho ⟨W.heap.size,0,none⟩ 1 1 (fc f) rfl (two_cells W f) (by intro u hu;simp [fc] at hu;rcases hu with rfl | rfl <;> rfl) (by unfold maxLen;omega) (by omega) (by simp;omega);refine ⟨v',W',hr,?_,?_,?_⟩
 ·unfold FRow
  rw [List.length_append,fcs_snoc];exact h1
 ·exact ((Below.refl base W).alloc hbase _).grown hg (by simp;omega) (fun k hk => (hown.lt hk).1)
 ·have hs2 := hg.size
  refine ⟨by rw [hsz] at hs2;omega,fun g h2 h3 => ?_,fun g h2 h3 h4 => ?_⟩
  ·rw [hg.block g (by rw [hsz]; omega) (fun h => h3 h.symm)]
   exact Below.heap_alloc W _ g h2
  ·rcases hloc with h5 | h5
   ·exact h3 (h5.symm.trans h4)
   ·rw [h5, hsz] at h4
    simp only [Option.some.injEq] at h4;omega
theorem Par.grow_f {w W : World} {base g : Nat} {lv fv v' : Value} {p : Pz} {fs : List (ByteArray × ByteArray)} (h : Par w base g lv fv p) (hk : Kept w W fv v') (hR : FRow W base v' fs) :
  W.heap[g]? = some (.cells (pcells p g lv fv) 92 (0,0)) /\ Par (W.setCell ⟨g,12,none⟩ v') base g lv v' { p with fs := fs } := by
 have hb : W.heap[g]? = some (.cells (pcells p g lv fv) 92 (0,0)) := (hk.block g h.lt h.gf).trans h.blk;have hg' : v'.ownBlock ≠ some g := hk.apart g h.lt h.gf;refine ⟨hb,⟨hp_set hb 12 v',?_,?_,h.gb,h.gl,hg',?_⟩⟩
 ·refine h.line.frame fun k e => ?_
  have hl := (h.line.lt e).2;rw [Below.heap_setCell W ⟨g,12,none⟩ v' k (fun e2 => h.gl (by rw [e,e2]))];exact hk.block k hl (h.lf k e)
 ·exact hR.frame fun k e => Below.heap_setCell W ⟨g,12,none⟩ v' k (fun e2 => hg' (by rw [e,e2]))
 ·intro k e
  exact hk.apart k (h.line.lt e).2 (h.lf k e)
theorem Par.app_f {w : World} {base g : Nat} {lv fv : Value} {p : Pz} (h : Par w base g lv fv p) (ty : TypeId) (f : ByteArray × ByteArray) (hn : p.fs.length <= 100) :
  ∃ ad n c W', (Builtin.append_ #[43, 43] ty #[fv, .slice (some ⟨w.heap.size, 0, none⟩) 1 1]).run Tryz.prog (w.alloc (.cells #[.string f.1, .string f.2] 48)) = .ok (.slice ad n c) W' /\
   W'.cell? ⟨g,12,none⟩ = some fv /\ W'.frozen? ⟨g,12,none⟩ = false /\ Par (W'.setCell ⟨g,12,none⟩ (.slice ad n c)) base g lv (.slice ad n c) { p with fs := p.fs ++ [f] } /\ PKh w (W'.setCell ⟨g,12,none⟩ (.slice ad n c)) g lv fv lv (.slice ad n c) := by
 obtain ⟨v',W',hr,hR,hB,hK⟩ := append_fld_kh w base ty fv p.fs f h.flds (by omega) (Nat.le_of_lt (Nat.lt_of_le_of_lt h.gb h.lt));obtain ⟨ad,c,rfl,_,_⟩ := hR.shape;obtain ⟨hb,hP⟩ := h.grow_f hK hR;refine ⟨ad,_,c,W',hr,cell_at hb 12,by rw [frozen_at hb];simp,hP,?_⟩;have hs := PKh.set W' g 12 (.slice ad (p.fs ++ [f]).length c) lv fv;exact ⟨hs.os.trans hB.os,hs.tape.trans hB.tape,hs.output.trans hB.output,Nat.le_trans hK.size hs.size,fun k hk h1 h2 h3 => (Below.heap_setCell W' ⟨g,12,none⟩ _ k h1).trans (hK.block k hk h3),fun _ _ e => e,fun k hk e => hK.apart k hk e⟩
theorem Par.grow_l {w W : World} {base g : Nat} {lv fv v' : Value} {p : Pz} {l : List UInt8} (h : Par w base g lv fv p) (hk : Kept w W lv v') (hR : Row W base 5 v' (bc l)) :
  W.heap[g]? = some (.cells (pcells p g lv fv) 92 (0,0)) /\ Par (W.setCell ⟨g,2,none⟩ v') base g v' fv { p with line := l } := by
 have hb : W.heap[g]? = some (.cells (pcells p g lv fv) 92 (0,0)) := (hk.block g h.lt h.gl).trans h.blk;have hg' : v'.ownBlock ≠ some g := hk.apart g h.lt h.gl;have hfl : ∀ k,fv.ownBlock = some k -> lv.ownBlock ≠ some k := fun k e e2 => h.lf k e2 e
 refine ⟨hb,⟨hp_set hb 2 v',?_,?_,h.gb,hg',h.gf,?_⟩⟩
 ·exact hR.frame fun k e => Below.heap_setCell W ⟨g,2,none⟩ v' k (fun e2 => hg' (by rw [e,e2]))
 ·refine h.flds.frame fun k e => ?_
  have hl := (h.flds.lt e).2;rw [Below.heap_setCell W ⟨g,2,none⟩ v' k (fun e2 => h.gf (by rw [e,e2]))];exact hk.block k hl (hfl k e)
 ·intro k e e2
  exact hk.apart k (h.flds.lt e2).2 (hfl k e2) e
theorem Par.app_l {w : World} {base g : Nat} {lv fv : Value} {p : Pz} (h : Par w base g lv fv p) (ty : TypeId) (x : UInt8) (hn : p.line.length <= 65536) :
  ∃ ad n c W', (Builtin.append_ #[31, 31] ty #[lv, .slice (some ⟨w.heap.size, 0, none⟩) 1 1]).run Tryz.prog (w.alloc (.cells #[.int .u8 (x.toNat : Int)] 5)) = .ok (.slice ad n c) W' /\
   W'.cell? ⟨g,2,none⟩ = some lv /\ W'.frozen? ⟨g,2,none⟩ = false /\ Par (W'.setCell ⟨g,2,none⟩ (.slice ad n c)) base g (.slice ad n c) fv { p with line := p.line ++ [x] } /\ PKh w (W'.setCell ⟨g,2,none⟩ (.slice ad n c)) g lv fv (.slice ad n c) fv := by
 have hlen : (bc p.line).length = p.line.length := by simp [bc]
 obtain ⟨v',W',hr,hR,hB,hK⟩ := append_one_k elB w base ty lv (bc p.line) (.int .u8 (x.toNat : Int)) h.line rfl (by rw [hlen];omega) (by rw [hlen];omega) (Nat.le_of_lt (Nat.lt_of_le_of_lt h.gb h.lt));rw [show bc p.line ++ [.int .u8 (x.toNat : Int)] = bc (p.line ++ [x]) by simp [bc]] at hR;obtain ⟨ad,c,rfl,_,_⟩ := hR.shape;obtain ⟨hb,hP⟩ := h.grow_l hK hR;refine ⟨ad,_,c,W',hr,cell_at hb 2,by rw [frozen_at hb];simp,hP,?_⟩;have hs := PKh.set W' g 2 (.slice ad (bc (p.line ++ [x])).length c) lv fv;exact ⟨hs.os.trans hB.os,hs.tape.trans hB.tape,hs.output.trans hB.output,Nat.le_trans hK.size hs.size,fun k hk h1 h2 h3 => (Below.heap_setCell W' ⟨g,2,none⟩ _ k h1).trans (hK.block k hk h2),fun k hk e => hK.apart k hk e,fun _ _ e => e⟩
def rtrimS (s : ByteArray) : ByteArray := ⟨(rtrim s.data.toList).toArray⟩
theorem trimr_any (s : ByteArray) (w : World) (hs : s.size <= maxLen) :
  Calls Tryz.prog 123 #[.string s,.string ⟨#[9,32]⟩] w fun e w' => e = .returned (.string (rtrimS s)) /\ Below w.heap.size w w' := by
 have e : rtrimS s = ⟨(Lib.trimRightS s.data.toList [9,32]).toArray⟩ := by
  unfold rtrimS rtrim Lib.trimRightS;rw [show (fun c : UInt8 => [9,32].contains c) = blankc from funext blankc_contains]
 rw [e];exact Any.strings_TrimRight_laid Tryz.lays162 (by kernel_rfl) s ⟨#[9,32]⟩ w hs (by decide) (ascii_of_all (by decide))
def fldFh (s : ByteArray) : ByteArray × ByteArray := (k1 58 s,trimS (k2 58 s))
def pFld (p : Pz) (s : ByteArray) : Nat × Pz :=
 if s.size = 0 then (0,{ p with whole := true })
 else if blankc (s.data.toList.headD 0) then (82,p)
 else if k3 58 s = false then (84,p)
 else if rtrimS (k1 58 s) ≠ k1 58 s then (83,p)
 else if chkF (fldFh s) ≠ 0 then (chkF (fldFh s),p)
 else if p.fs.length = 100 then (85,p)
 else (0,{ p with fs := p.fs ++ [fldFh s] })
theorem flds_oneh (w : World) (a b : ByteArray) : Flds (w.alloc (.cells #[.string a,.string b] 48)) (.slice (some ⟨w.heap.size,0,none⟩) 1 1) [(a,b)] := by
 refine ⟨some ⟨w.heap.size,0,none⟩,1,rfl,⟨Nat.le_refl _,by simp⟩,fun j hj => ?_⟩;have hj0 : j = 0 := by simp at hj;exact hj
 subst hj0;exact ⟨w.heap.size,0,rfl,by show _ < (w.heap.push _).size;simp,cell_at (hp_new w _) 0,cell_at (hp_new w _) 1⟩
theorem chk_oneh (f : ByteArray × ByteArray) : chkL [f] = chkF f := by
 unfold chkL chkA;by_cases h : chkF f = 0
 ·simp [h]
 ·simp [h]
theorem head_at (s : ByteArray) (h : 0 < s.size) : s.data.toList.headD 0 = s[0] := by rw [head_list s h];rfl
theorem fieldLine_any {w : World} {base g : Nat} {lv fv : Value} {p : Pz} (h : Par w base g lv fv p) (hm : MX w) (s : ByteArray) (hs : s.size <= 65536) (hl : p.fs.length <= 100) :
  Calls Tryz.prog 84 #[.pointer (some ⟨g,0,none⟩),.string s] w fun e w' => e = .returned (errV (pFld p s).1) /\ ∃ fv',Par w' base g lv fv' (pFld p s).2 /\ PKh w w' g lv fv lv fv' := by
 obtain ⟨fa,fc,rfl,_,_⟩ := h.flds.shape;have HP := hide h;have HM := hide hm;clear h hm;unfold pFld;by_cases h0 : s.size = 0
 ·have t0 := emp_th h0
  rw [if_pos h0];clear h0;have c13 := HP.out.cell 13;have f13 := HP.out.froz 13;go_enter Tryz.func84,Tryz.ntmps84
  go_wp2_with fail
  go_ret
  exact ⟨rfl,_,HP.out.set 13 (.bool true) { p with whole := true } rfl rfl rfl,PKh.set _ _ _ _ _ _⟩
 ·rw [if_neg h0]
  have t0 := emp_fh h0;have hp0 : 0 < s.size := by omega
  rw [head_at s hp0];clear h0;have HI := hide (indexByte_mem [9,32] s[0]);rw [blankc_contains] at HI;have HC := hide (pcut_any s 58 w hs HM.out);have z1 : (k1 58 s).size <= 65536 := by have := k1_size 58 s;omega
  have z2 : (k2 58 s).size <= 65536 := by have := k2_size 58 s;omega
  have HR := hide (fun W => trimr_any (k1 58 s) W (by unfold maxLen;omega));have HT := hide (fun W => trim_any (k2 58 s) W (by omega));have z3 : (trimS (k2 58 s)).size <= 65536 := by have := trim_size (k2 58 s);omega
  have HK := hide (fun (W : World) (v : Value) (hF : Flds W v [(k1 58 s,trimS (k2 58 s))]) => Check_any W v _ hF ⟨by simp,fun f hf => by
   rw [List.mem_singleton.1 hf];exact ⟨Nat.le_trans z1 (by omega),Nat.le_trans z3 (by omega)⟩⟩)
  simp only [chk_oneh] at HK;unfold fldFh;generalize trimS (k2 58 s) = va at HT HK z3 |-
  generalize rtrimS (k1 58 s) = rn at HR |-
  generalize k1 58 s = na at HC HR HK z1 |-
  generalize k2 58 s = tx at HC HT z2;generalize k3 58 s = o1 at HC |-
  generalize chkF (na,va) = ck at HK |-
  generalize blankc s[0] = bb at HI |-
  generalize hR0 : (if bb = true then ((82 : Nat),p) else if o1 = false then (84,p) else if rn ≠ na then (83,p) else if ck ≠ 0 then (ck,p) else if p.fs.length = 100 then (85,p) else (0,{ p with fs := p.fs ++ [(na,va)] })) = R;have HX := hide hR0;clear hR0;go_enter Tryz.func84,Tryz.ntmps84
  go_upto_region 5 with (go_at_call 53;refine HC.out.mono ?_;rintro e w1 ⟨rfl,b1⟩)
  have HP1 := hide (HP.out.below b1);have HK1 := hide (PKh.of_below g lv (.slice fa p.fs.length fc) b1);clear b1;cases bb with
  | true =>
   have t1 : 0 <= Lib.indexByte [9,32] s[0] := of_decide_eq_true HI.out;go_wp2_with (go_at_call 122;refine (Tryz.strings_IndexByte _ _ _).mono ?_;rintro e w' ⟨rfl,rfl⟩)
   go_ret
   exact ⟨by rw [<- HX.out];rfl,_,by rw [<- HX.out];exact HP1.out,HK1.out⟩
  | false =>
   have t1 : ¬ 0 <= Lib.indexByte [9,32] s[0] := of_decide_eq_false HI.out;cases o1 with
   | false =>
    go_wp2_with (go_at_call 122;refine (Tryz.strings_IndexByte _ _ _).mono ?_;rintro e w' ⟨rfl,rfl⟩)
    go_ret
    exact ⟨by rw [<- HX.out];rfl,_,by rw [<- HX.out];exact HP1.out,HK1.out⟩
   | true =>
    go_upto_region 9 with (go_at_call 122;refine (Tryz.strings_IndexByte _ _ _).mono ?_;rintro e w' ⟨rfl,rfl⟩)
    by_cases h2 : rn = na
    ·have t2 : (rn.toList == na.toList) = true := by rw [bytes_eq]; exact decide_eq_true h2
     have HX2 : Hid ((if ck ≠ 0 then (ck,p) else if p.fs.length = 100 then (85,p) else (0,{ p with fs := p.fs ++ [(na,va)] })) = R) := by (have e := HX.out;rw [if_neg (by simp),if_neg (by simp),if_neg (by simp [h2])] at e;exact hide e)
     clear h2 HX;go_upto_region 11 with (go_at_call 123;refine (HR.out _).mono ?_;rintro e w2 ⟨rfl,b2⟩)
     have HP2 := hide (HP1.out.below b2);have HK2 := hide (HK1.out.trans (PKh.of_below g lv (.slice fa p.fs.length fc) b2));clear b2;go_upto_region 12 with (go_at_call 81;refine (HT.out _).mono ?_;rintro e w3 ⟨rfl,b3⟩)
     have HB4 := hide (b3.trans (((Below.refl w3.heap.size w3).alloc (Nat.le_refl _) (.cells #[.string na,.string va] 48)).mono b3.size));have HD := hide (hp_new w3 (.cells #[.string na,.string va] 48));have HP4 := hide (HP2.out.below HB4.out);have HK4 := hide (HK2.out.trans (PKh.of_below g lv (.slice fa p.fs.length fc) HB4.out));clear b3 HB4;generalize w3.alloc (.cells #[.string na,.string va] 48) = x at HD HP4 HK4 |-
     generalize w3.heap.size = bf at HD |-
     have d0 : x.cell? ⟨bf,0,none⟩ = some (.string na) := cell_at HD.out 0;have d1 : x.cell? ⟨bf,1,none⟩ = some (.string va) := cell_at HD.out 1;have HCK := hide (HK.out _ _ (flds_oneh x na va));have HBX := hide ((Below.refl x.heap.size x).alloc (Nat.le_refl _) (.cells #[.string na,.string va] 48));go_upto_region 13 with (go_at_call 124;refine HCK.out.mono ?_;rintro e w5 ⟨rfl,b5⟩)
     have HB5 := hide (HBX.out.trans (b5.mono HBX.out.size));have HD5 := hide ((HB5.out.block _ (lt_heap HD.out)).trans HD.out);have HP5 := hide (HP4.out.below HB5.out);have HK5 := hide (HK4.out.trans (PKh.of_below g lv (.slice fa p.fs.length fc) HB5.out));clear b5 HB5 HBX d0 d1 HCK HD;by_cases h3 : ck = 0
     ·have HX3 : Hid ((if p.fs.length = 100 then (85, p) else (0, { p with fs := p.fs ++ [(na, va)] })) = R) := by (have e := HX2.out; rw [if_neg (by simp [h3])] at e; exact hide e)
      subst h3;clear HX2;have c12 := HP5.out.cell 12;have f12 := HP5.out.froz 12;rw [show (pcells p g lv (.slice fa p.fs.length fc))[12]? = some (.slice fa p.fs.length fc) from rfl] at c12;by_cases h4 : p.fs.length = 100
      ·have t4 : ((p.fs.length : Int) == 100) = true := by simp [h4]
       have HX4 : Hid ((85,p) = R) := by (have e := HX3.out;rw [if_pos h4] at e;exact hide e)
       clear h4;go_wp2_with fail
       go_ret
       exact ⟨by rw [<- HX4.out];rfl,_,by rw [<- HX4.out];exact HP5.out,HK5.out⟩
      ·have t4 : ((p.fs.length : Int) == 100) = false := by simp; omega
       have HX4 : Hid ((0,{ p with fs := p.fs ++ [(na,va)] }) = R) := by (have e := HX3.out;rw [if_neg h4] at e;exact hide e)
       clear h4;go_upto_region 17 with fail
       have d0 : w5.cell? ⟨bf,0,none⟩ = some (.string na) := cell_at HD5.out 0;have d1 : w5.cell? ⟨bf,1,none⟩ = some (.string va) := cell_at HD5.out 1;have BD := hide ((Below.refl w5.heap.size w5).drew);have HK6 := hide (HK5.out.trans (PKh.of_below g lv (.slice fa p.fs.length fc) BD.out));obtain ⟨ad,n,c,W,hrun,q1,q2,hP,hK⟩ := (HP5.out.below BD.out).app_f 43 (na,va) hl;have cA := ((HP5.out.below ((Below.refl w5.heap.size w5).alloc (Nat.le_refl _) (.cells #[.string na,.string va] 48))).cell 12);rw [show (pcells p g lv (.slice fa p.fs.length fc))[12]? = some (.slice fa p.fs.length fc) from rfl] at cA;have HPW := hide hP;have HKW := hide (HK6.out.trans hK);clear hP hK;go_region_law (refine step_append_is rfl (.tmp 61) (.tmp 63) 43 rfl (.slice fa p.fs.length fc) (.slice (some ⟨w5.heap.size,0,none⟩) 1 1) (.slice ad n c) (by simp [Act.eval]) (by simp [Act.eval]) hrun ?_)
       all_goals (go_wp2_with fail)
       all_goals go_ret
       all_goals exact ⟨by rw [<- HX4.out];rfl,_,by rw [<- HX4.out];exact HPW.out,HKW.out⟩
     ·have t3 : ((ck : Int) != 0) = true := by rw [bne_iff_ne]; omega
      have HX3 : Hid ((ck,p) = R) := by (have e := HX2.out;rw [if_pos h3] at e;exact hide e)
      have HE : Hid (errV ck = .iface 24 (.int .i64 (ck : Int))) := by unfold errV;rw [if_neg h3];exact hide rfl
      clear h3 HX2;go_wp2_with fail
      go_ret
      exact ⟨by rw [<- HX3.out,HE.out];rfl,_,by rw [<- HX3.out];exact HP5.out,HK5.out⟩
    ·have t2 : (rn.toList == na.toList) = false := by rw [bytes_eq]; exact decide_eq_false h2
     have HX2 : Hid ((83,p) = R) := by (have e := HX.out;rw [if_neg (by simp),if_neg (by simp),if_pos h2] at e;exact hide e)
     clear h2 HX;go_wp2_with (go_at_call 123;refine (HR.out _).mono ?_;rintro e w2 ⟨rfl,b2⟩)
     go_ret
     exact ⟨by rw [<- HX2.out];rfl,_,by rw [<- HX2.out];exact HP1.out.below b2,HK1.out.trans (PKh.of_below g lv (.slice fa p.fs.length fc) b2)⟩
theorem Row.cut0h {W : World} {base : Nat} {e : TypeId} {a : Option Addr} {n c : Nat} {xs : List Value} (h : Row W base e (.slice a n c) xs) : Row W base e (.slice a 0 c) [] := by
 refine ⟨rfl,?_⟩;rcases h.2 with ⟨h1,h0⟩ | ⟨g,cap,cur,hv,h1,hg,hc,hmx,hs,ht⟩
 ·simp only [Value.slice.injEq] at h1
  obtain ⟨rfl,rfl,rfl⟩ := h1;exact .inl ⟨rfl,rfl⟩
 ·simp only [Value.slice.injEq] at hv
  obtain ⟨rfl,rfl,rfl⟩ := hv;exact .inr ⟨g,_,cur,rfl,h1,hg,Nat.zero_le _,hmx,hs,by simp⟩
theorem wpList_append_ish {ops : Array Oper} {rest : List Oper} {o : Oper} {a : Act} {Q : Exit -> Act -> World -> Prop} {W W' : World} (hgd : o.guard = none) (s x : Operand) (t : TypeId)
  (ho : o.op = .call { callee := .builtin .append,args := #[s,x],argTypes := #[t,t] }) (v src v' : Value) (hs : a.eval s = v) (hx : a.eval x = src)
  (hrun : (Builtin.append_ #[t,t] o.type #[v,src]).run Tryz.prog W = .ok v' W') (h : wpList Tryz.prog ops Q rest (a.put o.dst v') W') : wpList Tryz.prog ops Q (o :: rest) a W := by
 refine wpList_plain hgd fun K hK => ?_
 unfold Oper.wp execOp;simp only [ho,resolve,invoke,builtin,Sem.run_bind,Sem.run_pure,Result.andThen_ok,List.map_toArray,List.map_cons,List.map_nil,hs,hx,hrun];exact hK _ _ h
def pLine (p : Pz) (s : ByteArray) : Nat × Pz := if p.fn = fnReq then pReq p s else if p.fn = fnRes then pRes p s else pFld p s
def pNext (p : Pz) (c : UInt8) : Nat × Pz :=
 if p.ending ≠ decide (c = 10) then (81,p)
 else if p.read = p.most then (85,p)
 else if c = 13 then (0,{ p with read := p.read + 1,ending := true })
 else if c = 10 then pLine { p with read := p.read + 1,ending := false,line := [] } (sS p.line)
 else if p.line.length = 8192 then (85,{ p with read := p.read + 1 })
 else (0,{ p with read := p.read + 1,line := p.line ++ [c] })
structure Fit (p : Pz) : Prop where
 fn : p.fn = fnReq ∨ p.fn = fnRes ∨ p.fn = fnFld
 most : p.most <= 65536
 read : p.read <= p.most
 line : p.line.length <= 8192
 passed : p.passed <= 4
 fs : p.fs.length <= 100
theorem byte_tenh (c : UInt8) : (((c.toNat : Int)) == 10) = decide (c = 10) := by
 rw [show (10 : Int) = ((10 : UInt8).toNat : Int) from rfl,byte_eqI,Bool.eq_iff_iff];simp
theorem byte_crh (c : UInt8) : (((c.toNat : Int)) == 13) = decide (c = 13) := by
 rw [show (13 : Int) = ((13 : UInt8).toNat : Int) from rfl,byte_eqI,Bool.eq_iff_iff];simp
theorem next_plain {w : World} {base g : Nat} {lv fv : Value} {p : Pz} (h : Par w base g lv fv p) (hf : Fit p) (c : UInt8) (h10 : c ≠ 10) :
  Calls Tryz.prog 86 #[.pointer (some ⟨g,0,none⟩),.int .u8 (c.toNat : Int)] w fun e w' => e = .returned (errV (pNext p c).1) /\ ∃ lv',Par w' base g lv' fv (pNext p c).2 /\ PKh w w' g lv fv lv' fv := by
 obtain ⟨la,lc,hle,_,_⟩ := h.line.shape;rw [bc_len] at hle;subst hle;have hlen := hf.line;have hrd := hf.read;have hmo := hf.most;have HP := hide h;have c3 := h.cell 3;have c0 := h.cell 0;have c1 := h.cell 1;have f1 := h.froz 1;rw [show (pcells p g (.slice la p.line.length lc) fv)[3]? = some (.bool p.ending) from rfl] at c3;rw [show (pcells p g (.slice la p.line.length lc) fv)[0]? = some (.int .i64 (p.most : Int)) from rfl] at c0;rw [show (pcells p g (.slice la p.line.length lc) fv)[1]? = some (.int .i64 (p.read : Int)) from rfl] at c1;have t10 : (((c.toNat : Int)) == 10) = false := by rw [byte_tenh];exact decide_eq_false h10
 clear h hf;generalize hR0 : pNext p c = R;unfold pNext at hR0;rw [decide_eq_false h10] at hR0;cases he : p.ending with
 | true =>
  rw [if_pos (by rw [he];simp)] at hR0;have HX := hide hR0;rw [he] at c3;clear he hR0;go_enter Tryz.func86,Tryz.ntmps86
  go_wp2_with fail
  go_ret
  exact ⟨by rw [<- HX.out];rfl,_,by rw [<- HX.out];exact HP.out,PKh.refl _ _ _ _⟩
 | false =>
  rw [if_neg (by rw [he];simp)] at hR0;rw [he] at c3;clear he;by_cases h1 : p.read = p.most
  ·rw [if_pos h1] at hR0
   have HX := hide hR0;have t1 : ((p.read : Int) == (p.most : Int)) = true := by rw [h1];simp
   clear hR0 h1;go_enter Tryz.func86,Tryz.ntmps86
   go_upto_region 3 with fail
   go_quiet (fail)
   go_wp2_with fail
   go_ret
   exact ⟨by rw [<- HX.out];rfl,_,by rw [<- HX.out];exact HP.out.below (below_drewN _ _),PKh.of_below _ _ _ (below_drewN _ _)⟩
  ·rw [if_neg h1] at hR0
   have t1 : ((p.read : Int) == (p.most : Int)) = false := by rw [beq_eq_false_iff_ne];omega
   have hr2 : (p.read : Int) + 1 <= 65536 := by omega
   clear h1;by_cases h13 : c = 13
   ·rw [if_pos h13] at hR0
    have HX := hide hR0;have t13 : (((c.toNat : Int)) == 13) = true := by rw [byte_crh];exact decide_eq_true h13
    clear hR0 h13;go_enter Tryz.func86,Tryz.ntmps86
    go_upto_region 3 with fail
    go_quiet (fail)
    go_upto_region 6 with fail
    have HPD := hide (HP.out.below (below_drewN w nq));have HP2 := hide (HPD.out.set 1 (.int .i64 ((p.read : Int) + 1)) { p with read := p.read + 1 } rfl rfl rfl);have HK2 := hide ((PKh.of_below g (.slice la p.line.length lc) fv (below_drewN w nq)).trans (PKh.set (w.drewN nq) g 1 (.int .i64 ((p.read : Int) + 1)) (.slice la p.line.length lc) fv));clear c0 c1 c3 f1;generalize (w.drewN nq).setCell ⟨g,1,none⟩ (.int .i64 ((p.read : Int) + 1)) = w2 at HP2 HK2 |-
    have c3 := HP2.out.cell 3;rw [show (pcells { p with read := p.read + 1 } g (.slice la p.line.length lc) fv)[3]? = some (.bool p.ending) from rfl] at c3;have f3 := HP2.out.froz 3;go_wp2_with fail
    go_ret
    exact ⟨by rw [<- HX.out];rfl,_,by rw [<- HX.out];exact HP2.out.set 3 (.bool true) { p with read := p.read + 1,ending := true } rfl rfl rfl,HK2.out.trans (PKh.set _ _ _ _ _ _)⟩
   ·rw [if_neg h13, if_neg h10] at hR0
    have t13 : (((c.toNat : Int)) == 13) = false := by rw [byte_crh];exact decide_eq_false h13
    clear h13 h10;by_cases hl : p.line.length = 8192
    ·rw [if_pos hl] at hR0
     have HX := hide hR0;have tl : ((p.line.length : Int) == 8192) = true := by simp [hl]
     clear hR0 hl;go_enter Tryz.func86,Tryz.ntmps86
     go_upto_region 3 with fail
     go_quiet (fail)
     go_upto_region 6 with fail
     have HPD := hide (HP.out.below (below_drewN w nq));have HP2 := hide (HPD.out.set 1 (.int .i64 ((p.read : Int) + 1)) { p with read := p.read + 1 } rfl rfl rfl);have HK2 := hide ((PKh.of_below g (.slice la p.line.length lc) fv (below_drewN w nq)).trans (PKh.set (w.drewN nq) g 1 (.int .i64 ((p.read : Int) + 1)) (.slice la p.line.length lc) fv));clear c0 c1 c3 f1;generalize (w.drewN nq).setCell ⟨g,1,none⟩ (.int .i64 ((p.read : Int) + 1)) = w2 at HP2 HK2 |-
     have c2 := HP2.out.cell 2;rw [show (pcells { p with read := p.read + 1 } g (.slice la p.line.length lc) fv)[2]? = some (.slice la p.line.length lc) from rfl] at c2;go_wp2_with fail
     go_ret
     exact ⟨by rw [<- HX.out];rfl,_,by rw [<- HX.out];exact HP2.out,HK2.out⟩
    ·rw [if_neg hl] at hR0
     have HX := hide hR0;have tl : ((p.line.length : Int) == 8192) = false := by simp;omega
     clear hR0 hl;go_enter Tryz.func86,Tryz.ntmps86
     go_upto_region 3 with fail
     go_quiet (fail)
     go_upto_region 6 with fail
     have HPD := hide (HP.out.below (below_drewN w nq));have HP2 := hide (HPD.out.set 1 (.int .i64 ((p.read : Int) + 1)) { p with read := p.read + 1 } rfl rfl rfl);have HK2 := hide ((PKh.of_below g (.slice la p.line.length lc) fv (below_drewN w nq)).trans (PKh.set (w.drewN nq) g 1 (.int .i64 ((p.read : Int) + 1)) (.slice la p.line.length lc) fv));clear c0 c1 c3 f1;generalize (w.drewN nq).setCell ⟨g,1,none⟩ (.int .i64 ((p.read : Int) + 1)) = w2 at HP2 HK2 |-
     have c2 := HP2.out.cell 2;rw [show (pcells { p with read := p.read + 1 } g (.slice la p.line.length lc) fv)[2]? = some (.slice la p.line.length lc) from rfl] at c2;obtain ⟨ad,n,ca,W,hrun,q1,q2,hP,hK⟩ := HP2.out.app_l 31 c (by show p.line.length <= 65536;omega);have HRUN := hide hrun;have HPW := hide hP;have HKW := hide (HK2.out.trans hK);clear hP hK hrun;go_wp2_with (at_builtin;apply Hid.out)
     unfold Hid;refine wpList_append_ish rfl _ _ 31 rfl (.slice la p.line.length lc) (.slice (some ⟨w2.heap.size,0,none⟩) 1 1) (.slice ad n ca) rfl rfl HRUN.out ?_;go_wp2_with fail
     go_ret
     exact ⟨by rw [<- HX.out];rfl,_,by rw [<- HX.out];exact HPW.out,HKW.out⟩
theorem Par.cutl {w : World} {base g : Nat} {la : Option Addr} {n lc : Nat} {fv : Value} {p : Pz} (h : Par w base g (.slice la n lc) fv p) :
  Par (w.setCell ⟨g,2,none⟩ (.slice la 0 lc)) base g (.slice la 0 lc) fv { p with line := [] } /\ PKh w (w.setCell ⟨g,2,none⟩ (.slice la 0 lc)) g (.slice la n lc) fv (.slice la 0 lc) fv := by
 have hk : Kept w w (.slice la n lc) (.slice la 0 lc) := by
  refine ⟨Nat.le_refl _,fun _ _ _ => rfl,fun k _ e => ?_⟩;cases la with
  | none => exact e
  | some a => exact e
 refine ⟨(h.grow_l hk (l := []) h.line.cut0h).2,?_⟩;have hs := PKh.set w g 2 (.slice la 0 lc) (.slice la n lc) fv;exact ⟨hs.os,hs.tape,hs.output,hs.size,hs.block,fun k hk2 e => hk.apart k hk2 e,fun _ _ e => e⟩
def LineC (fn : Nat) : Prop := ∀ {w : World} {base g : Nat} {lv fv : Value} {p : Pz}, Par w base g lv fv p -> MX w -> ∀ s : ByteArray, s.size <= 65536 -> p.fs.length <= 100 -> p.passed <= 65536 -> p.fn = fn ->
  Calls Tryz.prog fn #[.pointer (some ⟨g,0,none⟩),.string s] w fun e w' => e = .returned (errV (pLine p s).1) /\ ∃ fv',Par w' base g lv fv' (pLine p s).2 /\ PKh w w' g lv fv lv fv'
theorem lineReq : LineC fnReq := by
 intro w base g lv fv p h hm s hs hl hp hf;have e : pLine p s = pReq p s := by unfold pLine;rw [if_pos hf]
 rw [e];refine (requestLine_any h hm s hs hp).mono ?_;rintro e w' ⟨h1,h2,h3⟩;exact ⟨h1,fv,h2,h3⟩
theorem lineRes : LineC fnRes := by
 intro w base g lv fv p h hm s hs hl hp hf;have e : pLine p s = pRes p s := by unfold pLine;rw [if_neg (by rw [hf];decide),if_pos hf]
 rw [e];refine (responseLine_any h hm s hs).mono ?_;rintro e w' ⟨h1,h2,h3⟩;exact ⟨h1,fv,h2,h3⟩
theorem lineFld : LineC fnFld := by
 intro w base g lv fv p h hm s hs hl hp hf;have e : pLine p s = pFld p s := by unfold pLine;rw [if_neg (by rw [hf];decide),if_neg (by rw [hf];decide)]
 rw [e];exact fieldLine_any h hm s hs hl
theorem MX.pk {w w' : World} {base g : Nat} {lv fv lv' fv' : Value} {p : Pz} (h : MX w) (hP : Par w base g lv fv p) (hb : 3 <= base) (k : PKh w w' g lv fv lv' fv') : MX w' := by
 obtain ⟨h0,m,hm⟩ := h;refine ⟨Nat.lt_of_lt_of_le h0 k.size,m,?_⟩;have e : w'.heap[2]? = w.heap[2]? := k.block 2 h0 (by have := hP.gb;omega) (fun e => by have := (hP.line.lt e).1;omega) (fun e => by have := (hP.flds.lt e).1;omega);unfold World.cell? at hm |-
 rw [show (⟨2,0,none⟩ : Addr).block = 2 from rfl] at hm |-
 rw [e];exact hm
theorem next_lf {w : World} {base g : Nat} {lv fv : Value} {p : Pz} (h : Par w base g lv fv p) (hf : Fit p) (hm : MX w) (hb : 3 <= base) :
  Calls Tryz.prog 86 #[.pointer (some ⟨g,0,none⟩),.int .u8 10] w fun e w' => e = .returned (errV (pNext p 10).1) /\ ∃ lv' fv',Par w' base g lv' fv' (pNext p 10).2 /\ PKh w w' g lv fv lv' fv' := by
 obtain ⟨la,lc,hle,_,_⟩ := h.line.shape;rw [bc_len] at hle;subst hle;have hlen := hf.line;have hrd := hf.read;have hmo := hf.most;have hfs := hf.fs;have hpa := hf.passed;have hfn := hide hf.fn;have HP := hide h;have HM := hide hm;have c3 := h.cell 3;have c0 := h.cell 0;have c1 := h.cell 1;have f1 := h.froz 1;rw [show (pcells p g (.slice la p.line.length lc) fv)[3]? = some (.bool p.ending) from rfl] at c3;rw [show (pcells p g (.slice la p.line.length lc) fv)[0]? = some (.int .i64 (p.most : Int)) from rfl] at c0;rw [show (pcells p g (.slice la p.line.length lc) fv)[1]? = some (.int .i64 (p.read : Int)) from rfl] at c1;clear h hf hm;generalize hR0 : pNext p 10 = R;unfold pNext at hR0;cases he : p.ending with
 | false =>
  rw [if_pos (by rw [he];simp)] at hR0;have HX := hide hR0;rw [he] at c3;clear he hR0;go_enter Tryz.func86,Tryz.ntmps86
  go_wp2_with fail
  go_ret
  exact ⟨by rw [<- HX.out];rfl,_,_,by rw [<- HX.out];exact HP.out,PKh.refl _ _ _ _⟩
 | true =>
  rw [if_neg (by rw [he];simp)] at hR0;rw [he] at c3;clear he;by_cases h1 : p.read = p.most
  ·rw [if_pos h1] at hR0
   have HX := hide hR0;have t1 : ((p.read : Int) == (p.most : Int)) = true := by rw [h1];simp
   clear hR0 h1;go_enter Tryz.func86,Tryz.ntmps86
   go_upto_region 3 with fail
   go_quiet (fail)
   go_wp2_with fail
   go_ret
   exact ⟨by rw [<- HX.out];rfl,_,_,by rw [<- HX.out];exact HP.out.below (below_drewN _ _),PKh.of_below _ _ _ (below_drewN _ _)⟩
  ·rw [if_neg h1, if_neg (by decide), if_pos rfl] at hR0
   have HX := hide hR0;have t1 : ((p.read : Int) == (p.most : Int)) = false := by rw [beq_eq_false_iff_ne];omega
   have hr2 : (p.read : Int) + 1 <= 65536 := by omega
   clear h1 hR0;go_enter Tryz.func86,Tryz.ntmps86
   go_upto_region 3 with fail
   go_quiet (fail)
   go_upto_region 6 with fail
   have HPD := hide (HP.out.below (below_drewN w nq));have HP2 := hide (HPD.out.set 1 (.int .i64 ((p.read : Int) + 1)) { p with read := p.read + 1 } rfl rfl rfl);have HK2 := hide ((PKh.of_below g (.slice la p.line.length lc) fv (below_drewN w nq)).trans (PKh.set (w.drewN nq) g 1 (.int .i64 ((p.read : Int) + 1)) (.slice la p.line.length lc) fv));clear c0 c1 c3 f1;generalize (w.drewN nq).setCell ⟨g,1,none⟩ (.int .i64 ((p.read : Int) + 1)) = w2 at HP2 HK2 |-
   have c3 := HP2.out.cell 3;rw [show (pcells { p with read := p.read + 1 } g (.slice la p.line.length lc) fv)[3]? = some (.bool p.ending) from rfl] at c3;have f3 := HP2.out.froz 3;go_upto_region 12 with fail
   have HP3 := hide (HP2.out.set 3 (.bool false) { p with read := p.read + 1,ending := false } rfl rfl rfl);have HK3 := hide (HK2.out.trans (PKh.set w2 g 3 (.bool false) (.slice la p.line.length lc) fv));clear c3 f3;generalize w2.setCell ⟨g,3,none⟩ (.bool false) = w3 at HP3 HK3 |-
   have c2 := HP3.out.cell 2;rw [show (pcells { p with read := p.read + 1,ending := false } g (.slice la p.line.length lc) fv)[2]? = some (.slice la p.line.length lc) from rfl] at c2;have f2 := HP3.out.froz 2;have HT := HP3.out.line.text;rw [show (⟨p.line.toArray⟩ : ByteArray) = sS p.line from rfl] at HT;go_upto_region 14 with fail
   obtain ⟨hP4,hK4⟩ := HP3.out.cutl;have HP4 := hide hP4;have HK4 := hide (HK3.out.trans hK4);clear c2 f2 HT hP4 hK4;generalize w3.setCell ⟨g,2,none⟩ (.slice la 0 lc) = w4 at HP4 HK4 |-
   have HM4 := hide (HM.out.pk HP.out hb HK4.out);have c5 := HP4.out.cell 5;rcases hfn.out with hfn | hfn | hfn
   ·have c6 : w4.cell? ⟨g,5,none⟩ = some (.func (.func 45) #[.pointer (some ⟨g,0,none⟩)] #[]) := by
     rw [c5];show some (stVh p.fn g) = _
     rw [hfn];rfl
    have HL := hide (lineReq HP4.out HM4.out (sS p.line) (by rw [sS_size];omega) hfs (by show p.passed <= 65536;omega) hfn);clear c5 hfn;go_wp2_with (refine HL.out.mono ?_;rintro e w5 ⟨rfl,fv5,h5,k5⟩)
    go_ret
    exact ⟨by rw [<- HX.out];rfl,_,_,by rw [<- HX.out];exact h5,HK4.out.trans k5⟩
   ·have c6 : w4.cell? ⟨g,5,none⟩ = some (.func (.func 44) #[.pointer (some ⟨g,0,none⟩)] #[]) := by
     rw [c5];show some (stVh p.fn g) = _
     rw [hfn];rfl
    have HL := hide (lineRes HP4.out HM4.out (sS p.line) (by rw [sS_size];omega) hfs (by show p.passed <= 65536;omega) hfn);clear c5 hfn;go_wp2_with (refine HL.out.mono ?_;rintro e w5 ⟨rfl,fv5,h5,k5⟩)
    go_ret
    exact ⟨by rw [<- HX.out];rfl,_,_,by rw [<- HX.out];exact h5,HK4.out.trans k5⟩
   ·have c6 : w4.cell? ⟨g,5,none⟩ = some (.func (.func 84) #[.pointer (some ⟨g,0,none⟩)] #[]) := by
     rw [c5];show some (stVh p.fn g) = _
     rw [hfn];rfl
    have HL := hide (lineFld HP4.out HM4.out (sS p.line) (by rw [sS_size];omega) hfs (by show p.passed <= 65536;omega) hfn);clear c5 hfn;go_wp2_with (refine HL.out.mono ?_;rintro e w5 ⟨rfl,fv5,h5,k5⟩)
    go_ret
    exact ⟨by rw [<- HX.out];rfl,_,_,by rw [<- HX.out];exact h5,HK4.out.trans k5⟩
theorem next_anyh {w : World} {base g : Nat} {lv fv : Value} {p : Pz} (h : Par w base g lv fv p) (hf : Fit p) (hm : MX w) (hb : 3 <= base) (c : UInt8) :
  Calls Tryz.prog 86 #[.pointer (some ⟨g,0,none⟩),.int .u8 (c.toNat : Int)] w fun e w' => e = .returned (errV (pNext p c).1) /\ ∃ lv' fv',Par w' base g lv' fv' (pNext p c).2 /\ PKh w w' g lv fv lv' fv' := by
 by_cases h10 : c = 10
 ·subst h10
  exact next_lf h hf hm hb
 ·refine (next_plain h hf c h10).mono ?_
  rintro e w' ⟨h1,lv',h2,h3⟩;exact ⟨h1,lv',fv,h2,h3⟩
/-! ### The decoder,as plain data -/
structure Dz where
 fn : Nat
 room : Nat
 left : Nat
 line : List UInt8
 ending : Bool
 tr : List (ByteArray × ByteArray)
 whole : Bool
 wrong : Nat
def fnSize : Nat := 159
def fnBody : Nat := 185
def fnTrl : Nat := 186
theorem fn_ne : fnSize ≠ fnBody /\ fnSize ≠ fnTrl /\ fnBody ≠ fnTrl := by decide
def fldF (s : ByteArray) : ByteArray × ByteArray := (k1 58 s,trimS (k2 58 s))
def dSized (d : Dz) (s : ByteArray) : Nat × Dz :=
 if numE 16 (k1 59 s).data.toList ≠ 0 ∨ (k2 59 s).data.toList.all valc = false then (100,d)
 else if d.room < numV 16 (k1 59 s).data.toList then (2,d)
 else (0,{ d with room := d.room - numV 16 (k1 59 s).data.toList,left := numV 16 (k1 59 s).data.toList,fn := if numV 16 (k1 59 s).data.toList = 0 then fnTrl else fnBody })
def dTrl (d : Dz) (s : ByteArray) : Nat × Dz :=
 if s.size = 0 then (0,{ d with whole := true })
 else if k3 58 s = false ∨ d.tr.length = 100 ∨ chkF (fldF s) ≠ 0 then (100,d)
 else (0,{ d with tr := d.tr ++ [fldF s] })
def dRead (d : Dz) (_ : ByteArray) : Nat × Dz := (0,{ d with fn := fnSize })
/-! ### The decoder in memory -/
def stV (fn g : Nat) : Value := .func (.func fn) #[.pointer (some ⟨g,0,none⟩)] #[]
def dcells (d : Dz) (g : Nat) (lv tv : Value) : Array Value :=
 #[stV d.fn g,.int .i64 (d.room : Int),.int .i64 (d.left : Int),lv,.bool d.ending,tv,.bool d.whole,.int .i64 (d.wrong : Int)]
structure Dec (w : World) (base g : Nat) (lv tv : Value) (d : Dz) : Prop where
 blk : w.heap[g]? = some (.cells (dcells d g lv tv) 236 (0,0))
 line : Row w base 5 lv (bc d.line)
 trs : FRow w base tv d.tr
 gb : base <= g
 gl : lv.ownBlock ≠ some g
 gf : tv.ownBlock ≠ some g
 lf : ∀ k,lv.ownBlock = some k -> tv.ownBlock ≠ some k
structure PK (w w' : World) (g : Nat) (lv fv lv' fv' : Value) : Prop where
 os : w'.os = w.os
 tape : w'.tape = w.tape
 output : w'.output = w.output
 size : w.heap.size <= w'.heap.size
 block : ∀ k,k < w.heap.size -> k ≠ g -> lv.ownBlock ≠ some k -> fv.ownBlock ≠ some k -> w'.heap[k]? = w.heap[k]?
 la : ∀ k,k < w.heap.size -> lv.ownBlock ≠ some k -> lv'.ownBlock ≠ some k
 fa : ∀ k,k < w.heap.size -> fv.ownBlock ≠ some k -> fv'.ownBlock ≠ some k
theorem PK.refl (w : World) (g : Nat) (lv fv : Value) : PK w w g lv fv lv fv := ⟨rfl,rfl,rfl,Nat.le_refl _,fun _ _ _ _ _ => rfl,fun _ _ h => h,fun _ _ h => h⟩
theorem PK.trans {a b c : World} {g : Nat} {l f l1 f1 l2 f2 : Value} (h : PK a b g l f l1 f1) (k : PK b c g l1 f1 l2 f2) : PK a c g l f l2 f2 :=
 ⟨k.os.trans h.os, k.tape.trans h.tape, k.output.trans h.output, Nat.le_trans h.size k.size,
  fun i hi h1 h2 h3 => (k.block i (Nat.lt_of_lt_of_le hi h.size) h1 (h.la i hi h2) (h.fa i hi h3)).trans (h.block i hi h1 h2 h3),
  fun i hi h2 => k.la i (Nat.lt_of_lt_of_le hi h.size) (h.la i hi h2),fun i hi h2 => k.fa i (Nat.lt_of_lt_of_le hi h.size) (h.fa i hi h2)⟩
theorem PK.of_below {w w' : World} (g : Nat) (lv fv : Value) (b : Below w.heap.size w w') : PK w w' g lv fv lv fv :=
 ⟨b.os,b.tape,b.output,b.size,fun k hk _ _ _ => b.block k hk,fun _ _ h => h,fun _ _ h => h⟩
theorem PK.set (w : World) (g i : Nat) (v lv fv : Value) : PK w (w.setCell ⟨g,i,none⟩ v) g lv fv lv fv :=
 ⟨rfl,rfl,rfl,by simp,fun k _ hk _ _ => Below.heap_setCell w ⟨g,i,none⟩ v k hk,fun _ _ h => h,fun _ _ h => h⟩
theorem Dec.lt {w : World} {base g : Nat} {lv fv : Value} {d : Dz} (h : Dec w base g lv fv d) : g < w.heap.size := lt_heap h.blk
theorem Dec.below {w w' : World} {base g : Nat} {lv fv : Value} {d : Dz} (h : Dec w base g lv fv d) (b : Below w.heap.size w w') : Dec w' base g lv fv d :=
 ⟨(b.block g h.lt).trans h.blk,h.line.below b,h.trs.below b,h.gb,h.gl,h.gf,h.lf⟩
theorem Dec.set {w : World} {base g : Nat} {lv fv : Value} {d : Dz} (h : Dec w base g lv fv d) (i : Nat) (v : Value) (d' : Dz) (hc : (dcells d g lv fv).setIfInBounds i v = dcells d' g lv fv) (hl : d'.line = d.line) (hf : d'.tr = d.tr) : Dec (w.setCell ⟨g,i,none⟩ v) base g lv fv d' := by
 refine ⟨by rw [<- hc];exact hp_set h.blk i v,?_,?_,h.gb,h.gl,h.gf,h.lf⟩
 ·rw [hl]
  exact h.line.frame fun k hk => Below.heap_setCell w ⟨g,i,none⟩ v k (fun e => h.gl (by rw [hk,e]))
 ·rw [hf]
  exact h.trs.frame fun k hk => Below.heap_setCell w ⟨g,i,none⟩ v k (fun e => h.gf (by rw [hk,e]))
theorem Dec.cell {w : World} {base g : Nat} {lv fv : Value} {d : Dz} (h : Dec w base g lv fv d) (i : Nat) : w.cell? ⟨g,i,none⟩ = (dcells d g lv fv)[i]? := cell_at h.blk i
theorem Dec.froz {w : World} {base g : Nat} {lv fv : Value} {d : Dz} (h : Dec w base g lv fv d) (i : Nat) : w.frozen? ⟨g,i,none⟩ = false := by rw [frozen_at h.blk];simp
theorem Dec.frame {w w' : World} {base g : Nat} {lv fv : Value} {d : Dz} (h : Dec w base g lv fv d) (hb : ∀ k,(k = g ∨ lv.ownBlock = some k ∨ fv.ownBlock = some k) -> w'.heap[k]? = w.heap[k]?) : Dec w' base g lv fv d :=
 ⟨(hb g (.inl rfl)).trans h.blk,h.line.frame fun k hk => hb k (.inr (.inl hk)),h.trs.frame fun k hk => hb k (.inr (.inr hk)),h.gb,h.gl,h.gf,h.lf⟩
/-! ### Rows that grow -/
theorem append_fld_k (W : World) (base : Nat) (ty : TypeId) (v : Value) (A : List (ByteArray × ByteArray)) (f : ByteArray × ByteArray) (hown : FRow W base v A) (hn : A.length <= 1099511627776) (hbase : base <= W.heap.size) :
  ∃ v' W',(Builtin.append_ #[43,43] ty #[v,.slice (some ⟨W.heap.size,0,none⟩) 1 1]).run Tryz.prog (W.alloc (.cells #[.string f.1,.string f.2] 48)) = .ok v' W' /\ FRow W' base v' (A ++ [f]) /\ Below base W W' /\ Kept W W' v v' := by
 obtain ⟨i,hi,hz,hs1,hb1⟩ := infoF;have ho : FRow (W.alloc (.cells #[.string f.1,.string f.2] 48)) base v A := hown.frame fun g hg => Below.heap_alloc W _ g (hown.lt hg).2
 have hsz : (W.alloc (.cells #[.string f.1,.string f.2] 48)).heap.size = W.heap.size + 1 := by show (W.heap.push _).size = _;simp
 obtain ⟨v',W',hr,h1,hg,_,hloc⟩ := run_append_own_at (w := W.alloc (.cells #[.string f.1,.string f.2] 48)) base 43 ty 48 i _ 2 32 Tryz.underlying43 hi hz hs1 hb1 rfl (by omega) v A.length (fcs A) ho ⟨W.heap.size,0,none⟩ 1 1 (fc f) rfl (two_cells W f) (by intro u hu;simp [fc] at hu;rcases hu with rfl | rfl <;> rfl) (by unfold maxLen;omega) (by omega) (by simp;omega);refine ⟨v',W',hr,?_,?_,?_⟩
 ·unfold FRow
  rw [List.length_append,fcs_snoc];exact h1
 ·exact ((Below.refl base W).alloc hbase _).grown hg (by simp;omega) (fun k hk => (hown.lt hk).1)
 ·have hs2 := hg.size
  refine ⟨by rw [hsz] at hs2;omega,fun g h2 h3 => ?_,fun g h2 h3 h4 => ?_⟩
  ·rw [hg.block g (by rw [hsz]; omega) (fun h => h3 h.symm)]
   exact Below.heap_alloc W _ g h2
  ·rcases hloc with h5 | h5
   ·exact h3 (h5.symm.trans h4)
   ·rw [h5, hsz] at h4
    simp only [Option.some.injEq] at h4;omega
theorem Dec.grow_f {w W : World} {base g : Nat} {lv fv v' : Value} {d : Dz} {fs : List (ByteArray × ByteArray)} (h : Dec w base g lv fv d) (hk : Kept w W fv v') (hR : FRow W base v' fs) :
  W.heap[g]? = some (.cells (dcells d g lv fv) 236 (0,0)) /\ Dec (W.setCell ⟨g,5,none⟩ v') base g lv v' { d with tr := fs } := by
 have hb : W.heap[g]? = some (.cells (dcells d g lv fv) 236 (0,0)) := (hk.block g h.lt h.gf).trans h.blk;have hg' : v'.ownBlock ≠ some g := hk.apart g h.lt h.gf;refine ⟨hb,⟨hp_set hb 5 v',?_,?_,h.gb,h.gl,hg',?_⟩⟩
 ·refine h.line.frame fun k e => ?_
  have hl := (h.line.lt e).2;rw [Below.heap_setCell W ⟨g,5,none⟩ v' k (fun e2 => h.gl (by rw [e,e2]))];exact hk.block k hl (h.lf k e)
 ·exact hR.frame fun k e => Below.heap_setCell W ⟨g,5,none⟩ v' k (fun e2 => hg' (by rw [e,e2]))
 ·intro k e
  exact hk.apart k (h.line.lt e).2 (h.lf k e)
theorem Dec.app_f {w : World} {base g : Nat} {lv fv : Value} {d : Dz} (h : Dec w base g lv fv d) (ty : TypeId) (f : ByteArray × ByteArray) (hn : d.tr.length <= 100) :
  ∃ ad n c W', (Builtin.append_ #[43, 43] ty #[fv, .slice (some ⟨w.heap.size, 0, none⟩) 1 1]).run Tryz.prog (w.alloc (.cells #[.string f.1, .string f.2] 48)) = .ok (.slice ad n c) W' /\
   W'.cell? ⟨g,5,none⟩ = some fv /\ W'.frozen? ⟨g,5,none⟩ = false /\ Dec (W'.setCell ⟨g,5,none⟩ (.slice ad n c)) base g lv (.slice ad n c) { d with tr := d.tr ++ [f] } /\ PK w (W'.setCell ⟨g,5,none⟩ (.slice ad n c)) g lv fv lv (.slice ad n c) := by
 obtain ⟨v',W',hr,hR,hB,hK⟩ := append_fld_k w base ty fv d.tr f h.trs (by omega) (Nat.le_of_lt (Nat.lt_of_le_of_lt h.gb h.lt));obtain ⟨ad,c,rfl,_,_⟩ := hR.shape;obtain ⟨hb,hP⟩ := h.grow_f hK hR;refine ⟨ad,_,c,W',hr,cell_at hb 5,by rw [frozen_at hb];simp,hP,?_⟩;have hs := PK.set W' g 5 (.slice ad (d.tr ++ [f]).length c) lv fv;exact ⟨hs.os.trans hB.os,hs.tape.trans hB.tape,hs.output.trans hB.output,Nat.le_trans hK.size hs.size,fun k hk h1 h2 h3 => (Below.heap_setCell W' ⟨g,5,none⟩ _ k h1).trans (hK.block k hk h3),fun _ _ e => e,fun k hk e => hK.apart k hk e⟩
theorem Dec.grow_l {w W : World} {base g : Nat} {lv fv v' : Value} {d : Dz} {l : List UInt8} (h : Dec w base g lv fv d) (hk : Kept w W lv v') (hR : Row W base 5 v' (bc l)) :
  W.heap[g]? = some (.cells (dcells d g lv fv) 236 (0,0)) /\ Dec (W.setCell ⟨g,3,none⟩ v') base g v' fv { d with line := l } := by
 have hb : W.heap[g]? = some (.cells (dcells d g lv fv) 236 (0,0)) := (hk.block g h.lt h.gl).trans h.blk;have hg' : v'.ownBlock ≠ some g := hk.apart g h.lt h.gl;have hfl : ∀ k,fv.ownBlock = some k -> lv.ownBlock ≠ some k := fun k e e2 => h.lf k e2 e
 refine ⟨hb,⟨hp_set hb 3 v',?_,?_,h.gb,hg',h.gf,?_⟩⟩
 ·exact hR.frame fun k e => Below.heap_setCell W ⟨g,3,none⟩ v' k (fun e2 => hg' (by rw [e,e2]))
 ·refine h.trs.frame fun k e => ?_
  have hl := (h.trs.lt e).2;rw [Below.heap_setCell W ⟨g,3,none⟩ v' k (fun e2 => h.gf (by rw [e,e2]))];exact hk.block k hl (hfl k e)
 ·intro k e e2
  exact hk.apart k (h.trs.lt e2).2 (hfl k e2) e
theorem Dec.app_l {w : World} {base g : Nat} {lv fv : Value} {d : Dz} (h : Dec w base g lv fv d) (ty : TypeId) (x : UInt8) (hn : d.line.length <= 65536) :
  ∃ ad n c W', (Builtin.append_ #[31, 31] ty #[lv, .slice (some ⟨w.heap.size, 0, none⟩) 1 1]).run Tryz.prog (w.alloc (.cells #[.int .u8 (x.toNat : Int)] 5)) = .ok (.slice ad n c) W' /\
   W'.cell? ⟨g,3,none⟩ = some lv /\ W'.frozen? ⟨g,3,none⟩ = false /\ Dec (W'.setCell ⟨g,3,none⟩ (.slice ad n c)) base g (.slice ad n c) fv { d with line := d.line ++ [x] } /\ PK w (W'.setCell ⟨g,3,none⟩ (.slice ad n c)) g lv fv (.slice ad n c) fv := by
 have hlen : (bc d.line).length = d.line.length := by simp [bc]
 obtain ⟨v',W',hr,hR,hB,hK⟩ := append_one_k elB w base ty lv (bc d.line) (.int .u8 (x.toNat : Int)) h.line rfl (by rw [hlen];omega) (by rw [hlen];omega) (Nat.le_of_lt (Nat.lt_of_le_of_lt h.gb h.lt));rw [show bc d.line ++ [.int .u8 (x.toNat : Int)] = bc (d.line ++ [x]) by simp [bc]] at hR;obtain ⟨ad,c,rfl,_,_⟩ := hR.shape;obtain ⟨hb,hP⟩ := h.grow_l hK hR;refine ⟨ad,_,c,W',hr,cell_at hb 3,by rw [frozen_at hb];simp,hP,?_⟩;have hs := PK.set W' g 3 (.slice ad (bc (d.line ++ [x])).length c) lv fv;exact ⟨hs.os.trans hB.os,hs.tape.trans hB.tape,hs.output.trans hB.output,Nat.le_trans hK.size hs.size,fun k hk h1 h2 h3 => (Below.heap_setCell W' ⟨g,3,none⟩ _ k h1).trans (hK.block k hk h2),fun k hk e => hK.apart k hk e,fun _ _ e => e⟩
theorem Row.cut0 {W : World} {base : Nat} {e : TypeId} {a : Option Addr} {n c : Nat} {xs : List Value} (h : Row W base e (.slice a n c) xs) : Row W base e (.slice a 0 c) [] := by
 refine ⟨rfl,?_⟩;rcases h.2 with ⟨h1,h0⟩ | ⟨g,cap,cur,hv,h1,hg,hc,hmx,hs,ht⟩
 ·simp only [Value.slice.injEq] at h1
  obtain ⟨rfl,rfl,rfl⟩ := h1;exact .inl ⟨rfl,rfl⟩
 ·simp only [Value.slice.injEq] at hv
  obtain ⟨rfl,rfl,rfl⟩ := hv;exact .inr ⟨g,_,cur,rfl,h1,hg,Nat.zero_le _,hmx,hs,by simp⟩
/-! ### What lines make of it -/
theorem flds_one (w : World) (a b : ByteArray) : Flds (w.alloc (.cells #[.string a,.string b] 48)) (.slice (some ⟨w.heap.size,0,none⟩) 1 1) [(a,b)] := by
 refine ⟨some ⟨w.heap.size,0,none⟩,1,rfl,⟨Nat.le_refl _,by simp⟩,fun j hj => ?_⟩;have hj0 : j = 0 := by simp at hj;exact hj
 subst hj0;exact ⟨w.heap.size,0,rfl,by show _ < (w.heap.push _).size;simp,cell_at (hp_new w _) 0,cell_at (hp_new w _) 1⟩
theorem chk_one (f : ByteArray × ByteArray) : chkL [f] = chkF f := by
 unfold chkL chkA;by_cases h : chkF f = 0
 ·simp [h]
 ·simp [h]
theorem ext_any (s : ByteArray) (w : World) (hs : s.size <= 281474976710656) :
  Calls Tryz.prog 184 #[.string s] w fun e w' => e = .returned (.bool (s.data.toList.all valc)) /\ Below w.heap.size w w' := by
 have HT := hide (trim_any s w hs);have HV := hide (fun W => value_any (trimS s) W (by have := trim_size s;unfold maxLen;omega))
 have e1 : valueB (trimS s).data.toList = s.data.toList.all valc := by
  rw [<- rsn_eq,show (trimS s).data.toList = trimB s.data.toList by simp [trimS]]
 rw [e1] at HV;clear e1;generalize s.data.toList.all valc = r at HV |-
 generalize trimS s = t at HT HV;go_enter Tryz.func184,Tryz.ntmps184
 go_wp2_with fail
 refine HT.out.mono ?_;rintro e w1 ⟨rfl,b1⟩;go_wp2_with fail
 refine (HV.out _).mono ?_;rintro e w2 ⟨rfl,b2⟩;go_wp2
 go_ret
 exact ⟨rfl,by first | exact b1.trans (b2.mono b1.size) | (subst b2;exact b1)⟩
theorem chunkRead_any {w : World} {base g : Nat} {lv fv : Value} {d : Dz} (h : Dec w base g lv fv d) (s : ByteArray) :
  Calls Tryz.prog 191 #[.pointer (some ⟨g,0,none⟩),.string s] w fun e w' => e = .returned (.int .i64 ((dRead d s).1 : Int)) /\ ∃ fv',Dec w' base g lv fv' (dRead d s).2 /\ PK w w' g lv fv lv fv' := by
 have HP := hide h;have c0 := h.cell 0;have f0 := h.froz 0;clear h;go_enter Tryz.func191,Tryz.ntmps191
 go_wp2_with fail
 go_ret
 exact ⟨rfl,_,HP.out.set 0 (stV fnSize g) { d with fn := fnSize } rfl rfl rfl,PK.set _ _ _ _ _ _⟩
theorem sized_any {w : World} {base g : Nat} {lv fv : Value} {d : Dz} (h : Dec w base g lv fv d) (hm : MX w) (s : ByteArray) (hs : s.size <= 8192) (hr : d.room <= 9007199254740992) :
  Calls Tryz.prog 174 #[.pointer (some ⟨g,0,none⟩),.string s] w fun e w' => e = .returned (.int .i64 ((dSized d s).1 : Int)) /\ ∃ fv',Dec w' base g lv fv' (dSized d s).2 /\ PK w w' g lv fv lv fv' := by
 have HP := hide h;have HC := hide (pcut_any s 59 w (by omega) hm);have z1 : (k1 59 s).size <= 8192 := by have := k1_size 59 s;omega
 have z2 : (k2 59 s).size <= 8192 := by have := k2_size 59 s;omega
 have HH := hide (fun W => Hex_any (k1 59 s) W (by unfold maxLen;omega));have HX := hide (fun W => ext_any (k2 59 s) W (by omega))
 have hnt : numV 16 (k1 59 s).data.toList <= 9007199254740992 := by
  unfold numV;split
  ·omega
  ·rename_i hh
   rw [not_or,not_or] at hh;have := hh.2.2;unfold top at this;omega
 clear h hm;generalize hR0 : dSized d s = R;unfold dSized at hR0;generalize numV 16 (k1 59 s).data.toList = n at HH hR0 hnt;generalize numE 16 (k1 59 s).data.toList = ne at HH hR0;generalize (k2 59 s).data.toList.all valc = ex at HX hR0;generalize k1 59 s = na at HC HH z1;generalize k2 59 s = tx at HC HX z2;generalize k3 59 s = o1 at HC;have HR := hide hR0;clear hR0;go_enter Tryz.func174,Tryz.ntmps174
 go_upto_region 3 with (first | (go_at_call 53;refine HC.out.mono ?_;rintro e w1 ⟨rfl,b1⟩) | (go_at_call 183;refine (HH.out _).mono ?_;rintro e w' ⟨rfl,rfl⟩))
 have HP1 := hide (HP.out.below b1);have HK1 := hide (PK.of_below g lv fv b1);clear b1 HP;by_cases h1 : ne = 0
 ·have t1 : ((ne : Int) != 0) = false := by rw [bne_eq_false_iff_eq]; omega
  cases ex with
  | false =>
   have e := HR.out;rw [if_pos (.inr rfl)] at e;have HE := hide e;clear e HR h1;go_wp2_with (go_at_call 184;refine (HX.out _).mono ?_;rintro e w2 ⟨rfl,b2⟩)
   go_ret
   exact ⟨by rw [<- HE.out];rfl,_,by rw [<- HE.out];exact HP1.out.below b2,HK1.out.trans (PK.of_below _ _ _ b2)⟩
  | true =>
   have e := HR.out;rw [if_neg (by simp [h1])] at e;have HE := hide e;clear e HR h1;go_upto_region 5 with (go_at_call 184;refine (HX.out _).mono ?_;rintro e w2 ⟨rfl,b2⟩)
   have HP2 := hide (HP1.out.below b2);have HK2 := hide (HK1.out.trans (PK.of_below g lv fv b2));clear b2 HP1 HK1;have c1 := HP2.out.cell 1;rw [show (dcells d g lv fv)[1]? = some (.int .i64 (d.room : Int)) from rfl] at c1;by_cases h2 : d.room < n
   ·have t2 : (d.room : Int) < (n : Int) := by omega
    have e := HE.out;rw [if_pos h2] at e;have HF := hide e;clear e HE h2;go_wp2_with fail
    go_ret
    exact ⟨by rw [<- HF.out];rfl,_,by rw [<- HF.out];exact HP2.out,HK2.out⟩
   ·have t2 : ¬ (d.room : Int) < (n : Int) := by omega
    have e := HE.out;rw [if_neg h2] at e;have HF := hide e;have f1 := HP2.out.froz 1;have i1 : (d.room : Int) - (n : Int) = ((d.room - n : Nat) : Int) := by omega
    have i2 : ((d.room - n : Nat) : Int) <= 9007199254740992 := by omega
    clear e HE;go_upto_region 8 with fail
    have HP3 := hide (HP2.out.set 1 (.int .i64 ((d.room - n : Nat) : Int)) { d with room := d.room - n } rfl rfl rfl);have HK3 := hide (HK2.out.trans (PK.set w2 g 1 (.int .i64 ((d.room - n : Nat) : Int)) lv fv));clear c1 f1 i1 t2 h2;generalize w2.setCell ⟨g,1,none⟩ (.int .i64 ((d.room - n : Nat) : Int)) = w3 at HP3 HK3 |-
    have c2 := HP3.out.cell 2;have f2 := HP3.out.froz 2;go_upto_region 9 with fail
    have HP4 := hide (HP3.out.set 2 (.int .i64 (n : Int)) { d with room := d.room - n,left := n } rfl rfl rfl);have HK4 := hide (HK3.out.trans (PK.set w3 g 2 (.int .i64 (n : Int)) lv fv));clear c2 f2;generalize w3.setCell ⟨g,2,none⟩ (.int .i64 (n : Int)) = w4 at HP4 HK4 |-
    have c0 := HP4.out.cell 0;have f0 := HP4.out.froz 0;go_upto_region 10 with fail
    have HP5 := hide (HP4.out.set 0 (stV fnBody g) { d with room := d.room - n,left := n,fn := fnBody } rfl rfl rfl);have HK5 := hide (HK4.out.trans (PK.set w4 g 0 (stV fnBody g) lv fv));clear c0 f0;have e5 : w4.setCell ⟨g,0,none⟩ (.func (.func 185) #[.pointer (some ⟨g,0,none⟩)] #[]) = w4.setCell ⟨g,0,none⟩ (stV fnBody g) := rfl;rw [e5];clear e5;generalize w4.setCell ⟨g,0,none⟩ (stV fnBody g) = w5 at HP5 HK5 |-
    by_cases h3 : n = 0
    ·have t3 : ((n : Int) == 0) = true := by rw [h3]; rfl
     have c0 := HP5.out.cell 0;have f0 := HP5.out.froz 0;have e := HF.out;rw [if_pos h3] at e;have HG := hide e;clear e HF h3;go_wp2_with fail
     go_ret
     exact ⟨by rw [<- HG.out];rfl,_,by rw [<- HG.out];exact HP5.out.set 0 (stV fnTrl g) _ rfl rfl rfl,HK5.out.trans (PK.set _ _ _ _ _ _)⟩
    ·have t3 : ((n : Int) == 0) = false := by rw [beq_eq_false_iff_ne]; omega
     have e := HF.out;rw [if_neg h3] at e;have HG := hide e;clear e HF h3;go_wp2_with fail
     go_ret
     exact ⟨by rw [<- HG.out];rfl,_,by rw [<- HG.out];exact HP5.out,HK5.out⟩
 ·have t1 : ((ne : Int) != 0) = true := by rw [bne_iff_ne]; omega
  have e := HR.out;rw [if_pos (.inl h1)] at e;have HE := hide e;clear e HR h1;go_wp2_with fail
  go_ret
  exact ⟨by rw [<- HE.out];rfl,_,by rw [<- HE.out];exact HP1.out,HK1.out⟩
theorem emp_t {s : ByteArray} (h : s.size = 0) : s.toList.isEmpty = true := by rw [Lib.toList_data,isEmpty_size];exact decide_eq_true h
theorem emp_f {s : ByteArray} (h : s.size ≠ 0) : s.toList.isEmpty = false := by rw [Lib.toList_data,isEmpty_size];exact decide_eq_false h
theorem trailer_any {w : World} {base g : Nat} {lv fv : Value} {d : Dz} (h : Dec w base g lv fv d) (hm : MX w) (s : ByteArray) (hs : s.size <= 8192) (hl : d.tr.length <= 100) :
  Calls Tryz.prog 192 #[.pointer (some ⟨g,0,none⟩),.string s] w fun e w' => e = .returned (.int .i64 ((dTrl d s).1 : Int)) /\ ∃ fv',Dec w' base g lv fv' (dTrl d s).2 /\ PK w w' g lv fv lv fv' := by
 obtain ⟨fa,fc,rfl,_,_⟩ := h.trs.shape;have HP := hide h;have HM := hide hm;clear h hm;unfold dTrl;by_cases h0 : s.size = 0
 ·have t0 := emp_t h0
  rw [if_pos h0];clear h0;have c6 := HP.out.cell 6;have f6 := HP.out.froz 6;go_enter Tryz.func192,Tryz.ntmps192
  go_wp2_with fail
  go_ret
  exact ⟨rfl,_,HP.out.set 6 (.bool true) { d with whole := true } rfl rfl rfl,PK.set _ _ _ _ _ _⟩
 ·rw [if_neg h0]
  have t0 := emp_f h0;clear h0;have HC := hide (pcut_any s 58 w (by omega) HM.out);have z1 : (k1 58 s).size <= 8192 := by have := k1_size 58 s;omega
  have z2 : (k2 58 s).size <= 8192 := by have := k2_size 58 s;omega
  have HCL := hide (fun W => clone_any (k1 58 s) W (by omega));have HT := hide (fun W => trim_any (k2 58 s) W (by omega));have z3 : (trimS (k2 58 s)).size <= 8192 := by have := trim_size (k2 58 s);omega
  have HK := hide (fun (W : World) (v : Value) (hF : Flds W v [(k1 58 s,trimS (k2 58 s))]) => Check_any W v _ hF ⟨by simp,fun f hf => by
   rw [List.mem_singleton.1 hf];exact ⟨Nat.le_trans z1 (by omega),Nat.le_trans z3 (by omega)⟩⟩)
  simp only [chk_one] at HK;unfold fldF;generalize trimS (k2 58 s) = va at HT HK z3 |-
  generalize k1 58 s = na at HC HCL HK z1 |-
  generalize k2 58 s = tx at HC HT z2;generalize k3 58 s = o1 at HC |-
  generalize chkF (na,va) = ck at HK |-
  generalize hR0 : (if o1 = false ∨ d.tr.length = 100 ∨ ck ≠ 0 then ((100 : Nat),d) else (0,{ d with tr := d.tr ++ [(na,va)] })) = R;have HX := hide hR0;clear hR0;go_enter Tryz.func192,Tryz.ntmps192
  go_upto_region 5 with (go_at_call 53;refine HC.out.mono ?_;rintro e w1 ⟨rfl,b1⟩)
  have HP1 := hide (HP.out.below b1);have HK1 := hide (PK.of_below g lv (.slice fa d.tr.length fc) b1);clear b1 HP;go_wp2_with fail
  refine (HCL.out w1).mono ?_;rintro e w2 ⟨rfl,b2⟩;have HP2 := hide (HP1.out.below b2);have HK2 := hide (HK1.out.trans (PK.of_below g lv (.slice fa d.tr.length fc) b2));clear b2 HP1 HK1;go_wp2_with fail
  refine (HT.out w2).mono ?_;rintro e w3 ⟨rfl,b3⟩;have HP3 := hide (HP2.out.below b3);have HK3 := hide (HK2.out.trans (PK.of_below g lv (.slice fa d.tr.length fc) b3));clear b3 HP2 HK2;go_upto_region 6 with fail
  have HB4 := hide ((Below.refl w3.heap.size w3).alloc (Nat.le_refl _) (.cells #[.string na,.string va] 48));have HD := hide (hp_new w3 (.cells #[.string na,.string va] 48));have HP4 := hide (HP3.out.below HB4.out);have HK4 := hide (HK3.out.trans (PK.of_below g lv (.slice fa d.tr.length fc) HB4.out));clear HB4 HP3 HK3;generalize w3.alloc (.cells #[.string na,.string va] 48) = x at HD HP4 HK4 |-
  generalize w3.heap.size = bf at HD |-
  have c5 := HP4.out.cell 5;rw [show (dcells d g lv (.slice fa d.tr.length fc))[5]? = some (.slice fa d.tr.length fc) from rfl] at c5;have d0 : x.cell? ⟨bf,0,none⟩ = some (.string na) := cell_at HD.out 0;have d1 : x.cell? ⟨bf,1,none⟩ = some (.string va) := cell_at HD.out 1;cases o1 with
  | false =>
   go_wp2_with fail
   go_ret
   exact ⟨by rw [<- HX.out];rfl,_,by rw [<- HX.out];exact HP4.out,HK4.out⟩
  | true =>
   by_cases h4 : d.tr.length = 100
   ·have t4 : ((d.tr.length : Int) == 100) = true := by simp [h4]
    have HX4 : Hid ((100,d) = R) := by (have e := HX.out;rw [if_pos (.inr (.inl h4))] at e;exact hide e)
    clear h4;go_wp2_with fail
    go_ret
    exact ⟨by rw [<- HX4.out];rfl,_,by rw [<- HX4.out];exact HP4.out,HK4.out⟩
   ·have t4 : ((d.tr.length : Int) == 100) = false := by simp; omega
    have HCK := hide (HK.out _ _ (flds_one x na va));have HBX := hide ((Below.refl x.heap.size x).alloc (Nat.le_refl _) (.cells #[.string na,.string va] 48));by_cases h3 : ck = 0
    ·have HX4 : Hid ((0, { d with tr := d.tr ++ [(na, va)] }) = R) := by (have e := HX.out; rw [if_neg (by simp [h3, h4])] at e; exact hide e)
     subst h3;clear h4 HX;go_wp2_with fail
     refine HCK.out.mono ?_;rintro e w5 ⟨rfl,b5⟩;have HB5 := hide (HBX.out.trans (b5.mono HBX.out.size));have HD5 := hide ((HB5.out.block _ (lt_heap HD.out)).trans HD.out);have HP5 := hide (HP4.out.below HB5.out);have HK5 := hide (HK4.out.trans (PK.of_below g lv (.slice fa d.tr.length fc) HB5.out));clear b5 HB5 HBX d0 d1 HCK HD c5;go_upto_region 8 with fail
     have c5 := HP5.out.cell 5;have f5 := HP5.out.froz 5;rw [show (dcells d g lv (.slice fa d.tr.length fc))[5]? = some (.slice fa d.tr.length fc) from rfl] at c5;have d0 : w5.cell? ⟨bf,0,none⟩ = some (.string na) := cell_at HD5.out 0;have d1 : w5.cell? ⟨bf,1,none⟩ = some (.string va) := cell_at HD5.out 1;have BD := hide ((Below.refl w5.heap.size w5).drew);have HK6 := hide (HK5.out.trans (PK.of_below g lv (.slice fa d.tr.length fc) BD.out));obtain ⟨ad,n,c,W,hrun,q1,q2,hP,hK⟩ := (HP5.out.below BD.out).app_f 43 (na,va) hl;have cA := ((HP5.out.below ((Below.refl w5.heap.size w5).alloc (Nat.le_refl _) (.cells #[.string na,.string va] 48))).cell 5);rw [show (dcells d g lv (.slice fa d.tr.length fc))[5]? = some (.slice fa d.tr.length fc) from rfl] at cA;have HPW := hide hP;have HKW := hide (HK6.out.trans hK);clear hP hK;go_region_law (refine step_append_is rfl (.tmp 45) (.tmp 47) 43 rfl (.slice fa d.tr.length fc) (.slice (some ⟨w5.heap.size,0,none⟩) 1 1) (.slice ad n c) (by simp [Act.eval]) (by simp [Act.eval]) hrun ?_)
     all_goals (go_wp2_with fail)
     all_goals go_ret
     all_goals exact ⟨by rw [<- HX4.out];rfl,_,by rw [<- HX4.out];exact HPW.out,HKW.out⟩
    ·have t3 : ((ck : Int) != 0) = true := by rw [bne_iff_ne]; omega
     have HX3 : Hid ((100,d) = R) := by (have e := HX.out;rw [if_pos (.inr (.inr h3))] at e;exact hide e)
     clear h3 HX h4;go_wp2_with fail
     refine HCK.out.mono ?_;rintro e w5 ⟨rfl,b5⟩;have HB5 := hide (HBX.out.trans (b5.mono HBX.out.size));clear b5;go_wp2_with fail
     go_ret
     exact ⟨by rw [<- HX3.out];rfl,_,by rw [<- HX3.out];exact HP4.out.below HB5.out,HK4.out.trans (PK.of_below _ _ _ HB5.out)⟩
def Bs (w : World) (base : Nat) (v : Value) (l : List UInt8) : Prop := ∃ (a : Option Addr) (c : Nat),v = .slice a l.length c /\ l.length <= c /\ ∀ j (h : j < l.length),∃ g o,a = some ⟨g,o,none⟩ /\ g < base /\ g < w.heap.size /\ w.cell? ⟨g,o + j,none⟩ = some (.int .u8 (l[j].toNat : Int))
theorem Bs.below {w w' : World} {base base' : Nat} {v : Value} {l : List UInt8} (h : Bs w base v l) (hb : base <= base') (b : Below w.heap.size w w') : Bs w' base' v l := by
 obtain ⟨a,c,rfl,hc,hx⟩ := h;refine ⟨a,c,rfl,hc,fun j hj => ?_⟩;obtain ⟨g,o,h1,h2,h3,h4⟩ := hx j hj;exact ⟨g,o,h1,Nat.lt_of_lt_of_le h2 hb,Nat.lt_of_lt_of_le h3 b.size,(b.cell (p := ⟨g,o + j,none⟩) h3).trans h4⟩
def Shp (v : Value) : Prop := v = .slice none 0 0 ∨ ∃ a n c,v = .slice (some a) n c
def Bf (w : World) (A : Nat -> Prop) (v : Value) (l : List UInt8) : Prop := ∃ (a : Option Addr) (c : Nat),v = .slice a l.length c /\ l.length <= c /\ ∀ j (h : j < l.length),∃ g o,a = some ⟨g,o,none⟩ /\ A g /\ g < w.heap.size /\ w.cell? ⟨g,o + j,none⟩ = some (.int .u8 (l[j].toNat : Int))
theorem Bf.below {w w' : World} {A : Nat -> Prop} {v : Value} {l : List UInt8} (h : Bf w A v l) (b : Below w.heap.size w w') : Bf w' A v l := by
 obtain ⟨a,c,rfl,hc,hx⟩ := h;refine ⟨a,c,rfl,hc,fun j hj => ?_⟩;obtain ⟨g,o,h1,h2,h3,h4⟩ := hx j hj;exact ⟨g,o,h1,h2,Nat.lt_of_lt_of_le h3 b.size,(b.cell (p := ⟨g,o + j,none⟩) h3).trans h4⟩
theorem Bf.keep {w w' : World} {A : Nat -> Prop} {v : Value} {l : List UInt8} (h : Bf w A v l) (hs : w.heap.size <= w'.heap.size) (b : ∀ k,A k -> k < w.heap.size -> w'.heap[k]? = w.heap[k]?) : Bf w' A v l := by
 obtain ⟨a,c,rfl,hc,hx⟩ := h;refine ⟨a,c,rfl,hc,fun j hj => ?_⟩;obtain ⟨g,o,h1,h2,h3,h4⟩ := hx j hj;refine ⟨g,o,h1,h2,Nat.lt_of_lt_of_le h3 hs,?_⟩;rw [<- h4];unfold World.cell?;rw [show (⟨g,o + j,none⟩ : Addr).block = g from rfl,b g h2 h3]
theorem Bf.bs {w : World} {A : Nat -> Prop} {v : Value} {l : List UInt8} (h : Bf w A v l) : Bs w w.heap.size v l := by
 obtain ⟨a,c,rfl,hc,hx⟩ := h;refine ⟨a,c,rfl,hc,fun j hj => ?_⟩;obtain ⟨g,o,h1,h2,h3,h4⟩ := hx j hj;exact ⟨g,o,h1,h3,h3,h4⟩
structure Pce (w : World) (base : Nat) (A : Nat -> Prop) (h : Nat) (rv bv : Value) (rest body : List UInt8) : Prop where
 blk : w.heap[h]? = some (.cells #[rv,bv] 257 (0,0))
 rest : Bf w A rv rest
 shp : Shp rv
 body : Row w base 5 bv (bc body)
 hb : base <= h
 bh : bv.ownBlock ≠ some h
 hA : ¬ A h
 bA : ∀ k,bv.ownBlock = some k -> ¬ A k
 AL : ∀ k,A k -> k < w.heap.size
theorem Pce.lt {w : World} {base h : Nat} {A : Nat -> Prop} {rv bv : Value} {rest body : List UInt8} (p : Pce w base A h rv bv rest body) : h < w.heap.size := lt_heap p.blk
theorem Pce.cell {w : World} {base h : Nat} {A : Nat -> Prop} {rv bv : Value} {rest body : List UInt8} (p : Pce w base A h rv bv rest body) (i : Nat) : w.cell? ⟨h,i,none⟩ = (#[rv,bv] : Array Value)[i]? := cell_at p.blk i
theorem Pce.froz {w : World} {base h : Nat} {A : Nat -> Prop} {rv bv : Value} {rest body : List UInt8} (p : Pce w base A h rv bv rest body) (i : Nat) : w.frozen? ⟨h,i,none⟩ = false := by rw [frozen_at p.blk];simp
theorem Pce.below {w w' : World} {base h : Nat} {A : Nat -> Prop} {rv bv : Value} {rest body : List UInt8} (p : Pce w base A h rv bv rest body) (b : Below w.heap.size w w') : Pce w' base A h rv bv rest body :=
 ⟨(b.block h p.lt).trans p.blk,p.rest.below b,p.shp,p.body.below b,p.hb,p.bh,p.hA,p.bA,fun k hk => Nat.lt_of_lt_of_le (p.AL k hk) b.size⟩
theorem Pce.turn {w : World} {base h : Nat} {A : Nat -> Prop} {rv bv : Value} {rest body : List UInt8} (p : Pce w base A h rv bv rest body) {rv' : Value} {rest' : List UInt8} (hr : Bf w A rv' rest') (hs : Shp rv') : Pce (w.setCell ⟨h,0,none⟩ rv') base A h rv' bv rest' body := by
 refine ⟨hp_set p.blk 0 rv',hr.keep (by simp) (fun k hk _ => Below.heap_setCell w ⟨h,0,none⟩ rv' k (fun e => p.hA (by rw [<- show k = h from e];exact hk))),hs,?_,p.hb,p.bh,p.hA,p.bA,fun k hk => by simpa using p.AL k hk⟩;exact p.body.frame fun k hk => Below.heap_setCell w ⟨h,0,none⟩ rv' k (fun e => p.bh (by rw [hk,e]))
structure QK (w w' : World) (h : Nat) (bv bv' : Value) : Prop where
 os : w'.os = w.os
 tape : w'.tape = w.tape
 output : w'.output = w.output
 size : w.heap.size <= w'.heap.size
 block : ∀ k,k < w.heap.size -> k ≠ h -> bv.ownBlock ≠ some k -> w'.heap[k]? = w.heap[k]?
 ba : ∀ k,k < w.heap.size -> bv.ownBlock ≠ some k -> bv'.ownBlock ≠ some k
theorem QK.trans {a b c : World} {h : Nat} {u v x : Value} (p : QK a b h u v) (q : QK b c h v x) : QK a c h u x :=
 ⟨q.os.trans p.os,q.tape.trans p.tape,q.output.trans p.output,Nat.le_trans p.size q.size,fun k hk h1 h2 => (q.block k (Nat.lt_of_lt_of_le hk p.size) h1 (p.ba k hk h2)).trans (p.block k hk h1 h2),fun k hk h2 => q.ba k (Nat.lt_of_lt_of_le hk p.size) (p.ba k hk h2)⟩
theorem QK.set (w : World) (h i : Nat) (v bv : Value) : QK w (w.setCell ⟨h,i,none⟩ v) h bv bv :=
 ⟨rfl,rfl,rfl,by simp,fun k _ hk _ => Below.heap_setCell w ⟨h,i,none⟩ v k hk,fun _ _ h => h⟩
theorem QK.of_below {w w' : World} (h : Nat) (bv : Value) (b : Below w.heap.size w w') : QK w w' h bv bv :=
 ⟨b.os,b.tape,b.output,b.size,fun k hk _ _ => b.block k hk,fun _ _ h => h⟩
theorem Bf.tail {w : World} {A : Nat -> Prop} {g o : Nat} {c : Nat} {x : UInt8} {l : List UInt8} (h : Bf w A (.slice (some ⟨g,o,none⟩) (l.length + 1) c) (x :: l)) : Bf w A (.slice (some ⟨g,o + 1,none⟩) l.length (c - 1)) l := by
 obtain ⟨a,c',he,hc,hx⟩ := h;simp only [Value.slice.injEq,List.length_cons] at he hc;obtain ⟨rfl,_,rfl⟩ := he;refine ⟨_,c - 1,rfl,by omega,fun j hj => ?_⟩;obtain ⟨g',o',h1,h2,h3,h4⟩ := hx (j + 1) (by simp;omega);simp only [Option.some.injEq,Addr.mk.injEq] at h1;obtain ⟨rfl,rfl,_⟩ := h1;refine ⟨g,o + 1,rfl,h2,h3,?_⟩;rw [show o + 1 + j = o + (j + 1) by omega,h4];simp
theorem next_any {w : World} {base h : Nat} {A : Nat -> Prop} {rv bv : Value} {x : UInt8} {rest body : List UInt8} (p : Pce w base A h rv bv (x :: rest) body) (hl : rest.length <= 140737488355328) :
  Calls Tryz.prog 182 #[.pointer (some ⟨h,0,none⟩)] w fun e w' => e = .returned (.int .u8 (x.toNat : Int)) /\ ∃ rv',Pce w' base A h rv' bv rest body /\ QK w w' h bv bv := by
 have HP := hide p;obtain ⟨a,c,rfl,hc,hx⟩ := p.rest;obtain ⟨g,o,rfl,hg1,hg2,hx0⟩ := hx 0 (by simp);have HR := hide p.rest;simp only [List.length_cons] at hc;have hlen : (x :: rest).length = rest.length + 1 := rfl;rw [hlen] at HP HR;have c0 : w.cell? ⟨h,0,none⟩ = some (.slice (some ⟨g,o,none⟩) (rest.length + 1) c) := HP.out.cell 0;have f0 := HP.out.froz 0;have r0 : w.cell? ⟨g,o,none⟩ = some (.int .u8 (x.toNat : Int)) := hx0;clear p hx hx0 hlen;by_cases h1 : c = 1
 ·subst h1
  have hr0 : rest = [] := List.eq_nil_of_length_eq_zero (by omega);subst hr0;go_enter Tryz.func182,Tryz.ntmps182
  go_wp2
  go_ret
  exact ⟨rfl,_,HP.out.turn ⟨_,0,rfl,Nat.le_refl _,fun j hj => by simp at hj⟩ (.inr ⟨_,_,_,rfl⟩),QK.set _ _ _ _ _⟩
 ·go_enter Tryz.func182, Tryz.ntmps182
  go_wp2
  go_ret
  exact ⟨rfl,_,HP.out.turn HR.out.tail (.inr ⟨_,_,_,rfl⟩),QK.set _ _ _ _ _⟩
structure Ok (p q : Pz) : Prop where
 fn : q.fn = p.fn ∨ q.fn = fnFld
 most : q.most = p.most
 read : q.read = p.read
 line : q.line = p.line
 passed : q.passed = p.passed ∨ q.passed <= 4
 fs : q.fs = p.fs ∨ q.fs.length <= 100
 wrong : q.wrong = p.wrong
theorem Ok.refl (p : Pz) : Ok p p := ⟨.inl rfl,rfl,rfl,rfl,.inl rfl,.inl rfl,rfl⟩
theorem ok_begun (p : Pz) (v : ByteArray) : Ok p (pBegun p v).2 := by
 unfold pBegun;split
 ·split
  ·exact ⟨.inr rfl,rfl,rfl,rfl,.inl rfl,.inl rfl,rfl⟩
  ·split
   ·exact ⟨.inr rfl,rfl,rfl,rfl,.inl rfl,.inl rfl,rfl⟩
   ·exact Ok.refl p
 ·exact Ok.refl p
theorem ok_req (p : Pz) (s : ByteArray) : Ok p (pReq p s).2 := by
 unfold pReq;split
 ·rename_i h
  exact ⟨.inl rfl,rfl,rfl,rfl,.inr h.2,.inl rfl,rfl⟩
 ·split
  ·obtain ⟨a, b, c, d, e, f, g⟩ := ok_begun { p with me := k1 32 s, ta := k1 32 (k2 32 s) } (k2 32 (k2 32 s))
   exact ⟨a,b,c,d,e,f,g⟩
  ·exact Ok.refl p
theorem ok_res (p : Pz) (s : ByteArray) : Ok p (pRes p s).2 := by
 unfold pRes;split
 ·obtain ⟨a, b, c, d, e, f, g⟩ := ok_begun { p with status := numV 10 (k1 32 (k2 32 s)).data.toList, re := k2 32 (k2 32 s) } (k1 32 s)
  exact ⟨a,b,c,d,e,f,g⟩
 ·exact Ok.refl p
theorem ok_fld (p : Pz) (s : ByteArray) (hl : p.fs.length <= 100) : Ok p (pFld p s).2 := by
 unfold pFld;repeat' split
 all_goals first
  | exact Ok.refl p
  | exact ⟨.inl rfl,rfl,rfl,rfl,.inl rfl,.inl rfl,rfl⟩
  | (refine ⟨.inl rfl,rfl,rfl,rfl,.inl rfl,.inr ?_,rfl⟩;rw [List.length_append];simp only [List.length_singleton];omega)
theorem ok_line (p : Pz) (s : ByteArray) (hl : p.fs.length <= 100) : Ok p (pLine p s).2 := by
 unfold pLine;split
 ·exact ok_req p s
 ·split
  ·exact ok_res p s
  ·exact ok_fld p s hl
theorem Fit.ok {p q : Pz} (h : Fit p) (k : Ok p q) : Fit q := by
 refine ⟨?_,by rw [k.most];exact h.most,by rw [k.most,k.read];exact h.read,by rw [k.line];exact h.line,?_,?_⟩
 ·rcases k.fn with e | e
  ·rw [e];exact h.fn
  ·exact .inr (.inr e)
 ·rcases k.passed with e | e
  ·rw [e];exact h.passed
  ·exact e
 ·rcases k.fs with e | e
  ·rw [e];exact h.fs
  ·exact e
theorem Fit.next {p : Pz} (h : Fit p) (c : UInt8) : Fit (pNext p c).2 := by
 have h1 := h.read;unfold pNext;split
 ·exact h
 ·split
  ·exact h
  ·rename_i hr
   split
   ·exact ⟨h.fn,h.most,by show p.read + 1 <= p.most;omega,h.line,h.passed,h.fs⟩
   ·split
    ·exact Fit.ok (p := { p with read := p.read + 1,ending := false,line := [] }) ⟨h.fn,h.most,by show p.read + 1 <= p.most;omega,by show (0 : Nat) <= 8192;omega,h.passed,h.fs⟩ (ok_line _ _ h.fs)
    ·split
     ·exact ⟨h.fn,h.most,by show p.read + 1 <= p.most;omega,h.line,h.passed,h.fs⟩
     ·rename_i hn
      refine ⟨h.fn,h.most,by show p.read + 1 <= p.most;omega,?_,h.passed,h.fs⟩;show (p.line ++ [c]).length <= 8192
      have := h.line;rw [List.length_append,List.length_singleton];omega
theorem next_wrong (p : Pz) (c : UInt8) (hl : p.fs.length <= 100) : (pNext p c).2.wrong = p.wrong := by
 unfold pNext;repeat' split
 all_goals first
  | rfl
  | exact (ok_line { p with read := p.read + 1,ending := false,line := [] } _ hl).wrong
def pBytes (p : Pz) : List UInt8 -> Nat × Nat × Pz
 | [] => (0,0,p)
 | c :: r => if (pNext p c).1 ≠ 0 then ((pNext p c).1, 1, (pNext p c).2) else if (pNext p c).2.whole then (0, 1, (pNext p c).2) else
  ((pBytes (pNext p c).2 r).1,(pBytes (pNext p c).2 r).2.1 + 1,(pBytes (pNext p c).2 r).2.2)
def Ap (g : Nat) (lv fv : Value) (k : Nat) : Prop := k ≠ g /\ lv.ownBlock ≠ some k /\ fv.ownBlock ≠ some k
theorem PKh.at {w w' : World} {g : Nat} {lv fv lv' fv' : Value} (k : PKh w w' g lv fv lv' fv') {b o : Nat} (h : Ap g lv fv b) (hb : b < w.heap.size) : w'.cell? ⟨b,o,none⟩ = w.cell? ⟨b,o,none⟩ := by
 unfold World.cell?;rw [show (⟨b,o,none⟩ : Addr).block = b from rfl,k.block b hb h.1 h.2.1 h.2.2]
def byV (R : Nat × Nat × Pz) : Value := if R.1 = 0 then .tuple #[.int .i64 (R.2.1 : Int),.nilIface] else .tuple #[.int .i64 0,.iface 111 (.agg #[.int .i64 (R.2.1 : Int),.iface 24 (.int .i64 (R.1 : Int))])]
theorem PKh.bs {w w' : World} {base g : Nat} {lv fv lv' fv' : Value} {p : Pz} (hP : Par w base g lv fv p) (k : PKh w w' g lv fv lv' fv') {b o : Nat} (hb : b < base) (hw : b < w.heap.size) : w'.cell? ⟨b,o,none⟩ = w.cell? ⟨b,o,none⟩ := by
 have e : w'.heap[b]? = w.heap[b]? := k.block b hw (by have := hP.gb;omega) (fun e => by have := (hP.line.lt e).1;omega) (fun e => by have := (hP.flds.lt e).1;omega);unfold World.cell?;rw [show (⟨b,o,none⟩ : Addr).block = b from rfl,e]
def shh (R : Nat × Nat × Pz) (k : Nat) : Nat × Nat × Pz := (R.1,R.2.1 + k,R.2.2)
theorem by_end {p q : Pz} {l : List UInt8} {k : Nat} (hk : l.length <= k) (h : pBytes p l = shh (pBytes q (l.drop k)) k) : pBytes p l = (0,k,q) := by
 rw [h,List.drop_of_length_le hk];simp [shh,pBytes]
theorem by_err {p q : Pz} {l : List UInt8} {k : Nat} (hk : k < l.length) (h : pBytes p l = shh (pBytes q (l.drop k)) k) {e : Nat} {r : Pz} (hn : pNext q l[k] = (e,r)) (he : e ≠ 0) : pBytes p l = (e,k + 1,r) := by
 rw [h,List.drop_eq_getElem_cons hk,pBytes,hn];rw [if_pos he];simp [shh,Nat.add_comm]
theorem by_whole {p q : Pz} {l : List UInt8} {k : Nat} (hk : k < l.length) (h : pBytes p l = shh (pBytes q (l.drop k)) k) {r : Pz} (hn : pNext q l[k] = (0,r)) (hw : r.whole = true) : pBytes p l = (0,k + 1,r) := by
 rw [h,List.drop_eq_getElem_cons hk,pBytes,hn];rw [if_neg (by simp),if_pos hw];simp [shh,Nat.add_comm]
theorem by_on {p q : Pz} {l : List UInt8} {k : Nat} (hk : k < l.length) (h : pBytes p l = shh (pBytes q (l.drop k)) k) {r : Pz} (hn : pNext q l[k] = (0,r)) (hw : r.whole = false) : pBytes p l = shh (pBytes r (l.drop (k + 1))) (k + 1) := by
 rw [h,List.drop_eq_getElem_cons hk,pBytes,hn];rw [if_neg (by simp),if_neg (by simp [hw])];simp only [shh,Prod.mk.injEq,true_and,and_true];omega
theorem bytes_any {w : World} {base g : Nat} {lv fv : Value} {p : Pz} (h : Par w base g lv fv p) (hf : Fit p) (hm : MX w) (hb : 3 <= base) (v : Value) (l : List UInt8) (hv : Bf w (Ap g lv fv) v l) (hl : l.length <= 140737488355328) :
  Calls Tryz.prog 60 #[.pointer (some ⟨g,0,none⟩),v] w fun e w' => e = .returned (byV (pBytes p l)) /\ ∃ lv' fv',Par w' base g lv' fv' (pBytes p l).2.2 /\ PKh w w' g lv fv lv' fv' := by
 obtain ⟨a,cp,rfl,_,hcells⟩ := hv;have HC := hide hcells;have HP := hide h;have HM := hide hm;have HF := hide hf;clear hcells h hm hf;generalize hR : pBytes p l = R;have HR := hide hR;clear hR;go_enter Tryz.func60,Tryz.ntmps60
 go_wp2_with fail
 go_loopw [11] (fun i wr => ∃ (k : Nat) (q : Pz) (lv' fv' : Value),k <= l.length /\ i = .int .i64 k /\ Hid (Par wr base g lv' fv' q) /\ Hid (Fit q) /\ Hid (PKh w wr g lv fv lv' fv') /\ Hid (R = shh (pBytes q (l.drop k)) k)) (fun i _ => l.length - (intOf i).toNat)
 case atStart => exact ⟨0,p,lv,fv,Nat.zero_le _,rfl,HP,HF,hide (PKh.refl _ _ _ _),hide (by rw [<- HR.out];simp [shh])⟩
 case round =>
  obtain ⟨k,q,lv',fv',hk,rfl,HPk,HFk,HKk,HRk⟩ := hrel;have HM2 := hide (HM.out.pk HP.out hb HKk.out);by_cases hlt : k < l.length
  ·obtain ⟨b, o, rfl, hb1, hb2, hcell⟩ := HC.out k hlt
   have r1 : wr.cell? ⟨b,o + k,none⟩ = some (.int .u8 (l[k].toNat : Int)) := (HKk.out.at hb1 hb2).trans hcell;clear hcell;have HNX := hide (next_anyh HPk.out HFk.out HM2.out hb l[k]);have HFN := hide (HFk.out.next l[k]);have HRk2 := hide (HR.out.trans HRk.out);obtain ⟨re,rp,hre⟩ : ∃ re rp,pNext q l[k] = (re,rp) := ⟨_,_,rfl⟩
   have HN := hide hre;rw [hre] at HNX HFN;clear hre;by_cases h0 : re = 0
   ·subst h0
    go_upto_region 5 with (go_at_call 86;refine HNX.out.mono ?_;rintro e w2 ⟨rfl,lv2,fv2,h2,k2⟩)
    have HP2 := hide h2;have HK2 := hide (HKk.out.trans k2);clear h2 k2 r1;have c13 := HP2.out.cell 13;have c13' : w2.cell? ⟨g,13,none⟩ = some (.bool rp.whole) := c13;clear c13;have eV : errV ((0,rp) : Nat × Pz).1 = .nilIface := rfl;rw [eV];cases hw : rp.whole with
    | true =>
     rw [hw] at c13';have HX := hide (by_whole hlt HRk2.out HN.out hw);clear hw;go_wp2_with fail
     go_ret2
     have eR := HR.out.symm.trans HX.out;exact ⟨by rw [eR];rfl,_,_,by rw [eR];exact HP2.out,HK2.out⟩
    | false =>
     rw [hw] at c13';have HX := hide (by_on hlt HRk2.out HN.out hw);clear hw;go_wp2_with fail
     exact ⟨⟨k + 1,rp,lv2,fv2,by omega,by go_num,HP2,HFN,HK2,hide (HR.out.symm.trans HX.out)⟩,by simp [intOf];omega⟩
   ·have eV : errV ((re, rp) : Nat × Pz).1 = .iface 24 (.int .i64 (re : Int)) := by unfold errV; rw [if_neg h0]
    rw [eV] at HNX;have HX := hide (by_err hlt HRk2.out HN.out h0);have H0 := hide h0;clear h0 eV;go_upto_region 5 with (go_at_call 86;refine HNX.out.mono ?_;rintro e w2 ⟨rfl,lv2,fv2,h2,k2⟩)
    go_wp2_with fail
    go_ret2
    have eR := HR.out.symm.trans HX.out;refine ⟨?_,_,_,by rw [eR];exact h2,HKk.out.trans k2⟩;rw [eR];unfold byV;rw [if_neg H0.out];rfl
  ·have HX := hide (by_end (by omega) (HR.out.trans HRk.out))
   go_wp2_with fail
   go_ret2
   have eR := HR.out.symm.trans HX.out;have ek : k = l.length := by omega
   refine ⟨?_,_,_,by rw [eR];exact HPk.out,HKk.out⟩;rw [eR,ek];rfl
def pNew (rq : Bool) (most : Nat) : Pz := { most := most,read := 0,line := [],ending := false,passed := 0,fn := if rq then fnReq else fnRes,req := rq,me := ⟨#[]⟩,ta := ⟨#[]⟩,minor := 0,status := 0,re := ⟨#[]⟩,fs := [],whole := false,wrong := 0 }
theorem fit_new (rq : Bool) (most : Nat) (h : most <= 65536) : Fit (pNew rq most) := by
 refine ⟨?_,h,Nat.zero_le _,Nat.zero_le _,Nat.zero_le _,Nat.zero_le _⟩;cases rq with
 | true => exact .inl rfl
 | false => exact .inr (.inl rfl)
theorem par_new {W : World} {base g : Nat} (p : Pz) (h : W.heap[g]? = some (.cells (pcells p g (.slice none 0 0) (.slice none 0 0)) 92 (0,0))) (hb : base <= g) (hl : p.line = []) (hf : p.fs = []) : Par W base g (.slice none 0 0) (.slice none 0 0) p := by
 refine ⟨h,?_,?_,hb,by simp [Value.ownBlock],by simp [Value.ownBlock],by intro k e;simp [Value.ownBlock] at e⟩
 ·rw [hl];exact Row.nil _ _ _
 ·rw [hf];exact FRow.nil _ _
theorem hnew_bad (rq : Bool) (most : Int) (w : World) (h : most < 16 ∨ 65536 < most) :
  Calls Tryz.prog 36 #[.bool rq,.int .i64 most] w fun e w' => e = .returned (.tuple #[.pointer none,.int .i64 1]) /\ w = w' := by
 by_cases h1 : most < 16
 ·go_enter Tryz.func36, Tryz.ntmps36
  go_wp2
  go_ret2
  exact ⟨rfl,rfl⟩
 ·have h2 : 65536 < most := by omega
  clear h;go_enter Tryz.func36,Tryz.ntmps36
  go_wp2
  go_ret2
  exact ⟨rfl,rfl⟩
theorem hnew_any (rq : Bool) (most : Nat) (w : World) (h : 16 <= most) (h2 : most <= 65536) :
  Calls Tryz.prog 36 #[.bool rq,.int .i64 (most : Int)] w fun e w' => e = .returned (.tuple #[.pointer (some ⟨w.heap.size,0,none⟩),.int .i64 0]) /\ Par w' w.heap.size w.heap.size (.slice none 0 0) (.slice none 0 0) (pNew rq most) /\ Below w.heap.size w w' := by
 have t1 : ¬ (most : Int) < 16 := by omega
 have t2 : ¬ (65536 : Int) < (most : Int) := by omega
 go_enter Tryz.func36,Tryz.ntmps36
 go_upto_region 4 with fail
 have HB := hide ((Below.refl w.heap.size w).alloc (Nat.le_refl _) (.cells #[.int .i64 (most : Int),.int .i64 0,.slice none 0 0,.bool false,.int .i64 0,.nilFunc,.bool rq,.string ⟨#[]⟩,.string ⟨#[]⟩,.int .i64 0,.int .i64 0,.string ⟨#[]⟩,.slice none 0 0,.bool false,.int .i64 0] 92));have HD := hide (hp_new w (.cells #[.int .i64 (most : Int),.int .i64 0,.slice none 0 0,.bool false,.int .i64 0,.nilFunc,.bool rq,.string ⟨#[]⟩,.string ⟨#[]⟩,.int .i64 0,.int .i64 0,.string ⟨#[]⟩,.slice none 0 0,.bool false,.int .i64 0] 92));generalize w.alloc (.cells #[.int .i64 (most : Int),.int .i64 0,.slice none 0 0,.bool false,.int .i64 0,.nilFunc,.bool rq,.string ⟨#[]⟩,.string ⟨#[]⟩,.int .i64 0,.int .i64 0,.string ⟨#[]⟩,.slice none 0 0,.bool false,.int .i64 0] 92) = x at HB HD |-
 have d5 : x.cell? ⟨w.heap.size,5,none⟩ = some .nilFunc := cell_at HD.out 5;have f5 : x.frozen? ⟨w.heap.size,5,none⟩ = false := by rw [frozen_at HD.out];simp
 go_upto_region 5 with fail
 have HD1 := hide (hp_set HD.out 5 (stVh fnRes w.heap.size));have HB1 := hide (HB.out.setCell (p := ⟨w.heap.size,5,none⟩) (Nat.le_refl _) (stVh fnRes w.heap.size));have e5 : x.setCell ⟨w.heap.size,5,none⟩ (.func (.func 44) #[.pointer (some ⟨w.heap.size,0,none⟩)] #[]) = x.setCell ⟨w.heap.size,5,none⟩ (stVh fnRes w.heap.size) := rfl;rw [e5];clear HD HB d5 f5 e5;generalize x.setCell ⟨w.heap.size,5,none⟩ (stVh fnRes w.heap.size) = y at HB1 HD1 |-
 cases rq with
 | false =>
  go_wp2_with fail
  go_ret2
  exact ⟨rfl,par_new (pNew false most) HD1.out (Nat.le_refl _) rfl rfl,HB1.out⟩
 | true =>
  have d5 : y.cell? ⟨w.heap.size,5,none⟩ = some (stVh fnRes w.heap.size) := cell_at HD1.out 5;have f5 : y.frozen? ⟨w.heap.size,5,none⟩ = false := by rw [frozen_at HD1.out];simp
  go_wp2_with fail
  go_ret2
  exact ⟨rfl,par_new (pNew true most) (hp_set HD1.out 5 (stVh fnReq w.heap.size)) (Nat.le_refl _) rfl rfl,HB1.out.setCell (p := ⟨w.heap.size,5,none⟩) (Nat.le_refl _) (stVh fnReq w.heap.size)⟩
theorem as_nil (t : Value) (w : World) :
  Calls Tryz.prog 61 #[.nilIface,t] w fun e w' => e = .returned (.bool false) /\ w' = w := by
 go_enter Tryz.func61,Tryz.ntmps61
 go_wp2
 go_ret
 exact ⟨rfl,rfl⟩
theorem as_valueOf69 (t : Addr) (w : World) : (ReflectliteValue.unpack (.iface 113 (.pointer (some t)))).run Tryz.prog w
  = .ok (.agg #[.pointer (some ⟨7,113,none⟩),.pointer (some ⟨w.heap.size,0,none⟩),.int .u64 150]) (w.alloc (.cells #[.pointer (some t)] 113)) := by kernel_rfl
theorem as_valueOf70 (t : Addr) (w : World) : (ReflectliteValue.unpack (.iface 114 (.pointer (some t)))).run Tryz.prog w
  = .ok (.agg #[.pointer (some ⟨7,114,none⟩),.pointer (some ⟨w.heap.size,0,none⟩),.int .u64 150]) (w.alloc (.cells #[.pointer (some t)] 114)) := by kernel_rfl
theorem as_type69 (a : Addr) (w : World) : (ReflectliteValue.methodAny (ReflectliteValue.valueError "reflectlite.Value.Type" 0) (fun t _ _ _ => ReflectliteType.toType t) #[.agg #[.pointer (some ⟨7, 113, none⟩), .pointer (some a), .int .u64 150]]).run Tryz.prog w
  = .ok (.iface 185 (.agg #[.pointer (some ⟨7,113,none⟩)])) w := by kernel_rfl
theorem as_type70 (a : Addr) (w : World) : (ReflectliteValue.methodAny (ReflectliteValue.valueError "reflectlite.Value.Type" 0) (fun t _ _ _ => ReflectliteType.toType t) #[.agg #[.pointer (some ⟨7, 114, none⟩), .pointer (some a), .int .u64 150]]).run Tryz.prog w
  = .ok (.iface 185 (.agg #[.pointer (some ⟨7,114,none⟩)])) w := by kernel_rfl
theorem as_kind69 (w : World) : ((ReflectliteType.abiMethod fun t => (fun a : Nat => Value.int IntKind.u8 (a : Int)) <$> Rtype.kind t) #[.pointer (some ⟨7,113,none⟩)]).run Tryz.prog w = .ok (.int .u8 22) w := by kernel_rfl
theorem as_kind70 (w : World) : ((ReflectliteType.abiMethod fun t => (fun a : Nat => Value.int IntKind.u8 (a : Int)) <$> Rtype.kind t) #[.pointer (some ⟨7,114,none⟩)]).run Tryz.prog w = .ok (.int .u8 22) w := by kernel_rfl
theorem as_kind67 (w : World) : ((ReflectliteType.abiMethod fun t => (fun a : Nat => Value.int IntKind.u8 (a : Int)) <$> Rtype.kind t) #[.pointer (some ⟨7,111,none⟩)]).run Tryz.prog w = .ok (.int .u8 25) w := by kernel_rfl
theorem as_kind26 (w : World) : ((ReflectliteType.abiMethod fun t => (fun a : Nat => Value.int IntKind.u8 (a : Int)) <$> Rtype.kind t) #[.pointer (some ⟨7,24,none⟩)]).run Tryz.prog w = .ok (.int .u8 2) w := by kernel_rfl
theorem as_elem69 (w : World) : (ReflectliteType.method ReflectliteType.elem #[.agg #[.pointer (some ⟨7,113,none⟩)]]).run Tryz.prog w = .ok (.iface 185 (.agg #[.pointer (some ⟨7,111,none⟩)])) w := by kernel_rfl
theorem as_elem70 (w : World) : (ReflectliteType.method ReflectliteType.elem #[.agg #[.pointer (some ⟨7,114,none⟩)]]).run Tryz.prog w = .ok (.iface 185 (.agg #[.pointer (some ⟨7,24,none⟩)])) w := by kernel_rfl
theorem as_impl67 (w : World) : (ReflectliteType.relation "Implements" ReflectliteType.implements_ #[.agg #[.pointer (some ⟨7, 111, none⟩)], .iface 185 (.agg #[.pointer (some ⟨7, 102, none⟩)])]).run Tryz.prog w = .ok (.bool true) w := by kernel_rfl
theorem as_impl26 (w : World) : (ReflectliteType.relation "Implements" ReflectliteType.implements_ #[.agg #[.pointer (some ⟨7, 24, none⟩)], .iface 185 (.agg #[.pointer (some ⟨7, 102, none⟩)])]).run Tryz.prog w = .ok (.bool true) w := by kernel_rfl
theorem as_typeOf67 (v : Value) (w : World) : (ReflectliteType.typeOf #[.iface 111 v]).run Tryz.prog w = .ok (.iface 185 (.agg #[.pointer (some ⟨7,111,none⟩)])) w := by kernel_rfl
theorem as_typeOf26 (v : Value) (w : World) : (ReflectliteType.typeOf #[.iface 24 v]).run Tryz.prog w = .ok (.iface 185 (.agg #[.pointer (some ⟨7,24,none⟩)])) w := by kernel_rfl
theorem as_ass67 (w : World) : (ReflectliteType.relation "AssignableTo" ReflectliteType.assignableTo #[.agg #[.pointer (some ⟨7, 111, none⟩)], .iface 185 (.agg #[.pointer (some ⟨7, 111, none⟩)])]).run Tryz.prog w = .ok (.bool true) w := by kernel_rfl
theorem as_ass26 (w : World) : (ReflectliteType.relation "AssignableTo" ReflectliteType.assignableTo #[.agg #[.pointer (some ⟨7, 24, none⟩)], .iface 185 (.agg #[.pointer (some ⟨7, 24, none⟩)])]).run Tryz.prog w = .ok (.bool true) w := by kernel_rfl
theorem as_ass67n (w : World) : (ReflectliteType.relation "AssignableTo" ReflectliteType.assignableTo #[.agg #[.pointer (some ⟨7, 111, none⟩)], .iface 185 (.agg #[.pointer (some ⟨7, 24, none⟩)])]).run Tryz.prog w = .ok (.bool false) w := by kernel_rfl
theorem rlm_run {z : Sem Value} {f : TypeId -> Addr -> Nat -> Nat -> Sem Value} {v : Value} {t : TypeId} {a : Addr} {fl : Nat} {W : World} (hp : (ReflectliteValue.parts v).run Tryz.prog W = .ok (some (t, a, fl)) W) :
  (ReflectliteValue.method z f #[v]).run Tryz.prog W = (f t a fl (fl % 32)).run Tryz.prog W := by
 have e : ReflectliteValue.method z f #[v] = (ReflectliteValue.parts v >>= _) := rfl;rw [e];simp only [Sem.run_bind,hp,Result.andThen]
theorem as_parts69 (a : Addr) (w : World) : (ReflectliteValue.parts (.agg #[.pointer (some ⟨7,113,none⟩),.pointer (some a),.int .u64 150])).run Tryz.prog w = .ok (some (113,a,150)) w := by kernel_rfl
theorem as_parts70 (a : Addr) (w : World) : (ReflectliteValue.parts (.agg #[.pointer (some ⟨7,114,none⟩),.pointer (some a),.int .u64 150])).run Tryz.prog w = .ok (some (114,a,150)) w := by kernel_rfl
theorem as_isNil69 (a p : Addr) (W : World) (ha : W.cell? a = some (.pointer (some p))) :
  (ReflectliteValue.method (ReflectliteValue.valueError "reflectlite.Value.IsNil" 0) ReflectliteValue.isNil #[.agg #[.pointer (some ⟨7, 113, none⟩), .pointer (some a), .int .u64 150]]).run Tryz.prog W = .ok (.bool false) W := by
 rw [rlm_run (as_parts69 a W)];simp [ReflectliteValue.isNil,loadVar,isAgg,underlying,Tryz.underlying113,ha,Result.andThen]
theorem as_isNil70 (a p : Addr) (W : World) (ha : W.cell? a = some (.pointer (some p))) :
  (ReflectliteValue.method (ReflectliteValue.valueError "reflectlite.Value.IsNil" 0) ReflectliteValue.isNil #[.agg #[.pointer (some ⟨7, 114, none⟩), .pointer (some a), .int .u64 150]]).run Tryz.prog W = .ok (.bool false) W := by
 rw [rlm_run (as_parts70 a W)];simp [ReflectliteValue.isNil,loadVar,isAgg,underlying,Tryz.underlying114,ha,Result.andThen]
theorem as_methodKind (h : Value) (w : World) : (Go.method 293 185 (.agg #[h]) "Kind").run Tryz.prog w = .ok (207, h) w := by kernel_rfl
theorem as_methodElem (h : Value) (w : World) : (Go.method 293 185 (.agg #[h]) "Elem").run Tryz.prog w = .ok (219, .agg #[h]) w := by kernel_rfl
theorem as_methodImplements (h : Value) (w : World) : (Go.method 293 185 (.agg #[h]) "Implements").run Tryz.prog w = .ok (220, .agg #[h]) w := by kernel_rfl
theorem as_methodAssignableTo (h : Value) (w : World) : (Go.method 293 185 (.agg #[h]) "AssignableTo").run Tryz.prog w = .ok (217, .agg #[h]) w := by kernel_rfl
theorem as_valueOf67 (a b : Value) (w : World) : (ReflectliteValue.unpack (.iface 111 (.agg #[a, b]))).run Tryz.prog w
  = .ok (.agg #[.pointer (some ⟨7,111,none⟩),.pointer (some ⟨w.heap.size,0,none⟩),.int .u64 153]) (w.alloc (.cells #[a,b] 111)) := by kernel_rfl
theorem as_valueOf26 (k : Int) (w : World) : (ReflectliteValue.unpack (.iface 24 (.int .i64 k))).run Tryz.prog w
  = .ok (.agg #[.pointer (some ⟨7,24,none⟩),.pointer (some ⟨w.heap.size,0,none⟩),.int .u64 130]) (w.alloc (.cells #[.int .i64 k] 24)) := by kernel_rfl
theorem as_elemOf69 (w : World) : (Rtype.elem? 113).run Tryz.prog w = .ok (some 111) w := by kernel_rfl
theorem as_elemOf70 (w : World) : (Rtype.elem? 114).run Tryz.prog w = .ok (some 24) w := by kernel_rfl
theorem as_mk67 (p : Addr) (w : World) : (ReflectliteValue.mk 111 p ReflectliteValue.flagAddr).run Tryz.prog w = .ok (.agg #[.pointer (some ⟨7,111,none⟩),.pointer (some p),.int .u64 409]) w := by kernel_rfl
theorem as_mk26 (p : Addr) (w : World) : (ReflectliteValue.mk 24 p ReflectliteValue.flagAddr).run Tryz.prog w = .ok (.agg #[.pointer (some ⟨7,24,none⟩),.pointer (some p),.int .u64 386]) w := by kernel_rfl
theorem as_elemV69 (a p : Addr) (W : World) (ha : W.cell? a = some (.pointer (some p))) :
  (ReflectliteValue.method (ReflectliteValue.valueError "reflectlite.Value.Elem" 0) ReflectliteValue.elem #[.agg #[.pointer (some ⟨7, 113, none⟩), .pointer (some a), .int .u64 150]]).run Tryz.prog W
   = .ok (.agg #[.pointer (some ⟨7,111,none⟩),.pointer (some p),.int .u64 409]) W := by
 rw [rlm_run (as_parts69 a W)];simp [ReflectliteValue.elem,loadVar,isAgg,underlying,Tryz.underlying113,ha,Result.andThen,as_elemOf69,as_mk67]
theorem as_elemV70 (a p : Addr) (W : World) (ha : W.cell? a = some (.pointer (some p))) :
  (ReflectliteValue.method (ReflectliteValue.valueError "reflectlite.Value.Elem" 0) ReflectliteValue.elem #[.agg #[.pointer (some ⟨7, 114, none⟩), .pointer (some a), .int .u64 150]]).run Tryz.prog W
   = .ok (.agg #[.pointer (some ⟨7,24,none⟩),.pointer (some p),.int .u64 386]) W := by
 rw [rlm_run (as_parts70 a W)];simp [ReflectliteValue.elem,loadVar,isAgg,underlying,Tryz.underlying114,ha,Result.andThen,as_elemOf70,as_mk26]
theorem as_parts67a (a : Addr) (w : World) : (ReflectliteValue.parts (.agg #[.pointer (some ⟨7,111,none⟩),.pointer (some a),.int .u64 409])).run Tryz.prog w = .ok (some (111,a,409)) w := by kernel_rfl
theorem as_parts67 (a : Addr) (w : World) : (ReflectliteValue.parts (.agg #[.pointer (some ⟨7,111,none⟩),.pointer (some a),.int .u64 153])).run Tryz.prog w = .ok (some (111,a,153)) w := by kernel_rfl
theorem as_parts26a (a : Addr) (w : World) : (ReflectliteValue.parts (.agg #[.pointer (some ⟨7,24,none⟩),.pointer (some a),.int .u64 386])).run Tryz.prog w = .ok (some (24,a,386)) w := by kernel_rfl
theorem as_parts26 (a : Addr) (w : World) : (ReflectliteValue.parts (.agg #[.pointer (some ⟨7,24,none⟩),.pointer (some a),.int .u64 130])).run Tryz.prog w = .ok (some (24,a,130)) w := by kernel_rfl
theorem as_direct67 (w : World) : (Rtype.directlyAssignable 111 111).run Tryz.prog w = .ok true w := by kernel_rfl
theorem as_direct26 (w : World) : (Rtype.directlyAssignable 24 24).run Tryz.prog w = .ok true w := by kernel_rfl
theorem as_noAs67 (v : Value) (xT : TypeId) (w : World) : (Instr.typeAssert (.iface 111 v) xT 190 true).run Tryz.prog w = .ok (.tuple #[.nilIface,.bool false]) w := run_typeAssert_lacksB Tryz.underlying190 (by kernel_rfl) (by kernel_rfl) v xT w
theorem as_unwrap67 (v : Value) (xT : TypeId) (w : World) : (Instr.typeAssert (.iface 111 v) xT 193 true).run Tryz.prog w = .ok (.tuple #[.iface 111 v,.bool true]) w := run_typeAssert_hasB Tryz.underlying193 (by kernel_rfl) v xT w
theorem rls_run {v x : Value} {dst src : TypeId} {a b : Addr} {fl fl2 : Nat} {val : Value} {W : World} (h1 : (ReflectliteValue.parts v).run Tryz.prog W = .ok (some (dst, a, fl)) W) (h2 : (ReflectliteValue.parts x).run Tryz.prog W = .ok (some (src, b, fl2)) W)
  (hfl : ¬ fl / ReflectliteValue.flagAddr % 2 = 0) (hv : (loadVar src b).run Tryz.prog W = .ok val W) (hd : (Rtype.directlyAssignable dst src).run Tryz.prog W = .ok true W) :
  (ReflectliteValue.set #[v,x]).run Tryz.prog W = ((storeVar dst a val).run Tryz.prog W).andThen fun _ w' => .ok (.tuple #[]) w' := by
 have e : ReflectliteValue.set #[v,x] = (ReflectliteValue.parts v >>= _) := rfl;rw [e];have h3 : (ReflectliteValue.parts (#[v,x].getLit 1 (n := 2) rfl (by omega))).run Tryz.prog W = .ok (some (src,b,fl2)) W := h2;simp [Sem.run_bind,h1,h3,hfl,hv,hd,Result.andThen]
 try rfl
theorem as_set26 (ta b : Addr) (k : Int) (old : Value) (W : World) (hb : W.cell? b = some (.int .i64 k)) (ht : W.cell? ta = some old) (hf : W.frozen? ta = false) :
  (ReflectliteValue.set #[.agg #[.pointer (some ⟨7, 24, none⟩), .pointer (some ta), .int .u64 386], .agg #[.pointer (some ⟨7, 24, none⟩), .pointer (some b), .int .u64 130]]).run Tryz.prog W
   = .ok (.tuple #[]) (W.setCell ta (.int .i64 k)) := by
 have hv : (loadVar 24 b).run Tryz.prog W = .ok (.int .i64 k) W := by simp [loadVar,isAgg,underlying,Tryz.underlying24,hb,Result.andThen]
 rw [rls_run (as_parts26a ta W) (as_parts26 b W) (by decide) hv (as_direct26 W)];simp [Result.andThen,storeVar,Value.cells,storeCells,Addr.add]
 rw [run_store Tryz.prog W ta _ _ (by rfl)];simp [ht,hf]
theorem as_set67 (tb b : Nat) (pl : Int) (x : Value) (u0 u1 : Value) (W : World) (h0 : W.cell? ⟨b, 0, none⟩ = some (.int .i64 pl)) (h1 : W.cell? ⟨b, 1, none⟩ = some (.iface 24 x)) (ht : W.heap[tb]? = some (.cells #[u0, u1] 111 (0, 0))) :
  (ReflectliteValue.set #[.agg #[.pointer (some ⟨7, 111, none⟩), .pointer (some ⟨tb, 0, none⟩), .int .u64 409], .agg #[.pointer (some ⟨7, 111, none⟩), .pointer (some ⟨b, 0, none⟩), .int .u64 153]]).run Tryz.prog W
   = .ok (.tuple #[]) (W.setRow tb #[.int .i64 pl,.iface 24 x]) := by
 have hl : (loadCells ⟨b,0,none⟩ 2).run Tryz.prog W = .ok #[.int .i64 pl,.iface 24 x] W := by
  refine run_loadCells_list (P := Tryz.prog) W ⟨b,0,none⟩ [.int .i64 pl,.iface 24 x] ?_;intro j v hj
  match j,hj with
  | 0,hj => simp at hj;subst hj;simpa [Addr.add] using h0
  | 1,hj => simp at hj;subst hj;simpa [Addr.add] using h1
 have hst : (storeCells ⟨tb,0,none⟩ [.int .i64 pl,.iface 24 x] 0).run Tryz.prog W = .ok () (W.setRow tb #[.int .i64 pl,.iface 24 x]) :=
  run_storeCells_from tb 111 [.int .i64 pl,.iface 24 x] 0 #[u0,u1] W ht rfl (by intro v hv;simp at hv;rcases hv with rfl | rfl <;> rfl)
 have hv : (loadVar 111 ⟨b,0,none⟩).run Tryz.prog W = .ok (.agg #[.int .i64 pl,.iface 24 x]) W := by
  simp [loadVar,isAgg,underlying,Tryz.underlying111,Result.andThen,hl]
 rw [rls_run (as_parts67a ⟨tb,0,none⟩ W) (as_parts67 ⟨b,0,none⟩ W) (by decide) hv (as_direct67 W)];simp [Result.andThen,storeVar,Value.cells,hst]
theorem as_fault (pl : Int) (x : Value) (tb : Nat) (u0 u1 : Value) (w : World) (hg : w.cell? ⟨0, 0, none⟩ = some (.iface 185 (.agg #[.pointer (some ⟨7, 102, none⟩)]))) (ht : w.heap[tb]? = some (.cells #[u0, u1] 111 (0, 0))) :
  Calls Tryz.prog 61 #[.iface 111 (.agg #[.int .i64 pl, .iface 24 x]), .iface 113 (.pointer (some ⟨tb, 0, none⟩))] w fun ev w' => ev = .returned (.bool true) /\
   w' = ((((w.alloc (.cells #[.pointer (some ⟨tb,0,none⟩)] 113)).alloc (.cells #[.pointer (some ⟨7,113,none⟩),.pointer (some ⟨w.heap.size,0,none⟩),.int .u64 150] 147)).alloc (.cells #[.pointer (some ⟨7,113,none⟩),.pointer (some ⟨w.heap.size,0,none⟩),.int .u64 150] 147)).alloc (.cells #[.int .i64 pl,.iface 24 x] 111)).setRow tb #[.int .i64 pl,.iface 24 x] := by
 have h6 := @run_callFunc_extern Tryz.prog 87 _ (fun args => ReflectliteValue.unpack (args.getD 0 (.tuple #[]))) Tryz.func87 (by kernel_rfl) (by kernel_rfl) (by kernel_rfl) (by kernel_rfl);have h7 := @run_callFunc_extern Tryz.prog 88 _ (ReflectliteValue.methodAny (ReflectliteValue.valueError "reflectlite.Value.Type" 0) (fun t _ _ _ => ReflectliteType.toType t)) Tryz.func88 (by kernel_rfl) (by kernel_rfl) (by kernel_rfl) (by kernel_rfl);have h8 := @run_callFunc_extern Tryz.prog 89 _ (ReflectliteValue.method (ReflectliteValue.valueError "reflectlite.Value.IsNil" 0) ReflectliteValue.isNil) Tryz.func89 (by kernel_rfl) (by kernel_rfl) (by kernel_rfl) (by kernel_rfl);have h27 := @run_callFunc_extern Tryz.prog 207 _ (ReflectliteType.abiMethod fun t => do pure (.int .u8 (<- Rtype.kind t))) Tryz.func207 (by kernel_rfl) (by kernel_rfl) (by kernel_rfl) (by kernel_rfl);have h37 := @run_callFunc_extern Tryz.prog 219 _ (ReflectliteType.method ReflectliteType.elem) Tryz.func219 (by kernel_rfl) (by kernel_rfl) (by kernel_rfl) (by kernel_rfl);have h38 := @run_callFunc_extern Tryz.prog 220 _ (ReflectliteType.relation "Implements" ReflectliteType.implements_) Tryz.func220 (by kernel_rfl) (by kernel_rfl) (by kernel_rfl) (by kernel_rfl);have h10 := @run_callFunc_extern Tryz.prog 125 _ ReflectliteType.typeOf Tryz.func125 (by kernel_rfl) (by kernel_rfl) (by kernel_rfl) (by kernel_rfl);have h35 := @run_callFunc_extern Tryz.prog 217 _ (ReflectliteType.relation "AssignableTo" ReflectliteType.assignableTo) Tryz.func217 (by kernel_rfl) (by kernel_rfl) (by kernel_rfl) (by kernel_rfl);have h11 := @run_callFunc_extern Tryz.prog 126 _ (ReflectliteValue.method (ReflectliteValue.valueError "reflectlite.Value.Elem" 0) ReflectliteValue.elem) Tryz.func126 (by kernel_rfl) (by kernel_rfl) (by kernel_rfl) (by kernel_rfl);have h12 := @run_callFunc_extern Tryz.prog 127 _ ReflectliteValue.set Tryz.func127 (by kernel_rfl) (by kernel_rfl) (by kernel_rfl) (by kernel_rfl);have tO := as_typeOf67
 have mA := as_methodAssignableTo;have a25 := as_ass67;have v25 := as_valueOf67;have f6 := as_valueOf69;have f7 := as_type69;have mK := as_methodKind;have mE := as_methodElem;have mI := as_methodImplements;have k27 := as_kind69;have k25 := as_kind67;have e27 := as_elem69;have i25 := as_impl67;have n8 := as_isNil69 ⟨w.heap.size,0,none⟩ ⟨tb,0,none⟩ ((w.alloc (.cells #[.pointer (some ⟨tb,0,none⟩)] 113)).alloc (.cells #[.pointer (some ⟨7,113,none⟩),.pointer (some ⟨w.heap.size,0,none⟩),.int .u64 150] 147)) (by simp)
 have hlt : 0 < w.heap.size := by
  rcases Nat.eq_zero_or_pos w.heap.size with h0 | h
  ·simp [World.cell?,h0] at hg
  ·exact h
 have hg2 : ((w.alloc (.cells #[.pointer (some ⟨tb,0,none⟩)] 113)).alloc (.cells #[.pointer (some ⟨7,113,none⟩),.pointer (some ⟨w.heap.size,0,none⟩),.int .u64 150] 147)).cell? ⟨0,0,none⟩ = some (.iface 185 (.agg #[.pointer (some ⟨7,102,none⟩)])) := by
  rw [World.cell?_alloc_lt _ _ ⟨0,0,none⟩ (by simp),World.cell?_alloc_lt _ _ ⟨0,0,none⟩ hlt];exact hg
 have htl : tb < w.heap.size := lt_heap ht
 have el := as_elemV69 ⟨w.heap.size,0,none⟩ ⟨tb,0,none⟩ (((w.alloc (.cells #[.pointer (some ⟨tb,0,none⟩)] 113)).alloc (.cells #[.pointer (some ⟨7,113,none⟩),.pointer (some ⟨w.heap.size,0,none⟩),.int .u64 150] 147)).alloc (.cells #[.pointer (some ⟨7,113,none⟩),.pointer (some ⟨w.heap.size,0,none⟩),.int .u64 150] 147)) (by
  rw [World.cell?_alloc_lt _ _ ⟨w.heap.size,0,none⟩ (by simp;omega),World.cell?_alloc_lt _ _ ⟨w.heap.size,0,none⟩ (by simp),cell_at (hp_new w _)];rfl)
 have st := as_set67 tb (w.heap.size + 1 + 1 + 1) pl x u0 u1 ((((w.alloc (.cells #[.pointer (some ⟨tb, 0, none⟩)] 113)).alloc (.cells #[.pointer (some ⟨7, 113, none⟩), .pointer (some ⟨w.heap.size, 0, none⟩), .int .u64 150] 147)).alloc (.cells #[.pointer (some ⟨7, 113, none⟩), .pointer (some ⟨w.heap.size, 0, none⟩), .int .u64 150] 147)).alloc (.cells #[.int .i64 pl, .iface 24 x] 111))
  (by rw [World.cell?_alloc_at _ _ _ _ (by simp)];rfl) (by rw [World.cell?_alloc_at _ _ _ _ (by simp)];rfl)
  (by rw [Below.heap_alloc _ _ _ (by simp;omega),Below.heap_alloc _ _ _ (by simp;omega),Below.heap_alloc _ _ _ (by simp;omega),Below.heap_alloc _ _ _ htl];exact ht)
 clear ht hg;go_enter Tryz.func61,Tryz.ntmps61
 go_wp2
 refine wp_loop_rounds 1 ?_;rw [rounds_succ];go_wp2
 go_ret
 exact ⟨rfl,rfl⟩
theorem as_methodUnwrap (v : Value) (w : World) : (Go.method 293 111 v "Unwrap").run Tryz.prog w = .ok (212, v) w := by kernel_rfl
theorem as_errno (pl k : Int) (g : Nat) (old : Value) (w : World) (hg : w.cell? ⟨0, 0, none⟩ = some (.iface 185 (.agg #[.pointer (some ⟨7, 102, none⟩)]))) (ht0 : w.cell? ⟨g, 14, none⟩ = some old) (hf0 : w.frozen? ⟨g, 14, none⟩ = false) :
  Calls Tryz.prog 61 #[.iface 111 (.agg #[.int .i64 pl,.iface 24 (.int .i64 k)]),.iface 114 (.pointer (some ⟨g,14,none⟩))] w fun ev w' => ev = .returned (.bool true) /\ ∃ X,Below w.heap.size w X /\ w' = X.setCell ⟨g,14,none⟩ (.int .i64 k) := by
 have h6 := @run_callFunc_extern Tryz.prog 87 _ (fun args => ReflectliteValue.unpack (args.getD 0 (.tuple #[]))) Tryz.func87 (by kernel_rfl) (by kernel_rfl) (by kernel_rfl) (by kernel_rfl);have h7 := @run_callFunc_extern Tryz.prog 88 _ (ReflectliteValue.methodAny (ReflectliteValue.valueError "reflectlite.Value.Type" 0) (fun t _ _ _ => ReflectliteType.toType t)) Tryz.func88 (by kernel_rfl) (by kernel_rfl) (by kernel_rfl) (by kernel_rfl);have h8 := @run_callFunc_extern Tryz.prog 89 _ (ReflectliteValue.method (ReflectliteValue.valueError "reflectlite.Value.IsNil" 0) ReflectliteValue.isNil) Tryz.func89 (by kernel_rfl) (by kernel_rfl) (by kernel_rfl) (by kernel_rfl);have h27 := @run_callFunc_extern Tryz.prog 207 _ (ReflectliteType.abiMethod fun t => do pure (.int .u8 (<- Rtype.kind t))) Tryz.func207 (by kernel_rfl) (by kernel_rfl) (by kernel_rfl) (by kernel_rfl);have h37 := @run_callFunc_extern Tryz.prog 219 _ (ReflectliteType.method ReflectliteType.elem) Tryz.func219 (by kernel_rfl) (by kernel_rfl) (by kernel_rfl) (by kernel_rfl);have h38 := @run_callFunc_extern Tryz.prog 220 _ (ReflectliteType.relation "Implements" ReflectliteType.implements_) Tryz.func220 (by kernel_rfl) (by kernel_rfl) (by kernel_rfl) (by kernel_rfl);have h10 := @run_callFunc_extern Tryz.prog 125 _ ReflectliteType.typeOf Tryz.func125 (by kernel_rfl) (by kernel_rfl) (by kernel_rfl) (by kernel_rfl);have h35 := @run_callFunc_extern Tryz.prog 217 _ (ReflectliteType.relation "AssignableTo" ReflectliteType.assignableTo) Tryz.func217 (by kernel_rfl) (by kernel_rfl) (by kernel_rfl) (by kernel_rfl);have h11 := @run_callFunc_extern Tryz.prog 126 _ (ReflectliteValue.method (ReflectliteValue.valueError "reflectlite.Value.Elem" 0) ReflectliteValue.elem) Tryz.func126 (by kernel_rfl) (by kernel_rfl) (by kernel_rfl) (by kernel_rfl);have h12 := @run_callFunc_extern Tryz.prog 127 _ ReflectliteValue.set Tryz.func127 (by kernel_rfl) (by kernel_rfl) (by kernel_rfl) (by kernel_rfl);have tO := as_typeOf67
 have tO2 := as_typeOf26;have mA := as_methodAssignableTo;have mU := as_methodUnwrap;have a67 := as_ass67n;have a26 := as_ass26;have v26 := as_valueOf26;have f6 := as_valueOf70;have f7 := as_type70;have mK := as_methodKind;have mE := as_methodElem;have mI := as_methodImplements;have k70 := as_kind70;have k26 := as_kind26;have e70 := as_elem70;have i26 := as_impl26;have nA := as_noAs67;have uW := as_unwrap67;have n8 := as_isNil70 ⟨w.heap.size,0,none⟩ ⟨g,14,none⟩ ((w.alloc (.cells #[.pointer (some ⟨g,14,none⟩)] 114)).alloc (.cells #[.pointer (some ⟨7,114,none⟩),.pointer (some ⟨w.heap.size,0,none⟩),.int .u64 150] 147)) (by simp)
 have hlt : 0 < w.heap.size := by
  rcases Nat.eq_zero_or_pos w.heap.size with h0 | h
  ·simp [World.cell?,h0] at hg
  ·exact h
 have hg2 : ((w.alloc (.cells #[.pointer (some ⟨g,14,none⟩)] 114)).alloc (.cells #[.pointer (some ⟨7,114,none⟩),.pointer (some ⟨w.heap.size,0,none⟩),.int .u64 150] 147)).cell? ⟨0,0,none⟩ = some (.iface 185 (.agg #[.pointer (some ⟨7,102,none⟩)])) := by
  rw [World.cell?_alloc_lt _ _ ⟨0,0,none⟩ (by simp),World.cell?_alloc_lt _ _ ⟨0,0,none⟩ hlt];exact hg
 have htl : g < w.heap.size := by
  rcases Nat.lt_or_ge g w.heap.size with h | h
  ·exact h
  ·simp [World.cell?,Array.getElem?_eq_none h] at ht0
 have el := as_elemV70 ⟨w.heap.size,0,none⟩ ⟨g,14,none⟩ ((((w.alloc (.cells #[.pointer (some ⟨g,14,none⟩)] 114)).alloc (.cells #[.pointer (some ⟨7,114,none⟩),.pointer (some ⟨w.heap.size,0,none⟩),.int .u64 150] 147)).alloc (.cells #[.pointer (some ⟨7,114,none⟩),.pointer (some ⟨w.heap.size,0,none⟩),.int .u64 150] 147)).alloc (.cells #[.int .i64 pl,.iface 24 (.int .i64 k)] 111)) (by
  rw [World.cell?_alloc_lt _ _ ⟨w.heap.size,0,none⟩ (by simp;omega),World.cell?_alloc_lt _ _ ⟨w.heap.size,0,none⟩ (by simp;omega),World.cell?_alloc_lt _ _ ⟨w.heap.size,0,none⟩ (by simp),cell_at (hp_new w _)];rfl)
 have st := as_set26 ⟨g, 14, none⟩ ⟨w.heap.size + 1 + 1 + 1 + 1, 0, none⟩ k old (((((w.alloc (.cells #[.pointer (some ⟨g, 14, none⟩)] 114)).alloc (.cells #[.pointer (some ⟨7, 114, none⟩), .pointer (some ⟨w.heap.size, 0, none⟩), .int .u64 150] 147)).alloc (.cells #[.pointer (some ⟨7, 114, none⟩), .pointer (some ⟨w.heap.size, 0, none⟩), .int .u64 150] 147)).alloc (.cells #[.int .i64 pl, .iface 24 (.int .i64 k)] 111)).alloc (.cells #[.int .i64 k] 24))
  (by rw [World.cell?_alloc_at _ _ _ _ (by simp)];rfl)
  (by rw [World.cell?_alloc_lt _ _ ⟨g,14,none⟩ (by simp;omega),World.cell?_alloc_lt _ _ ⟨g,14,none⟩ (by simp;omega),World.cell?_alloc_lt _ _ ⟨g,14,none⟩ (by simp;omega),World.cell?_alloc_lt _ _ ⟨g,14,none⟩ (by simp;omega),World.cell?_alloc_lt _ _ ⟨g,14,none⟩ htl];exact ht0)
  (by rw [World.frozen?_alloc_old _ _ ⟨g,14,none⟩ (by simp;omega),World.frozen?_alloc_old _ _ ⟨g,14,none⟩ (by simp;omega),World.frozen?_alloc_old _ _ ⟨g,14,none⟩ (by simp;omega),World.frozen?_alloc_old _ _ ⟨g,14,none⟩ (by simp;omega),World.frozen?_alloc_old _ _ ⟨g,14,none⟩ (Nat.ne_of_lt htl)];exact hf0)
 have HBW : Below w.heap.size w (((((w.alloc (.cells #[.pointer (some ⟨g,14,none⟩)] 114)).alloc (.cells #[.pointer (some ⟨7,114,none⟩),.pointer (some ⟨w.heap.size,0,none⟩),.int .u64 150] 147)).alloc (.cells #[.pointer (some ⟨7,114,none⟩),.pointer (some ⟨w.heap.size,0,none⟩),.int .u64 150] 147)).alloc (.cells #[.int .i64 pl,.iface 24 (.int .i64 k)] 111)).alloc (.cells #[.int .i64 k] 24)) := ((((((Below.refl w.heap.size w).alloc (Nat.le_refl _) _).alloc (by simp) _).alloc (by simp;omega) _).alloc (by simp;omega) _).alloc (by simp;omega) _);have HB := hide HBW;clear HBW ht0 hf0;go_enter Tryz.func61,Tryz.ntmps61
 go_wp2
 refine wp_loop_rounds 2 ?_;rw [rounds_succ];go_wp2
 rw [rounds_succ];go_wp2
 go_ret
 exact ⟨rfl,_,HB.out,rfl⟩
end Go.Proofs.YtcagjipdldlehaaGreatDoor
