/- VJ. -/
import Derived.Test.YtcagjipdldlehaaGreatDoorVB
import Derived.Test.YtcagjipdldlehaaGreatDoorVO
namespace Go.Proofs.YtcagjipdldlehaaGreatDoor
open Go.ChangeShapes Go.WideShapes Go.ChangeAt Go.RowKit
set_option linter.unusedVariables false
set_option maxHeartbeats 16000000
set_option maxRecDepth 100000
def lnX (b : List UInt8) (a : Nat) : ByteArray × Nat × Bool × Nat := match lineR [] false (b.drop a) with
 | none => (⟨#[]⟩,b.length,false,0)
 | some (k,none) => (⟨#[]⟩,a + k,false,100)
 | some (k,some s) => (sS s,a + k,true,0)
theorem lnX_none {b : List UInt8} {a : Nat} (h : lineR [] false (b.drop a) = none) : lnX b a = (⟨#[]⟩,b.length,false,0) := by unfold lnX;rw [h]
theorem lnX_bad {b : List UInt8} {a k : Nat} (h : lineR [] false (b.drop a) = some (k,none)) : lnX b a = (⟨#[]⟩,a + k,false,100) := by unfold lnX;rw [h]
theorem lnX_line {b : List UInt8} {a k : Nat} {s : List UInt8} (h : lineR [] false (b.drop a) = some (k,some s)) : lnX b a = (sS s,a + k,true,0) := by unfold lnX;rw [h]
theorem Bs.cellAt {w : World} {base : Nat} {a : Option Addr} {m c : Nat} {l : List UInt8} (h : Bs w base (.slice a m c) l) {j : Nat} (hj : j < l.length) : m = l.length /\ l.length <= c /\ ∃ g o,a = some ⟨g,o,none⟩ /\ g < w.heap.size /\ ∀ i (hi : i < l.length),w.cell? ⟨g,o + i,none⟩ = some (.int .u8 (l[i].toNat : Int)) := by
 obtain ⟨a',c',he,hc,hx⟩ := h;simp only [Value.slice.injEq] at he;obtain ⟨rfl,rfl,rfl⟩ := he;obtain ⟨g,o,rfl,_,h3,_⟩ := hx j hj;refine ⟨rfl,hc,g,o,rfl,h3,fun i hi => ?_⟩;obtain ⟨g',o',h1,_,_,h4⟩ := hx i hi;simp only [Option.some.injEq,Addr.mk.injEq] at h1;obtain ⟨rfl,rfl,_⟩ := h1;exact h4
theorem conv_part {w : World} {g o c n m : Nat} {l : List UInt8} (hx : ∀ i (hi : i < l.length),w.cell? ⟨g,o + i,none⟩ = some (.int .u8 (l[i].toNat : Int))) (h : n <= m) (hm : m <= l.length) : (convert 31 9 (.slice (some ⟨g,o + n,none⟩) (m - n) c)).run Tryz.prog w = .ok (.string (sS ((l.drop n).take (m - n)))) w := by
 have hl : ((l.drop n).take (m - n)).length = m - n := by rw [List.length_take,List.length_drop];omega
 have := run_convert_bytes_back w 31 9 5 ⟨g,o + n,none⟩ c ((l.drop n).take (m - n)) Tryz.underlying31 Tryz.underlying5 Tryz.underlying9 (fun j hj => by
  have e : (⟨g,o + n,none⟩ : Addr).add j = ⟨g,o + (n + j),none⟩ := by unfold Addr.add;split <;> simp_all [Nat.add_assoc]
  rw [hl] at hj;rw [e,hx (n + j) (by omega)];simp)
 rw [hl] at this;exact this
theorem u8_ne {c : UInt8} {k : Nat} (hk : k < 256) (h : c ≠ UInt8.ofNat k) : ¬ (c.toNat : Int) = (k : Int) := fun e => h (UInt8.toNat_inj.1 (by rw [UInt8.toNat_ofNat'];omega))
theorem rline_any (v : Value) (b : List UInt8) (a : Nat) (w : World) (hB : Bs w w.heap.size v b) (ha : a <= b.length) (hl : b.length <= 70368744177664) :
  Calls Tryz.prog 72 #[v,.int .i64 (a : Int)] w fun e w' => e = .returned (.tuple #[.string (lnX b a).1,.int .i64 ((lnX b a).2.1 : Int),.bool (lnX b a).2.2.1,.int .i64 ((lnX b a).2.2.2 : Int)]) /\ w = w' := by
 have HB := hide hB;obtain ⟨va,vc,rfl,hvc,_⟩ := hB;generalize hX : lnX b a = X;have HX := hide hX;clear hX;go_enter Tryz.func72,Tryz.ntmps72
 go_wp2_with fail
 go_loop [8] (fun i => ∃ (k : Nat) (acc : List UInt8) (en : Bool),k <= b.length /\ a <= k /\ i = .int .i64 k /\ Hid (LnAt b a k acc en)) (fun i => b.length - (intOf i).toNat)
 case atStart => exact ⟨a,[],false,ha,Nat.le_refl _,rfl,hide (LnAt.zero ha)⟩
 case round =>
  obtain ⟨k,acc,en,hk,hak,rfl,HL⟩ := hrel;by_cases hlt : k < b.length
  ·obtain ⟨_, _, g, o, rfl, _, hx⟩ := HB.out.cellAt hlt
   have HC := hide hx;have r1 := hx k hlt;have HS := hide (HL.out.step hlt);have hi1 : (k : Int) - 1 = ((k - 1 : Nat) : Int) ∨ k = 0 := by omega
   have HE := hide HL.out.ee;have HN := hide HL.out.ne;have hby := byte_lt b[k];generalize b[k] = x at r1 HS hby
   have fin : ∀ (X : ByteArray × Nat × Bool × Nat) (s : ByteArray) (n : Nat) (wh : Bool) (e : Nat),X = (s,n,wh,e) -> (Ending.returned (.tuple #[.string s,.int .i64 (n : Int),.bool wh,.int .i64 (e : Int)]) = .returned (.tuple #[.string X.1,.int .i64 (X.2.1 : Int),.bool X.2.2.1,.int .i64 (X.2.2.2 : Int)])) := by rintro X s n wh e rfl;rfl
   have FIN := hide fin;clear hx fin;have e1 : ∀ m : Nat,m = k + 1 -> (m : Int) = (k : Int) + 1 := by intro m hm;omega
   have E1 := hide e1;clear e1;cases en with
   | true =>
    have hlk := (HE.out rfl).1;have hp13 := (HE.out rfl).2;have hk1 : k - 1 < b.length := by omega
    have r0 := HC.out (k - 1) hk1;rw [List.getElem?_eq_getElem hk1,Option.some.injEq] at hp13;rw [hp13] at r0;have hsub : (k : Int) - 1 = ((k - 1 : Nat) : Int) := by omega
    have r0' : w.cell? ⟨g,o + (k - 1),none⟩ = some (.int .u8 13) := r0;clear r0 hp13 hi1 HE HN;have t1 : (a : Int) < (k : Int) := by omega
    by_cases h10 : x = 10
    ·have t10 : ((x.toNat : Int) == 10) = true := by rw [h10]; rfl
     have HR := hide (lnX_line (HS.out.2.1 rfl h10));have hcc : ¬ vc = a := by omega
     have CV := conv_part (c := vc - a) HC.out (n := a) (m := k - 1) (by omega) (by omega);have hsp : k - 1 - a = k - 1 - a := rfl;clear HS h10;go_wp2_with fail
     refine bodyPost_ret (v := .tuple #[.string (sS ((b.drop a).take (k - 1 - a))),.int .i64 ((k : Int) + 1),.bool true,.int .i64 0]) (by simp [results,Tryz.results72,go_sem]) rfl ⟨?_,rfl⟩;have := FIN.out X (sS ((b.drop a).take (k - 1 - a))) (k + 1) true 0 (by rw [<- HX.out,HR.out,show a + (k + 1 - a) = k + 1 by omega]);exact this
    ·have t10 : ((x.toNat : Int) == 10) = false := beq_eq_false_iff_ne.2 (u8_ne (k := 10) (by decide) h10)
     have HR := hide (lnX_bad (HS.out.1 (by rw [decide_eq_false h10];decide)));clear HS h10;go_wp2_with fail
     refine bodyPost_ret (v := .tuple #[.string ⟨#[]⟩,.int .i64 ((k : Int) + 1),.bool false,.int .i64 100]) (by simp [results,Tryz.results72,go_sem]) rfl ⟨?_,rfl⟩;exact FIN.out X ⟨#[]⟩ (k + 1) false 100 (by rw [<- HX.out,HR.out,show a + (k + 1 - a) = k + 1 by omega])
   | false =>
    have hpre : a = k /\ True ∨ a < k /\ ∃ (hk1 : k - 1 < b.length),b[k - 1] ≠ 13 := by
     rcases Nat.lt_or_ge a k with h | h
     ·right
      have hk1 : k - 1 < b.length := by omega
      refine ⟨h,hk1,fun e => HN.out rfl h ?_⟩;rw [List.getElem?_eq_getElem hk1,e]
     ·exact .inl ⟨by omega,trivial⟩
    have HPRE := hide hpre;clear hpre HE HN hi1;rcases HPRE.out with ⟨he,_⟩ | ⟨hlk,hk1,hn13⟩
    ·have t1 : ¬ (a : Int) < (k : Int) := by omega
     clear HPRE he;by_cases h10 : x = 10
     ·have t10 : ((x.toNat : Int) == 10) = true := by rw [h10]; rfl
      have HR := hide (lnX_bad (HS.out.1 (by rw [decide_eq_true h10];decide)));clear HS h10;go_wp2_with fail
      refine bodyPost_ret (v := .tuple #[.string ⟨#[]⟩,.int .i64 ((k : Int) + 1),.bool false,.int .i64 100]) (by simp [results,Tryz.results72,go_sem]) rfl ⟨?_,rfl⟩;exact FIN.out X ⟨#[]⟩ (k + 1) false 100 (by rw [<- HX.out,HR.out,show a + (k + 1 - a) = k + 1 by omega])
     ·have t10 : ((x.toNat : Int) == 10) = false := beq_eq_false_iff_ne.2 (u8_ne (k := 10) (by decide) h10)
      by_cases h13 : x = 13
      ·have t13 : ((x.toNat : Int) != 13) = false := by rw [h13]; rfl
       have HL2 := hide (HS.out.2.2.1 rfl h10 h13);clear HS h10 h13;go_wp2_with fail
       exact ⟨⟨k + 1,acc,true,by omega,by omega,by go_num,HL2⟩,by simp [intOf];omega⟩
      ·have t13 : ((x.toNat : Int) != 13) = true := bne_iff_ne.2 (u8_ne (k := 13) (by decide) h13)
       have hsb : (k : Int) - (a : Int) = ((k - a : Nat) : Int) := by omega
       by_cases h8 : 8192 <= k - a
       ·have t8 : (8192 : Int) <= ((k - a : Nat) : Int) := by omega
        have HR := hide (lnX_bad (HS.out.2.2.2.1 rfl h10 h13 h8));clear HS h10 h13 h8;go_wp2_with fail
        refine bodyPost_ret (v := .tuple #[.string ⟨#[]⟩,.int .i64 ((k : Int) + 1),.bool false,.int .i64 100]) (by simp [results,Tryz.results72,go_sem]) rfl ⟨?_,rfl⟩;exact FIN.out X ⟨#[]⟩ (k + 1) false 100 (by rw [<- HX.out,HR.out,show a + (k + 1 - a) = k + 1 by omega])
       ·have t8 : ¬ (8192 : Int) <= ((k - a : Nat) : Int) := by omega
        have HL2 := hide (HS.out.2.2.2.2 rfl h10 h13 h8);clear HS h10 h13 h8;go_wp2_with fail
        exact ⟨⟨k + 1,_,false,by omega,by omega,by go_num,HL2⟩,by simp [intOf];omega⟩
    ·have t1 : (a : Int) < (k : Int) := by omega
     have r0 := HC.out (k - 1) hk1;have hsub : (k : Int) - 1 = ((k - 1 : Nat) : Int) := by omega
     have hb0 := byte_lt b[k - 1];generalize b[k - 1] = y at r0 hn13 hb0;have t0 : ((y.toNat : Int) == 13) = false := beq_eq_false_iff_ne.2 (u8_ne (k := 13) (by decide) hn13);clear HPRE hn13;by_cases h10 : x = 10
     ·have t10 : ((x.toNat : Int) == 10) = true := by rw [h10]; rfl
      have HR := hide (lnX_bad (HS.out.1 (by rw [decide_eq_true h10];decide)));clear HS h10;go_wp2_with fail
      refine bodyPost_ret (v := .tuple #[.string ⟨#[]⟩,.int .i64 ((k : Int) + 1),.bool false,.int .i64 100]) (by simp [results,Tryz.results72,go_sem]) rfl ⟨?_,rfl⟩;exact FIN.out X ⟨#[]⟩ (k + 1) false 100 (by rw [<- HX.out,HR.out,show a + (k + 1 - a) = k + 1 by omega])
     ·have t10 : ((x.toNat : Int) == 10) = false := beq_eq_false_iff_ne.2 (u8_ne (k := 10) (by decide) h10)
      by_cases h13 : x = 13
      ·have t13 : ((x.toNat : Int) != 13) = false := by rw [h13]; rfl
       have HL2 := hide (HS.out.2.2.1 rfl h10 h13);clear HS h10 h13;go_wp2_with fail
       exact ⟨⟨k + 1,acc,true,by omega,by omega,by go_num,HL2⟩,by simp [intOf];omega⟩
      ·have t13 : ((x.toNat : Int) != 13) = true := bne_iff_ne.2 (u8_ne (k := 13) (by decide) h13)
       have hsb : (k : Int) - (a : Int) = ((k - a : Nat) : Int) := by omega
       by_cases h8 : 8192 <= k - a
       ·have t8 : (8192 : Int) <= ((k - a : Nat) : Int) := by omega
        have HR := hide (lnX_bad (HS.out.2.2.2.1 rfl h10 h13 h8));clear HS h10 h13 h8;go_wp2_with fail
        refine bodyPost_ret (v := .tuple #[.string ⟨#[]⟩,.int .i64 ((k : Int) + 1),.bool false,.int .i64 100]) (by simp [results,Tryz.results72,go_sem]) rfl ⟨?_,rfl⟩;exact FIN.out X ⟨#[]⟩ (k + 1) false 100 (by rw [<- HX.out,HR.out,show a + (k + 1 - a) = k + 1 by omega])
       ·have t8 : ¬ (8192 : Int) <= ((k - a : Nat) : Int) := by omega
        have HL2 := hide (HS.out.2.2.2.2 rfl h10 h13 h8);clear HS h10 h13 h8;go_wp2_with fail
        exact ⟨⟨k + 1,_,false,by omega,by omega,by go_num,HL2⟩,by simp [intOf];omega⟩
  ·obtain rfl : k = b.length := by omega
   have HR := hide (lnX_none HL.out.stop);clear hlt hk;go_wp2_with fail
   refine bodyPost_ret (v := .tuple #[.string ⟨#[]⟩,.int .i64 (b.length : Int),.bool false,.int .i64 0]) (by simp [results,Tryz.results72,go_sem]) rfl ⟨?_,rfl⟩;rw [<- HX.out,HR.out];rfl
theorem k2_list (c : UInt8) (s : ByteArray) : (k2 c s).data.toList = s.data.toList.drop ((k1 c s).size + 1) /\ (k1 c s).size <= s.size /\ ((h : (k1 c s).size < s.size) -> s[(k1 c s).size] = c) := by
 unfold k1 k2;rw [sS_list,sS_size];rcases cu_form c s.data.toList with h | ⟨a,b,e,h⟩
 ·rw [(cu_no h).1, (cu_no h).2.1, size_len]
  refine ⟨?_,Nat.le_refl _,fun h2 => by omega⟩;rw [List.drop_of_length_le (by rw [size_len];omega)]
 ·have hsz := size_len s
  rw [e] at hsz |-
  rw [(cu_yes h).1,(cu_yes h).2.1];refine ⟨by simp,by rw [<- hsz];simp,fun h2 => ?_⟩;have h3 : s.data.toList[a.length]? = some c := by rw [e];simp
  rw [List.getElem?_eq_getElem (by rw [size_len];exact h2),Option.some.injEq] at h3;exact h3
theorem k2_no {s : ByteArray} {j : Nat} (h : j < s.size) (h1 : (k1 59 s).size <= j) (h2 : valc s[j] = false) : (k2 59 s).data.toList.all valc = false := by
 obtain ⟨e1,e2,e3⟩ := k2_list 59 s;rcases Nat.eq_or_lt_of_le h1 with h3 | h3
 ·subst h3
  rw [e3 h] at h2;exact absurd h2 (by decide)
 ·rw [e1, Bool.eq_false_iff]
  intro ha;rw [List.all_eq_true] at ha
  have hm : s[j] ∈ s.data.toList.drop ((k1 59 s).size + 1) := by
   rw [List.mem_iff_getElem?];refine ⟨j - ((k1 59 s).size + 1),?_⟩;rw [List.getElem?_drop,show (k1 59 s).size + 1 + (j - ((k1 59 s).size + 1)) = j by omega,List.getElem?_eq_getElem (by rw [size_len];exact h)];rfl
  have := ha _ hm;rw [h2] at this;cases this
theorem k2_yes {s : ByteArray} (h : ∀ (j : Nat) (h : j < s.size),(k1 59 s).size <= j -> valc s[j] = true) : (k2 59 s).data.toList.all valc = true := by
 obtain ⟨e1,e2,e3⟩ := k2_list 59 s;rw [e1,List.all_eq_true];intro x hx;rw [List.mem_iff_getElem?] at hx;obtain ⟨i,hi⟩ := hx;rw [List.getElem?_drop,List.getElem?_eq_some_iff] at hi;obtain ⟨h1,h2⟩ := hi;rw [size_len] at h1;rw [<- h2];exact h _ h1 (by omega)
def szI (s : ByteArray) : Int := match sizeV s with
 | none => -1
 | some n => (n : Int)
theorem rsize_any (s : ByteArray) (w : World) (hs : s.size <= 65536) :
  Calls Tryz.prog 73 #[.string s] w fun e w' => e = .returned (.int .i64 (szI s)) /\ w = w' := by
 have z1 := k1_size 59 s;have HD := hide (fun W => rnumber_16 (k1 59 s) W (by unfold maxLen;omega));generalize hI : szI s = I;unfold szI sizeV at hI
 have hnt : numV 16 (k1 59 s).data.toList <= 9007199254740992 := by
  unfold numV;split
  ·omega
  ·rename_i hh
   rw [not_or,not_or] at hh;have := hh.2.2;unfold top at this;omega
 have HI := hide hI;clear hI;have hm : (k1 59 s).size <= s.size := z1;have HVS : Hid (∀ (j : Nat) (h : j < s.size),(k1 59 s).size <= j -> valc s[j] = false -> (k2 59 s).data.toList.all valc = false) := hide (fun j h h1 h2 => k2_no h h1 h2);have HVA : Hid ((∀ (j : Nat) (h : j < s.size),(k1 59 s).size <= j -> valc s[j] = true) -> (k2 59 s).data.toList.all valc = true) := hide k2_yes;go_enter Tryz.func73,Tryz.ntmps73
 go_wp2_with fail
 go_loop [3,4] (fun d i => ∃ k : Nat,k <= s.size /\ d = .string s /\ i = .int .i64 k /\ Hid (∀ x ∈ s.data.toList.take k,x ≠ 59)) (fun _ i => s.size - (intOf i).toNat)
 case atStart => exact ⟨0,Nat.zero_le _,rfl,rfl,hide (fun x hx => by simp at hx)⟩
 case round =>
  obtain ⟨k,hk,rfl,rfl,HN⟩ := hrel;by_cases hlt : k < s.size
  ·have HTS := hide (take_snoc s k hlt)
   have hlen : k < s.data.toList.length := by rw [size_len];exact hlt
   have hby := byte_lt s[k];by_cases he : s[k] = 59
   ·have t1 : ((s[k].toNat : Int) == 59) = true := by rw [he]; rfl
    have HC := hide (cu_at (c := 59) hlen HN.out (by rw [<- he];rfl));have E1 : k1 59 s = s.extract 0 k := data_inj (by unfold k1;rw [sS_list,HC.out.1,ext_list,List.drop_zero,Nat.sub_zero]);have HM : Hid ((k1 59 s).size = k) := hide (by rw [E1,ext_size];omega);have HEX := hide E1;clear he HTS E1 HC;obtain ⟨m,hmm⟩ : ∃ m,(k1 59 s).size = m := ⟨_,rfl⟩
    rw [hmm] at HVS HVA hm HM;obtain rfl := HM.out;clear hmm;go_wp2_with fail
    rw [<- HEX.out];go_loop [5] (fun i => ∃ k : Nat,m <= k /\ k <= s.size /\ i = .int .i64 k /\ Hid (∀ (j : Nat) (h : j < s.size),m <= j -> j < k -> valc s[j] = true)) (fun i => s.size - (intOf i).toNat)
    case atStart => exact ⟨m,Nat.le_refl _,hm,rfl,hide (fun j _ h1 h2 => by omega)⟩
    case round =>
     obtain ⟨k,hmk,hk,rfl,HA⟩ := hrel;by_cases hlt : k < s.size
     ·have hby := byte_lt s[k]
      have HV := hide (HVS.out k hlt)
      have HA2 : Hid (valc s[k] = true -> ∀ (j : Nat) (h : j < s.size),m <= j -> j < k + 1 -> valc s[j] = true) := hide (fun hv j h h1 h2 => by
       rcases Nat.lt_or_ge j k with h3 | h3
       ·exact HA.out j h h1 h3
       ·obtain rfl : j = k := by omega
        exact hv)
      by_cases hv : valc s[k] = true
      ·have HA3 := hide (HA2.out hv)
       have hv2 := hv;unfold valc at hv2;simp only [Bool.or_eq_true,Bool.and_eq_true,decide_eq_true_eq,Bool.not_eq_true',decide_eq_false_iff_not] at hv2;have t3 : ((s[k].toNat : Int) == 127) = false := beq_eq_false_iff_ne.2 (by omega);by_cases h32 : s[k].toNat < 32
       ·have t1 : (s[k].toNat : Int) < 32 := by omega
        have t2 : ((s[k].toNat : Int) != 9) = false := by rw [bne_eq_false_iff_eq];omega
        clear hv hv2 HA2 HV h32;go_wp2_with fail
        exact ⟨⟨k + 1,by omega,by omega,by go_num,HA3⟩,by simp [intOf];omega⟩
       ·have t1 : ¬ (s[k].toNat : Int) < 32 := by omega
        clear hv hv2 HA2 HV h32;go_wp2_with fail
        exact ⟨⟨k + 1,by omega,by omega,by go_num,HA3⟩,by simp [intOf];omega⟩
      ·have HB := hide (HV.out hmk (by simpa using hv))
       have hv2 := hv;unfold valc at hv2;simp only [Bool.or_eq_true,Bool.and_eq_true,decide_eq_true_eq,Bool.not_eq_true',decide_eq_false_iff_not] at hv2;by_cases h32 : s[k].toNat < 32
       ·have t1 : (s[k].toNat : Int) < 32 := by omega
        have t2 : ((s[k].toNat : Int) != 9) = true := bne_iff_ne.2 (by omega);clear hv hv2 HA2 HV h32;go_wp2_with fail
        go_ret
        exact ⟨ret_int (by rw [<- HI.out,if_pos (.inr HB.out)]),rfl⟩
       ·have t1 : ¬ (s[k].toNat : Int) < 32 := by omega
        have t3 : ((s[k].toNat : Int) == 127) = true := beq_iff_eq.2 (by omega);clear hv hv2 HA2 HV h32;go_wp2_with fail
        go_ret
        exact ⟨ret_int (by rw [<- HI.out,if_pos (.inr HB.out)]),rfl⟩
     ·obtain rfl : k = s.size := by omega
      have HB := hide (HVA.out fun j h h1 => HA.out j h h1 h);clear hlt hk;go_wp2_with fail
      refine (HD.out w).mono ?_;rintro e w' ⟨rfl,rfl⟩;by_cases hne : numE 16 (k1 59 s).data.toList = 0
      ·have t0 : ((numE 16 (k1 59 s).data.toList : Int) != 0) = false := by rw [bne_eq_false_iff_eq]; omega
       have HF : Hid ((numV 16 (k1 59 s).data.toList : Int) = I) := hide (by rw [<- HI.out,if_neg (by rw [HB.out];simp [hne])]);clear hne;generalize numE 16 (k1 59 s).data.toList = ne at t0 |-
       generalize numV 16 (k1 59 s).data.toList = nv at HF hnt |-
       go_wp2_with fail
       go_ret
       exact ⟨ret_int HF.out,rfl⟩
      ·have t0 : ((numE 16 (k1 59 s).data.toList : Int) != 0) = true := bne_iff_ne.2 (by omega)
       have HF : Hid ((-1 : Int) = I) := hide (by rw [<- HI.out,if_pos (.inl hne)]);clear hne;generalize numE 16 (k1 59 s).data.toList = ne at t0 |-
       generalize numV 16 (k1 59 s).data.toList = nv at hnt |-
       go_wp2_with fail
       go_ret
       exact ⟨ret_int HF.out,rfl⟩
   ·have t1 : ((s[k].toNat : Int) == 59) = false := beq_eq_false_iff_ne.2 (u8_ne (k := 59) (by decide) he)
    have HN2 : Hid (∀ x ∈ s.data.toList.take (k + 1),x ≠ 59) := hide (fun x hx => by
     rw [HTS.out,List.mem_append] at hx;rcases hx with h1 | h1
     ·exact HN.out x h1
     ·simp only [List.mem_singleton] at h1
      rw [h1];exact he)
    clear he HTS;go_wp2_with fail
    exact ⟨⟨k + 1,by omega,rfl,by go_num,HN2⟩,by simp [intOf];omega⟩
  ·have HC := hide (cu_no (c := 59) (by have := HN.out; rw [take_all s k (by omega)] at this; exact this))
   have HEX : Hid (k1 59 s = s) := hide (data_inj (by unfold k1;rw [sS_list,HC.out.1]));have HM : Hid ((k1 59 s).size = s.size) := hide (by rw [HEX.out]);obtain rfl : k = s.size := by omega
   clear HC hlt hk;obtain ⟨m,hmm⟩ : ∃ m,(k1 59 s).size = m := ⟨_,rfl⟩
   rw [hmm] at HVS HVA hm HM;rw [HEX.out] at HD HI hnt;have hm2 : s.size <= m := by have := HM.out;omega
   clear hmm HEX z1 HN HM;go_wp2_with fail
   go_loop [5] (fun i => ∃ k : Nat,m <= k /\ k <= s.size /\ i = .int .i64 k /\ Hid (∀ (j : Nat) (h : j < s.size),m <= j -> j < k -> valc s[j] = true)) (fun i => s.size - (intOf i).toNat)
   case atStart => exact ⟨m,Nat.le_refl _,hm,by rw [Nat.le_antisymm hm hm2],hide (fun j _ h1 h2 => by omega)⟩
   case round =>
    obtain ⟨k,hmk,hk,rfl,HA⟩ := hrel;by_cases hlt : k < s.size
    ·have hby := byte_lt s[k]
     have HV := hide (HVS.out k hlt)
     have HA2 : Hid (valc s[k] = true -> ∀ (j : Nat) (h : j < s.size),m <= j -> j < k + 1 -> valc s[j] = true) := hide (fun hv j h h1 h2 => by
      rcases Nat.lt_or_ge j k with h3 | h3
      ·exact HA.out j h h1 h3
      ·obtain rfl : j = k := by omega
       exact hv)
     by_cases hv : valc s[k] = true
     ·have HA3 := hide (HA2.out hv)
      have hv2 := hv;unfold valc at hv2;simp only [Bool.or_eq_true,Bool.and_eq_true,decide_eq_true_eq,Bool.not_eq_true',decide_eq_false_iff_not] at hv2;have t3 : ((s[k].toNat : Int) == 127) = false := beq_eq_false_iff_ne.2 (by omega);by_cases h32 : s[k].toNat < 32
      ·have t1 : (s[k].toNat : Int) < 32 := by omega
       have t2 : ((s[k].toNat : Int) != 9) = false := by rw [bne_eq_false_iff_eq];omega
       clear hv hv2 HA2 HV h32;go_wp2_with fail
       exact ⟨⟨k + 1,by omega,by omega,by go_num,HA3⟩,by simp [intOf];omega⟩
      ·have t1 : ¬ (s[k].toNat : Int) < 32 := by omega
       clear hv hv2 HA2 HV h32;go_wp2_with fail
       exact ⟨⟨k + 1,by omega,by omega,by go_num,HA3⟩,by simp [intOf];omega⟩
     ·have HB := hide (HV.out hmk (by simpa using hv))
      have hv2 := hv;unfold valc at hv2;simp only [Bool.or_eq_true,Bool.and_eq_true,decide_eq_true_eq,Bool.not_eq_true',decide_eq_false_iff_not] at hv2;by_cases h32 : s[k].toNat < 32
      ·have t1 : (s[k].toNat : Int) < 32 := by omega
       have t2 : ((s[k].toNat : Int) != 9) = true := bne_iff_ne.2 (by omega);clear hv hv2 HA2 HV h32;go_wp2_with fail
       go_ret
       exact ⟨ret_int (by rw [<- HI.out,if_pos (.inr HB.out)]),rfl⟩
      ·have t1 : ¬ (s[k].toNat : Int) < 32 := by omega
       have t3 : ((s[k].toNat : Int) == 127) = true := beq_iff_eq.2 (by omega);clear hv hv2 HA2 HV h32;go_wp2_with fail
       go_ret
       exact ⟨ret_int (by rw [<- HI.out,if_pos (.inr HB.out)]),rfl⟩
    ·obtain rfl : k = s.size := by omega
     have HB := hide (HVA.out fun j h h1 => HA.out j h h1 h);clear hlt hk;go_wp2_with fail
     refine (HD.out w).mono ?_;rintro e w' ⟨rfl,rfl⟩;by_cases hne : numE 16 s.data.toList = 0
     ·have t0 : ((numE 16 s.data.toList : Int) != 0) = false := by rw [bne_eq_false_iff_eq]; omega
      have HF : Hid ((numV 16 s.data.toList : Int) = I) := hide (by rw [<- HI.out,if_neg (by rw [HB.out];simp [hne])]);clear hne;generalize numE 16 s.data.toList = ne at t0 |-
      generalize numV 16 s.data.toList = nv at HF hnt |-
      go_wp2_with fail
      go_ret
      exact ⟨ret_int HF.out,rfl⟩
     ·have t0 : ((numE 16 s.data.toList : Int) != 0) = true := bne_iff_ne.2 (by omega)
      have HF : Hid ((-1 : Int) = I) := hide (by rw [<- HI.out,if_pos (.inl hne)]);clear hne;generalize numE 16 s.data.toList = ne at t0 |-
      generalize numV 16 s.data.toList = nv at hnt |-
      go_wp2_with fail
      go_ret
      exact ⟨ret_int HF.out,rfl⟩
theorem calls_ex {P : Program} {f : Nat} {args : Array Value} {w : World} {r : Value} {R : World -> Prop} (c : Calls P f args w fun e w' => e = .returned r /\ R w') : Calls P f args w fun e w' => ∃ u,e = .returned u /\ (u = r /\ R w') :=
 c.mono fun _ _ ⟨h1,h2⟩ => ⟨r,h1,rfl,h2⟩
def trOk (s : ByteArray) : Bool := k3 58 s && decide (chkF (fldF s) = 0)
theorem rtrailer_any (s : ByteArray) (w : World) (hs : s.size <= 8192) :
  Calls Tryz.prog 110 #[.string s] w fun e w' => ∃ r1 r2,e = .returned (.tuple #[.agg #[.string r1,.string r2],.bool (trOk s)]) /\ (k3 58 s = true -> (r1,r2) = fldF s) /\ Below w.heap.size w w' := by
 have HT := hide (fun W => rtrim_any (k2 58 s) W (by have := k2_size 58 s;unfold maxLen;omega));have z1 := k1_size 58 s;have z2 := k2_size 58 s;have z3 := trim_size (k2 58 s)
 have HK := hide (fun (W : World) (v : Value) (hF : Flds W v [(k1 58 s,trimS (k2 58 s))]) => rCheck_any W v _ hF ⟨by simp,fun f hf => by
   rw [List.mem_singleton.1 hf];exact ⟨Nat.le_trans z1 (by omega),Nat.le_trans z3 (by omega)⟩⟩)
 simp only [chk_one] at HK;obtain ⟨ok,hok⟩ : ∃ b,trOk s = b := ⟨_,rfl⟩
 rw [hok];have HOK := hide hok;clear hok;go_enter Tryz.func110,Tryz.ntmps110
 go_wp2_with fail
 have T0 := hide (Bl.one w #[.string ⟨#[]⟩,.string ⟨#[]⟩] 48);have hxs : (w.alloc (.cells #[.string ⟨#[]⟩,.string ⟨#[]⟩] 48)).heap.size = w.heap.size + 1 := by simp
 generalize (w.alloc (.cells #[.string ⟨#[]⟩,.string ⟨#[]⟩] 48)) = x at T0 hxs |-
 go_loopw [4] (fun i wr => ∃ k : Nat,k <= s.size /\ i = .int .i64 k /\ wr = x /\ Hid (∀ x ∈ s.data.toList.take k,x ≠ 58)) (fun i _ => s.size - (intOf i).toNat)
 case atStart => exact ⟨0,Nat.zero_le _,rfl,rfl,hide (fun x hx => by simp at hx)⟩
 case round =>
  obtain ⟨k,hk,rfl,rfl,HN⟩ := hrel;by_cases hlt : k < s.size
  ·have HTS := hide (take_snoc s k hlt)
   have hlen : k < s.data.toList.length := by rw [size_len];exact hlt
   have hby := byte_lt s[k];by_cases he : s[k] = 58
   ·have t1 : ((s[k].toNat : Int) == 58) = true := by rw [he]; rfl
    have HC := hide (cu_at (c := 58) hlen HN.out (by rw [<- he];rfl));have E1 : k1 58 s = s.extract 0 k := data_inj (by unfold k1;rw [sS_list,HC.out.1,ext_list,List.drop_zero,Nat.sub_zero])
    have E2 : k2 58 s = s.extract (k + 1) s.size := data_inj (by
     unfold k2;rw [sS_list,HC.out.2.1,ext_list,List.take_of_length_le];rw [List.length_drop,size_len];omega)
    have E3 : k3 58 s = true := HC.out.2.2;have HOK2 : Hid (decide (chkF (k1 58 s,trimS (k2 58 s)) = 0) = ok) := hide (by have := HOK.out;unfold trOk at this;rw [E3,Bool.true_and] at this;exact this);have HFF : Hid (fldF s = (k1 58 s,trimS (k2 58 s))) := hide rfl;rw [E1,E2] at HK HOK2 HFF;rw [E2] at HT;generalize hna : s.extract 0 k = na at HK HOK2 HFF;generalize hta : s.extract (k + 1) s.size = ta at HT HK HOK2 HFF;generalize trimS ta = va at HT HK HOK2 HFF;generalize chkF (na,va) = ck at HK HOK2;clear he HTS E1 E2 E3 HC HOK z1 z2 z3;have hwr : IntKind.i64.wrap ((k : Int) + 1) = (k : Int) + 1 := IntWalk.i64_in _ ⟨by omega,by omega⟩;have hle1 : (k : Int) + 1 <= (s.size : Int) := by omega
    have hge1 : 0 <= (k : Int) + 1 := by omega
    go_upto_region 5 with fail
    go_region_law (refine step_call rfl 103 _ _ rfl (enters_of Tryz.func103 (by kernel_rfl) rfl) #[.string ta] (by simp [Act.eval,Act.put]) _ (calls_ex (HT.out _)) ?_;rintro r w2 ⟨rfl,rfl⟩)
    all_goals (
     have T1 := hide ((T0.out.add hxs #[.string na,.string va] 48).drew)
     have hys : (wr.alloc (.cells #[.string na,.string va] 48)).drew.heap.size = w.heap.size + 2 := by
      show (wr.alloc (.cells #[.string na,.string va] 48)).heap.size = _
      simp
      omega
     generalize (wr.alloc (.cells #[.string na,.string va] 48)).drew = y at T1 hys |-
     clear T0 hna hta hxs;go_upto_region 6 with fail
     have T2 := hide T1.out.drew;have d0 : y.drew.cell? ⟨w.heap.size + 1,0,none⟩ = some (.string na) := T2.out.cell 1 rfl 0;have d1 : y.drew.cell? ⟨w.heap.size + 1,1,none⟩ = some (.string va) := T2.out.cell 1 rfl 1;have c0 : y.cell? ⟨w.heap.size + 1,0,none⟩ = some (.string na) := T1.out.cell 1 rfl 0;have c1 : y.cell? ⟨w.heap.size + 1,1,none⟩ = some (.string va) := T1.out.cell 1 rfl 1;have HB1 := hide ((Below.refl y.drew.heap.size y.drew).alloc (Nat.le_refl _) (.cells #[.string na,.string va] 48));have T3 := hide (T2.out.below HB1.out);have HCK := hide (HK.out _ _ (flds_one y.drew na va));have e0 : (y.drew.alloc (.cells #[.string na,.string va] 48)).cell? ⟨w.heap.size + 1,0,none⟩ = some (.string na) := T3.out.cell 1 rfl 0;have e1 : (y.drew.alloc (.cells #[.string na,.string va] 48)).cell? ⟨w.heap.size + 1,1,none⟩ = some (.string va) := T3.out.cell 1 rfl 1;go_region_law (refine step_call rfl 137 _ _ rfl (enters_of Tryz.func137 (by kernel_rfl) rfl) #[.slice (some ⟨y.drew.heap.size,0,none⟩) 1 1] (by simp [Act.eval,hys]) _ (calls_ex HCK.out) ?_;rintro r w5 ⟨rfl,b5⟩;have T4 := hide (T3.out.below b5);have s0 : w5.cell? ⟨w.heap.size,0,none⟩ = some (.string ⟨#[]⟩) := T4.out.cell 0 rfl 0;have s1 : w5.cell? ⟨w.heap.size,1,none⟩ = some (.string ⟨#[]⟩) := T4.out.cell 0 rfl 1;have g0 : w5.frozen? ⟨w.heap.size,0,none⟩ = false := T4.out.fr 0 rfl 0;have g1 : w5.frozen? ⟨w.heap.size,1,none⟩ = false := T4.out.fr 0 rfl 1;have d0 : w5.cell? ⟨w.heap.size + 1,0,none⟩ = some (.string na) := T4.out.cell 1 rfl 0;have d1 : w5.cell? ⟨w.heap.size + 1,1,none⟩ = some (.string va) := T4.out.cell 1 rfl 1)
     all_goals (
      have h3 := hp_set (hp_set (T4.out.hp 0 _ _ rfl) 0 (.string na)) 1 (.string va);have k0 := cell_at h3 0;have k1' := cell_at h3 1;have kb := (T4.out.b.setCell (p := ⟨w.heap.size,0,none⟩) (Nat.le_refl _) (.string na)).setCell (p := ⟨w.heap.size,1,none⟩) (Nat.le_refl _) (.string va);simp only [Nat.add_zero] at k0 k1';have k0' : ((w5.setCell ⟨w.heap.size,0,none⟩ (.string na)).setCell ⟨w.heap.size,1,none⟩ (.string va)).cell? ⟨w.heap.size,0,none⟩ = some (.string na) := k0;have k1'' : ((w5.setCell ⟨w.heap.size,0,none⟩ (.string na)).setCell ⟨w.heap.size,1,none⟩ (.string va)).cell? ⟨w.heap.size,1,none⟩ = some (.string va) := k1';clear k0 k1' h3 s0 s1 g0 g1 d0 d1;generalize (w5.setCell ⟨w.heap.size,0,none⟩ (.string na)).setCell ⟨w.heap.size,1,none⟩ (.string va) = w9 at k0' k1'' kb |-
      go_wp2
      exact bodyPost_ret (v := .tuple #[.agg #[.string na,.string va],.bool ((ck : Int) == 0)]) (by simp [results,Tryz.results110,go_sem,k0',k1'']) rfl ⟨_,_,by rw [<- HOK2.out,show ((ck : Int) == 0) = decide (ck = 0) by rw [Bool.eq_iff_iff];simp],(fun _ => HFF.out.symm),kb⟩))
   ·have t1 : ((s[k].toNat : Int) == 58) = false := beq_eq_false_iff_ne.2 (u8_ne (k := 58) (by decide) he)
    have HN2 : Hid (∀ x ∈ s.data.toList.take (k + 1),x ≠ 58) := hide (fun x hx => by
     rw [HTS.out,List.mem_append] at hx;rcases hx with h1 | h1
     ·exact HN.out x h1
     ·simp only [List.mem_singleton] at h1
      rw [h1];exact he)
    clear he HTS;go_wp2_with fail
    exact ⟨⟨k + 1,by omega,by go_num,trivial,HN2⟩,by simp [intOf];omega⟩
  ·have HC := hide (cu_no (c := 58) (by have := HN.out; rw [take_all s k (by omega)] at this; exact this))
   have E3 : k3 58 s = false := HC.out.2.2;have hok : ok = false := by rw [<- HOK.out];unfold trOk;rw [E3];rfl
   subst hok;have HE3 := hide E3;clear HC E3 HOK;have s0 : wr.cell? ⟨w.heap.size,0,none⟩ = some (.string ⟨#[]⟩) := T0.out.cell 0 rfl 0;have s1 : wr.cell? ⟨w.heap.size,1,none⟩ = some (.string ⟨#[]⟩) := T0.out.cell 0 rfl 1;have g0 : wr.frozen? ⟨w.heap.size,0,none⟩ = false := T0.out.fr 0 rfl 0;have g1 : wr.frozen? ⟨w.heap.size,1,none⟩ = false := T0.out.fr 0 rfl 1;go_wp2
   have h3 := hp_set (hp_set (T0.out.hp 0 _ _ rfl) 0 (.string ⟨#[]⟩)) 1 (.string ⟨#[]⟩);have k0 := cell_at h3 0;have k1' := cell_at h3 1;have kb := (T0.out.b.setCell (p := ⟨w.heap.size,0,none⟩) (Nat.le_refl _) (.string ⟨#[]⟩)).setCell (p := ⟨w.heap.size,1,none⟩) (Nat.le_refl _) (.string ⟨#[]⟩);simp only [Nat.add_zero] at k0 k1';generalize (wr.setCell ⟨w.heap.size,0,none⟩ (.string ⟨#[]⟩)).setCell ⟨w.heap.size,1,none⟩ (.string ⟨#[]⟩) = w9 at k0 k1' kb |-
   clear s0 s1 g0 g1;exact bodyPost_ret (v := .tuple #[.agg #[.string ⟨#[]⟩,.string ⟨#[]⟩],.bool false]) (by simp [results,Tryz.results110,go_sem,k0,k1']) rfl ⟨_,_,rfl,(fun h => by rw [HE3.out] at h;cases h),kb⟩
theorem lineR_pos : ∀ (l acc : List UInt8) (en : Bool) {k : Nat} {s : Option (List UInt8)}, lineR acc en l = some (k, s) -> 1 <= k /\ k <= l.length
 | [],acc,en,k,s,h => by rw [lineR] at h;cases h
 | c :: r,acc,en,k,s,h => by
  rw [lineR] at h;rw [List.length_cons]
  have map1 : ∀ {x : Option (Nat × Option (List UInt8))},(x.map fun p => (p.1 + 1,p.2)) = some (k,s) -> ∃ k',x = some (k',s) /\ k = k' + 1 := by
   intro x hx;cases x with
   | none => cases hx
   | some p =>
    simp only [Option.map_some,Option.some.injEq,Prod.mk.injEq] at hx;exact ⟨p.1,by rw [<- hx.2],hx.1.symm⟩
  split at h
  ·simp only [Option.some.injEq,Prod.mk.injEq] at h;omega
  ·split at h
   ·simp only [Option.some.injEq,Prod.mk.injEq] at h;omega
   ·split at h
    ·obtain ⟨k', h1, h2⟩ := map1 h
     have := lineR_pos r _ _ h1;omega
    ·split at h
     ·simp only [Option.some.injEq,Prod.mk.injEq] at h;omega
     ·obtain ⟨k', h1, h2⟩ := map1 h
      have := lineR_pos r _ _ h1;omega
theorem lineR_size : ∀ (l acc : List UInt8) (en : Bool) {k : Nat} {s : List UInt8}, acc.length <= 8192 -> lineR acc en l = some (k, some s) -> s.length <= 8192
 | [],acc,en,k,s,_,h => by rw [lineR] at h;cases h
 | c :: r,acc,en,k,s,ha,h => by
  rw [lineR] at h
  have map1 : ∀ {x : Option (Nat × Option (List UInt8))},(x.map fun p => (p.1 + 1,p.2)) = some (k,some s) -> ∃ k',x = some (k',some s) := by
   intro x hx;cases x with
   | none => cases hx
   | some p =>
    simp only [Option.map_some,Option.some.injEq,Prod.mk.injEq] at hx;exact ⟨p.1,by rw [<- hx.2]⟩
  split at h
  ·cases h
  ·split at h
   ·simp only [Option.some.injEq, Prod.mk.injEq] at h
    rw [<- h.2];exact ha
   ·split at h
    ·obtain ⟨k', h1⟩ := map1 h
     exact lineR_size r _ _ ha h1
    ·split at h
     ·cases h
     ·obtain ⟨k', h1⟩ := map1 h
      exact lineR_size r _ _ (by rw [List.length_append,List.length_singleton];omega) h1
def nOf (g : Nat) (w : World) : Nat := match w.cell? ⟨g,2,none⟩ with
 | some (.int _ n) => n.toNat
 | _ => 0
theorem nOf_eq {g : Nat} {w : World} {n : Nat} (h : w.cell? ⟨g,2,none⟩ = some (.int .i64 (n : Int))) : nOf g w = n := by unfold nOf;rw [h];simp
def rdV (ov tv : Value) (n : Nat) (wh : Bool) (e : Nat) : Value := .agg #[ov,tv,.int .i64 (n : Int),.bool wh,.int .i64 (e : Int)]
theorem rtrailers_any {most n room : Nat} {b o : List UInt8} (oa : Option Addr) (on oc : Nat) (v : Value) (w : World) (hB : Bs w w.heap.size v b) (hA : LbAt most b n o (lnT room [])) (hl : b.length <= 70368744177664) :
  Calls Tryz.prog 74 #[.agg #[.slice oa on oc,.slice none 0 0,.int .i64 (n : Int),.bool false,.int .i64 0],v] w fun e w' => ∃ tv t N wh E,e = .returned (rdV (.slice oa on oc) tv N wh E) /\ Fin' most b o t N wh E /\ FRow w' w.heap.size tv t /\ Below w.heap.size w w' := by
 have HB := hide hB;obtain ⟨va,vc,rfl,_,_⟩ := hB;have HA := hide hA;have hn := hA.le;clear hA;unfold rdV;go_enter Tryz.func74,Tryz.ntmps74
 go_wp2_with fail
 have T0 := hide (Bl.two w #[.slice oa on oc,.slice none 0 0,.int .i64 (n : Int),.bool false,.int .i64 0] 88 #[.slice none 0 0,.slice none 0 0,.int .i64 0,.bool false,.int .i64 0] 88);have hxs : ((w.alloc (.cells #[.slice oa on oc,.slice none 0 0,.int .i64 (n : Int),.bool false,.int .i64 0] 88)).alloc (.cells #[.slice none 0 0,.slice none 0 0,.int .i64 0,.bool false,.int .i64 0] 88)).heap.size = w.heap.size + 2 := by simp
 generalize ((w.alloc (.cells #[.slice oa on oc,.slice none 0 0,.int .i64 (n : Int),.bool false,.int .i64 0] 88)).alloc (.cells #[.slice none 0 0,.slice none 0 0,.int .i64 0,.bool false,.int .i64 0] 88)) = x at T0 hxs |-
 have HXS := hide hxs;clear hxs;go_loopw [5] (fun lv wr => ∃ (k : Nat) (l : List (ByteArray × ByteArray)) (la : Option Addr) (ln lc : Nat),lv = .slice la ln lc /\ k <= b.length /\ Hid (LbAt most b k o (lnT room l)) /\ Hid (l.length <= 100) /\ Hid (w.heap.size + 2 <= wr.heap.size) /\ Hid (FRow wr (w.heap.size + 2) (.slice la ln lc) l) /\ Hid (Bl w wr [(#[.slice oa on oc,.slice none 0 0,.int .i64 (k : Int),.bool false,.int .i64 0],88),(#[.slice none 0 0,.slice none 0 0,.int .i64 0,.bool false,.int .i64 0],88)])) (fun _ wr => b.length - nOf w.heap.size wr)
 case atStart => exact ⟨n,[],none,0,0,rfl,hn,HA,hide (Nat.zero_le _),hide (Nat.le_of_eq HXS.out.symm),hide (FRow.nil _ _),T0⟩
 case round =>
  obtain ⟨k,l,la,ln,lc,rfl,hk,HAk,HLL,HSZ,HR,T1⟩ := hrel;have HNO : Hid (nOf w.heap.size wr = k) := hide (nOf_eq (T1.out.cell 0 rfl 2));have RWT1 := HR;have ZT1 := HSZ;obtain ⟨la',lc',hle,_,_⟩ := HR.out.shape;simp only [Value.slice.injEq] at hle;obtain ⟨rfl,rfl,rfl⟩ := hle;have s2 : wr.cell? ⟨w.heap.size,2,none⟩ = some (.int .i64 (k : Int)) := T1.out.cell 0 rfl 2;have HBW := hide (HB.out.below (Nat.le_trans (Nat.le_add_right _ 2) HSZ.out) T1.out.b);have HLN := hide (rline_any (.slice va b.length vc) b k wr (HBW.out) hk hl);have HXX := hide (rfl : lnX b k = lnX b k);obtain ⟨⟨ls,lnn,lw,le⟩,hX⟩ : ∃ X,lnX b k = X := ⟨_,rfl⟩
  rw [hX] at HLN;have HX := hide hX;clear hX HXX HR;dsimp only at HLN;go_upto_region 3 with (go_at_call 72;refine HLN.out.mono ?_;rintro e w1 ⟨rfl,rfl⟩)
  clear s2 HLN;have s2 : wr.cell? ⟨w.heap.size,2,none⟩ = some (.int .i64 (k : Int)) := T1.out.cell 0 rfl 2;have f2 : wr.frozen? ⟨w.heap.size,2,none⟩ = false := T1.out.fr 0 rfl 2;go_upto_region 4 with fail
  clear s2 f2;have T2 : Hid (Bl w (wr.setCell ⟨w.heap.size,2,none⟩ (.int .i64 (lnn : Int))) [(#[.slice oa on oc,.slice none 0 0,.int .i64 (lnn : Int),.bool false,.int .i64 0],88),(#[.slice none 0 0,.slice none 0 0,.int .i64 0,.bool false,.int .i64 0],88)]) := hide (T1.out.set 0 rfl 2 (.int .i64 (lnn : Int)));have RWT2 := hide (RWT1.out.setOld (g := w.heap.size) (by omega) 2 (.int .i64 (lnn : Int)));have ZT2 : Hid (w.heap.size + 2 <= (wr.setCell ⟨w.heap.size,2,none⟩ (.int .i64 (lnn : Int))).heap.size) := hide (by simpa using ZT1.out);generalize wr.setCell ⟨w.heap.size,2,none⟩ (.int .i64 (lnn : Int)) = x1 at T2 RWT2 ZT2 |-
  clear T1 RWT1 ZT1;have s4 : x1.cell? ⟨w.heap.size,4,none⟩ = some (.int .i64 0) := T2.out.cell 0 rfl 4;have f4 : x1.frozen? ⟨w.heap.size,4,none⟩ = false := T2.out.fr 0 rfl 4;go_upto_region 5 with fail
  clear s4 f4;have T3 : Hid (Bl w (x1.setCell ⟨w.heap.size,4,none⟩ (.int .i64 (le : Int))) [(#[.slice oa on oc,.slice none 0 0,.int .i64 (lnn : Int),.bool false,.int .i64 (le : Int)],88),(#[.slice none 0 0,.slice none 0 0,.int .i64 0,.bool false,.int .i64 0],88)]) := hide (T2.out.set 0 rfl 4 (.int .i64 (le : Int)));have RWT3 := hide (RWT2.out.setOld (g := w.heap.size) (by omega) 4 (.int .i64 (le : Int)));have ZT3 : Hid (w.heap.size + 2 <= (x1.setCell ⟨w.heap.size,4,none⟩ (.int .i64 (le : Int))).heap.size) := hide (by simpa using ZT2.out);generalize x1.setCell ⟨w.heap.size,4,none⟩ (.int .i64 (le : Int)) = x2 at T3 RWT3 ZT3 |-
  clear T2 RWT2 ZT2;cases hR : lineR [] false (b.drop k) with
  | none =>
   have hx := HX.out;rw [lnX_none hR] at hx;simp only [Prod.mk.injEq] at hx;obtain ⟨rfl,rfl,rfl,rfl⟩ := hx;have HF := hide (HAk.out.part (fun e => fn_ne.2.2 e.symm) rfl rfl hR);clear hR HX;have s0 : x2.cell? ⟨w.heap.size,0,none⟩ = some (.slice oa on oc) := T3.out.cell 0 rfl 0;have s1 : x2.cell? ⟨w.heap.size,1,none⟩ = some (.slice none 0 0) := T3.out.cell 0 rfl 1;have s2 : x2.cell? ⟨w.heap.size,2,none⟩ = some (.int .i64 (b.length : Int)) := T3.out.cell 0 rfl 2;have s3 : x2.cell? ⟨w.heap.size,3,none⟩ = some (.bool false) := T3.out.cell 0 rfl 3;have s4 : x2.cell? ⟨w.heap.size,4,none⟩ = some (.int .i64 0) := T3.out.cell 0 rfl 4;have r0 : x2.cell? ⟨w.heap.size + 1,0,none⟩ = some (.slice none 0 0) := T3.out.cell 1 rfl 0;have r1 : x2.cell? ⟨w.heap.size + 1,1,none⟩ = some (.slice none 0 0) := T3.out.cell 1 rfl 1;have r2 : x2.cell? ⟨w.heap.size + 1,2,none⟩ = some (.int .i64 0) := T3.out.cell 1 rfl 2;have r3 : x2.cell? ⟨w.heap.size + 1,3,none⟩ = some (.bool false) := T3.out.cell 1 rfl 3;have r4 : x2.cell? ⟨w.heap.size + 1,4,none⟩ = some (.int .i64 0) := T3.out.cell 1 rfl 4;have f0 : x2.frozen? ⟨w.heap.size + 1,0,none⟩ = false := T3.out.fr 1 rfl 0;have f1 : x2.frozen? ⟨w.heap.size + 1,1,none⟩ = false := T3.out.fr 1 rfl 1;have f2 : x2.frozen? ⟨w.heap.size + 1,2,none⟩ = false := T3.out.fr 1 rfl 2;have f3 : x2.frozen? ⟨w.heap.size + 1,3,none⟩ = false := T3.out.fr 1 rfl 3;have f4 : x2.frozen? ⟨w.heap.size + 1,4,none⟩ = false := T3.out.fr 1 rfl 4;go_wp2_with fail
   have E0 : Hid (Bl w (x2.setCell ⟨w.heap.size + 1,0,none⟩ (.slice oa on oc)) [(#[.slice oa on oc,.slice none 0 0,.int .i64 (b.length : Int),.bool false,.int .i64 0],88),(#[.slice oa on oc,.slice none 0 0,.int .i64 0,.bool false,.int .i64 0],88)]) := hide (T3.out.set 1 rfl 0 (.slice oa on oc));have E1 : Hid (Bl w ((x2.setCell ⟨w.heap.size + 1,0,none⟩ (.slice oa on oc)).setCell ⟨w.heap.size + 1,1,none⟩ (.slice none 0 0)) [(#[.slice oa on oc,.slice none 0 0,.int .i64 (b.length : Int),.bool false,.int .i64 0],88),(#[.slice oa on oc,.slice none 0 0,.int .i64 0,.bool false,.int .i64 0],88)]) := hide (E0.out.set 1 rfl 1 (.slice none 0 0));have E2 : Hid (Bl w (((x2.setCell ⟨w.heap.size + 1,0,none⟩ (.slice oa on oc)).setCell ⟨w.heap.size + 1,1,none⟩ (.slice none 0 0)).setCell ⟨w.heap.size + 1,2,none⟩ (.int .i64 (b.length : Int))) [(#[.slice oa on oc,.slice none 0 0,.int .i64 (b.length : Int),.bool false,.int .i64 0],88),(#[.slice oa on oc,.slice none 0 0,.int .i64 (b.length : Int),.bool false,.int .i64 0],88)]) := hide (E1.out.set 1 rfl 2 (.int .i64 (b.length : Int)));have E3 : Hid (Bl w ((((x2.setCell ⟨w.heap.size + 1,0,none⟩ (.slice oa on oc)).setCell ⟨w.heap.size + 1,1,none⟩ (.slice none 0 0)).setCell ⟨w.heap.size + 1,2,none⟩ (.int .i64 (b.length : Int))).setCell ⟨w.heap.size + 1,3,none⟩ (.bool false)) [(#[.slice oa on oc,.slice none 0 0,.int .i64 (b.length : Int),.bool false,.int .i64 0],88),(#[.slice oa on oc,.slice none 0 0,.int .i64 (b.length : Int),.bool false,.int .i64 0],88)]) := hide (E2.out.set 1 rfl 3 (.bool false))
   have E4 : Hid (Bl w (((((x2.setCell ⟨w.heap.size + 1,0,none⟩ (.slice oa on oc)).setCell ⟨w.heap.size + 1,1,none⟩ (.slice none 0 0)).setCell ⟨w.heap.size + 1,2,none⟩ (.int .i64 (b.length : Int))).setCell ⟨w.heap.size + 1,3,none⟩ (.bool false)).setCell ⟨w.heap.size + 1,4,none⟩ (.int .i64 0)) [(#[.slice oa on oc,.slice none 0 0,.int .i64 (b.length : Int),.bool false,.int .i64 0],88),(#[.slice oa on oc,.slice none 0 0,.int .i64 (b.length : Int),.bool false,.int .i64 0],88)]) := hide (E3.out.set 1 rfl 4 (.int .i64 0));have EB : Hid (Below x2.heap.size x2 x2) := hide (Below.refl _ _);clear s0 r0 f0 s1 r1 f1 s2 r2 f2 s3 r3 f3 s4 r4 f4 EB E0 E1 E2 E3;generalize (((((x2.setCell ⟨w.heap.size + 1,0,none⟩ (.slice oa on oc)).setCell ⟨w.heap.size + 1,1,none⟩ (.slice none 0 0)).setCell ⟨w.heap.size + 1,2,none⟩ (.int .i64 (b.length : Int))).setCell ⟨w.heap.size + 1,3,none⟩ (.bool false)).setCell ⟨w.heap.size + 1,4,none⟩ (.int .i64 0)) = w9 at E4 |-
   have q0 : w9.cell? ⟨w.heap.size + 1,0,none⟩ = some (.slice oa on oc) := E4.out.cell 1 rfl 0;have q1 : w9.cell? ⟨w.heap.size + 1,1,none⟩ = some (.slice none 0 0) := E4.out.cell 1 rfl 1;have q2 : w9.cell? ⟨w.heap.size + 1,2,none⟩ = some (.int .i64 (b.length : Int)) := E4.out.cell 1 rfl 2;have q3 : w9.cell? ⟨w.heap.size + 1,3,none⟩ = some (.bool false) := E4.out.cell 1 rfl 3;have q4 : w9.cell? ⟨w.heap.size + 1,4,none⟩ = some (.int .i64 0) := E4.out.cell 1 rfl 4;exact bodyPost_ret (v := .agg #[.slice oa on oc,.slice none 0 0,.int .i64 (b.length : Int),.bool false,.int .i64 0]) (by simp [results,Tryz.results74,go_sem,q0,q1,q2,q3,q4]) rfl ⟨_,[],_,_,_,rfl,HF.out,FRow.nil _ _,E4.out.b⟩
  | some q =>
   obtain ⟨kk,sl⟩ := q;have hpos := lineR_pos _ _ _ hR;rw [List.length_drop] at hpos;cases sl with
   | none =>
    have hx := HX.out;rw [lnX_bad hR] at hx;simp only [Prod.mk.injEq] at hx;obtain ⟨m,hm⟩ : ∃ m,k + kk = m := ⟨_,rfl⟩
    rw [hm] at hx;obtain ⟨rfl,rfl,rfl,rfl⟩ := hx;have HF := hide (HAk.out.bad (fun e => fn_ne.2.2 e.symm) rfl rfl hR);rw [hm] at HF;clear hR HX hm hpos;have s0 : x2.cell? ⟨w.heap.size,0,none⟩ = some (.slice oa on oc) := T3.out.cell 0 rfl 0;have s1 : x2.cell? ⟨w.heap.size,1,none⟩ = some (.slice none 0 0) := T3.out.cell 0 rfl 1;have s2 : x2.cell? ⟨w.heap.size,2,none⟩ = some (.int .i64 (m : Int)) := T3.out.cell 0 rfl 2;have s3 : x2.cell? ⟨w.heap.size,3,none⟩ = some (.bool false) := T3.out.cell 0 rfl 3;have s4 : x2.cell? ⟨w.heap.size,4,none⟩ = some (.int .i64 100) := T3.out.cell 0 rfl 4;have r0 : x2.cell? ⟨w.heap.size + 1,0,none⟩ = some (.slice none 0 0) := T3.out.cell 1 rfl 0;have r1 : x2.cell? ⟨w.heap.size + 1,1,none⟩ = some (.slice none 0 0) := T3.out.cell 1 rfl 1;have r2 : x2.cell? ⟨w.heap.size + 1,2,none⟩ = some (.int .i64 0) := T3.out.cell 1 rfl 2;have r3 : x2.cell? ⟨w.heap.size + 1,3,none⟩ = some (.bool false) := T3.out.cell 1 rfl 3;have r4 : x2.cell? ⟨w.heap.size + 1,4,none⟩ = some (.int .i64 0) := T3.out.cell 1 rfl 4;have f0 : x2.frozen? ⟨w.heap.size + 1,0,none⟩ = false := T3.out.fr 1 rfl 0;have f1 : x2.frozen? ⟨w.heap.size + 1,1,none⟩ = false := T3.out.fr 1 rfl 1;have f2 : x2.frozen? ⟨w.heap.size + 1,2,none⟩ = false := T3.out.fr 1 rfl 2;have f3 : x2.frozen? ⟨w.heap.size + 1,3,none⟩ = false := T3.out.fr 1 rfl 3;have f4 : x2.frozen? ⟨w.heap.size + 1,4,none⟩ = false := T3.out.fr 1 rfl 4;go_wp2_with fail
    have E0 : Hid (Bl w (x2.setCell ⟨w.heap.size + 1,0,none⟩ (.slice oa on oc)) [(#[.slice oa on oc,.slice none 0 0,.int .i64 (m : Int),.bool false,.int .i64 100],88),(#[.slice oa on oc,.slice none 0 0,.int .i64 0,.bool false,.int .i64 0],88)]) := hide (T3.out.set 1 rfl 0 (.slice oa on oc));have E1 : Hid (Bl w ((x2.setCell ⟨w.heap.size + 1,0,none⟩ (.slice oa on oc)).setCell ⟨w.heap.size + 1,1,none⟩ (.slice none 0 0)) [(#[.slice oa on oc,.slice none 0 0,.int .i64 (m : Int),.bool false,.int .i64 100],88),(#[.slice oa on oc,.slice none 0 0,.int .i64 0,.bool false,.int .i64 0],88)]) := hide (E0.out.set 1 rfl 1 (.slice none 0 0));have E2 : Hid (Bl w (((x2.setCell ⟨w.heap.size + 1,0,none⟩ (.slice oa on oc)).setCell ⟨w.heap.size + 1,1,none⟩ (.slice none 0 0)).setCell ⟨w.heap.size + 1,2,none⟩ (.int .i64 (m : Int))) [(#[.slice oa on oc,.slice none 0 0,.int .i64 (m : Int),.bool false,.int .i64 100],88),(#[.slice oa on oc,.slice none 0 0,.int .i64 (m : Int),.bool false,.int .i64 0],88)]) := hide (E1.out.set 1 rfl 2 (.int .i64 (m : Int)));have E3 : Hid (Bl w ((((x2.setCell ⟨w.heap.size + 1,0,none⟩ (.slice oa on oc)).setCell ⟨w.heap.size + 1,1,none⟩ (.slice none 0 0)).setCell ⟨w.heap.size + 1,2,none⟩ (.int .i64 (m : Int))).setCell ⟨w.heap.size + 1,3,none⟩ (.bool false)) [(#[.slice oa on oc,.slice none 0 0,.int .i64 (m : Int),.bool false,.int .i64 100],88),(#[.slice oa on oc,.slice none 0 0,.int .i64 (m : Int),.bool false,.int .i64 0],88)]) := hide (E2.out.set 1 rfl 3 (.bool false))
    have E4 : Hid (Bl w (((((x2.setCell ⟨w.heap.size + 1,0,none⟩ (.slice oa on oc)).setCell ⟨w.heap.size + 1,1,none⟩ (.slice none 0 0)).setCell ⟨w.heap.size + 1,2,none⟩ (.int .i64 (m : Int))).setCell ⟨w.heap.size + 1,3,none⟩ (.bool false)).setCell ⟨w.heap.size + 1,4,none⟩ (.int .i64 100)) [(#[.slice oa on oc,.slice none 0 0,.int .i64 (m : Int),.bool false,.int .i64 100],88),(#[.slice oa on oc,.slice none 0 0,.int .i64 (m : Int),.bool false,.int .i64 100],88)]) := hide (E3.out.set 1 rfl 4 (.int .i64 100));have EB : Hid (Below x2.heap.size x2 x2) := hide (Below.refl _ _);clear s0 r0 f0 s1 r1 f1 s2 r2 f2 s3 r3 f3 s4 r4 f4 EB E0 E1 E2 E3;generalize (((((x2.setCell ⟨w.heap.size + 1,0,none⟩ (.slice oa on oc)).setCell ⟨w.heap.size + 1,1,none⟩ (.slice none 0 0)).setCell ⟨w.heap.size + 1,2,none⟩ (.int .i64 (m : Int))).setCell ⟨w.heap.size + 1,3,none⟩ (.bool false)).setCell ⟨w.heap.size + 1,4,none⟩ (.int .i64 100)) = w9 at E4 |-
    have q0 : w9.cell? ⟨w.heap.size + 1,0,none⟩ = some (.slice oa on oc) := E4.out.cell 1 rfl 0;have q1 : w9.cell? ⟨w.heap.size + 1,1,none⟩ = some (.slice none 0 0) := E4.out.cell 1 rfl 1;have q2 : w9.cell? ⟨w.heap.size + 1,2,none⟩ = some (.int .i64 (m : Int)) := E4.out.cell 1 rfl 2;have q3 : w9.cell? ⟨w.heap.size + 1,3,none⟩ = some (.bool false) := E4.out.cell 1 rfl 3;have q4 : w9.cell? ⟨w.heap.size + 1,4,none⟩ = some (.int .i64 100) := E4.out.cell 1 rfl 4;exact bodyPost_ret (v := .agg #[.slice oa on oc,.slice none 0 0,.int .i64 (m : Int),.bool false,.int .i64 100]) (by simp [results,Tryz.results74,go_sem,q0,q1,q2,q3,q4]) rfl ⟨_,[],_,_,_,rfl,HF.out,FRow.nil _ _,E4.out.b⟩
   | some sl =>
    have hx := HX.out;rw [lnX_line hR] at hx;simp only [Prod.mk.injEq] at hx;obtain ⟨m,hm⟩ : ∃ m,k + kk = m := ⟨_,rfl⟩
    rw [hm] at hx;obtain ⟨rfl,rfl,rfl,rfl⟩ := hx;have HF := hide (HAk.out.trl hR);rw [hm] at HF;have hkm : k < m := by omega
    have hmb : m <= b.length := by omega
    clear hm hpos;have hsz := lineR_size _ _ _ (Nat.zero_le _) hR;have HSS : Hid ((sS sl).size <= 8192) := hide (by rw [sS_size];exact hsz);clear hR HX hsz;generalize sS sl = s at HF HSS |-
    by_cases h0 : s.size = 0
    ·have t0 := emp_t h0
     have HFN := hide (HF.out.1 h0);clear h0 HF;have s1 : x2.cell? ⟨w.heap.size,1,none⟩ = some (.slice none 0 0) := T3.out.cell 0 rfl 1;have f1 : x2.frozen? ⟨w.heap.size,1,none⟩ = false := T3.out.fr 0 rfl 1;go_upto_region 9 with fail
     clear s1 f1;have T4 : Hid (Bl w (x2.setCell ⟨w.heap.size,1,none⟩ (.slice la l.length lc)) [(#[.slice oa on oc,.slice la l.length lc,.int .i64 (m : Int),.bool false,.int .i64 0],88),(#[.slice none 0 0,.slice none 0 0,.int .i64 0,.bool false,.int .i64 0],88)]) := hide (T3.out.set 0 rfl 1 (.slice la l.length lc));have RWT4 := hide (RWT3.out.setOld (g := w.heap.size) (by omega) 1 (.slice la l.length lc));have ZT4 : Hid (w.heap.size + 2 <= (x2.setCell ⟨w.heap.size,1,none⟩ (.slice la l.length lc)).heap.size) := hide (by simpa using ZT3.out);generalize x2.setCell ⟨w.heap.size,1,none⟩ (.slice la l.length lc) = x3 at T4 RWT4 ZT4 |-
     clear T3 RWT3 ZT3;have s3 : x3.cell? ⟨w.heap.size,3,none⟩ = some (.bool false) := T4.out.cell 0 rfl 3;have f3 : x3.frozen? ⟨w.heap.size,3,none⟩ = false := T4.out.fr 0 rfl 3;go_upto_region 10 with fail
     clear s3 f3;have T5 : Hid (Bl w (x3.setCell ⟨w.heap.size,3,none⟩ (.bool true)) [(#[.slice oa on oc,.slice la l.length lc,.int .i64 (m : Int),.bool true,.int .i64 0],88),(#[.slice none 0 0,.slice none 0 0,.int .i64 0,.bool false,.int .i64 0],88)]) := hide (T4.out.set 0 rfl 3 (.bool true));have RWT5 := hide (RWT4.out.setOld (g := w.heap.size) (by omega) 3 (.bool true));have ZT5 : Hid (w.heap.size + 2 <= (x3.setCell ⟨w.heap.size,3,none⟩ (.bool true)).heap.size) := hide (by simpa using ZT4.out);generalize x3.setCell ⟨w.heap.size,3,none⟩ (.bool true) = x4 at T5 RWT5 ZT5 |-
     clear T4 RWT4 ZT4;have s0 : x4.cell? ⟨w.heap.size,0,none⟩ = some (.slice oa on oc) := T5.out.cell 0 rfl 0;have s1 : x4.cell? ⟨w.heap.size,1,none⟩ = some (.slice la l.length lc) := T5.out.cell 0 rfl 1;have s2 : x4.cell? ⟨w.heap.size,2,none⟩ = some (.int .i64 (m : Int)) := T5.out.cell 0 rfl 2;have s3 : x4.cell? ⟨w.heap.size,3,none⟩ = some (.bool true) := T5.out.cell 0 rfl 3;have s4 : x4.cell? ⟨w.heap.size,4,none⟩ = some (.int .i64 0) := T5.out.cell 0 rfl 4;have r0 : x4.cell? ⟨w.heap.size + 1,0,none⟩ = some (.slice none 0 0) := T5.out.cell 1 rfl 0;have r1 : x4.cell? ⟨w.heap.size + 1,1,none⟩ = some (.slice none 0 0) := T5.out.cell 1 rfl 1;have r2 : x4.cell? ⟨w.heap.size + 1,2,none⟩ = some (.int .i64 0) := T5.out.cell 1 rfl 2;have r3 : x4.cell? ⟨w.heap.size + 1,3,none⟩ = some (.bool false) := T5.out.cell 1 rfl 3;have r4 : x4.cell? ⟨w.heap.size + 1,4,none⟩ = some (.int .i64 0) := T5.out.cell 1 rfl 4;have f0 : x4.frozen? ⟨w.heap.size + 1,0,none⟩ = false := T5.out.fr 1 rfl 0;have f1 : x4.frozen? ⟨w.heap.size + 1,1,none⟩ = false := T5.out.fr 1 rfl 1;have f2 : x4.frozen? ⟨w.heap.size + 1,2,none⟩ = false := T5.out.fr 1 rfl 2;have f3 : x4.frozen? ⟨w.heap.size + 1,3,none⟩ = false := T5.out.fr 1 rfl 3;have f4 : x4.frozen? ⟨w.heap.size + 1,4,none⟩ = false := T5.out.fr 1 rfl 4;go_wp2_with fail
     have E0 : Hid (Bl w (x4.setCell ⟨w.heap.size + 1,0,none⟩ (.slice oa on oc)) [(#[.slice oa on oc,.slice la l.length lc,.int .i64 (m : Int),.bool true,.int .i64 0],88),(#[.slice oa on oc,.slice none 0 0,.int .i64 0,.bool false,.int .i64 0],88)]) := hide (T5.out.set 1 rfl 0 (.slice oa on oc));have E1 : Hid (Bl w ((x4.setCell ⟨w.heap.size + 1,0,none⟩ (.slice oa on oc)).setCell ⟨w.heap.size + 1,1,none⟩ (.slice la l.length lc)) [(#[.slice oa on oc,.slice la l.length lc,.int .i64 (m : Int),.bool true,.int .i64 0],88),(#[.slice oa on oc,.slice la l.length lc,.int .i64 0,.bool false,.int .i64 0],88)]) := hide (E0.out.set 1 rfl 1 (.slice la l.length lc));have E2 : Hid (Bl w (((x4.setCell ⟨w.heap.size + 1,0,none⟩ (.slice oa on oc)).setCell ⟨w.heap.size + 1,1,none⟩ (.slice la l.length lc)).setCell ⟨w.heap.size + 1,2,none⟩ (.int .i64 (m : Int))) [(#[.slice oa on oc,.slice la l.length lc,.int .i64 (m : Int),.bool true,.int .i64 0],88),(#[.slice oa on oc,.slice la l.length lc,.int .i64 (m : Int),.bool false,.int .i64 0],88)]) := hide (E1.out.set 1 rfl 2 (.int .i64 (m : Int)));have E3 : Hid (Bl w ((((x4.setCell ⟨w.heap.size + 1,0,none⟩ (.slice oa on oc)).setCell ⟨w.heap.size + 1,1,none⟩ (.slice la l.length lc)).setCell ⟨w.heap.size + 1,2,none⟩ (.int .i64 (m : Int))).setCell ⟨w.heap.size + 1,3,none⟩ (.bool true)) [(#[.slice oa on oc,.slice la l.length lc,.int .i64 (m : Int),.bool true,.int .i64 0],88),(#[.slice oa on oc,.slice la l.length lc,.int .i64 (m : Int),.bool true,.int .i64 0],88)]) := hide (E2.out.set 1 rfl 3 (.bool true))
     have E4 : Hid (Bl w (((((x4.setCell ⟨w.heap.size + 1,0,none⟩ (.slice oa on oc)).setCell ⟨w.heap.size + 1,1,none⟩ (.slice la l.length lc)).setCell ⟨w.heap.size + 1,2,none⟩ (.int .i64 (m : Int))).setCell ⟨w.heap.size + 1,3,none⟩ (.bool true)).setCell ⟨w.heap.size + 1,4,none⟩ (.int .i64 0)) [(#[.slice oa on oc,.slice la l.length lc,.int .i64 (m : Int),.bool true,.int .i64 0],88),(#[.slice oa on oc,.slice la l.length lc,.int .i64 (m : Int),.bool true,.int .i64 0],88)]) := hide (E3.out.set 1 rfl 4 (.int .i64 0));have EB : Hid (Below x4.heap.size x4 x4) := hide (Below.refl _ _);have RX := hide (((((RWT5.out.setOld (g := w.heap.size + 1) (by omega) 0 (.slice oa on oc)).setOld (g := w.heap.size + 1) (by omega) 1 (.slice la l.length lc)).setOld (g := w.heap.size + 1) (by omega) 2 (.int .i64 (m : Int))).setOld (g := w.heap.size + 1) (by omega) 3 (.bool true)).setOld (g := w.heap.size + 1) (by omega) 4 (.int .i64 0));clear s0 r0 f0 s1 r1 f1 s2 r2 f2 s3 r3 f3 s4 r4 f4 EB E0 E1 E2 E3;generalize (((((x4.setCell ⟨w.heap.size + 1,0,none⟩ (.slice oa on oc)).setCell ⟨w.heap.size + 1,1,none⟩ (.slice la l.length lc)).setCell ⟨w.heap.size + 1,2,none⟩ (.int .i64 (m : Int))).setCell ⟨w.heap.size + 1,3,none⟩ (.bool true)).setCell ⟨w.heap.size + 1,4,none⟩ (.int .i64 0)) = w9 at E4 RX |-
     have q0 : w9.cell? ⟨w.heap.size + 1,0,none⟩ = some (.slice oa on oc) := E4.out.cell 1 rfl 0;have q1 : w9.cell? ⟨w.heap.size + 1,1,none⟩ = some (.slice la l.length lc) := E4.out.cell 1 rfl 1;have q2 : w9.cell? ⟨w.heap.size + 1,2,none⟩ = some (.int .i64 (m : Int)) := E4.out.cell 1 rfl 2;have q3 : w9.cell? ⟨w.heap.size + 1,3,none⟩ = some (.bool true) := E4.out.cell 1 rfl 3;have q4 : w9.cell? ⟨w.heap.size + 1,4,none⟩ = some (.int .i64 0) := E4.out.cell 1 rfl 4;exact bodyPost_ret (v := .agg #[.slice oa on oc,.slice la l.length lc,.int .i64 (m : Int),.bool true,.int .i64 0]) (by simp [results,Tryz.results74,go_sem,q0,q1,q2,q3,q4]) rfl ⟨_,l,_,_,_,rfl,HFN.out,RX.out.lower (by omega),E4.out.b⟩
    ·have t0 := emp_f h0
     have HTR := hide (rtrailer_any s x2 HSS.out);have HF2 := hide (HF.out.2.1 h0);have HF3 := hide (HF.out.2.2 h0);clear h0 HF;generalize hok : trOk s = ok at HTR;have HOK := hide hok;clear hok;go_wp2_with fail
     refine HTR.out.mono ?_;rintro e w3 ⟨r1,r2,rfl,hff,b3⟩;have HFF := hide hff;have T4 := hide (T3.out.below b3);have RWT4 := hide (RWT3.out.below b3);have ZT4 := hide (Nat.le_trans ZT3.out b3.size);clear hff b3 T3 RWT3 ZT3 HTR;go_upto_region 12 with fail
     have BA := hide ((Below.refl w3.heap.size w3).alloc (Nat.le_refl _) (.cells #[.string r1,.string r2] 48));have HD := hide (hp_new w3 (.cells #[.string r1,.string r2] 48));have T5 := hide (T4.out.below BA.out);have RWT5 := hide (RWT4.out.below BA.out);have ZT5 := hide (Nat.le_trans ZT4.out BA.out.size);have ZB5 := ZT4;clear T4 RWT4 ZT4 BA;generalize w3.alloc (.cells #[.string r1,.string r2] 48) = x3 at HD T5 RWT5 ZT5 |-
     generalize w3.heap.size = bf at HD ZB5 |-
     cases ok with
     | false =>
      have HFB := hide (HF2.out (by
       have := HOK.out;unfold trOk at this;rw [Bool.and_eq_false_iff] at this;rcases this with h | h
       ·exact .inl h
       ·exact .inr (.inl (of_decide_eq_false h))))
      clear HF2 HF3 HOK HFF HD;have s4 : x3.cell? ⟨w.heap.size,4,none⟩ = some (.int .i64 0) := T5.out.cell 0 rfl 4;have f4 : x3.frozen? ⟨w.heap.size,4,none⟩ = false := T5.out.fr 0 rfl 4;go_upto_region 14 with fail
      clear s4 f4;have T6 : Hid (Bl w (x3.setCell ⟨w.heap.size,4,none⟩ (.int .i64 100)) [(#[.slice oa on oc,.slice none 0 0,.int .i64 (m : Int),.bool false,.int .i64 100],88),(#[.slice none 0 0,.slice none 0 0,.int .i64 0,.bool false,.int .i64 0],88)]) := hide (T5.out.set 0 rfl 4 (.int .i64 100));have RWT6 := hide (RWT5.out.setOld (g := w.heap.size) (by omega) 4 (.int .i64 100));have ZT6 : Hid (w.heap.size + 2 <= (x3.setCell ⟨w.heap.size,4,none⟩ (.int .i64 100)).heap.size) := hide (by simpa using ZT5.out);generalize x3.setCell ⟨w.heap.size,4,none⟩ (.int .i64 100) = x4 at T6 RWT6 ZT6 |-
      clear T5 RWT5 ZT5;have s0 : x4.cell? ⟨w.heap.size,0,none⟩ = some (.slice oa on oc) := T6.out.cell 0 rfl 0;have s1 : x4.cell? ⟨w.heap.size,1,none⟩ = some (.slice none 0 0) := T6.out.cell 0 rfl 1;have s2 : x4.cell? ⟨w.heap.size,2,none⟩ = some (.int .i64 (m : Int)) := T6.out.cell 0 rfl 2;have s3 : x4.cell? ⟨w.heap.size,3,none⟩ = some (.bool false) := T6.out.cell 0 rfl 3;have s4 : x4.cell? ⟨w.heap.size,4,none⟩ = some (.int .i64 100) := T6.out.cell 0 rfl 4;have r0 : x4.cell? ⟨w.heap.size + 1,0,none⟩ = some (.slice none 0 0) := T6.out.cell 1 rfl 0;have r1 : x4.cell? ⟨w.heap.size + 1,1,none⟩ = some (.slice none 0 0) := T6.out.cell 1 rfl 1;have r2 : x4.cell? ⟨w.heap.size + 1,2,none⟩ = some (.int .i64 0) := T6.out.cell 1 rfl 2;have r3 : x4.cell? ⟨w.heap.size + 1,3,none⟩ = some (.bool false) := T6.out.cell 1 rfl 3;have r4 : x4.cell? ⟨w.heap.size + 1,4,none⟩ = some (.int .i64 0) := T6.out.cell 1 rfl 4;have f0 : x4.frozen? ⟨w.heap.size + 1,0,none⟩ = false := T6.out.fr 1 rfl 0;have f1 : x4.frozen? ⟨w.heap.size + 1,1,none⟩ = false := T6.out.fr 1 rfl 1;have f2 : x4.frozen? ⟨w.heap.size + 1,2,none⟩ = false := T6.out.fr 1 rfl 2;have f3 : x4.frozen? ⟨w.heap.size + 1,3,none⟩ = false := T6.out.fr 1 rfl 3;have f4 : x4.frozen? ⟨w.heap.size + 1,4,none⟩ = false := T6.out.fr 1 rfl 4;go_wp2_with fail
      have E0 : Hid (Bl w (x4.setCell ⟨w.heap.size + 1,0,none⟩ (.slice oa on oc)) [(#[.slice oa on oc,.slice none 0 0,.int .i64 (m : Int),.bool false,.int .i64 100],88),(#[.slice oa on oc,.slice none 0 0,.int .i64 0,.bool false,.int .i64 0],88)]) := hide (T6.out.set 1 rfl 0 (.slice oa on oc));have E1 : Hid (Bl w ((x4.setCell ⟨w.heap.size + 1,0,none⟩ (.slice oa on oc)).setCell ⟨w.heap.size + 1,1,none⟩ (.slice none 0 0)) [(#[.slice oa on oc,.slice none 0 0,.int .i64 (m : Int),.bool false,.int .i64 100],88),(#[.slice oa on oc,.slice none 0 0,.int .i64 0,.bool false,.int .i64 0],88)]) := hide (E0.out.set 1 rfl 1 (.slice none 0 0));have E2 : Hid (Bl w (((x4.setCell ⟨w.heap.size + 1,0,none⟩ (.slice oa on oc)).setCell ⟨w.heap.size + 1,1,none⟩ (.slice none 0 0)).setCell ⟨w.heap.size + 1,2,none⟩ (.int .i64 (m : Int))) [(#[.slice oa on oc,.slice none 0 0,.int .i64 (m : Int),.bool false,.int .i64 100],88),(#[.slice oa on oc,.slice none 0 0,.int .i64 (m : Int),.bool false,.int .i64 0],88)]) := hide (E1.out.set 1 rfl 2 (.int .i64 (m : Int)));have E3 : Hid (Bl w ((((x4.setCell ⟨w.heap.size + 1,0,none⟩ (.slice oa on oc)).setCell ⟨w.heap.size + 1,1,none⟩ (.slice none 0 0)).setCell ⟨w.heap.size + 1,2,none⟩ (.int .i64 (m : Int))).setCell ⟨w.heap.size + 1,3,none⟩ (.bool false)) [(#[.slice oa on oc,.slice none 0 0,.int .i64 (m : Int),.bool false,.int .i64 100],88),(#[.slice oa on oc,.slice none 0 0,.int .i64 (m : Int),.bool false,.int .i64 0],88)]) := hide (E2.out.set 1 rfl 3 (.bool false))
      have E4 : Hid (Bl w (((((x4.setCell ⟨w.heap.size + 1,0,none⟩ (.slice oa on oc)).setCell ⟨w.heap.size + 1,1,none⟩ (.slice none 0 0)).setCell ⟨w.heap.size + 1,2,none⟩ (.int .i64 (m : Int))).setCell ⟨w.heap.size + 1,3,none⟩ (.bool false)).setCell ⟨w.heap.size + 1,4,none⟩ (.int .i64 100)) [(#[.slice oa on oc,.slice none 0 0,.int .i64 (m : Int),.bool false,.int .i64 100],88),(#[.slice oa on oc,.slice none 0 0,.int .i64 (m : Int),.bool false,.int .i64 100],88)]) := hide (E3.out.set 1 rfl 4 (.int .i64 100));have EB : Hid (Below x4.heap.size x4 x4) := hide (Below.refl _ _);clear s0 r0 f0 s1 r1 f1 s2 r2 f2 s3 r3 f3 s4 r4 f4 EB E0 E1 E2 E3;generalize (((((x4.setCell ⟨w.heap.size + 1,0,none⟩ (.slice oa on oc)).setCell ⟨w.heap.size + 1,1,none⟩ (.slice none 0 0)).setCell ⟨w.heap.size + 1,2,none⟩ (.int .i64 (m : Int))).setCell ⟨w.heap.size + 1,3,none⟩ (.bool false)).setCell ⟨w.heap.size + 1,4,none⟩ (.int .i64 100)) = w9 at E4 |-
      have q0 : w9.cell? ⟨w.heap.size + 1,0,none⟩ = some (.slice oa on oc) := E4.out.cell 1 rfl 0;have q1 : w9.cell? ⟨w.heap.size + 1,1,none⟩ = some (.slice none 0 0) := E4.out.cell 1 rfl 1;have q2 : w9.cell? ⟨w.heap.size + 1,2,none⟩ = some (.int .i64 (m : Int)) := E4.out.cell 1 rfl 2;have q3 : w9.cell? ⟨w.heap.size + 1,3,none⟩ = some (.bool false) := E4.out.cell 1 rfl 3;have q4 : w9.cell? ⟨w.heap.size + 1,4,none⟩ = some (.int .i64 100) := E4.out.cell 1 rfl 4;exact bodyPost_ret (v := .agg #[.slice oa on oc,.slice none 0 0,.int .i64 (m : Int),.bool false,.int .i64 100]) (by simp [results,Tryz.results74,go_sem,q0,q1,q2,q3,q4]) rfl ⟨_,[],_,_,_,rfl,HFB.out,FRow.nil _ _,E4.out.b⟩
     | true =>
      have hk3 : k3 58 s = true /\ chkF (fldF s) = 0 := by
       have := HOK.out;unfold trOk at this;rw [Bool.and_eq_true,decide_eq_true_eq] at this;exact this
      have HFE := hide (HFF.out hk3.1);by_cases h100 : l.length = 100
      ·have t1 : (100 : Int) <= (l.length : Int) := by omega
       have HFB := hide (HF2.out (.inr (.inr h100)));clear HF2 HF3 HOK HFF HD hk3 HFE h100;have s4 : x3.cell? ⟨w.heap.size,4,none⟩ = some (.int .i64 0) := T5.out.cell 0 rfl 4;have f4 : x3.frozen? ⟨w.heap.size,4,none⟩ = false := T5.out.fr 0 rfl 4;go_upto_region 14 with fail
       clear s4 f4;have T6 : Hid (Bl w (x3.setCell ⟨w.heap.size,4,none⟩ (.int .i64 100)) [(#[.slice oa on oc,.slice none 0 0,.int .i64 (m : Int),.bool false,.int .i64 100],88),(#[.slice none 0 0,.slice none 0 0,.int .i64 0,.bool false,.int .i64 0],88)]) := hide (T5.out.set 0 rfl 4 (.int .i64 100));have RWT6 := hide (RWT5.out.setOld (g := w.heap.size) (by omega) 4 (.int .i64 100));have ZT6 : Hid (w.heap.size + 2 <= (x3.setCell ⟨w.heap.size,4,none⟩ (.int .i64 100)).heap.size) := hide (by simpa using ZT5.out);generalize x3.setCell ⟨w.heap.size,4,none⟩ (.int .i64 100) = x4 at T6 RWT6 ZT6 |-
       clear T5 RWT5 ZT5;have s0 : x4.cell? ⟨w.heap.size,0,none⟩ = some (.slice oa on oc) := T6.out.cell 0 rfl 0;have s1 : x4.cell? ⟨w.heap.size,1,none⟩ = some (.slice none 0 0) := T6.out.cell 0 rfl 1;have s2 : x4.cell? ⟨w.heap.size,2,none⟩ = some (.int .i64 (m : Int)) := T6.out.cell 0 rfl 2;have s3 : x4.cell? ⟨w.heap.size,3,none⟩ = some (.bool false) := T6.out.cell 0 rfl 3;have s4 : x4.cell? ⟨w.heap.size,4,none⟩ = some (.int .i64 100) := T6.out.cell 0 rfl 4;have r0 : x4.cell? ⟨w.heap.size + 1,0,none⟩ = some (.slice none 0 0) := T6.out.cell 1 rfl 0;have r1 : x4.cell? ⟨w.heap.size + 1,1,none⟩ = some (.slice none 0 0) := T6.out.cell 1 rfl 1;have r2 : x4.cell? ⟨w.heap.size + 1,2,none⟩ = some (.int .i64 0) := T6.out.cell 1 rfl 2;have r3 : x4.cell? ⟨w.heap.size + 1,3,none⟩ = some (.bool false) := T6.out.cell 1 rfl 3;have r4 : x4.cell? ⟨w.heap.size + 1,4,none⟩ = some (.int .i64 0) := T6.out.cell 1 rfl 4;have f0 : x4.frozen? ⟨w.heap.size + 1,0,none⟩ = false := T6.out.fr 1 rfl 0;have f1 : x4.frozen? ⟨w.heap.size + 1,1,none⟩ = false := T6.out.fr 1 rfl 1;have f2 : x4.frozen? ⟨w.heap.size + 1,2,none⟩ = false := T6.out.fr 1 rfl 2;have f3 : x4.frozen? ⟨w.heap.size + 1,3,none⟩ = false := T6.out.fr 1 rfl 3;have f4 : x4.frozen? ⟨w.heap.size + 1,4,none⟩ = false := T6.out.fr 1 rfl 4;go_wp2_with fail
       have E0 : Hid (Bl w (x4.setCell ⟨w.heap.size + 1,0,none⟩ (.slice oa on oc)) [(#[.slice oa on oc,.slice none 0 0,.int .i64 (m : Int),.bool false,.int .i64 100],88),(#[.slice oa on oc,.slice none 0 0,.int .i64 0,.bool false,.int .i64 0],88)]) := hide (T6.out.set 1 rfl 0 (.slice oa on oc));have E1 : Hid (Bl w ((x4.setCell ⟨w.heap.size + 1,0,none⟩ (.slice oa on oc)).setCell ⟨w.heap.size + 1,1,none⟩ (.slice none 0 0)) [(#[.slice oa on oc,.slice none 0 0,.int .i64 (m : Int),.bool false,.int .i64 100],88),(#[.slice oa on oc,.slice none 0 0,.int .i64 0,.bool false,.int .i64 0],88)]) := hide (E0.out.set 1 rfl 1 (.slice none 0 0));have E2 : Hid (Bl w (((x4.setCell ⟨w.heap.size + 1,0,none⟩ (.slice oa on oc)).setCell ⟨w.heap.size + 1,1,none⟩ (.slice none 0 0)).setCell ⟨w.heap.size + 1,2,none⟩ (.int .i64 (m : Int))) [(#[.slice oa on oc,.slice none 0 0,.int .i64 (m : Int),.bool false,.int .i64 100],88),(#[.slice oa on oc,.slice none 0 0,.int .i64 (m : Int),.bool false,.int .i64 0],88)]) := hide (E1.out.set 1 rfl 2 (.int .i64 (m : Int)));have E3 : Hid (Bl w ((((x4.setCell ⟨w.heap.size + 1,0,none⟩ (.slice oa on oc)).setCell ⟨w.heap.size + 1,1,none⟩ (.slice none 0 0)).setCell ⟨w.heap.size + 1,2,none⟩ (.int .i64 (m : Int))).setCell ⟨w.heap.size + 1,3,none⟩ (.bool false)) [(#[.slice oa on oc,.slice none 0 0,.int .i64 (m : Int),.bool false,.int .i64 100],88),(#[.slice oa on oc,.slice none 0 0,.int .i64 (m : Int),.bool false,.int .i64 0],88)]) := hide (E2.out.set 1 rfl 3 (.bool false))
       have E4 : Hid (Bl w (((((x4.setCell ⟨w.heap.size + 1,0,none⟩ (.slice oa on oc)).setCell ⟨w.heap.size + 1,1,none⟩ (.slice none 0 0)).setCell ⟨w.heap.size + 1,2,none⟩ (.int .i64 (m : Int))).setCell ⟨w.heap.size + 1,3,none⟩ (.bool false)).setCell ⟨w.heap.size + 1,4,none⟩ (.int .i64 100)) [(#[.slice oa on oc,.slice none 0 0,.int .i64 (m : Int),.bool false,.int .i64 100],88),(#[.slice oa on oc,.slice none 0 0,.int .i64 (m : Int),.bool false,.int .i64 100],88)]) := hide (E3.out.set 1 rfl 4 (.int .i64 100));have EB : Hid (Below x4.heap.size x4 x4) := hide (Below.refl _ _);clear s0 r0 f0 s1 r1 f1 s2 r2 f2 s3 r3 f3 s4 r4 f4 EB E0 E1 E2 E3;generalize (((((x4.setCell ⟨w.heap.size + 1,0,none⟩ (.slice oa on oc)).setCell ⟨w.heap.size + 1,1,none⟩ (.slice none 0 0)).setCell ⟨w.heap.size + 1,2,none⟩ (.int .i64 (m : Int))).setCell ⟨w.heap.size + 1,3,none⟩ (.bool false)).setCell ⟨w.heap.size + 1,4,none⟩ (.int .i64 100)) = w9 at E4 |-
       have q0 : w9.cell? ⟨w.heap.size + 1,0,none⟩ = some (.slice oa on oc) := E4.out.cell 1 rfl 0;have q1 : w9.cell? ⟨w.heap.size + 1,1,none⟩ = some (.slice none 0 0) := E4.out.cell 1 rfl 1;have q2 : w9.cell? ⟨w.heap.size + 1,2,none⟩ = some (.int .i64 (m : Int)) := E4.out.cell 1 rfl 2;have q3 : w9.cell? ⟨w.heap.size + 1,3,none⟩ = some (.bool false) := E4.out.cell 1 rfl 3;have q4 : w9.cell? ⟨w.heap.size + 1,4,none⟩ = some (.int .i64 100) := E4.out.cell 1 rfl 4;exact bodyPost_ret (v := .agg #[.slice oa on oc,.slice none 0 0,.int .i64 (m : Int),.bool false,.int .i64 100]) (by simp [results,Tryz.results74,go_sem,q0,q1,q2,q3,q4]) rfl ⟨_,[],_,_,_,rfl,HFB.out,FRow.nil _ _,E4.out.b⟩
      ·have t1 : ¬ (100 : Int) <= (l.length : Int) := by have := HLL.out; omega
       have HA2 := hide (HF3.out (by rw [hk3.1,hk3.2];simp [h100]));have HL2 : Hid ((l ++ [fldF s]).length <= 100) := hide (by rw [List.length_append,List.length_singleton];have := HLL.out;omega);have hln : l.length <= 1099511627776 := by have := HLL.out;omega
       rw [<- HFE.out] at HA2 HL2;clear HF2 HF3 HOK HFF hk3 HFE h100;have d0 : x3.cell? ⟨bf,0,none⟩ = some (.string r1) := cell_at HD.out 0;have d1 : x3.cell? ⟨bf,1,none⟩ = some (.string r2) := cell_at HD.out 1;go_wp2_with (at_builtin;apply Hid.out)
       unfold Hid;refine wpList_append_fld rfl _ _ rfl x3 (w.heap.size + 2) (.slice la l.length lc) l r1 r2 rfl rfl RWT5.out hln ZT5.out ?_;intro v' W1 O' B';obtain ⟨na,nc,rfl,_,_⟩ := O'.shape;have R2 := hide O';have T6 := hide (T5.out.low (by simp) B');have Z6 := hide (Nat.le_trans ZT5.out B'.size);have HN2 : Hid (nOf w.heap.size W1 = m) := hide (nOf_eq (T6.out.cell 0 rfl 2));clear O' B' d0 d1 HD;go_wp2_with fail
       go_roundw
       case rel => exact ⟨m,l ++ [(r1,r2)],na,_,nc,rfl,hmb,HA2,HL2,Z6,hide (by have h := R2.out;rw [List.length_append,List.length_singleton] at h;exact h),T6⟩
       case measure => rw [HN2.out,HNO.out];omega
end Go.Proofs.YtcagjipdldlehaaGreatDoor
