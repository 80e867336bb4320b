/- VG. -/
import Derived.Test.YtcagjipdldlehaaGreatDoorVA
namespace Go.Proofs.YtcagjipdldlehaaGreatDoor
open Go.ChangeShapes Go.WideShapes Go.ChangeAt Go.RowKit
set_option linter.unusedVariables false
set_option maxHeartbeats 16000000
set_option maxRecDepth 100000
theorem ext_one (s : ByteArray) (k : Nat) (h : k < s.size) : (s.extract k (k + 1)).data.toList = [s[k]] := by
 rw [ext_list,drop_cons s k h,show k + 1 - k = 1 by omega];rfl
theorem ext_one_size (s : ByteArray) (k : Nat) (h : k < s.size) : (s.extract k (k + 1)).size = 1 := by rw [ext_size];omega
def rest (s : ByteArray) (t : ByteArray) (q sk : Bool) (k : Nat) : List ByteArray := (refL t.data.toList q sk (s.data.toList.drop k)).map sS
def elemS (t : ByteArray) : List ByteArray := if (trimS t).size = 0 then [] else [trimS t]
theorem elemS_eq (t : ByteArray) : (elem t.data.toList).map sS = elemS t := by
 unfold elemS elem;rw [trimS_eq,sS_size];by_cases h0 : trimB t.data.toList = []
 ·rw [if_pos h0,h0];rfl
 ·rw [if_neg h0,if_neg (by intro e;exact h0 (List.eq_nil_of_length_eq_zero e))];rfl
theorem rest_end {s t : ByteArray} {q sk : Bool} {k : Nat} (h : s.size <= k) : rest s t q sk k = elemS t := by
 unfold rest;rw [drop_end s k h,refL,elemS_eq]
theorem rest_cut {s t : ByteArray} {k : Nat} (h : k < s.size) (hc : s[k] = 44) : rest s t false false k = elemS t ++ rest s ⟨#[]⟩ false false (k + 1) := by
 unfold rest;rw [drop_cons s k h,refL,if_pos ⟨hc,rfl⟩,List.map_append,elemS_eq]
theorem rest_next {s t : ByteArray} {q sk : Bool} {k : Nat} (h : k < s.size) (hc : ¬ (s[k] = 44 /\ q = false)) {q' sk' : Bool} (hn : nx q sk s[k] = (q',sk')) : rest s t q sk k = rest s (t ++ s.extract k (k + 1)) q' sk' (k + 1) := by
 unfold rest;rw [drop_cons s k h,refL,if_neg hc,hn,app_list,ext_one s k h]
theorem slice_one (s : ByteArray) (k : Nat) (h : k < s.size) (W : World) : (Instr.slice 9 (.string s) (some (.int .i64 (k : Int))) (some (.int .i64 ((k : Int) + 1))) none).run Tryz.prog W = .ok (.string (s.extract k (k + 1))) W := by
 rw [run_slice_string (P := Tryz.prog) W 9 s .i64 .i64 k (k + 1) Tryz.underlying9 (by omega) (by omega) (by omega)];rfl
theorem rlist_any (s : ByteArray) (w : World) (hs : s.size <= 1099511627776) :
  Calls Tryz.prog 106 #[.string s] w fun e w' => ∃ v,e = .returned v /\ Row w' w.heap.size 9 v (sc (listS s.data.toList)) /\ Below w.heap.size w w' := by
 have HL := hide (listS_len s.data.toList)
 have H0 : Hid (listS s.data.toList = [] ++ rest s ⟨#[]⟩ false false 0) := hide (by
  unfold rest listS;rw [List.drop_zero,List.nil_append,<- refL_list])
 obtain ⟨L,hL⟩ : ∃ L,listS s.data.toList = L := ⟨_,rfl⟩
 rw [hL] at HL H0 |-
 rw [size_len] at HL;clear hL;go_enter Tryz.func106,Tryz.ntmps106
 go_wp2
 go_loopw [3,4,5,6,7] (fun v x b5 b6 i wr => ∃ (k : Nat) (q sk : Bool) (O : List ByteArray) (t : ByteArray),x = .string t /\ b5 = .bool q /\ b6 = .bool sk /\ i = .int .i64 k /\ k <= s.size + 1 /\ t.size <= k /\ Hid (sk = true -> q = true) /\ Hid (k <= s.size -> L = O ++ rest s t q sk k) /\ Hid (s.size < k -> L = O) /\ Hid (Row wr w.heap.size 9 v (sc O)) /\ Hid (Below w.heap.size w wr)) (fun _ _ _ _ i _ => s.size + 1 - (intOf i).toNat)
 case atStart => exact ⟨0,false,false,[],⟨#[]⟩,rfl,rfl,rfl,rfl,by omega,by show 0 <= _;omega,hide (by simp),hide (fun _ => H0.out),hide (by omega),hide (Row.nil _ _ _),hide (Below.refl _ _)⟩
 case round =>
  obtain ⟨k,q,sk,O,t,rfl,rfl,rfl,rfl,hk,ht,HK,H1,H2,HR,HB⟩ := hrel;obtain ⟨a,c,rfl,_,_⟩ := HR.out.shape;rw [sc_len] at *;by_cases hend : k <= s.size
  ·have HN := hide (H1.out hend)
   clear H1 H2
   have hO : O.length <= s.size := by
    have := HL.out;rw [HN.out,List.length_append] at this;omega
   have htm : t.size <= maxLen := by unfold maxLen;omega
   by_cases hlt : k < s.size
   ·have tend : (((k : Int)) == (s.size : Int)) = false := beq_eq_false_iff_ne.2 (by omega)
    have hez := ext_one_size s k hlt;have hsl := fun W => slice_one s k hlt W
    have hb := byte_lt s[k];have HZ := hide (app_size t (s.extract k (k + 1)));by_cases h44 : s[k].toNat = 44
    ·have t44 : (((s[k].toNat : Int)) == 44) = true := beq_iff_eq.2 (by omega)
     have t92 : (((s[k].toNat : Int)) == 92) = false := beq_eq_false_iff_ne.2 (by omega);have t34 : (((s[k].toNat : Int)) == 34) = false := beq_eq_false_iff_ne.2 (by omega);have e44 := byte_is (n := 44) h44 (by decide);have E44 := hide e44;clear e44;cases q with
     | true =>
      cases sk with
      | true =>
       have HF := hide (HN.out.trans (congrArg (O ++ ·) (rest_next (q := true) (sk := true) (q' := true) (sk' := false) hlt (by simp) (by simp [nx]))));go_wp2
       exact ⟨⟨k + 1,true,false,O,_,rfl,rfl,rfl,by go_num,by omega,by rw [HZ.out];omega,hide (by simp),hide (fun _ => HF.out),hide (by omega),HR,HB⟩,by simp [intOf];omega⟩
      | false =>
       have HF := hide (HN.out.trans (congrArg (O ++ ·) (rest_next (q := true) (sk := false) (q' := true) (sk' := false) hlt (by simp) (by simp [nx,E44.out]))));go_wp2
       exact ⟨⟨k + 1,true,false,O,_,rfl,rfl,rfl,by go_num,by omega,by rw [HZ.out];omega,hide (by simp),hide (fun _ => HF.out),hide (by omega),HR,HB⟩,by simp [intOf];omega⟩
     | false =>
      cases sk with
      | true => exact absurd (HK.out rfl) (by simp)
      | false =>
       have HT := hide (fun w => rtrim_any t w htm);have HC : Hid (L = O ++ ((if (trimS t).size = 0 then [] else [trimS t]) ++ rest s ⟨#[]⟩ false false (k + 1))) := hide (HN.out.trans (congrArg (O ++ ·) (rest_cut hlt E44.out)));generalize trimS t = x at HT HC;by_cases hx : x.size = 0
       ·have hxe : x.toList.isEmpty = true := by rw [Lib.toList_data, isEmpty_size]; exact decide_eq_true hx
        have HC2 := hide (show L = O ++ rest s ⟨#[]⟩ false false (k + 1) by rw [HC.out,if_pos hx];rfl);go_wp2_with (go_at_call 103;refine (HT.out _).mono ?_;rintro e w' ⟨rfl,rfl⟩)
        exact ⟨⟨k + 1,false,false,O,⟨#[]⟩,rfl,rfl,rfl,by go_num,by omega,by show 0 <= _;omega,HK,hide (fun _ => HC2.out),hide (by omega),HR,HB⟩,by simp [intOf];omega⟩
       ·have hxe : x.toList.isEmpty = false := by rw [Lib.toList_data, isEmpty_size]; exact decide_eq_false hx
        have HC2 := hide (show L = (O ++ [x]) ++ rest s ⟨#[]⟩ false false (k + 1) by rw [HC.out,if_neg hx];simp);go_wp2_with (first | (go_at_call 103;refine (HT.out _).mono ?_;rintro e w' ⟨rfl,rfl⟩) | (at_builtin;apply Hid.out))
        unfold Hid;refine wpList_append_one elS rfl _ _ rfl wr w.heap.size (.slice a O.length c) (sc O) (.string x) rfl rfl HR.out rfl (by rw [sc_len];omega) (by rw [sc_len];omega) HB.out.size ?_;intro v' w2 O' B';have O2 := hide O';have B2 := hide (HB.out.trans B');clear O' B';go_wp2
        exact ⟨⟨k + 1,false,false,O ++ [x],⟨#[]⟩,rfl,rfl,rfl,by go_num,by omega,by show 0 <= _;omega,HK,hide (fun _ => HC2.out),hide (by omega),hide (by rw [sc_snoc];exact O2.out),B2⟩,by simp [intOf];omega⟩
    ·have t44 : (((s[k].toNat : Int)) == 44) = false := beq_eq_false_iff_ne.2 (by omega)
     have n44 := hide (byte_ne (n := 44) h44 (by decide));by_cases h92 : s[k].toNat = 92
     ·have t92 : (((s[k].toNat : Int)) == 92) = true := beq_iff_eq.2 (by omega)
      have t34 : (((s[k].toNat : Int)) == 34) = false := beq_eq_false_iff_ne.2 (by omega);have E92 := hide (byte_is (n := 92) h92 (by decide));cases q with
      | true =>
       cases sk with
       | true =>
        have HF := hide (HN.out.trans (congrArg (O ++ ·) (rest_next (q := true) (sk := true) (q' := true) (sk' := false) hlt (fun x => n44.out x.1) (by simp [nx]))));go_wp2
        exact ⟨⟨k + 1,true,false,O,_,rfl,rfl,rfl,by go_num,by omega,by rw [HZ.out];omega,hide (by simp),hide (fun _ => HF.out),hide (by omega),HR,HB⟩,by simp [intOf];omega⟩
       | false =>
        have HF := hide (HN.out.trans (congrArg (O ++ ·) (rest_next (q := true) (sk := false) (q' := true) (sk' := true) hlt (fun x => n44.out x.1) (by simp [nx,E92.out]))));go_wp2
        exact ⟨⟨k + 1,true,true,O,_,rfl,rfl,rfl,by go_num,by omega,by rw [HZ.out];omega,hide (by simp),hide (fun _ => HF.out),hide (by omega),HR,HB⟩,by simp [intOf];omega⟩
      | false =>
       cases sk with
       | true => exact absurd (HK.out rfl) (by simp)
       | false =>
        have HF := hide (HN.out.trans (congrArg (O ++ ·) (rest_next (q := false) (sk := false) (q' := false) (sk' := false) hlt (fun x => n44.out x.1) (by simp [nx,E92.out]))));go_wp2
        exact ⟨⟨k + 1,false,false,O,_,rfl,rfl,rfl,by go_num,by omega,by rw [HZ.out];omega,hide (by simp),hide (fun _ => HF.out),hide (by omega),HR,HB⟩,by simp [intOf];omega⟩
     ·have t92 : (((s[k].toNat : Int)) == 92) = false := beq_eq_false_iff_ne.2 (by omega)
      have n92 := hide (byte_ne (n := 92) h92 (by decide));by_cases h34 : s[k].toNat = 34
      ·have t34 : (((s[k].toNat : Int)) == 34) = true := beq_iff_eq.2 (by omega)
       have E34 := hide (byte_is (n := 34) h34 (by decide));cases q with
       | true =>
        cases sk with
        | true =>
         have HF := hide (HN.out.trans (congrArg (O ++ ·) (rest_next (q := true) (sk := true) (q' := true) (sk' := false) hlt (fun x => n44.out x.1) (by simp [nx]))));go_wp2
         exact ⟨⟨k + 1,true,false,O,_,rfl,rfl,rfl,by go_num,by omega,by rw [HZ.out];omega,hide (by simp),hide (fun _ => HF.out),hide (by omega),HR,HB⟩,by simp [intOf];omega⟩
        | false =>
         have HF := hide (HN.out.trans (congrArg (O ++ ·) (rest_next (q := true) (sk := false) (q' := false) (sk' := false) hlt (fun x => n44.out x.1) (by simp [nx,E34.out]))));go_wp2
         exact ⟨⟨k + 1,false,false,O,_,rfl,rfl,rfl,by go_num,by omega,by rw [HZ.out];omega,hide (by simp),hide (fun _ => HF.out),hide (by omega),HR,HB⟩,by simp [intOf];omega⟩
       | false =>
        cases sk with
        | true => exact absurd (HK.out rfl) (by simp)
        | false =>
         have HF := hide (HN.out.trans (congrArg (O ++ ·) (rest_next (q := false) (sk := false) (q' := true) (sk' := false) hlt (fun x => n44.out x.1) (by simp [nx,E34.out]))));go_wp2
         exact ⟨⟨k + 1,true,false,O,_,rfl,rfl,rfl,by go_num,by omega,by rw [HZ.out];omega,hide (by simp),hide (fun _ => HF.out),hide (by omega),HR,HB⟩,by simp [intOf];omega⟩
      ·have t34 : (((s[k].toNat : Int)) == 34) = false := beq_eq_false_iff_ne.2 (by omega)
       have n34 := hide (byte_ne (n := 34) h34 (by decide))
       have HX : nx q false s[k] = (q,false) := by
        unfold nx;rw [if_neg (by simp),if_neg (fun x => n92.out x.1),if_neg (show ¬ s[k] = 34 from n34.out)]
       have HX2 := hide HX;clear HX;cases sk with
       | true =>
        cases q with
        | false => exact absurd (HK.out rfl) (by simp)
        | true =>
         have HF := hide (HN.out.trans (congrArg (O ++ ·) (rest_next (q := true) (sk := true) (q' := true) (sk' := false) hlt (fun x => n44.out x.1) (by simp [nx]))));go_wp2
         exact ⟨⟨k + 1,true,false,O,_,rfl,rfl,rfl,by go_num,by omega,by rw [HZ.out];omega,hide (by simp),hide (fun _ => HF.out),hide (by omega),HR,HB⟩,by simp [intOf];omega⟩
       | false =>
        have HF := hide (HN.out.trans (congrArg (O ++ ·) (rest_next (q := q) (sk := false) (q' := q) (sk' := false) hlt (fun x => n44.out x.1) (by exact HX2.out))));go_wp2
        exact ⟨⟨k + 1,q,false,O,_,rfl,rfl,rfl,by go_num,by omega,by rw [HZ.out];omega,hide (by simp),hide (fun _ => HF.out),hide (by omega),HR,HB⟩,by simp [intOf];omega⟩
   ·have e : k = s.size := by omega
    subst e;have tend : (((s.size : Int)) == (s.size : Int)) = true := beq_self_eq_true _;have HT := hide (fun w => rtrim_any t w htm);have HC : Hid (L = O ++ (if (trimS t).size = 0 then [] else [trimS t])) := hide (HN.out.trans (congrArg (O ++ ·) (rest_end (Nat.le_refl _))));generalize trimS t = x at HT HC;by_cases hx : x.size = 0
    ·have hxe : x.toList.isEmpty = true := by rw [Lib.toList_data, isEmpty_size]; exact decide_eq_true hx
     have HC2 := hide (show L = O by rw [HC.out,if_pos hx];simp);go_wp2_with (go_at_call 103;refine (HT.out _).mono ?_;rintro e w' ⟨rfl,rfl⟩)
     exact ⟨⟨s.size + 1,q,sk,O,⟨#[]⟩,rfl,rfl,rfl,by go_num,by omega,by show 0 <= _;omega,HK,hide (by omega),hide (fun _ => HC2.out),HR,HB⟩,by simp [intOf]⟩
    ·have hxe : x.toList.isEmpty = false := by rw [Lib.toList_data, isEmpty_size]; exact decide_eq_false hx
     have HC2 := hide (show L = O ++ [x] by rw [HC.out,if_neg hx]);go_wp2_with (first | (go_at_call 103;refine (HT.out _).mono ?_;rintro e w' ⟨rfl,rfl⟩) | (at_builtin;apply Hid.out))
     unfold Hid;refine wpList_append_one elS rfl _ _ rfl wr w.heap.size (.slice a O.length c) (sc O) (.string x) rfl rfl HR.out rfl (by rw [sc_len];omega) (by rw [sc_len];omega) HB.out.size ?_;intro v' w2 O' B';have O2 := hide O';have B2 := hide (HB.out.trans B');clear O' B';go_wp2
     exact ⟨⟨s.size + 1,q,sk,O ++ [x],⟨#[]⟩,rfl,rfl,rfl,by go_num,by omega,by show 0 <= _;omega,HK,hide (by omega),hide (fun _ => HC2.out),hide (by rw [sc_snoc];exact O2.out),B2⟩,by simp [intOf]⟩
  ·have HE := hide (H2.out (by omega))
   go_wp2
   go_ret
   exact ⟨_,rfl,by rw [HE.out];exact HR.out,HB.out⟩
theorem elem_mem {p x : List UInt8} (h : x ∈ elem p) : x.length <= p.length := by
 unfold elem at h;split at h
 ·cases h
 ·simp at h;subst h;exact trimB_le p
theorem listB_mem (l : List UInt8) : ∀ x ∈ listB l,x.length <= l.length := by
 induction h : l.length using Nat.strongRecOn generalizing l with
 | ind n ih =>
  intro x hx;by_cases h0 : l = []
  ·subst h0;rw [listB_nil] at hx;cases hx
  ·have hp : 0 < l.length := List.length_pos_iff.2 h0
   rw [listB_cons h0] at hx;rcases List.mem_append.1 hx with hx | hx
   ·have := elem_mem hx
    rw [List.length_take] at this;omega
   ·have := ih _ (by rw [List.length_drop]; omega) (l.drop (pend false false l + 1)) rfl x hx
    rw [List.length_drop] at this;omega
def smallS (v : ByteArray) : List ByteArray := (listS v.data.toList).map lowS
def itemsV (V : List ByteArray) : List ByteArray := V.flatMap smallS
def itemsS (A : List (ByteArray × ByteArray)) (n : ByteArray) : List ByteArray := itemsV (allS A n)
theorem itemsV_snoc (V : List ByteArray) (k : Nat) (hk : k < V.length) (x : ByteArray) (hx : V[k] = x) : itemsV (V.take (k + 1)) = itemsV (V.take k) ++ smallS x := by
 rw [take_snocF V k hk,hx];simp [itemsV]
theorem smallS_len (v : ByteArray) : (smallS v).length <= v.size := by
 unfold smallS;rw [List.length_map,<- size_len];exact listS_len _
theorem smallS_mem {v x : ByteArray} (h : x ∈ smallS v) : x.size <= v.size := by
 unfold smallS listS at h;simp only [List.mem_map] at h;obtain ⟨_,⟨y,hy,rfl⟩,rfl⟩ := h;have := listB_mem _ y hy;rw [size_len] at this;rw [lowS_size,sS_size];exact this
theorem listS_mem {v x : ByteArray} (h : x ∈ listS v.data.toList) : x.size <= v.size := by
 unfold listS at h;simp only [List.mem_map] at h;obtain ⟨y,hy,rfl⟩ := h;have := listB_mem _ y hy;rw [size_len] at this;rw [sS_size];exact this
theorem allS_mem {A : List (ByteArray × ByteArray)} {n x : ByteArray} (hs : Sm A) (h : x ∈ allS A n) : x.size <= 1048576 := by
 unfold allS at h;simp only [List.mem_map,List.mem_filter] at h;obtain ⟨f,⟨h1,_⟩,rfl⟩ := h;exact (hs.2 f h1).2
theorem allS_le {A : List (ByteArray × ByteArray)} {n : ByteArray} (hs : Sm A) : (allS A n).length <= 1048576 := by
 unfold allS;rw [List.length_map];exact Nat.le_trans (List.length_filter_le _ _) hs.1
theorem itemsV_len (V : List ByteArray) (hV : ∀ x ∈ V,x.size <= 1048576) : (itemsV V).length <= V.length * 1048576 := by
 induction V with
 | nil => simp [itemsV]
 | cons a r ih =>
  have h1 := ih (fun x hx => hV x (List.mem_cons_of_mem _ hx));have h2 := smallS_len a;have h3 := hV a (List.mem_cons_self ..);simp only [itemsV,List.flatMap_cons,List.length_append,List.length_cons] at h1 |-
  omega
theorem itemsV_mem (V : List ByteArray) (hV : ∀ x ∈ V,x.size <= 1048576) : ∀ x ∈ itemsV V,x.size <= 1048576 := by
 intro x hx;unfold itemsV at hx;simp only [List.mem_flatMap] at hx;obtain ⟨v,hv,hx⟩ := hx;exact Nat.le_trans (smallS_mem hx) (hV v hv)
theorem items_any (w : World) (l : Value) (A : List (ByteArray × ByteArray)) (n : ByteArray) (hA : Flds w l A) (hs : Sm A) (hn : n.size <= 1048576) :
  Calls Tryz.prog 155 #[l,.string n] w fun e w' => ∃ v,e = .returned v /\ Row w' w.heap.size 9 v (sc (itemsS A n)) /\ Below w.heap.size w w' := by
 have HAL := hide (all_any w l A n hA hs hn);have HVM := hide (fun x (hx : x ∈ allS A n) => allS_mem hs hx);have hVl := allS_le (n := n) hs;unfold itemsS;obtain ⟨a0,c0,rfl,hc0,hcells⟩ := hA;clear hcells hs hn hc0;generalize allS A n = V at HAL HVM hVl |-
 go_enter Tryz.func155,Tryz.ntmps155
 go_wp2_with fail
 refine HAL.out.mono ?_;rintro e w1 ⟨v1,rfl,hV,b1⟩;obtain ⟨a1,c1,rfl,hcv⟩ := Strs.of_row hV;clear hV;have HV := hide hcv;have B1 := hide b1;clear hcv b1 HAL;go_wp2
 go_loopw [14,5] (fun i v wr => ∃ (k : Nat) (O : List ByteArray),k <= V.length /\ i = .int .i64 k /\ O.length <= k * 1048576 /\ Hid (itemsV (V.take k) = O) /\ Hid (Row wr w1.heap.size 9 v (sc O)) /\ Hid (Below w1.heap.size w1 wr)) (fun i _ _ => V.length - (intOf i).toNat)
 case atStart => exact ⟨0,[],Nat.zero_le _,rfl,Nat.zero_le _,hide rfl,hide (Row.nil _ _ _),hide (Below.refl _ _)⟩
 case round =>
  obtain ⟨k,O,hk,rfl,hO,HO,HR,HB⟩ := hrel;obtain ⟨a6,c6,rfl,_,_⟩ := HR.out.shape;rw [sc_len] at *;by_cases hlt : k < V.length
  ·obtain ⟨g1, rfl, hgl, q1⟩ := HV.out k hlt
   have hxs := HVM.out V[k] (List.getElem_mem hlt);have HNX := hide (fun x hx => itemsV_snoc V k hlt x hx);obtain ⟨x,hx⟩ : ∃ x,V[k] = x := ⟨_,rfl⟩
   rw [hx] at q1 hxs;have HX := hide (HNX.out x hx);clear hx HNX;have r1 : wr.cell? ⟨g1,k,none⟩ = some (.string x) := (HB.out.cell (p := ⟨g1,k,none⟩) hgl).trans q1;clear q1 hgl;go_wp2_with fail
   refine (list_any x wr (by omega)).mono ?_;rintro e w2 ⟨v2,rfl,hP,b2⟩;have hPl : (listS x.data.toList).length <= x.size := by rw [<- size_len];exact listS_len _
   have HPM := hide (fun y (hy : y ∈ listS x.data.toList) => listS_mem hy)
   have HAP : Hid (∀ g,v2.ownBlock = some g -> g < w2.heap.size /\ (Value.slice a6 O.length c6).ownBlock ≠ some g) := hide (fun g hg => ⟨(hP.lt hg).2,fun h => by
    have h1 := (hP.lt hg).1;have h2 := (HR.out.lt h).2;omega⟩)
   have HR2 := hide (HR.out.below b2);have HB2 := hide (HB.out.trans (b2.mono HB.out.size));have HX2 : Hid (itemsV (V.take (k + 1)) = O ++ ((listS x.data.toList)).map lowS) := hide (by rw [HX.out,HO.out];rfl);clear HX r1 HR HB b2;generalize listS x.data.toList = P at hP hPl HPM HX2;have HS2 := Strs.of_row hP;clear hP;obtain ⟨a2,c2,rfl,hc2⟩ := HS2;have HC2 := hide hc2;clear hc2;go_wp2
   go_loopw [21,5] (fun j v wq => ∃ (m : Nat) (O2 : List ByteArray),m <= P.length /\ j = .int .i64 m /\ O2.length <= O.length + m /\ Hid (O2 = O ++ (P.take m).map lowS) /\ Hid (Row wq w1.heap.size 9 v (sc O2)) /\ Hid (Below w1.heap.size w1 wq) /\ Hid (Kept w2 wq (.slice a6 O.length c6) v)) (fun j _ _ => P.length - (intOf j).toNat)
   case atStart => exact ⟨0,O,Nat.zero_le _,rfl,Nat.le_refl _,hide (by simp),HR2,HB2,hide (Kept.refl _ _)⟩
   case round =>
    obtain ⟨m,O2,hm,rfl,hO2,HO2,HRq,HBq,HKq⟩ := hrel;obtain ⟨a7,c7,rfl,_,_⟩ := HRq.out.shape;rw [sc_len] at *;by_cases hlm : m < P.length
    ·obtain ⟨g2, rfl, hg2, q2⟩ := HC2.out m hlm
     have hys := Nat.le_trans (HPM.out P[m] (List.getElem_mem hlm)) hxs;have HTK := hide (take_snocF P m hlm);obtain ⟨y,hy⟩ : ∃ y,P[m] = y := ⟨_,rfl⟩
     rw [hy] at q2 hys HTK;clear hy;have hap := HAP.out g2 rfl;have r2 : wr.cell? ⟨g2,m,none⟩ = some (.string y) := (HKq.out.cell hap.1 hap.2).trans q2;clear q2 hap hg2;go_wp2_with fail
     refine (lower_any y wr (by unfold maxLen;omega)).mono ?_;rintro e w3 ⟨rfl,b3⟩;have HO3 : Hid (O2 ++ [lowS y] = O ++ (P.take (m + 1)).map lowS) := hide (by rw [HO2.out,HTK.out];simp);generalize lowS y = ly at HO3 |-
     have HR3 := hide (HRq.out.below b3);have HB3 := hide (HBq.out.trans (b3.mono HBq.out.size));have HK3 := hide (HKq.out.below b3);clear HRq HBq HKq b3 HTK;go_wp2_with (at_builtin;apply Hid.out)
     unfold Hid;refine wpList_append_one_k elS rfl _ _ rfl w3 w1.heap.size (.slice a7 O2.length c7) (sc O2) (.string ly) rfl rfl HR3.out rfl (by rw [sc_len];omega) (by rw [sc_len];omega) HB3.out.size ?_;intro v' w4 O' B' K';have O5 := hide O';have B5 := hide (HB3.out.trans B');have K5 := hide (HK3.out.trans K');clear O' B' K';go_wp2
     exact ⟨⟨m + 1,O2 ++ [ly],by omega,by go_num,by rw [List.length_append];simp;omega,HO3,hide (by rw [sc_snoc];exact O5.out),B5,K5⟩,by simp [intOf];omega⟩
    ·have HO4 : Hid (itemsV (V.take (k + 1)) = O2) := hide (by rw [HX2.out, HO2.out, List.take_of_length_le (by omega)])
     go_wp2
     exact ⟨⟨k + 1,O2,by omega,by go_num,by omega,HO4,HRq,HBq⟩,by simp [intOf];omega⟩
  ·have HE : Hid (itemsV V = O) := hide (by rw [<- HO.out, List.take_of_length_le (by omega)])
   go_wp2
   go_ret
   exact ⟨_,rfl,by rw [HE.out];exact HR.out.lower B1.out.size,B1.out.trans (HB.out.mono B1.out.size)⟩
theorem ritems_any (w : World) (l : Value) (A : List (ByteArray × ByteArray)) (n : ByteArray) (hA : Flds w l A) (hs : Sm A) (hn : n.size <= 1048576) :
  Calls Tryz.prog 69 #[l,.string n] w fun e w' => ∃ v,e = .returned v /\ Row w' w.heap.size 9 v (sc (itemsS A n)) /\ Below w.heap.size w w' := by
 have HAL := hide (rall_any w l A n hA hs hn);have HVM := hide (fun x (hx : x ∈ allS A n) => allS_mem hs hx);have hVl := allS_le (n := n) hs;unfold itemsS;obtain ⟨a0,c0,rfl,hc0,hcells⟩ := hA;clear hcells hs hn hc0;generalize allS A n = V at HAL HVM hVl |-
 go_enter Tryz.func69,Tryz.ntmps69
 go_wp2_with fail
 refine HAL.out.mono ?_;rintro e w1 ⟨v1,rfl,hV,b1⟩;obtain ⟨a1,c1,rfl,hcv⟩ := Strs.of_row hV;clear hV;have HV := hide hcv;have B1 := hide b1;clear hcv b1 HAL;go_wp2
 go_loopw [14,5] (fun i v wr => ∃ (k : Nat) (O : List ByteArray),k <= V.length /\ i = .int .i64 k /\ O.length <= k * 1048576 /\ Hid (itemsV (V.take k) = O) /\ Hid (Row wr w1.heap.size 9 v (sc O)) /\ Hid (Below w1.heap.size w1 wr)) (fun i _ _ => V.length - (intOf i).toNat)
 case atStart => exact ⟨0,[],Nat.zero_le _,rfl,Nat.zero_le _,hide rfl,hide (Row.nil _ _ _),hide (Below.refl _ _)⟩
 case round =>
  obtain ⟨k,O,hk,rfl,hO,HO,HR,HB⟩ := hrel;obtain ⟨a6,c6,rfl,_,_⟩ := HR.out.shape;rw [sc_len] at *;by_cases hlt : k < V.length
  ·obtain ⟨g1, rfl, hgl, q1⟩ := HV.out k hlt
   have hxs := HVM.out V[k] (List.getElem_mem hlt);have HNX := hide (fun x hx => itemsV_snoc V k hlt x hx);obtain ⟨x,hx⟩ : ∃ x,V[k] = x := ⟨_,rfl⟩
   rw [hx] at q1 hxs;have HX := hide (HNX.out x hx);clear hx HNX;have r1 : wr.cell? ⟨g1,k,none⟩ = some (.string x) := (HB.out.cell (p := ⟨g1,k,none⟩) hgl).trans q1;clear q1 hgl;go_wp2_with fail
   refine (rlist_any x wr (by omega)).mono ?_;rintro e w2 ⟨v2,rfl,hP,b2⟩;have hPl : (listS x.data.toList).length <= x.size := by rw [<- size_len];exact listS_len _
   have HPM := hide (fun y (hy : y ∈ listS x.data.toList) => listS_mem hy)
   have HAP : Hid (∀ g,v2.ownBlock = some g -> g < w2.heap.size /\ (Value.slice a6 O.length c6).ownBlock ≠ some g) := hide (fun g hg => ⟨(hP.lt hg).2,fun h => by
    have h1 := (hP.lt hg).1;have h2 := (HR.out.lt h).2;omega⟩)
   have HR2 := hide (HR.out.below b2);have HB2 := hide (HB.out.trans (b2.mono HB.out.size));have HX2 : Hid (itemsV (V.take (k + 1)) = O ++ ((listS x.data.toList)).map lowS) := hide (by rw [HX.out,HO.out];rfl);clear HX r1 HR HB b2;generalize listS x.data.toList = P at hP hPl HPM HX2;have HS2 := Strs.of_row hP;clear hP;obtain ⟨a2,c2,rfl,hc2⟩ := HS2;have HC2 := hide hc2;clear hc2;go_wp2
   go_loopw [21,5] (fun j v wq => ∃ (m : Nat) (O2 : List ByteArray),m <= P.length /\ j = .int .i64 m /\ O2.length <= O.length + m /\ Hid (O2 = O ++ (P.take m).map lowS) /\ Hid (Row wq w1.heap.size 9 v (sc O2)) /\ Hid (Below w1.heap.size w1 wq) /\ Hid (Kept w2 wq (.slice a6 O.length c6) v)) (fun j _ _ => P.length - (intOf j).toNat)
   case atStart => exact ⟨0,O,Nat.zero_le _,rfl,Nat.le_refl _,hide (by simp),HR2,HB2,hide (Kept.refl _ _)⟩
   case round =>
    obtain ⟨m,O2,hm,rfl,hO2,HO2,HRq,HBq,HKq⟩ := hrel;obtain ⟨a7,c7,rfl,_,_⟩ := HRq.out.shape;rw [sc_len] at *;by_cases hlm : m < P.length
    ·obtain ⟨g2, rfl, hg2, q2⟩ := HC2.out m hlm
     have hys := Nat.le_trans (HPM.out P[m] (List.getElem_mem hlm)) hxs;have HTK := hide (take_snocF P m hlm);obtain ⟨y,hy⟩ : ∃ y,P[m] = y := ⟨_,rfl⟩
     rw [hy] at q2 hys HTK;clear hy;have hap := HAP.out g2 rfl;have r2 : wr.cell? ⟨g2,m,none⟩ = some (.string y) := (HKq.out.cell hap.1 hap.2).trans q2;clear q2 hap hg2;go_wp2_with fail
     refine (rlower_any y wr (by omega)).mono ?_;rintro e w3 ⟨rfl,b3⟩;have HO3 : Hid (O2 ++ [lowS y] = O ++ (P.take (m + 1)).map lowS) := hide (by rw [HO2.out,HTK.out];simp);generalize lowS y = ly at HO3 |-
     have HR3 := hide (HRq.out.below b3);have HB3 := hide (HBq.out.trans (b3.mono HBq.out.size));have HK3 := hide (HKq.out.below b3);clear HRq HBq HKq b3 HTK;go_wp2_with (at_builtin;apply Hid.out)
     unfold Hid;refine wpList_append_one_k elS rfl _ _ rfl w3 w1.heap.size (.slice a7 O2.length c7) (sc O2) (.string ly) rfl rfl HR3.out rfl (by rw [sc_len];omega) (by rw [sc_len];omega) HB3.out.size ?_;intro v' w4 O' B' K';have O5 := hide O';have B5 := hide (HB3.out.trans B');have K5 := hide (HK3.out.trans K');clear O' B' K';go_wp2
     exact ⟨⟨m + 1,O2 ++ [ly],by omega,by go_num,by rw [List.length_append];simp;omega,HO3,hide (by rw [sc_snoc];exact O5.out),B5,K5⟩,by simp [intOf];omega⟩
    ·have HO4 : Hid (itemsV (V.take (k + 1)) = O2) := hide (by rw [HX2.out, HO2.out, List.take_of_length_le (by omega)])
     go_wp2
     exact ⟨⟨k + 1,O2,by omega,by go_num,by omega,HO4,HRq,HBq⟩,by simp [intOf];omega⟩
  ·have HE : Hid (itemsV V = O) := hide (by rw [<- HO.out, List.take_of_length_le (by omega)])
   go_wp2
   go_ret
   exact ⟨_,rfl,by rw [HE.out];exact HR.out.lower B1.out.size,B1.out.trans (HB.out.mono B1.out.size)⟩
def getS (V : List ByteArray) : ByteArray := sS (joinB (V.map fun x => x.data.toList))
theorem join_eq : ∀ L : List (List UInt8), Lib.join L [44, 32] = joinB L
 | [] => rfl
 | [x] => by rw [Lib.join_one];rfl
 | x :: y :: r => by
  have h := join_eq (y :: r);rw [joinB,<- h];simp [Lib.join,List.intercalate,List.intersperse]
theorem joinB_len : ∀ (V : List ByteArray), (∀ x ∈ V, x.size <= 1048576) -> (joinB (V.map fun x => x.data.toList)).length <= V.length * 1048578
 | [],_ => by simp [joinB]
 | [x],h => by
  have := h x (by simp);simp only [List.map_cons,List.map_nil,joinB,size_len,List.length_cons,List.length_nil];omega
 | x :: y :: r,h => by
  have h1 := joinB_len (y :: r) (fun z hz => h z (List.mem_cons_of_mem _ hz));have h2 := h x (by simp);simp only [List.map_cons,joinB,List.length_append,size_len,List.length_cons,List.length_nil] at h1 |-
  omega
theorem getS_size (V : List ByteArray) (h : ∀ x ∈ V,x.size <= 1048576) : (getS V).size <= V.length * 1048578 := by
 unfold getS;rw [sS_size];exact joinB_len V h
theorem get_step (V : List ByteArray) (k : Nat) (h : k < V.length) (t x : ByteArray) (ht : t = getS (V.take k)) (hx : V[k] = x) : (if k = 0 then t ++ x else (t ++ ⟨#[44,32]⟩) ++ x) = getS (V.take (k + 1)) := by
 have e : ∀ a b : ByteArray,a.data.toList = b.data.toList -> a = b := by
  intro a b hab;cases a;cases b;simp only [ByteArray.mk.injEq];exact Array.toList_inj.1 hab
 apply e
 unfold getS;rw [sS_list,take_snocF V k h,List.map_append,List.map_cons,List.map_nil,joinB_snoc];subst ht hx;by_cases h0 : k = 0
 ·subst h0
  simp [getS,sS_list,joinB]
 ·have hn : (V.take k).map (fun x => x.data.toList) ≠ [] := by
   intro hh;have := congrArg List.length hh;rw [List.length_map,List.length_take] at this;simp only [List.length_nil] at this;omega
  rw [if_neg h0,if_neg hn,app_list,app_list];unfold getS;rw [sS_list]
theorem join_any (g c : Nat) (V : List ByteArray) (w : World) (hc : ∀ (j : Nat) x, V[j]? = some x -> w.cell? ⟨g, 0 + j, none⟩ = some (.string x)) (hg : g < w.heap.size) (hV : V.length <= 1048576) (hcap : V.length <= c) (hz : (joinB (V.map fun x => x.data.toList)).length <= V.length * 1048578) :
  Calls Tryz.prog 154 #[.slice (some ⟨g,0,none⟩) V.length c,.string ⟨#[44,32]⟩] w fun e w' => e = .returned (.string (getS V)) /\ Below w.heap.size w w' := by
 have hj : Lib.join (V.map fun x => x.data.toList) (⟨#[44,32]⟩ : ByteArray).data.toList = joinB (V.map fun x => x.data.toList) := join_eq _;have h := Tryz.strings_Join g 0 c V ⟨#[44,32]⟩ w hc hg (by omega) hcap (by rw [hj];omega);rw [hj] at h;exact h
theorem get_any (w : World) (l : Value) (A : List (ByteArray × ByteArray)) (n : ByteArray) (hA : Flds w l A) (hs : Sm A) (hn : n.size <= 1048576) :
  Calls Tryz.prog 128 #[l,.string n] w fun e w' => e = .returned (.tuple #[.string (getS (allS A n)),.bool (decide (0 < (allS A n).length))]) /\ Below w.heap.size w w' := by
 have HAL := hide (all_any w l A n hA hs hn);have HVM := hide (fun x (hx : x ∈ allS A n) => allS_mem hs hx);have hVl := allS_le (n := n) hs;clear hA hs hn;generalize allS A n = V at HAL HVM hVl |-
 have HSZ := hide (joinB_len V HVM.out);by_cases h0 : V.length = 0
 ·have hV0 : V = [] := List.eq_nil_of_length_eq_zero h0
  subst hV0;clear h0 hVl;go_enter Tryz.func128,Tryz.ntmps128
  go_wp2_with fail
  refine HAL.out.mono ?_;rintro e w1 ⟨v1,rfl,hV,b1⟩;obtain ⟨a1,c1,rfl,_,_⟩ := hV.shape;have B1 := hide b1;clear hV b1 HAL;go_wp2_with fail
  refine (Tryz.strings_Join_none _ _ _ _).mono ?_;rintro e w2 ⟨rfl,rfl⟩;go_wp2
  go_ret2
  exact ⟨rfl,B1.out⟩
 ·have hpos : 0 < V.length := by omega
  have td : decide (0 < V.length) = true := decide_eq_true hpos;rw [td];have hpi : (0 : Int) < (V.length : Int) := by omega
  clear h0 td;go_enter Tryz.func128,Tryz.ntmps128
  go_wp2_with fail
  refine HAL.out.mono ?_;rintro e w1 ⟨v1,rfl,hV,b1⟩;obtain ⟨a1,c1,rfl,hcv⟩ := Strs.of_row hV
  have hcap : V.length <= c1 := by
   obtain ⟨a2,c2,he,h2,_⟩ := hV.shape;simp only [Value.slice.injEq] at he;rw [sc_len] at h2;rw [he.2.2];exact h2
  obtain ⟨g,rfl,hg,_⟩ := hcv 0 hpos
  have HC : Hid (∀ (j : Nat) x,V[j]? = some x -> w1.cell? ⟨g,0 + j,none⟩ = some (.string x)) := hide (fun j x hx => by
   obtain ⟨hj,rfl⟩ := List.getElem?_eq_some_iff.1 hx;obtain ⟨g',hg',_,hc⟩ := hcv j hj;simp only [Option.some.injEq,Addr.mk.injEq,and_true] at hg';rw [Nat.zero_add,hg'];exact hc)
  have B1 := hide b1;have HCP := hide hcap;clear hV hcv b1 HAL hcap;go_wp2_with fail
  refine (join_any g c1 V w1 HC.out hg hVl HCP.out HSZ.out).mono ?_;rintro e w2 ⟨rfl,b2⟩;go_wp2
  go_ret2
  exact ⟨rfl,B1.out.trans (b2.mono B1.out.size)⟩
theorem rget_any (w : World) (l : Value) (A : List (ByteArray × ByteArray)) (n : ByteArray) (hA : Flds w l A) (hs : Sm A) (hn : n.size <= 1048576) :
  Calls Tryz.prog 68 #[l,.string n] w fun e w' => e = .returned (.tuple #[.string (getS (allS A n)),.bool (decide (0 < (allS A n).length))]) /\ Below w.heap.size w w' := by
 have HAL := hide (rall_any w l A n hA hs hn);have HVM := hide (fun x (hx : x ∈ allS A n) => allS_mem hs hx);have hVl := allS_le (n := n) hs;clear hA hs hn;generalize allS A n = V at HAL HVM hVl |-
 have HSZ := hide (fun k => getS_size (V.take k) (fun x hx => HVM.out x (List.mem_of_mem_take hx)));go_enter Tryz.func68,Tryz.ntmps68
 go_wp2_with fail
 refine HAL.out.mono ?_;rintro e w1 ⟨v1,rfl,hV,b1⟩;obtain ⟨a1,c1,rfl,hcv⟩ := Strs.of_row hV;have HV := hide hcv;have B1 := hide b1;clear hV hcv b1 HAL;go_wp2
 go_loop [15,6] (fun i s => ∃ (k : Nat) (t : ByteArray),k <= V.length /\ i = .int .i64 k /\ s = .string t /\ t.size <= 1099514257408 /\ Hid (t = getS (V.take k))) (fun i _ => V.length - (intOf i).toNat)
 case atStart => exact ⟨0,⟨#[]⟩,Nat.zero_le _,rfl,rfl,by decide,hide rfl⟩
 case round =>
  obtain ⟨k,t,hk,rfl,rfl,ht,HT⟩ := hrel;by_cases hlt : k < V.length
  ·obtain ⟨g1, rfl, hgl, r1⟩ := HV.out k hlt
   have hxs := HVM.out V[k] (List.getElem_mem hlt);have HNX := hide (fun x hx => get_step V k hlt t x HT.out hx);have hz2 := HSZ.out (k + 1);obtain ⟨x,hx⟩ : ∃ x,V[k] = x := ⟨_,rfl⟩
   rw [hx] at r1 hxs;have HX := hide (HNX.out x hx);clear hx HNX hgl
   have hz3 : (getS (V.take (k + 1))).size <= 1099514257408 := by
    rw [List.length_take] at hz2;have : min (k + 1) V.length <= 1048576 := by omega
    have := Nat.mul_le_mul_right 1048578 this;omega
   have HZ3 := hide hz3;clear hz2 hz3;by_cases h0 : k = 0
   ·have HX2 : Hid (t ++ x = getS (V.take (k + 1))) := hide (by rw [<- HX.out, if_pos h0])
    have t0 : ¬ (0 : Int) < (k : Int) := by omega
    clear h0 HX;go_wp2
    exact ⟨⟨k + 1,t ++ x,by omega,by go_num,rfl,by rw [HX2.out];exact HZ3.out,HX2⟩,by simp [intOf];omega⟩
   ·have HX2 : Hid ((t ++ ⟨#[44, 32]⟩) ++ x = getS (V.take (k + 1))) := hide (by rw [<- HX.out, if_neg h0])
    have t0 : (0 : Int) < (k : Int) := by omega
    clear h0 HX;go_wp2
    exact ⟨⟨k + 1,(t ++ ⟨#[44,32]⟩) ++ x,by omega,by go_num,rfl,by rw [HX2.out];exact HZ3.out,HX2⟩,by simp [intOf];omega⟩
  ·have HE : Hid (t = getS V) := hide (by rw [HT.out, List.take_of_length_le (by omega)])
   by_cases h0 : V.length = 0
   ·have t0 : ¬ (0 : Int) < (V.length : Int) := by omega
    have td : decide (0 < V.length) = false := decide_eq_false (by omega);have TD := hide td;clear td;clear h0;go_wp2
    go_ret2
    exact ⟨by rw [HE.out,TD.out];rfl,B1.out⟩
   ·have t0 : (0 : Int) < (V.length : Int) := by omega
    have td : decide (0 < V.length) = true := decide_eq_true (by omega);have TD := hide td;clear td;clear h0;go_wp2
    go_ret2
    exact ⟨by rw [HE.out,TD.out];rfl,B1.out⟩
def memB (x : ByteArray) (V : List ByteArray) : Bool := V.any fun y => decide (y = x)
theorem memB_iff {x : ByteArray} {V : List ByteArray} : memB x V = true ↔ x ∈ V := by
 unfold memB;rw [List.any_eq_true];constructor
 ·rintro ⟨y,hy,he⟩;rw [<- of_decide_eq_true he];exact hy
 ·intro h;exact ⟨x,h,decide_eq_true rfl⟩
theorem memB_true {x : ByteArray} {V : List ByteArray} (h : x ∈ V) : memB x V = true := memB_iff.2 h
theorem memB_false {x : ByteArray} {V : List ByteArray} (h : x ∉ V) : memB x V = false := by
 cases hb : memB x V with
 | false => rfl
 | true => exact absurd (memB_iff.1 hb) h
def hasB (A : List (ByteArray × ByteArray)) (n item : ByteArray) : Bool := memB (lowS item) (itemsS A n)
theorem mem_next {V : List ByteArray} {k : Nat} {x y : ByteArray} (hk : k < V.length) (he : V[k] = y) (h : x ∉ V.take k) (hn : x ≠ y) : x ∉ V.take (k + 1) := by
 rw [take_snocF V k hk,he,List.mem_append];rintro (h1 | h1)
 ·exact h h1
 ·simp only [List.mem_singleton] at h1
  exact hn h1
theorem index_any (w : World) (v : Value) (V : List ByteArray) (x : ByteArray) (hV : Strs w v V) (hl : V.length <= 1099511627776) :
  Calls Tryz.prog 172 #[v,.string x] w fun e w' => ∃ r : Int,e = .returned (.int .i64 r) /\ decide (0 <= r) = memB x V /\ w = w' := by
 obtain ⟨a1,c1,rfl,hcv⟩ := hV;have HV := hide hcv;clear hcv;go_enter Tryz.func172,Tryz.ntmps172
 go_wp2
 go_loop [8] (fun i => ∃ k : Nat,k <= V.length /\ i = .int .i64 k /\ Hid (x ∉ V.take k)) (fun i => V.length - (intOf i).toNat)
 case atStart => exact ⟨0,Nat.zero_le _,rfl,hide (by simp)⟩
 case round =>
  obtain ⟨k,hk,rfl,HN⟩ := hrel;by_cases hlt : k < V.length
  ·obtain ⟨g1, rfl, hgl, r1⟩ := HV.out k hlt
   have HM := hide (List.getElem_mem hlt);have HX := hide (fun y he hn => mem_next (x := x) (y := y) hlt he HN.out hn);obtain ⟨y,hy⟩ : ∃ y,V[k] = y := ⟨_,rfl⟩
   rw [hy] at r1 HM;have HY := hide hy;clear hy hgl;have hb := bytes_eq x y;by_cases h : x = y
   ·subst h
    have t1 : (x.toList == x.toList) = true := by rw [hb];exact decide_eq_true rfl
    clear hb;go_wp2
    go_ret
    exact ⟨k,rfl,by rw [decide_eq_true (show (0 : Int) <= (k : Int) by omega),memB_true HM.out],rfl⟩
   ·have t1 : (x.toList == y.toList) = false := by rw [hb]; exact decide_eq_false h
    have HN2 := hide (HX.out y HY.out h);clear hb h;go_wp2
    exact ⟨⟨k + 1,by omega,by go_num,HN2⟩,by simp [intOf];omega⟩
  ·have HE : Hid (x ∉ V) := hide (by have := HN.out; rw [List.take_of_length_le (by omega)] at this; exact this)
   go_wp2
   go_ret
   exact ⟨-1,rfl,by rw [memB_false HE.out];rfl,rfl⟩
theorem contains_any (w : World) (v : Value) (V : List ByteArray) (x : ByteArray) (hV : Strs w v V) (hl : V.length <= 1099511627776) :
  Calls Tryz.prog 157 #[v,.string x] w fun e w' => e = .returned (.bool (memB x V)) /\ w = w' := by
 have HI := hide (index_any w v V x hV hl);obtain ⟨a1,c1,rfl,hcv⟩ := hV;clear hcv;generalize memB x V = d at HI |-
 go_enter Tryz.func157,Tryz.ntmps157
 go_wp2_with fail
 refine HI.out.mono ?_;rintro e w1 ⟨r,rfl,hr,rfl⟩;have HR := hide hr;clear hr;go_wp2
 go_ret
 exact ⟨by rw [<- HR.out];rfl,rfl⟩
theorem itemsS_len {A : List (ByteArray × ByteArray)} (hs : Sm A) (n : ByteArray) : (itemsS A n).length <= 1099511627776 := by
 have h1 := itemsV_len (allS A n) (fun x hx => allS_mem hs hx);have h2 := Nat.mul_le_mul_right 1048576 (allS_le (n := n) hs);unfold itemsS;omega
theorem has_any (w : World) (l : Value) (A : List (ByteArray × ByteArray)) (n item : ByteArray) (hA : Flds w l A) (hs : Sm A) (hn : n.size <= 1048576) (hi : item.size <= 1048576) :
  Calls Tryz.prog 131 #[l,.string n,.string item] w fun e w' => e = .returned (.bool (hasB A n item)) /\ Below w.heap.size w w' := by
 have HI := hide (items_any w l A n hA hs hn);have hL := itemsS_len hs n;unfold hasB;clear hA hs hn;generalize itemsS A n = V at HI hL |-
 go_enter Tryz.func131,Tryz.ntmps131
 go_wp2_with fail
 refine HI.out.mono ?_;rintro e w1 ⟨v1,rfl,hR,b1⟩;have HS1 := hide (Strs.of_row hR);have B1 := hide b1;clear HI b1;obtain ⟨a1,c1,rfl,_,_⟩ := hR.shape;clear hR;go_wp2_with fail
 refine (lower_any item w1 (by unfold maxLen;omega)).mono ?_;rintro e w2 ⟨rfl,b2⟩;have HS2 := hide (HS1.out.below b2);have B2 := hide (B1.out.trans (b2.mono B1.out.size));clear b2 HS1 B1;go_wp2_with fail
 refine (contains_any w2 _ V (lowS item) HS2.out hL).mono ?_;rintro e w3 ⟨rfl,rfl⟩;go_wp2
 go_ret
 exact ⟨rfl,B2.out⟩
theorem rhas_any (w : World) (l : Value) (A : List (ByteArray × ByteArray)) (n item : ByteArray) (hA : Flds w l A) (hs : Sm A) (hn : n.size <= 1048576) (hi : item.size <= 1048576) :
  Calls Tryz.prog 108 #[l,.string n,.string item] w fun e w' => e = .returned (.bool (hasB A n item)) /\ Below w.heap.size w w' := by
 have HI := hide (ritems_any w l A n hA hs hn);have hL := itemsS_len hs n;unfold hasB;clear hA hs hn;generalize itemsS A n = V at HI hL |-
 have HLW := hide (fun W => rlower_any item W (by omega));generalize lowS item = it at HLW |-
 clear hi;go_enter Tryz.func108,Tryz.ntmps108
 go_wp2_with fail
 refine HI.out.mono ?_;rintro e w1 ⟨v1,rfl,hR,b1⟩;obtain ⟨a1,c1,rfl,hcv⟩ := Strs.of_row hR;have HV := hide hcv;have B1 := hide b1;clear HI b1 hR hcv;go_wp2
 go_loopw [13] (fun i wr => ∃ k : Nat,k <= V.length /\ i = .int .i64 k /\ Hid (it ∉ V.take k) /\ Hid (Below w1.heap.size w1 wr)) (fun i _ => V.length - (intOf i).toNat)
 case atStart => exact ⟨0,Nat.zero_le _,rfl,hide (by simp),hide (Below.refl _ _)⟩
 case round =>
  obtain ⟨k,hk,rfl,HN,HB⟩ := hrel;by_cases hlt : k < V.length
  ·obtain ⟨g1, rfl, hgl, q1⟩ := HV.out k hlt
   have HM := hide (List.getElem_mem hlt);have HX := hide (fun y he hn => mem_next (x := it) (y := y) hlt he HN.out hn);obtain ⟨y,hy⟩ : ∃ y,V[k] = y := ⟨_,rfl⟩
   rw [hy] at q1 HM;have HY := hide hy;have r1 : wr.cell? ⟨g1,k,none⟩ = some (.string y) := (HB.out.cell (p := ⟨g1,k,none⟩) hgl).trans q1;clear hy hgl q1;have hb := bytes_eq y it;go_wp2_with fail
   refine (HLW.out wr).mono ?_;rintro e w2 ⟨rfl,b2⟩;have HB2 := hide (HB.out.trans (b2.mono HB.out.size));clear b2;by_cases h : y = it
   ·subst h
    have t1 : (y.toList == y.toList) = true := by rw [hb];exact decide_eq_true rfl
    clear hb;go_wp2
    go_ret
    exact ⟨by rw [memB_true HM.out];rfl,B1.out.trans (HB2.out.mono B1.out.size)⟩
   ·have t1 : (y.toList == it.toList) = false := by rw [hb]; exact decide_eq_false h
    have HN2 := hide (HX.out y HY.out (fun e => h e.symm));clear hb h;go_wp2
    exact ⟨⟨k + 1,by omega,by go_num,HN2,HB2⟩,by simp [intOf];omega⟩
  ·have HE : Hid (it ∉ V) := hide (by have := HN.out; rw [List.take_of_length_le (by omega)] at this; exact this)
   go_wp2
   go_ret
   exact ⟨by rw [memB_false HE.out];rfl,B1.out.trans (HB.out.mono B1.out.size)⟩
def teS : ByteArray := ⟨#[116,114,97,110,115,102,101,114,45,101,110,99,111,100,105,110,103]⟩
def clS : ByteArray := ⟨#[99,111,110,116,101,110,116,45,108,101,110,103,116,104]⟩
def coS : ByteArray := ⟨#[99,111,110,110,101,99,116,105,111,110]⟩
def shutS : ByteArray := ⟨#[99,108,111,115,101]⟩
def kaS : ByteArray := ⟨#[107,101,101,112,45,97,108,105,118,101]⟩
def chS : ByteArray := ⟨#[99,104,117,110,107,101,100]⟩
def keepB (A : List (ByteArray × ByteArray)) (m : Int) : Bool := if hasB A coS shutS then false else if m = 0 then hasB A coS kaS else decide (m = 1)
def toldB (A : List (ByteArray × ByteArray)) (n : ByteArray) : Bool := decide (0 < (allS A n).length)
def oneIs (I : List ByteArray) (n : Nat) : Bool := I.all fun x => decide (numE 10 x.data.toList = 0 /\ numV 10 x.data.toList = n)
def firstN : List ByteArray -> Nat
 | [] => 0
 | x :: _ => numV 10 x.data.toList
def lenOk (I : List ByteArray) : Bool := !I.isEmpty && oneIs I (firstN I)
def lenN (I : List ByteArray) : Nat := if lenOk I then firstN I else 0
def codeOk (A : List (ByteArray × ByteArray)) (m : Int) : Bool := decide (m = 1) && decide (itemsS A teS = [chS])
structure Fo where
 k : Int
 n : Int
 b : Bool
 e : Int
def toldO (A : List (ByteArray × ByteArray)) (m : Int) (k : Int) (b : Bool) : Fo :=
 if toldB A teS && toldB A clS then ⟨0,0,false,91⟩ else if toldB A teS && !codeOk A m then ⟨0,0,false,92⟩ else if toldB A clS && !lenOk (itemsS A clS) then ⟨0,0,false,90⟩
 else if toldB A teS then ⟨3,0,keepB A m,0⟩ else if toldB A clS then ⟨2,(lenN (itemsS A clS) : Nat),keepB A m,0⟩ else ⟨k,0,b,0⟩
def reqO (A : List (ByteArray × ByteArray)) (r : Bool) (m : Int) : Fo := if r then toldO A m 1 (keepB A m) else ⟨0,0,false,1⟩
def frVg (k n : Int) (b : Bool) : Value := .agg #[.int .i64 k,.int .i64 n,.bool b]
def foV (o : Fo) : Value := .tuple #[frVg o.k o.n o.b,.int .i64 o.e]
def hdC (r : Bool) (me ta : ByteArray) (mi st : Int) (re : ByteArray) (l : Value) : Array Value := #[.bool r,.string me,.string ta,.int .i64 mi,.int .i64 st,.string re,l]
theorem Bl.hd {w x : World} {L : List (Array Value × TypeId)} (h : Bl w x L) (i g : Nat) (hg : g = w.heap.size + i) {r : Bool} {me ta : ByteArray} {mi st : Int} {re : ByteArray} {l : Value} {t : TypeId} (hi : L[i]? = some (#[.bool r, .string me, .string ta, .int .i64 mi, .int .i64 st, .string re, l], t)) :
  x.cell? ⟨g,0,none⟩ = some (.bool r) /\ x.cell? ⟨g,1,none⟩ = some (.string me) /\ x.cell? ⟨g,2,none⟩ = some (.string ta) /\ x.cell? ⟨g,3,none⟩ = some (.int .i64 mi) /\ x.cell? ⟨g,4,none⟩ = some (.int .i64 st) /\ x.cell? ⟨g,5,none⟩ = some (.string re) /\ x.cell? ⟨g,6,none⟩ = some l := by
 subst hg;exact ⟨h.cell i hi 0,h.cell i hi 1,h.cell i hi 2,h.cell i hi 3,h.cell i hi 4,h.cell i hi 5,h.cell i hi 6⟩
theorem Bl.st {w x : World} {L : List (Array Value × TypeId)} (h : Bl w x L) (i g : Nat) (hg : g = w.heap.size + i) {a b c : Value} {t : TypeId} (hi : L[i]? = some (#[a, b, c], t)) :
  x.cell? ⟨g,0,none⟩ = some a /\ x.cell? ⟨g,1,none⟩ = some b /\ x.cell? ⟨g,2,none⟩ = some c /\ x.frozen? ⟨g,0,none⟩ = false /\ x.frozen? ⟨g,1,none⟩ = false /\ x.frozen? ⟨g,2,none⟩ = false := by
 subst hg;exact ⟨h.cell i hi 0,h.cell i hi 1,h.cell i hi 2,h.fr i hi 0,h.fr i hi 1,h.fr i hi 2⟩
theorem set3 {n : Nat} {w x : World} {g : Nat} (h : Below n w x) (hg : n <= g) (a b c : Value) : Below n w (((x.setCell ⟨g,0,none⟩ a).setCell ⟨g,1,none⟩ b).setCell ⟨g,2,none⟩ c) :=
 ((h.setCell (p := ⟨g,0,none⟩) hg a).setCell (p := ⟨g,1,none⟩) hg b).setCell (p := ⟨g,2,none⟩) hg c
theorem st3 {w x : World} {L : List (Array Value × TypeId)} (h : Bl w x L) (i g : Nat) (hg : g = w.heap.size + i) {a b c : Value} {t : TypeId} (hi : L[i]? = some (#[a, b, c], t)) (k n : Int) (q : Bool) :
  (((x.setCell ⟨g,0,none⟩ (.int .i64 k)).setCell ⟨g,1,none⟩ (.int .i64 n)).setCell ⟨g,2,none⟩ (.bool q)).cell? ⟨g,0,none⟩ = some (.int .i64 k) /\
  (((x.setCell ⟨g,0,none⟩ (.int .i64 k)).setCell ⟨g,1,none⟩ (.int .i64 n)).setCell ⟨g,2,none⟩ (.bool q)).cell? ⟨g,1,none⟩ = some (.int .i64 n) /\
  (((x.setCell ⟨g,0,none⟩ (.int .i64 k)).setCell ⟨g,1,none⟩ (.int .i64 n)).setCell ⟨g,2,none⟩ (.bool q)).cell? ⟨g,2,none⟩ = some (.bool q) /\
  Below w.heap.size w (((x.setCell ⟨g,0,none⟩ (.int .i64 k)).setCell ⟨g,1,none⟩ (.int .i64 n)).setCell ⟨g,2,none⟩ (.bool q)) := by
 subst hg;have h3 := hp_set (hp_set (hp_set (h.hp i _ _ hi) 0 (.int .i64 k)) 1 (.int .i64 n)) 2 (.bool q);exact ⟨cell_at h3 0,cell_at h3 1,cell_at h3 2,set3 h.b (by omega) _ _ _⟩
theorem oneIs_no {I : List ByteArray} {n k : Nat} (hk : k < I.length) {x : ByteArray} (hx : I[k] = x) (h : ¬ (numE 10 x.data.toList = 0 /\ numV 10 x.data.toList = n)) : oneIs I n = false := by
 cases hb : oneIs I n with
 | false => rfl
 | true =>
  unfold oneIs at hb;have := List.all_eq_true.1 hb I[k] (List.getElem_mem hk);rw [hx] at this;exact absurd (of_decide_eq_true this) h
theorem oneIs_snoc {I : List ByteArray} {n k : Nat} (hk : k < I.length) {x : ByteArray} (hx : I[k] = x) (h : oneIs (I.take k) n = true) (h2 : numE 10 x.data.toList = 0 /\ numV 10 x.data.toList = n) : oneIs (I.take (k + 1)) n = true := by
 unfold oneIs at h |-
 rw [take_snocF I k hk,hx,List.all_append,h];simp [h2]
theorem lenOk_cons {I : List ByteArray} (h : 0 < I.length) : lenOk I = oneIs I (firstN I) := by
 cases I with
 | nil => simp at h
 | cons x r => simp [lenOk]
theorem firstN_at {I : List ByteArray} (h : 0 < I.length) {x : ByteArray} (hx : I[0] = x) : firstN I = numV 10 x.data.toList := by
 cases I with
 | nil => simp at h
 | cons y r => simp at hx;subst hx;rfl
theorem num_topN (l : List UInt8) : numV 10 l <= 9007199254740992 := by
 unfold numV;split
 ·exact Nat.zero_le _
 ·have := accu_le 10 (by decide) l
  unfold top at *;omega
theorem lenN_le (I : List ByteArray) : lenN I <= 9007199254740992 := by
 unfold lenN;split
 ·cases I with
  | nil => simp [firstN]
  | cons x r => exact num_topN _
 ·exact Nat.zero_le _
/- Great letters: the same framing. -/
theorem keep_any (w : World) (r : Bool) (me ta : ByteArray) (mi st : Int) (re : ByteArray) (l : Value) (A : List (ByteArray × ByteArray)) (hA : Flds w l A) (hs : Sm A) :
  Calls Tryz.prog 92 #[.agg (hdC r me ta mi st re l)] w fun e w' => e = .returned (.bool (keepB A mi)) /\ Below w.heap.size w w' := by
 have H1 := hide (fun W h => has_any W l A coS shutS h hs (by decide) (by decide));have H2 := hide (fun W h => has_any W l A coS kaS h hs (by decide) (by decide));have F0 := hide hA;obtain ⟨a0,c0,rfl,_,_⟩ := hA;unfold keepB hdC;generalize hasB A coS shutS = b1 at H1 |-
 generalize hasB A coS kaS = b2 at H2 |-
 unfold coS shutS at H1;unfold coS kaS at H2;clear hs;go_enter Tryz.func92,Tryz.ntmps92
 go_wp2_with fail
 have T0 := hide (Bl.one w #[.bool r,.string me,.string ta,.int .i64 mi,.int .i64 st,.string re,.slice a0 A.length c0] 45);generalize (w.alloc (.cells #[.bool r,.string me,.string ta,.int .i64 mi,.int .i64 st,.string re,.slice a0 A.length c0] 45)) = x at T0 |-
 refine (H1.out _ (F0.out.below T0.out.b)).mono ?_;rintro e w1 ⟨rfl,bb⟩;have T1 := hide (T0.out.below bb);have r3 : w1.cell? ⟨w.heap.size,3,none⟩ = some (.int .i64 mi) := T1.out.cell 0 rfl 3;have r6 : w1.cell? ⟨w.heap.size,6,none⟩ = some (.slice a0 A.length c0) := T1.out.cell 0 rfl 6;clear bb T0 H1;cases b1
 ·by_cases m0 : mi = 0
  ·subst m0
   go_wp2_with fail
   refine (H2.out _ (F0.out.below T1.out.b)).mono ?_;rintro e w2 ⟨rfl,bb⟩;have T2 := hide (T1.out.below bb);clear bb T1;go_wp2
   go_ret
   exact ⟨rfl,T2.out.b⟩
  ·have t0 : (mi == 0) = false := beq_eq_false_iff_ne.2 m0
   by_cases m1 : mi = 1
   ·subst m1
    clear m0 t0;go_wp2
    go_ret
    exact ⟨rfl,T1.out.b⟩
   ·have t1 : (mi == 1) = false := beq_eq_false_iff_ne.2 m1
    go_wp2
    go_ret
    exact ⟨rfl,T1.out.b⟩
 ·go_wp2
  go_ret
  exact ⟨rfl,T1.out.b⟩
theorem rkeep_any (w : World) (r : Bool) (me ta : ByteArray) (mi st : Int) (re : ByteArray) (l : Value) (A : List (ByteArray × ByteArray)) (hA : Flds w l A) (hs : Sm A) :
  Calls Tryz.prog 70 #[.agg (hdC r me ta mi st re l)] w fun e w' => e = .returned (.bool (keepB A mi)) /\ Below w.heap.size w w' := by
 have H1 := hide (fun W h => rhas_any W l A coS shutS h hs (by decide) (by decide));have H2 := hide (fun W h => rhas_any W l A coS kaS h hs (by decide) (by decide));have F0 := hide hA;obtain ⟨a0,c0,rfl,_,_⟩ := hA;unfold keepB hdC;generalize hasB A coS shutS = b1 at H1 |-
 generalize hasB A coS kaS = b2 at H2 |-
 unfold coS shutS at H1;unfold coS kaS at H2;clear hs;go_enter Tryz.func70,Tryz.ntmps70
 go_wp2_with fail
 have T0 := hide (Bl.one w #[.bool r,.string me,.string ta,.int .i64 mi,.int .i64 st,.string re,.slice a0 A.length c0] 45);generalize (w.alloc (.cells #[.bool r,.string me,.string ta,.int .i64 mi,.int .i64 st,.string re,.slice a0 A.length c0] 45)) = x at T0 |-
 refine (H1.out _ (F0.out.below T0.out.b)).mono ?_;rintro e w1 ⟨rfl,bb⟩;have T1 := hide (T0.out.below bb);have r3 : w1.cell? ⟨w.heap.size,3,none⟩ = some (.int .i64 mi) := T1.out.cell 0 rfl 3;have r6 : w1.cell? ⟨w.heap.size,6,none⟩ = some (.slice a0 A.length c0) := T1.out.cell 0 rfl 6;clear bb T0 H1;by_cases m1 : mi = 1
 ·subst m1
  cases b1
  all_goals
   go_wp2
   go_ret
   exact ⟨rfl,T1.out.b⟩
 ·have t1 : (mi == 1) = false := beq_eq_false_iff_ne.2 m1
  by_cases m0 : mi = 0
  ·subst m0
   clear m1 t1;cases b1
   ·go_wp2_with fail
    refine (H2.out _ (F0.out.below T1.out.b)).mono ?_;rintro e w2 ⟨rfl,bb⟩;have T2 := hide (T1.out.below bb);clear bb T1;go_wp2
    go_ret
    exact ⟨rfl,T2.out.b⟩
   ·go_wp2
    go_ret
    exact ⟨rfl,T1.out.b⟩
  ·have t0 : (mi == 0) = false := beq_eq_false_iff_ne.2 m0
   cases b1
   ·go_wp2
    go_ret
    exact ⟨rfl,T1.out.b⟩
   ·go_wp2
    go_ret
    exact ⟨rfl,T1.out.b⟩
theorem equal_any (w : World) (a b : Value) (A B : List ByteArray) (hA : Strs w a A) (hB : Strs w b B) (hl : A.length <= 1099511627776) (hl2 : B.length <= 1099511627776) :
  Calls Tryz.prog 156 #[a,b] w fun e w' => e = .returned (.bool (decide (A = B))) /\ Below w.heap.size w w' := by
 obtain ⟨a0,c0,rfl,hca⟩ := hA;obtain ⟨b0,d0,rfl,hcb⟩ := hB;have HA := hide hca;have HB := hide hcb;clear hca hcb;by_cases hn : A.length = B.length
 ·have t : ((A.length : Int) != (B.length : Int)) = false := by rw [bne_eq_false_iff_eq]; omega
  have HL := hide hn;have hl3 : B.length <= A.length := by omega
  have hl4 : A.length <= B.length := by omega
  clear hn;go_enter Tryz.func156,Tryz.ntmps156
  go_wp2
  go_loopw [13] (fun i wr => ∃ k : Nat,k <= A.length /\ i = .int .i64 k /\ Hid (A.take k = B.take k) /\ Hid (∃ n,wr = w.drewN n)) (fun i _ => A.length - (intOf i).toNat)
  case atStart => exact ⟨0,Nat.zero_le _,rfl,hide rfl,hide ⟨0,rfl⟩⟩
  case round =>
   obtain ⟨k,hk,rfl,H,HW⟩ := hrel;by_cases hlt : k < A.length
   ·have hlb : k < B.length := by omega
    obtain ⟨g,rfl,_,h1⟩ := HA.out k hlt;obtain ⟨g2,rfl,_,h2⟩ := HB.out k hlb;obtain ⟨n,hwn⟩ := HW.out;subst hwn;have hsa := hide (take_snocA A k hlt);have hsb := hide (take_snocA B k hlb);have hbe := bytes_eq A[k] B[k];obtain ⟨x,hx⟩ : ∃ x,A[k] = x := ⟨_,rfl⟩
    obtain ⟨y,hy⟩ : ∃ y,B[k] = y := ⟨_,rfl⟩
    rw [hx] at h1 hbe;rw [hy] at h2 hbe;have HX := hide hx;have HY := hide hy;clear hx hy;by_cases he : x = y
    ·have t2 : (x.toList == y.toList) = true := by rw [hbe, decide_eq_true he]
     have HE := hide he;have HT : Hid (A.take (k + 1) = B.take (k + 1)) := hide (by rw [hsa.out,hsb.out,H.out,HX.out,HY.out,he]);clear hbe he;go_wp2
     go_quiet (fail)
     go_wp2
     exact ⟨⟨k + 1,by omega,by go_num,HT,hide ⟨n + nq,rfl⟩⟩,by simp [intOf];omega⟩
    ·have t2 : (x.toList == y.toList) = false := by rw [hbe, decide_eq_false he]
     have HE : Hid (A ≠ B) := hide (by rintro rfl;exact he (HX.out.symm.trans HY.out));clear hbe he;go_wp2
     go_quiet (fail)
     go_wp2
     go_ret
     exact ⟨ret_bool (decide_eq_false HE.out).symm,by rw [World.drewN_drewN];exact below_drewN w _⟩
   ·have HE : Hid (A = B) := hide (by
     have := H.out;rw [List.take_of_length_le (by omega),List.take_of_length_le (by omega)] at this;exact this)
    obtain ⟨n,hwn⟩ := HW.out;subst hwn;go_wp2
    go_ret
    exact ⟨ret_bool (decide_eq_true HE.out).symm,below_drewN w _⟩
 ·have t : ((A.length : Int) != (B.length : Int)) = true := by rw [bne_iff_ne]; omega
  have HE : Hid (A ≠ B) := hide (by rintro rfl;exact hn rfl);go_enter Tryz.func156,Tryz.ntmps156
  go_wp2
  go_ret
  exact ⟨ret_bool (decide_eq_false HE.out).symm,Below.refl _ _⟩
theorem strs_one (w : World) (s : ByteArray) : Strs (w.alloc (.cells #[.string s] 9)) (.slice (some ⟨w.heap.size,0,none⟩) 1 1) [s] := by
 refine ⟨_,1,rfl,fun j hj => ?_⟩;have hj0 : j = 0 := by simp at hj;exact hj
 subst hj0;exact ⟨_,rfl,by simp,by rw [cell_at (hp_new w _)];rfl⟩
theorem only_any (w : World) (r : Bool) (me ta : ByteArray) (mi st : Int) (re : ByteArray) (l : Value) (A : List (ByteArray × ByteArray)) (hA : Flds w l A) (hs : Sm A) :
  Calls Tryz.prog 130 #[.agg (hdC r me ta mi st re l)] w fun e w' => e = .returned (.bool (codeOk A mi)) /\ Below w.heap.size w w' := by
 have HI := hide (fun W h => items_any W l A teS h hs (by decide));have hL := itemsS_len hs teS;have F0 := hide hA;obtain ⟨a0,c0,rfl,_,_⟩ := hA;unfold codeOk hdC;generalize itemsS A teS = I at HI hL |-
 unfold teS at HI;clear hs;by_cases m1 : mi = 1
 ·subst m1
  rw [decide_eq_true rfl,Bool.true_and];go_enter Tryz.func130,Tryz.ntmps130
  go_wp2_with fail
  have T0 := hide (Bl.one w #[.bool r,.string me,.string ta,.int .i64 1,.int .i64 st,.string re,.slice a0 A.length c0] 45);generalize (w.alloc (.cells #[.bool r,.string me,.string ta,.int .i64 1,.int .i64 st,.string re,.slice a0 A.length c0] 45)) = x at T0 |-
  refine (HI.out _ (F0.out.below T0.out.b)).mono ?_;rintro e w1 ⟨v,rfl,hR,bb⟩;have T1 := hide (T0.out.below bb);have S1 := hide (Strs.of_row hR);clear bb T0 HI hR;obtain ⟨a1,c1,rfl,_⟩ := S1.out
  have HE : Hid (∀ W u,Below w1.heap.size w1 W -> Strs W u [chS] -> Calls Tryz.prog 156 #[.slice a1 I.length c1,u] W fun e w' => e = .returned (.bool (decide (I = [chS]))) /\ Below W.heap.size W w') :=
   hide (fun W u hb hu => equal_any W _ u I [chS] (S1.out.below hb) hu hL (by simp))
  generalize hd : decide (I = [chS]) = d at HE;have HD := hide hd;clear hd;go_wp2_with fail
  refine (HE.out _ _ ((Below.refl _ w1).alloc (Nat.le_refl _) _) (strs_one w1 chS)).mono ?_;rintro e w2 ⟨rfl,bb⟩;have B2 := hide (((Below.refl _ w1).alloc (Nat.le_refl _) (.cells #[.string chS] 9)).trans (bb.mono (by simp)));have T2 := hide (T1.out.below B2.out);clear bb T1 B2;go_wp2
  go_ret
  exact ⟨ret_bool HD.out.symm,T2.out.b⟩
 ·have t1 : (mi == 1) = false := beq_eq_false_iff_ne.2 m1
  rw [decide_eq_false m1,Bool.false_and];clear m1;go_enter Tryz.func130,Tryz.ntmps130
  go_wp2
  go_ret
  exact ⟨rfl,(Bl.one w _ _).b⟩
theorem olen_any (w : World) (r : Bool) (me ta : ByteArray) (mi st : Int) (re : ByteArray) (l : Value) (A : List (ByteArray × ByteArray)) (hA : Flds w l A) (hs : Sm A) :
  Calls Tryz.prog 129 #[.agg (hdC r me ta mi st re l)] w fun e w' => e = .returned (.tuple #[.int .i64 (lenN (itemsS A clS) : Nat),.bool (lenOk (itemsS A clS))]) /\ Below w.heap.size w w' := by
 have HI := hide (fun W h => items_any W l A clS h hs (by decide));have hL := itemsS_len hs clS;have HM := hide (fun x (hx : x ∈ itemsS A clS) => itemsV_mem (allS A clS) (fun y hy => allS_mem hs hy) x hx);have F0 := hide hA;obtain ⟨a0,c0,rfl,_,_⟩ := hA;unfold hdC;generalize itemsS A clS = I at HI hL HM |-
 unfold clS at HI;clear hs;have hR : ∃ (n : Nat) (b : Bool),lenN I = n /\ lenOk I = b := ⟨_,_,rfl,rfl⟩
 obtain ⟨rn,rb,hn,hb⟩ := hR;rw [hn,hb];have HN := hide hn;have HBk := hide hb;clear hn hb;go_enter Tryz.func129,Tryz.ntmps129
 go_wp2_with fail
 have T0 := hide (Bl.one w #[.bool r,.string me,.string ta,.int .i64 mi,.int .i64 st,.string re,.slice a0 A.length c0] 45);generalize (w.alloc (.cells #[.bool r,.string me,.string ta,.int .i64 mi,.int .i64 st,.string re,.slice a0 A.length c0] 45)) = x at T0 |-
 refine (HI.out _ (F0.out.below T0.out.b)).mono ?_;rintro e w1 ⟨v,rfl,hRw,bb⟩;have T1 := hide (T0.out.below bb);obtain ⟨a1,c1,rfl,hcv⟩ := Strs.of_row hRw;have HV := hide hcv;clear bb T0 HI hRw hcv;by_cases h0 : I.length = 0
 ·have hI0 : I = [] := List.eq_nil_of_length_eq_zero h0
  subst hI0;clear h0 hL;go_wp2
  go_ret2
  exact ⟨by rw [<- HN.out,<- HBk.out];rfl,T1.out.b⟩
 ·have hpos : 0 < I.length := by omega
  have t0 : ((I.length : Int) == 0) = false := beq_eq_false_iff_ne.2 (by omega);obtain ⟨g,rfl,hg,q0⟩ := HV.out 0 hpos;have hz := HM.out I[0] (List.getElem_mem hpos);have HF := hide (firstN_at hpos rfl);have HO := hide (lenOk_cons hpos);obtain ⟨y,hy⟩ : ∃ y,I[0] = y := ⟨_,rfl⟩
  rw [hy] at q0 hz HF;clear hy h0;go_wp2_with fail
  refine (Number_any y w1 (by unfold maxLen;omega)).mono ?_;rintro e w2 ⟨rfl,rfl⟩;have hnl := num_topN y.data.toList;rw [<- HF.out] at hnl |-
  generalize hfn : firstN I = fn at HO hnl |-
  have HFN := hide hfn;clear hfn HF q0 hz;generalize numE 10 y.data.toList = ye;go_wp2
  go_loop [26] (fun i => ∃ k : Nat,k <= I.length /\ i = .int .i64 k /\ Hid (oneIs (I.take k) fn = true)) (fun i => I.length - (intOf i).toNat)
  case atStart => exact ⟨0,Nat.zero_le _,rfl,hide rfl⟩
  case round =>
   obtain ⟨k,hk,rfl,HK⟩ := hrel;by_cases hlt : k < I.length
   ·obtain ⟨g1, hg1, hgl, r1⟩ := HV.out k hlt
    simp only [Option.some.injEq,Addr.mk.injEq,and_true] at hg1;subst hg1;have hz := HM.out I[k] (List.getElem_mem hlt);have HNO := hide (fun x hx h => oneIs_no (n := fn) hlt (x := x) hx h);have HYE := hide (fun x hx h2 => oneIs_snoc (n := fn) hlt (x := x) hx HK.out h2);obtain ⟨x,hx⟩ : ∃ x,I[k] = x := ⟨_,rfl⟩
    rw [hx] at r1 hz;have HN1 := hide (HNO.out x hx);have HY1 := hide (HYE.out x hx);clear hx HNO HYE hgl;go_wp2_with fail
    refine (Number_any x w1 (by unfold maxLen;omega)).mono ?_;rintro e w2 ⟨rfl,rfl⟩;have hxl := num_topN x.data.toList;generalize numE 10 x.data.toList = xe at HN1 HY1 |-
    generalize numV 10 x.data.toList = xv at HN1 HY1 hxl |-
    clear r1 hz;by_cases he : xe = 0
    ·subst he
     by_cases hv : xv = fn
     ·subst hv
      have HK2 := hide (HY1.out ⟨rfl,rfl⟩);go_wp2
      exact ⟨⟨k + 1,by omega,by go_num,HK2⟩,by simp [intOf];omega⟩
     ·have t1 : ((xv : Int) != (fn : Int)) = true := bne_iff_ne.2 (by omega)
      have HZ : Hid (oneIs I fn = false) := hide (HN1.out (fun h => hv h.2));clear hv;go_wp2
      go_ret2
      exact ⟨by rw [<- HN.out,<- HBk.out];unfold lenN;rw [HO.out,HZ.out];rfl,T1.out.b⟩
    ·have t1 : ((xe : Int) != 0) = true := bne_iff_ne.2 (by omega)
     have HZ : Hid (oneIs I fn = false) := hide (HN1.out (fun h => he h.1));clear he;go_wp2
     go_ret2
     exact ⟨by rw [<- HN.out,<- HBk.out];unfold lenN;rw [HO.out,HZ.out];rfl,T1.out.b⟩
   ·have HZ : Hid (oneIs I fn = true) := hide (by have := HK.out; rw [List.take_of_length_le (by omega)] at this; exact this)
    go_wp2
    go_ret2
    exact ⟨by rw [<- HN.out,<- HBk.out];unfold lenN;rw [HO.out,HZ.out,HFN.out];rfl,T1.out.b⟩
theorem told_anyg (w : World) (r : Bool) (me ta : ByteArray) (mi st : Int) (re : ByteArray) (l : Value) (A : List (ByteArray × ByteArray)) (k : Int) (b : Bool) (hA : Flds w l A) (hs : Sm A) :
  Calls Tryz.prog 91 #[.agg (hdC r me ta mi st re l),frVg k 0 b] w fun e w' => e = .returned (foV (toldO A mi k b)) /\ Below w.heap.size w w' := by
 have HT := hide (fun W h => get_any W l A teS h hs (by decide));have HC := hide (fun W h => get_any W l A clS h hs (by decide));have HL := hide (fun W h => olen_any W r me ta mi st re l A h hs);have HO := hide (fun W h => only_any W r me ta mi st re l A h hs);have HK := hide (fun W h => keep_any W r me ta mi st re l A h hs);have F0 := hide hA;have hll := lenN_le (itemsS A clS);obtain ⟨a0,c0,rfl,_,_⟩ := hA;have hR : ∃ o,toldO A mi k b = o := ⟨_,rfl⟩
 obtain ⟨o,ho⟩ := hR;rw [ho];unfold toldO toldB at ho;have HR := hide ho;clear ho;generalize decide (0 < (allS A teS).length) = b1 at HT HR;generalize decide (0 < (allS A clS).length) = b2 at HC HR;generalize getS (allS A teS) = g1 at HT;generalize getS (allS A clS) = g2 at HC;generalize codeOk A mi = b3 at HO HR;generalize lenOk (itemsS A clS) = b4 at HL HR;generalize lenN (itemsS A clS) = ln at HL HR hll;generalize keepB A mi = b5 at HK HR;unfold teS at HT;unfold clS at HC;unfold hdC at HL HO HK |-
 unfold frVg;clear hs;go_enter Tryz.func91,Tryz.ntmps91
 go_wp2_with fail
 have T0 := hide (Bl.three w #[.bool r,.string me,.string ta,.int .i64 mi,.int .i64 st,.string re,.slice a0 A.length c0] 45 #[.int .i64 k,.int .i64 0,.bool b] 83 #[.int .i64 0,.int .i64 0,.bool false] 83);generalize (((w.alloc (.cells #[.bool r,.string me,.string ta,.int .i64 mi,.int .i64 st,.string re,.slice a0 A.length c0] 45)).alloc (.cells #[.int .i64 k,.int .i64 0,.bool b] 83)).alloc (.cells #[.int .i64 0,.int .i64 0,.bool false] 83)) = x at T0 |-
 refine (HT.out _ (F0.out.below T0.out.b)).mono ?_;rintro e w1 ⟨rfl,bb⟩;have T1 := hide (T0.out.below bb);have r6 : w1.cell? ⟨w.heap.size,6,none⟩ = some (.slice a0 A.length c0) := T1.out.cell 0 rfl 6;clear bb T0 HT;go_wp2_with fail
 refine (HC.out _ (F0.out.below T1.out.b)).mono ?_;rintro e w2 ⟨rfl,bb⟩;have T2 := hide (T1.out.below bb);clear bb T1 HC r6;obtain ⟨r0,r1,r2,r3,r4,r5,r6⟩ := T2.out.hd 0 w.heap.size rfl rfl;go_wp2_with fail
 refine (HL.out _ (F0.out.below T2.out.b)).mono ?_;rintro e w3 ⟨rfl,bb⟩;have T3 := hide (T2.out.below bb);clear bb T2 HL r0 r1 r2 r3 r4 r5 r6;cases b1 <;> cases b2
 ·obtain ⟨d0, d1, d2, _, _, _⟩ := T3.out.st 1 (w.heap.size + 1) rfl rfl
  obtain ⟨s0,s1,s2,f0,f1,f2⟩ := T3.out.st 2 (w.heap.size + 2) rfl rfl;go_wp2
  obtain ⟨k0,k1,k2,kb⟩ := st3 T3.out 2 (w.heap.size + 2) rfl rfl (k) (0) b;generalize ((w3.setCell ⟨w.heap.size + 2,0,none⟩ (.int .i64 (k))).setCell ⟨w.heap.size + 2,1,none⟩ (.int .i64 (0))).setCell ⟨w.heap.size + 2,2,none⟩ (.bool b) = w9 at k0 k1 k2 kb |-
  clear s0 s1 s2 f0 f1 f2;exact bodyPost_ret (v := .tuple #[.agg #[.int .i64 (k),.int .i64 (0),.bool b],.int .i64 (0)]) (by simp [results,Tryz.results91,go_sem,k0,k1,k2]) rfl ⟨by rw [<- HR.out];rfl,kb⟩
 ·cases b4
  ·obtain ⟨s0, s1, s2, f0, f1, f2⟩ := T3.out.st 2 (w.heap.size + 2) rfl rfl
   go_wp2
   obtain ⟨k0,k1,k2,kb⟩ := st3 T3.out 2 (w.heap.size + 2) rfl rfl (0) (0) false;generalize ((w3.setCell ⟨w.heap.size + 2,0,none⟩ (.int .i64 (0))).setCell ⟨w.heap.size + 2,1,none⟩ (.int .i64 (0))).setCell ⟨w.heap.size + 2,2,none⟩ (.bool false) = w9 at k0 k1 k2 kb |-
   clear s0 s1 s2 f0 f1 f2;exact bodyPost_ret (v := .tuple #[.agg #[.int .i64 (0),.int .i64 (0),.bool false],.int .i64 (90)]) (by simp [results,Tryz.results91,go_sem,k0,k1,k2]) rfl ⟨by rw [<- HR.out];rfl,kb⟩
  ·obtain ⟨r0, r1, r2, r3, r4, r5, r6⟩ := T3.out.hd 0 w.heap.size rfl rfl
   go_wp2_with fail
   refine (HK.out _ (F0.out.below T3.out.b)).mono ?_;rintro e w4 ⟨rfl,bb⟩;have T4 := hide (T3.out.below bb);clear bb T3 r0 r1 r2 r3 r4 r5 r6;obtain ⟨s0,s1,s2,f0,f1,f2⟩ := T4.out.st 2 (w.heap.size + 2) rfl rfl;go_wp2
   obtain ⟨k0,k1,k2,kb⟩ := st3 T4.out 2 (w.heap.size + 2) rfl rfl (2) ((ln : Int)) b5;generalize ((w4.setCell ⟨w.heap.size + 2,0,none⟩ (.int .i64 (2))).setCell ⟨w.heap.size + 2,1,none⟩ (.int .i64 ((ln : Int)))).setCell ⟨w.heap.size + 2,2,none⟩ (.bool b5) = w9 at k0 k1 k2 kb |-
   clear s0 s1 s2 f0 f1 f2;exact bodyPost_ret (v := .tuple #[.agg #[.int .i64 (2),.int .i64 ((ln : Int)),.bool b5],.int .i64 (0)]) (by simp [results,Tryz.results91,go_sem,k0,k1,k2]) rfl ⟨by rw [<- HR.out];rfl,kb⟩
 ·obtain ⟨r0, r1, r2, r3, r4, r5, r6⟩ := T3.out.hd 0 w.heap.size rfl rfl
  go_wp2_with fail
  refine (HO.out _ (F0.out.below T3.out.b)).mono ?_;rintro e w4 ⟨rfl,bb⟩;have T4 := hide (T3.out.below bb);clear bb T3 r0 r1 r2 r3 r4 r5 r6;cases b3
  ·obtain ⟨s0, s1, s2, f0, f1, f2⟩ := T4.out.st 2 (w.heap.size + 2) rfl rfl
   go_wp2
   obtain ⟨k0,k1,k2,kb⟩ := st3 T4.out 2 (w.heap.size + 2) rfl rfl (0) (0) false;generalize ((w4.setCell ⟨w.heap.size + 2,0,none⟩ (.int .i64 (0))).setCell ⟨w.heap.size + 2,1,none⟩ (.int .i64 (0))).setCell ⟨w.heap.size + 2,2,none⟩ (.bool false) = w9 at k0 k1 k2 kb |-
   clear s0 s1 s2 f0 f1 f2;exact bodyPost_ret (v := .tuple #[.agg #[.int .i64 (0),.int .i64 (0),.bool false],.int .i64 (92)]) (by simp [results,Tryz.results91,go_sem,k0,k1,k2]) rfl ⟨by rw [<- HR.out];rfl,kb⟩
  ·obtain ⟨r0, r1, r2, r3, r4, r5, r6⟩ := T4.out.hd 0 w.heap.size rfl rfl
   go_wp2_with fail
   refine (HK.out _ (F0.out.below T4.out.b)).mono ?_;rintro e w5 ⟨rfl,bb⟩;have T5 := hide (T4.out.below bb);clear bb T4 r0 r1 r2 r3 r4 r5 r6;obtain ⟨s0,s1,s2,f0,f1,f2⟩ := T5.out.st 2 (w.heap.size + 2) rfl rfl;go_wp2
   obtain ⟨k0,k1,k2,kb⟩ := st3 T5.out 2 (w.heap.size + 2) rfl rfl (3) (0) b5;generalize ((w5.setCell ⟨w.heap.size + 2,0,none⟩ (.int .i64 (3))).setCell ⟨w.heap.size + 2,1,none⟩ (.int .i64 (0))).setCell ⟨w.heap.size + 2,2,none⟩ (.bool b5) = w9 at k0 k1 k2 kb |-
   clear s0 s1 s2 f0 f1 f2;exact bodyPost_ret (v := .tuple #[.agg #[.int .i64 (3),.int .i64 (0),.bool b5],.int .i64 (0)]) (by simp [results,Tryz.results91,go_sem,k0,k1,k2]) rfl ⟨by rw [<- HR.out];rfl,kb⟩
 ·obtain ⟨s0, s1, s2, f0, f1, f2⟩ := T3.out.st 2 (w.heap.size + 2) rfl rfl
  go_wp2
  obtain ⟨k0,k1,k2,kb⟩ := st3 T3.out 2 (w.heap.size + 2) rfl rfl (0) (0) false;generalize ((w3.setCell ⟨w.heap.size + 2,0,none⟩ (.int .i64 (0))).setCell ⟨w.heap.size + 2,1,none⟩ (.int .i64 (0))).setCell ⟨w.heap.size + 2,2,none⟩ (.bool false) = w9 at k0 k1 k2 kb |-
  clear s0 s1 s2 f0 f1 f2;exact bodyPost_ret (v := .tuple #[.agg #[.int .i64 (0),.int .i64 (0),.bool false],.int .i64 (91)]) (by simp [results,Tryz.results91,go_sem,k0,k1,k2]) rfl ⟨by rw [<- HR.out];rfl,kb⟩
theorem code_yes {I : List ByteArray} (h1 : 0 < I.length) (h2 : I.length <= 1) (h3 : I[0] = chS) : decide (I = [chS]) = true := by
 match I,h1,h2,h3 with
 | [x],_,_,h3 => simp at h3;subst h3;exact decide_eq_true rfl
theorem code_len {I : List ByteArray} (h : I.length ≠ 1) : decide (I = [chS]) = false := decide_eq_false (by rintro rfl;exact h rfl)
theorem code_no {I : List ByteArray} (h1 : 0 < I.length) (h3 : I[0] ≠ chS) : decide (I = [chS]) = false := decide_eq_false (by rintro rfl;exact h3 rfl)
theorem rtold_any (w : World) (r : Bool) (me ta : ByteArray) (mi st : Int) (re : ByteArray) (l : Value) (A : List (ByteArray × ByteArray)) (k : Int) (hA : Flds w l A) (hs : Sm A) :
  Calls Tryz.prog 49 #[.agg (hdC r me ta mi st re l),.int .i64 k] w fun e w' => e = .returned (foV (toldO A mi k (keepB A mi && (k != 4)))) /\ Below w.heap.size w w' := by
 have HT := hide (fun W h => rget_any W l A teS h hs (by decide));have HC := hide (fun W h => rget_any W l A clS h hs (by decide));have HIT := hide (fun W h => ritems_any W l A teS h hs (by decide));have HIC := hide (fun W h => ritems_any W l A clS h hs (by decide));have HM := hide (fun x (hx : x ∈ itemsS A clS) => itemsV_mem (allS A clS) (fun y hy => allS_mem hs hy) x hx);have HK := hide (fun W h => rkeep_any W r me ta mi st re l A h hs);have F0 := hide hA;have hL1 := itemsS_len hs teS;have hL2 := itemsS_len hs clS;obtain ⟨a0,c0,rfl,_,_⟩ := hA;have hR : ∃ o,toldO A mi k (keepB A mi && (k != 4)) = o := ⟨_,rfl⟩
 obtain ⟨o,ho⟩ := hR;rw [ho];unfold toldO toldB codeOk at ho;have HR := hide ho;clear ho;generalize decide (0 < (allS A teS).length) = b1 at HT HR;generalize decide (0 < (allS A clS).length) = b2 at HC HR;generalize getS (allS A teS) = g1 at HT;generalize getS (allS A clS) = g2 at HC;generalize itemsS A teS = I1 at HIT HR hL1;generalize itemsS A clS = I2 at HIC HR HM hL2;generalize keepB A mi = b5 at HK HR;unfold teS at HT HIT;unfold clS at HC HIC;unfold hdC at HK |-
 clear hs;go_enter Tryz.func49,Tryz.ntmps49
 go_wp2_with fail
 have T0 := hide (Bl.two w #[.bool r,.string me,.string ta,.int .i64 mi,.int .i64 st,.string re,.slice a0 A.length c0] 45 #[.int .i64 0,.int .i64 0,.bool false] 83);generalize ((w.alloc (.cells #[.bool r,.string me,.string ta,.int .i64 mi,.int .i64 st,.string re,.slice a0 A.length c0] 45)).alloc (.cells #[.int .i64 0,.int .i64 0,.bool false] 83)) = x at T0 |-
 refine (HT.out _ (F0.out.below T0.out.b)).mono ?_;rintro e w1 ⟨rfl,bb⟩;have T1 := hide (T0.out.below bb);have r6 : w1.cell? ⟨w.heap.size,6,none⟩ = some (.slice a0 A.length c0) := T1.out.cell 0 rfl 6;clear bb T0 HT;go_wp2_with fail
 refine (HC.out _ (F0.out.below T1.out.b)).mono ?_;rintro e w2 ⟨rfl,bb⟩;have T2 := hide (T1.out.below bb);clear bb T1 HC r6;cases b1
 ·cases b2
  ·-- neither
   obtain ⟨r0,r1,r2,r3,r4,r5,r6⟩ := T2.out.hd 0 w.heap.size rfl rfl;go_wp2_with fail
   refine (HK.out _ (F0.out.below T2.out.b)).mono ?_;rintro e w4 ⟨rfl,bb⟩;have T4 := hide (T2.out.below bb);clear bb T2 r0 r1 r2 r3 r4 r5 r6;obtain ⟨s0,s1,s2,f0,f1,f2⟩ := T4.out.st 1 (w.heap.size + 1) rfl rfl;cases b5
   ·go_wp2
    obtain ⟨k0,k1,k2,kb⟩ := st3 T4.out 1 (w.heap.size + 1) rfl rfl (k) (0) false;generalize ((w4.setCell ⟨w.heap.size + 1,0,none⟩ (.int .i64 (k))).setCell ⟨w.heap.size + 1,1,none⟩ (.int .i64 (0))).setCell ⟨w.heap.size + 1,2,none⟩ (.bool false) = w9 at k0 k1 k2 kb |-
    clear s0 s1 s2 f0 f1 f2;exact bodyPost_ret (v := .tuple #[.agg #[.int .i64 (k),.int .i64 (0),.bool false],.int .i64 (0)]) (by simp [results,Tryz.results49,go_sem,k0,k1,k2]) rfl ⟨by rw [<- HR.out];rfl,kb⟩
   ·go_wp2
    obtain ⟨k0,k1,k2,kb⟩ := st3 T4.out 1 (w.heap.size + 1) rfl rfl (k) (0) (k != 4);generalize ((w4.setCell ⟨w.heap.size + 1,0,none⟩ (.int .i64 (k))).setCell ⟨w.heap.size + 1,1,none⟩ (.int .i64 (0))).setCell ⟨w.heap.size + 1,2,none⟩ (.bool (k != 4)) = w9 at k0 k1 k2 kb |-
    clear s0 s1 s2 f0 f1 f2;exact bodyPost_ret (v := .tuple #[.agg #[.int .i64 (k),.int .i64 (0),.bool (k != 4)],.int .i64 (0)]) (by simp [results,Tryz.results49,go_sem,k0,k1,k2]) rfl ⟨by rw [<- HR.out];rfl,kb⟩
  ·-- a length
   have r6 : w2.cell? ⟨w.heap.size,6,none⟩ = some (.slice a0 A.length c0) := T2.out.cell 0 rfl 6;go_wp2_with fail
   refine (HIC.out _ (F0.out.below T2.out.b)).mono ?_;rintro e w3 ⟨v,rfl,hRw,bb⟩;have T3 := hide (T2.out.below bb);obtain ⟨a1,c1,rfl,hcv⟩ := Strs.of_row hRw;have HV := hide hcv;clear bb T2 HIC hRw hcv r6
   have HFN : Hid (firstN I2 <= 9007199254740992) := hide (by
    cases I2 with
    | nil => simp [firstN]
    | cons x r => exact num_topN _)
   have HF0 := hide (fun (h : 0 < I2.length) x (hx : I2[0] = x) => firstN_at h hx);have HO := hide (fun (h : 0 < I2.length) => lenOk_cons h);generalize hfn : firstN I2 = fn at HFN HF0 HO;have HFE := hide hfn;clear hfn;go_wp2
   go_loop [71,12] (fun i n => ∃ (k : Nat) (m : Int),k <= I2.length /\ i = .int .i64 k /\ n = .int .i64 m /\ Hid (m = if k = 0 then -1 else (fn : Int)) /\ Hid (oneIs (I2.take k) fn = true)) (fun i _ => I2.length - (intOf i).toNat)
   case atStart => exact ⟨0,-1,Nat.zero_le _,rfl,rfl,hide rfl,hide rfl⟩
   case round =>
    obtain ⟨k,m,hk,rfl,rfl,Hm,HKk⟩ := hrel;have hfl := HFN.out;by_cases hlt : k < I2.length
    ·obtain ⟨g, rfl, hgl, q1⟩ := HV.out k hlt
     have hz := HM.out I2[k] (List.getElem_mem hlt);have HNO := hide (fun x hx h => oneIs_no (n := fn) hlt (x := x) hx h);have HYE := hide (fun x hx h2 => oneIs_snoc (n := fn) hlt (x := x) hx HKk.out h2);have HZE : Hid (k = 0 -> ∀ x,I2[k] = x -> fn = numV 10 x.data.toList) := hide (by intro h0 x hx;subst h0;exact HF0.out hlt x hx);obtain ⟨x,hx⟩ : ∃ x,I2[k] = x := ⟨_,rfl⟩
     rw [hx] at q1 hz;have HN1 := hide (HNO.out x hx);have HY1 := hide (HYE.out x hx);have HZ1 := hide (fun h0 => HZE.out h0 x hx);clear hx HNO HYE HZE hgl;have hpos : 0 < I2.length := by omega
     have HLO := hide (HO.out hpos);go_wp2_with fail
     refine (rnumber_10 x w3 (by unfold maxLen;omega)).mono ?_;rintro e w4 ⟨rfl,rfl⟩;have hxl := num_topN x.data.toList;generalize numE 10 x.data.toList = xe at HN1 HY1 |-
     generalize numV 10 x.data.toList = xv at HN1 HY1 HZ1 hxl |-
     clear q1 hz;obtain ⟨s0,s1,s2,f0,f1,f2⟩ := T3.out.st 1 (w.heap.size + 1) rfl rfl;by_cases he : xe = 0
     ·subst he
      by_cases h0 : k = 0
      ·have hmm : m = -1 := by rw [Hm.out, if_pos h0]
       have hxf := HZ1.out h0;subst hmm hxf;have HK2 := hide (HY1.out ⟨rfl,rfl⟩);go_wp2
       exact ⟨⟨k + 1,_,by omega,by go_num,rfl,hide (by rw [if_neg (by omega)]),HK2⟩,by simp [intOf];omega⟩
      ·have hmm : m = (fn : Int) := by rw [Hm.out, if_neg h0]
       subst hmm;by_cases hv : xv = fn
       ·subst hv
        have HK2 := hide (HY1.out ⟨rfl,rfl⟩);go_wp2
        exact ⟨⟨k + 1,_,by omega,by go_num,rfl,hide (by rw [if_neg (by omega)]),HK2⟩,by simp [intOf];omega⟩
       ·have t1 : ((xv : Int) != (fn : Int)) = true := bne_iff_ne.2 (by omega)
        have HZ : Hid (oneIs I2 fn = false) := hide (HN1.out (fun h => hv h.2));clear hv;go_wp2
        obtain ⟨k0,k1,k2,kb⟩ := st3 T3.out 1 (w.heap.size + 1) rfl rfl (0) (0) false;generalize ((w3.setCell ⟨w.heap.size + 1,0,none⟩ (.int .i64 (0))).setCell ⟨w.heap.size + 1,1,none⟩ (.int .i64 (0))).setCell ⟨w.heap.size + 1,2,none⟩ (.bool false) = w9 at k0 k1 k2 kb |-
        clear s0 s1 s2 f0 f1 f2;exact bodyPost_ret (v := .tuple #[.agg #[.int .i64 (0),.int .i64 (0),.bool false],.int .i64 (90)]) (by simp [results,Tryz.results49,go_sem,k0,k1,k2]) rfl ⟨by rw [<- HR.out,HLO.out,HZ.out];rfl,kb⟩
     ·have t1 : ((xe : Int) != 0) = true := bne_iff_ne.2 (by omega)
      have HZ : Hid (oneIs I2 fn = false) := hide (HN1.out (fun h => he h.1));clear he;go_wp2
      obtain ⟨k0,k1,k2,kb⟩ := st3 T3.out 1 (w.heap.size + 1) rfl rfl (0) (0) false;generalize ((w3.setCell ⟨w.heap.size + 1,0,none⟩ (.int .i64 (0))).setCell ⟨w.heap.size + 1,1,none⟩ (.int .i64 (0))).setCell ⟨w.heap.size + 1,2,none⟩ (.bool false) = w9 at k0 k1 k2 kb |-
      clear s0 s1 s2 f0 f1 f2;exact bodyPost_ret (v := .tuple #[.agg #[.int .i64 (0),.int .i64 (0),.bool false],.int .i64 (90)]) (by simp [results,Tryz.results49,go_sem,k0,k1,k2]) rfl ⟨by rw [<- HR.out,HLO.out,HZ.out];rfl,kb⟩
    ·have HZ : Hid (oneIs I2 fn = true) := hide (by have := HKk.out; rw [List.take_of_length_le (by omega)] at this; exact this)
     by_cases h0 : k = 0
     ·have hmm : m = -1 := by rw [Hm.out, if_pos h0]
      subst hmm;have HI0 : Hid (I2 = []) := hide (List.eq_nil_of_length_eq_zero (by omega));obtain ⟨s0,s1,s2,f0,f1,f2⟩ := T3.out.st 1 (w.heap.size + 1) rfl rfl;go_wp2
      obtain ⟨k0,k1,k2,kb⟩ := st3 T3.out 1 (w.heap.size + 1) rfl rfl (0) (0) false;generalize ((w3.setCell ⟨w.heap.size + 1,0,none⟩ (.int .i64 (0))).setCell ⟨w.heap.size + 1,1,none⟩ (.int .i64 (0))).setCell ⟨w.heap.size + 1,2,none⟩ (.bool false) = w9 at k0 k1 k2 kb |-
      clear s0 s1 s2 f0 f1 f2;exact bodyPost_ret (v := .tuple #[.agg #[.int .i64 (0),.int .i64 (0),.bool false],.int .i64 (90)]) (by simp [results,Tryz.results49,go_sem,k0,k1,k2]) rfl ⟨by rw [<- HR.out,HI0.out];rfl,kb⟩
     ·have hmm : m = (fn : Int) := by rw [Hm.out, if_neg h0]
      subst hmm;have HLO := hide (HO.out (by omega));obtain ⟨r0,r1,r2,r3,r4,r5,r6⟩ := T3.out.hd 0 w.heap.size rfl rfl;go_wp2_with fail
      refine (HK.out _ (F0.out.below T3.out.b)).mono ?_;rintro e w4 ⟨rfl,bb⟩;have T4 := hide (T3.out.below bb);clear bb T3 r0 r1 r2 r3 r4 r5 r6;obtain ⟨s0,s1,s2,f0,f1,f2⟩ := T4.out.st 1 (w.heap.size + 1) rfl rfl;go_wp2
      obtain ⟨k0,k1,k2,kb⟩ := st3 T4.out 1 (w.heap.size + 1) rfl rfl (2) ((fn : Int)) b5;generalize ((w4.setCell ⟨w.heap.size + 1,0,none⟩ (.int .i64 (2))).setCell ⟨w.heap.size + 1,1,none⟩ (.int .i64 ((fn : Int)))).setCell ⟨w.heap.size + 1,2,none⟩ (.bool b5) = w9 at k0 k1 k2 kb |-
      clear s0 s1 s2 f0 f1 f2;exact bodyPost_ret (v := .tuple #[.agg #[.int .i64 (2),.int .i64 ((fn : Int)),.bool b5],.int .i64 (0)]) (by simp [results,Tryz.results49,go_sem,k0,k1,k2]) rfl ⟨by rw [<- HR.out];unfold lenN;rw [HLO.out,HZ.out,HFE.out];rfl,kb⟩
 ·cases b2
  ·-- a coding
   have r6 : w2.cell? ⟨w.heap.size,6,none⟩ = some (.slice a0 A.length c0) := T2.out.cell 0 rfl 6;go_wp2_with fail
   refine (HIT.out _ (F0.out.below T2.out.b)).mono ?_;rintro e w3 ⟨v,rfl,hRw,bb⟩;have T3 := hide (T2.out.below bb);obtain ⟨a1,c1,rfl,hcv⟩ := Strs.of_row hRw;have HV := hide hcv;clear bb T2 HIT hRw hcv r6;obtain ⟨r0,r1,r2,r3,r4,r5,r6⟩ := T3.out.hd 0 w.heap.size rfl rfl;obtain ⟨s0,s1,s2,f0,f1,f2⟩ := T3.out.st 1 (w.heap.size + 1) rfl rfl;by_cases m1 : mi = 1
   ·subst m1
    by_cases h1 : I1.length = 1
    ·have hpos : 0 < I1.length := by omega
     obtain ⟨g,rfl,hgl,q1⟩ := HV.out 0 hpos;have HY := hide (code_yes hpos (by omega));have HN := hide (code_no hpos);have t1 : ((I1.length : Int) != 1) = false := bne_eq_false_iff_eq.2 (by omega);obtain ⟨x,hx⟩ : ∃ x,I1[0] = x := ⟨_,rfl⟩
     rw [hx] at q1 HY HN;clear hx h1 hgl;have hb := bytes_eq x chS;rw [show chS.toList = [99,104,117,110,107,101,100] by rw [Lib.toList_data];rfl] at hb;by_cases hc : x = chS
     ·have t2 : (x.toList == [99, 104, 117, 110, 107, 101, 100]) = true := by rw [hb]; exact decide_eq_true hc
      have HD := hide (HY.out hc);clear hb hc HY HN;go_wp2_with fail
      refine (HK.out _ (F0.out.below T3.out.b)).mono ?_;rintro e w4 ⟨rfl,bb⟩;have T4 := hide (T3.out.below bb);clear bb T3 r0 r1 r2 r3 r4 r5 r6 s0 s1 s2 f0 f1 f2;obtain ⟨s0,s1,s2,f0,f1,f2⟩ := T4.out.st 1 (w.heap.size + 1) rfl rfl;go_wp2
      obtain ⟨k0,k1,k2,kb⟩ := st3 T4.out 1 (w.heap.size + 1) rfl rfl (3) (0) b5;generalize ((w4.setCell ⟨w.heap.size + 1,0,none⟩ (.int .i64 (3))).setCell ⟨w.heap.size + 1,1,none⟩ (.int .i64 (0))).setCell ⟨w.heap.size + 1,2,none⟩ (.bool b5) = w9 at k0 k1 k2 kb |-
      clear s0 s1 s2 f0 f1 f2;exact bodyPost_ret (v := .tuple #[.agg #[.int .i64 (3),.int .i64 (0),.bool b5],.int .i64 (0)]) (by simp [results,Tryz.results49,go_sem,k0,k1,k2]) rfl ⟨by rw [<- HR.out,HD.out];rfl,kb⟩
     ·have t2 : (x.toList == [99, 104, 117, 110, 107, 101, 100]) = false := by rw [hb]; exact decide_eq_false hc
      have HD := hide (HN.out hc);clear hb hc HY HN;go_wp2
      obtain ⟨k0,k1,k2,kb⟩ := st3 T3.out 1 (w.heap.size + 1) rfl rfl (0) (0) false;generalize ((w3.setCell ⟨w.heap.size + 1,0,none⟩ (.int .i64 (0))).setCell ⟨w.heap.size + 1,1,none⟩ (.int .i64 (0))).setCell ⟨w.heap.size + 1,2,none⟩ (.bool false) = w9 at k0 k1 k2 kb |-
      clear s0 s1 s2 f0 f1 f2;exact bodyPost_ret (v := .tuple #[.agg #[.int .i64 (0),.int .i64 (0),.bool false],.int .i64 (92)]) (by simp [results,Tryz.results49,go_sem,k0,k1,k2]) rfl ⟨by rw [<- HR.out,HD.out];rfl,kb⟩
    ·have t1 : ((I1.length : Int) != 1) = true := bne_iff_ne.2 (by omega)
     have HD := hide (code_len h1);clear h1;go_wp2
     obtain ⟨k0,k1,k2,kb⟩ := st3 T3.out 1 (w.heap.size + 1) rfl rfl (0) (0) false;generalize ((w3.setCell ⟨w.heap.size + 1,0,none⟩ (.int .i64 (0))).setCell ⟨w.heap.size + 1,1,none⟩ (.int .i64 (0))).setCell ⟨w.heap.size + 1,2,none⟩ (.bool false) = w9 at k0 k1 k2 kb |-
     clear s0 s1 s2 f0 f1 f2;exact bodyPost_ret (v := .tuple #[.agg #[.int .i64 (0),.int .i64 (0),.bool false],.int .i64 (92)]) (by simp [results,Tryz.results49,go_sem,k0,k1,k2]) rfl ⟨by rw [<- HR.out,HD.out];rfl,kb⟩
   ·have t1 : (mi != 1) = true := bne_iff_ne.2 m1
    have HD := hide m1;clear m1;go_wp2
    obtain ⟨k0,k1,k2,kb⟩ := st3 T3.out 1 (w.heap.size + 1) rfl rfl (0) (0) false;generalize ((w3.setCell ⟨w.heap.size + 1,0,none⟩ (.int .i64 (0))).setCell ⟨w.heap.size + 1,1,none⟩ (.int .i64 (0))).setCell ⟨w.heap.size + 1,2,none⟩ (.bool false) = w9 at k0 k1 k2 kb |-
    clear s0 s1 s2 f0 f1 f2;exact bodyPost_ret (v := .tuple #[.agg #[.int .i64 (0),.int .i64 (0),.bool false],.int .i64 (92)]) (by simp [results,Tryz.results49,go_sem,k0,k1,k2]) rfl ⟨by rw [<- HR.out,decide_eq_false HD.out];rfl,kb⟩
  ·obtain ⟨s0, s1, s2, f0, f1, f2⟩ := T2.out.st 1 (w.heap.size + 1) rfl rfl
   go_wp2
   obtain ⟨k0,k1,k2,kb⟩ := st3 T2.out 1 (w.heap.size + 1) rfl rfl (0) (0) false;generalize ((w2.setCell ⟨w.heap.size + 1,0,none⟩ (.int .i64 (0))).setCell ⟨w.heap.size + 1,1,none⟩ (.int .i64 (0))).setCell ⟨w.heap.size + 1,2,none⟩ (.bool false) = w9 at k0 k1 k2 kb |-
   clear s0 s1 s2 f0 f1 f2;exact bodyPost_ret (v := .tuple #[.agg #[.int .i64 (0),.int .i64 (0),.bool false],.int .i64 (91)]) (by simp [results,Tryz.results49,go_sem,k0,k1,k2]) rfl ⟨by rw [<- HR.out];rfl,kb⟩
theorem req_any (w : World) (r : Bool) (me ta : ByteArray) (mi st : Int) (re : ByteArray) (l : Value) (A : List (ByteArray × ByteArray)) (hA : Flds w l A) (hs : Sm A) :
  Calls Tryz.prog 62 #[.agg (hdC r me ta mi st re l)] w fun e w' => e = .returned (foV (reqO A r mi)) /\ Below w.heap.size w w' := by
 cases r
 ·obtain ⟨a0, c0, rfl, _, _⟩ := hA
  unfold hdC;go_enter Tryz.func62,Tryz.ntmps62
  go_wp2
  have T0 := hide (Bl.two w #[.bool false,.string me,.string ta,.int .i64 mi,.int .i64 st,.string re,.slice a0 A.length c0] 45 #[.int .i64 0,.int .i64 0,.bool false] 83);generalize ((w.alloc (.cells #[.bool false,.string me,.string ta,.int .i64 mi,.int .i64 st,.string re,.slice a0 A.length c0] 45)).alloc (.cells #[.int .i64 0,.int .i64 0,.bool false] 83)) = x at T0 |-
  obtain ⟨k0,k1,k2,_,_,_⟩ := T0.out.st 1 (w.heap.size + 1) rfl rfl;exact bodyPost_ret (v := .tuple #[.agg #[.int .i64 0,.int .i64 0,.bool false],.int .i64 1]) (by simp [results,Tryz.results62,go_sem,k0,k1,k2]) rfl ⟨rfl,T0.out.b⟩
 ·have HK := hide (fun W h => keep_any W true me ta mi st re l A h hs)
  have HT := hide (fun W b h => told_anyg W true me ta mi st re l A 1 b h hs);have F0 := hide hA;obtain ⟨a0,c0,rfl,_,_⟩ := hA;unfold hdC at HK HT |-
  obtain ⟨o,ho⟩ : ∃ o,toldO A mi 1 (keepB A mi) = o := ⟨_,rfl⟩
  have HO : Hid (reqO A true mi = o) := hide (by rw [<- ho];rfl);have HT2 := hide (fun W h => HT.out W (keepB A mi) h);rw [ho] at HT2;clear ho HT;generalize keepB A mi = b5 at HK HT2;unfold frVg at HT2
  have K1 : Hid (∀ W,Bl w W [(#[.bool true,.string me,.string ta,.int .i64 mi,.int .i64 st,.string re,.slice a0 A.length c0],45),(#[.int .i64 0,.int .i64 0,.bool false],83)] -> Calls Tryz.prog 92 #[.agg #[.bool true,.string me,.string ta,.int .i64 mi,.int .i64 st,.string re,.slice a0 A.length c0]] W fun e w' => ∃ v,e = .returned v /\ v = .bool b5 /\ w'.cell? ⟨w.heap.size,0,none⟩ = some (.bool true) /\ w'.cell? ⟨w.heap.size,1,none⟩ = some (.string me) /\ w'.cell? ⟨w.heap.size,2,none⟩ = some (.string ta) /\ w'.cell? ⟨w.heap.size,3,none⟩ = some (.int .i64 mi) /\ w'.cell? ⟨w.heap.size,4,none⟩ = some (.int .i64 st) /\ w'.cell? ⟨w.heap.size,5,none⟩ = some (.string re) /\ w'.cell? ⟨w.heap.size,6,none⟩ = some (.slice a0 A.length c0) /\ Hid (Bl w w' [(#[.bool true,.string me,.string ta,.int .i64 mi,.int .i64 st,.string re,.slice a0 A.length c0],45),(#[.int .i64 0,.int .i64 0,.bool false],83)])) := hide (fun W hW => (HK.out W (F0.out.below hW.b)).mono (by
   rintro e w' ⟨rfl,bb⟩;have T := hW.below bb;obtain ⟨r0,r1,r2,r3,r4,r5,r6⟩ := T.hd 0 w.heap.size rfl rfl;exact ⟨_,rfl,rfl,r0,r1,r2,r3,r4,r5,r6,hide T⟩))
  have K2 : Hid (∀ W,Bl w W [(#[.bool true,.string me,.string ta,.int .i64 mi,.int .i64 st,.string re,.slice a0 A.length c0],45),(#[.int .i64 0,.int .i64 0,.bool false],83)] -> Calls Tryz.prog 91 #[.agg #[.bool true,.string me,.string ta,.int .i64 mi,.int .i64 st,.string re,.slice a0 A.length c0],.agg #[.int .i64 1,.int .i64 0,.bool b5]] W fun e w' => ∃ v,e = .returned v /\ v = foV o /\ w'.cell? ⟨w.heap.size + 1,0,none⟩ = some (.int .i64 0) /\ w'.cell? ⟨w.heap.size + 1,1,none⟩ = some (.int .i64 0) /\ w'.cell? ⟨w.heap.size + 1,2,none⟩ = some (.bool false) /\ w'.frozen? ⟨w.heap.size + 1,0,none⟩ = false /\ w'.frozen? ⟨w.heap.size + 1,1,none⟩ = false /\ w'.frozen? ⟨w.heap.size + 1,2,none⟩ = false /\ Hid (Bl w w' [(#[.bool true,.string me,.string ta,.int .i64 mi,.int .i64 st,.string re,.slice a0 A.length c0],45),(#[.int .i64 0,.int .i64 0,.bool false],83)])) := hide (fun W hW => (HT2.out W (F0.out.below hW.b)).mono (by
   rintro e w' ⟨rfl,bb⟩;have T := hW.below bb;obtain ⟨r0,r1,r2,r3,r4,r5⟩ := T.st 1 (w.heap.size + 1) rfl rfl;exact ⟨_,rfl,rfl,r0,r1,r2,r3,r4,r5,hide T⟩))
  clear HK HT2 hs;rw [HO.out];clear HO;unfold foV frVg at K2 |-
  go_enter Tryz.func62,Tryz.ntmps62
  go_upto_region 3 with fail
  have T0 := hide (Bl.two w #[.bool true,.string me,.string ta,.int .i64 mi,.int .i64 st,.string re,.slice a0 A.length c0] 45 #[.int .i64 0,.int .i64 0,.bool false] 83);generalize ((w.alloc (.cells #[.bool true,.string me,.string ta,.int .i64 mi,.int .i64 st,.string re,.slice a0 A.length c0] 45)).alloc (.cells #[.int .i64 0,.int .i64 0,.bool false] 83)) = x at T0 |-
  have T1 := hide T0.out.drew;obtain ⟨r0,r1,r2,r3,r4,r5,r6⟩ := T0.out.hd 0 w.heap.size rfl rfl
  go_region_law (first
   | (refine step_callg rfl 92 _ _ rfl (enters_of Tryz.func92 (by kernel_rfl) rfl) #[.agg #[.bool true,.string me,.string ta,.int .i64 mi,.int .i64 st,.string re,.slice a0 A.length c0]] (by simp [Act.eval]) _ (K1.out _ T1.out) ?_;rintro v y ⟨rfl,q0,q1,q2,q3,q4,q5,q6,TY⟩)
   | (refine step_callg rfl 91 _ _ rfl (enters_of Tryz.func91 (by kernel_rfl) rfl) #[.agg #[.bool true,.string me,.string ta,.int .i64 mi,.int .i64 st,.string re,.slice a0 A.length c0],.agg #[.int .i64 1,.int .i64 0,.bool b5]] (by simp [Act.eval,Act.put]) _ (K2.out _ TY.out) ?_;rintro v z ⟨rfl,s0,s1,s2,f0,f1,f2,TZ⟩))
  all_goals (go_wp2)
  all_goals (obtain ⟨k0,k1,k2,kb⟩ := st3 TZ.out 1 (w.heap.size + 1) rfl rfl o.k o.n o.b)
  all_goals (generalize ((z.setCell ⟨w.heap.size + 1,0,none⟩ (.int .i64 o.k)).setCell ⟨w.heap.size + 1,1,none⟩ (.int .i64 o.n)).setCell ⟨w.heap.size + 1,2,none⟩ (.bool o.b) = w9 at k0 k1 k2 kb |-)
  all_goals (clear s0 s1 s2 f0 f1 f2)
  all_goals (exact bodyPost_ret (v := .tuple #[.agg #[.int .i64 o.k,.int .i64 o.n,.bool o.b],.int .i64 o.e]) (by simp [results,Tryz.results62,go_sem,k0,k1,k2]) rfl ⟨rfl,kb⟩)
theorem keep_one (b : Bool) : (b && ((1 : Int) != 4)) = b := by cases b <;> rfl
theorem rreq_any (w : World) (r : Bool) (me ta : ByteArray) (mi st : Int) (re : ByteArray) (l : Value) (A : List (ByteArray × ByteArray)) (hA : Flds w l A) (hs : Sm A) :
  Calls Tryz.prog 39 #[.agg (hdC r me ta mi st re l)] w fun e w' => e = .returned (foV (reqO A r mi)) /\ Below w.heap.size w w' := by
 cases r
 ·obtain ⟨a0, c0, rfl, _, _⟩ := hA
  unfold hdC;go_enter Tryz.func39,Tryz.ntmps39
  go_wp2
  have T0 := hide (Bl.two w #[.bool false,.string me,.string ta,.int .i64 mi,.int .i64 st,.string re,.slice a0 A.length c0] 45 #[.int .i64 0,.int .i64 0,.bool false] 83);generalize ((w.alloc (.cells #[.bool false,.string me,.string ta,.int .i64 mi,.int .i64 st,.string re,.slice a0 A.length c0] 45)).alloc (.cells #[.int .i64 0,.int .i64 0,.bool false] 83)) = x at T0 |-
  obtain ⟨k0,k1,k2,_,_,_⟩ := T0.out.st 1 (w.heap.size + 1) rfl rfl;exact bodyPost_ret (v := .tuple #[.agg #[.int .i64 0,.int .i64 0,.bool false],.int .i64 1]) (by simp [results,Tryz.results39,go_sem,k0,k1,k2]) rfl ⟨rfl,T0.out.b⟩
 ·have HT := hide (fun W h => rtold_any W true me ta mi st re l A 1 h hs)
  rw [keep_one] at HT;have F0 := hide hA;obtain ⟨a0,c0,rfl,_,_⟩ := hA;unfold hdC at HT |-
  have HO : Hid (reqO A true mi = toldO A mi 1 (keepB A mi)) := hide rfl;rw [HO.out];generalize toldO A mi 1 (keepB A mi) = o at HT;clear hs HO;unfold foV frVg at HT |-
  go_enter Tryz.func39,Tryz.ntmps39
  go_wp2_with fail
  have T0 := hide (Bl.two w #[.bool true,.string me,.string ta,.int .i64 mi,.int .i64 st,.string re,.slice a0 A.length c0] 45 #[.int .i64 0,.int .i64 0,.bool false] 83);generalize ((w.alloc (.cells #[.bool true,.string me,.string ta,.int .i64 mi,.int .i64 st,.string re,.slice a0 A.length c0] 45)).alloc (.cells #[.int .i64 0,.int .i64 0,.bool false] 83)) = x at T0 |-
  refine (HT.out _ (F0.out.below T0.out.b)).mono ?_;rintro e w1 ⟨rfl,bb⟩;have T1 := hide (T0.out.below bb);clear bb T0;obtain ⟨s0,s1,s2,f0,f1,f2⟩ := T1.out.st 1 (w.heap.size + 1) rfl rfl;go_wp2
  obtain ⟨k0,k1,k2,kb⟩ := st3 T1.out 1 (w.heap.size + 1) rfl rfl (o.k) (o.n) o.b;generalize ((w1.setCell ⟨w.heap.size + 1,0,none⟩ (.int .i64 (o.k))).setCell ⟨w.heap.size + 1,1,none⟩ (.int .i64 (o.n))).setCell ⟨w.heap.size + 1,2,none⟩ (.bool o.b) = w9 at k0 k1 k2 kb |-
  clear s0 s1 s2 f0 f1 f2;exact bodyPost_ret (v := .tuple #[.agg #[.int .i64 (o.k),.int .i64 (o.n),.bool o.b],.int .i64 (o.e)]) (by simp [results,Tryz.results39,go_sem,k0,k1,k2]) rfl ⟨rfl,kb⟩
end Go.Proofs.YtcagjipdldlehaaGreatDoor
