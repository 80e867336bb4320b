/- VX2. -/
import Derived.Test.YtcagjipdldlehaaGreatDoorVX1
import Derived.Lib.AppendStr
import Derived.Maps.AppendAt
import Derived.Great.BuildSlice
import Derived.Deep.MidRow
import Derived.Lib.ItoaLen
import Derived.Lib.LaidTab
namespace Go.Proofs.YtcagjipdldlehaaGreatDoor
open Go.ChangeShapes Go.WideShapes Go.ChangeAt Go.RowKit
set_option linter.unusedVariables false
set_option maxHeartbeats 16000000
set_option maxRecDepth 100000
structure Kp (W W' : World) (v : Value) : Prop where
 size : W.heap.size <= W'.heap.size
 block : ∀ g,g < W.heap.size -> v.ownBlock ≠ some g -> W'.heap[g]? = W.heap[g]?
theorem strCells_bc (s : ByteArray) : Lib.strCells s = bc s.data.toList := rfl
theorem append_str_k (W : World) (base : Nat) (ty : TypeId) (v : Value) (O : List UInt8) (s : ByteArray) (hown : Row W base 5 v (bc O)) (hn : O.length + s.size <= 140737488355328) (hbase : base <= W.heap.size) :
  ∃ v' W',(Builtin.append_ #[31,9] ty #[v,.string s]).run Tryz.prog W = .ok v' W' /\ Row W' base 5 v' (bc (O ++ s.data.toList)) /\ Below base W W' /\ Kp W W' v := by
 obtain ⟨i,hi,hz,hs1,hb1⟩ := infoB;unfold Row at hown;rw [bc_len] at hown;obtain ⟨v',W',hr,h1,hg,_⟩ := Lib.run_append_own_string (P := Tryz.prog) W base 31 9 ty 5 i Tryz.underlying31 Tryz.underlying9 hi hz hs1 hb1 v O.length (bc O) hown s (by unfold maxLen;omega) (by omega) hbase;refine ⟨v',W',hr,?_,(Below.refl base W).grown hg hbase (fun k hk => (World.ownsRow.lt hown k hk).1),hg.size,fun g h2 h3 => hg.block g h2 (fun h => h3 h.symm)⟩;unfold Row;rw [bc_len,List.length_append,size_len,show bc (O ++ s.data.toList) = bc O ++ Lib.strCells s by simp [bc,strCells_bc]];exact h1
theorem wpList_append_str_k {ops : Array Oper} {rest : List Oper} {o : Oper} {a : Act} {Q : Exit -> Act -> World -> Prop} (hgd : o.guard = none) (sl x : Operand)
  (ho : o.op = .call { callee := .builtin .append,args := #[sl,x],argTypes := #[31,9] }) (W : World) (base : Nat) (v : Value) (O : List UInt8) (s : ByteArray) (hs : a.eval sl = v) (hx : a.eval x = .string s)
  (hown : Row W base 5 v (bc O)) (hn : O.length + s.size <= 140737488355328) (hbase : base <= W.heap.size)
  (h : ∀ v' W',Row W' base 5 v' (bc (O ++ s.data.toList)) -> Below base W W' -> Kp W W' v -> wpList Tryz.prog ops Q rest (a.put o.dst v') W') : wpList Tryz.prog ops Q (o :: rest) a W := by
 refine wpList_plain hgd fun K hK => ?_
 obtain ⟨v',W',hr,h2,h3,h4⟩ := append_str_k W base o.type v O s hown hn hbase;unfold Oper.wp execOp;simp only [ho,resolve,invoke,builtin,Sem.run_bind,Sem.run_pure,Result.andThen_ok,List.map_toArray,List.map_cons,List.map_nil,hs,hx,hr];exact hK _ _ (h v' W' h2 h3 h4)
def Cm (m : Nat) (CS : List (List Value)) : Prop := ∀ c ∈ CS,c.length = m /\ ∀ u ∈ c,u.oneCell' = true
theorem own_frame {W W' : World} {base m n : Nat} {e : TypeId} {v : Value} {xs : List Value} (h : W.ownsRow base e m v n xs) (hb : ∀ g,v.ownBlock = some g -> W'.heap[g]? = W.heap[g]?) : W'.ownsRow base e m v n xs := by
 refine ⟨h.1,?_⟩;rcases h.2 with x | ⟨g,cap,cur,rfl,h1,hg,hc,hm,hs,ht⟩
 ·exact .inl x
 ·exact .inr ⟨g,cap,cur,rfl,h1,(hb g rfl).trans hg,hc,hm,hs,ht⟩
theorem own_below {W W' : World} {base m n : Nat} {e : TypeId} {v : Value} {xs : List Value} (h : W.ownsRow base e m v n xs) (b : Below W.heap.size W W') : W'.ownsRow base e m v n xs := own_frame h fun g hg => b.block g (World.ownsRow.lt h g hg).2
theorem own_shape {W : World} {base m n : Nat} {e : TypeId} {v : Value} {xs : List Value} (h : W.ownsRow base e m v n xs) : ∃ a c,v = .slice a n c := by
 rcases h.2 with ⟨rfl,h0⟩ | ⟨g,cap,cur,rfl,_⟩
 ·exact ⟨none,0,by rw [h0]⟩
 ·exact ⟨_,cap,rfl⟩
theorem own_nil (W : World) (base m : Nat) (e : TypeId) : W.ownsRow base e m (.slice none 0 0) 0 [] := ⟨by simp,.inl ⟨rfl,rfl⟩⟩
theorem own_type {W : World} {base m n : Nat} {e : TypeId} {v : Value} {xs : List Value} (h : W.ownsRow base e m v n xs) {g : Nat} (hg : v.ownBlock = some g) : ∃ cur,W.heap[g]? = some (.cells cur e (0,0)) := by
 rcases h.2 with ⟨rfl,h0⟩ | ⟨g',cap,cur,rfl,h1,hg',hc,hm,hs,ht⟩
 ·simp [Value.ownBlock] at hg
 ·simp only [Value.ownBlock, Option.some.injEq] at hg
  subst hg;exact ⟨cur,hg'⟩
theorem own_apart {W : World} {b1 b2 m1 m2 n1 n2 : Nat} {e1 e2 : TypeId} {v1 v2 : Value} {x1 x2 : List Value} (h1 : W.ownsRow b1 e1 m1 v1 n1 x1) (h2 : W.ownsRow b2 e2 m2 v2 n2 x2) (he : e1 ≠ e2) {g : Nat} (hg : v2.ownBlock = some g) : v1.ownBlock ≠ some g := fun q => by
 obtain ⟨c1,d1⟩ := own_type h1 q;obtain ⟨c2,d2⟩ := own_type h2 hg;rw [d1] at d2;simp only [Option.some.injEq,Obj.cells.injEq] at d2;exact he d2.2.1
theorem flat_at : ∀ {CS : List (List Value)} {m : Nat}, Cm m CS -> ∀ (j i : Nat) (hj : j < CS.length), i < m -> CS.flatten[j * m + i]? = CS[j][i]?
 | [],_,_,j,_,hj,_ => by simp at hj
 | c :: r,m,h,0,i,hj,hi => by
  rw [Nat.zero_mul,Nat.zero_add,List.flatten_cons,List.getElem?_append_left (by rw [(h c (by simp)).1];exact hi)];rfl
 | c :: r,m,h,j + 1,i,hj,hi => by
  have hc := (h c (by simp)).1;rw [List.flatten_cons,List.getElem?_append_right (by rw [hc,Nat.add_mul];omega),hc,show (j + 1) * m + i - m = j * m + i by rw [Nat.add_mul];omega];exact flat_at (fun c' hc' => h c' (List.mem_cons_of_mem _ hc')) j i (by simpa using hj) hi
theorem own_cell {W : World} {base m n : Nat} {e : TypeId} {a : Option Addr} {k c : Nat} {CS : List (List Value)} (h : W.ownsRow base e m (.slice a k c) n CS.flatten) (hl : CS.length = n) (hc : Cm m CS) {j : Nat} (hj : j < CS.length) :
  ∃ g,a = some ⟨g,0,none⟩ /\ base <= g /\ g < W.heap.size /\ ∀ i,i < m -> W.cell? ⟨g,j * m + i,none⟩ = CS[j][i]? := by
 rcases h.2 with ⟨h1,h0⟩ | ⟨g,cap,cur,h1,hb,hg,hcp,hm,hs,ht⟩
 ·omega
 ·simp only [Value.slice.injEq] at h1
  obtain ⟨rfl,rfl,rfl⟩ := h1;refine ⟨g,rfl,hb,blk_lt hg,fun i hi => ?_⟩;have e1 := flat_at hc j i hj hi
  rw [cell_at hg,<- e1,<- ht,List.getElem?_take,if_pos (by
   have : (j + 1) * m <= k * m := Nat.mul_le_mul_right _ (by omega);rw [Nat.add_mul] at this;omega)]
  simp
theorem append_st_k {t e : TypeId} {z : Value} {m bts : Nat} (ht : Tryz.prog.underlying t = some (.slice e)) (hi : ∃ i, Tryz.prog.info? e = some i /\ i.zero = some z /\ i.size = m /\ i.bytes = bts) (hz : z.cells.size = m) (hm : 0 < m)
  (W : World) (base : Nat) (ty : TypeId) (v : Value) (n : Nat) (xs c : List Value) (hown : W.ownsRow base e m v n xs) (hc : c.length = m) (h1 : ∀ u ∈ c,u.oneCell' = true) (hn : (n + 1) * bts <= 140737488355328) (hn2 : n + 1 <= 140737488355328) (hbase : base <= W.heap.size) :
  ∃ v' W',(Builtin.append_ #[t,t] ty #[v,.slice (some ⟨W.heap.size,0,none⟩) 1 1]).run Tryz.prog (W.alloc (.cells c.toArray e)) = .ok v' W' /\ W'.ownsRow base e m v' (n + 1) (xs ++ c) /\ Below base W W' /\ Kp W W' v := by
 obtain ⟨i,hi,hz1,hs1,hb1⟩ := hi;have ho : (W.alloc (.cells c.toArray e)).ownsRow base e m v n xs := own_frame hown fun g hg => Below.heap_alloc W _ g (World.ownsRow.lt hown g hg).2
 have hsz : (W.alloc (.cells c.toArray e)).heap.size = W.heap.size + 1 := by show (W.heap.push _).size = _;simp
 obtain ⟨v',W',hr,h2,hg,_⟩ := run_append_own (w := W.alloc (.cells c.toArray e)) base t ty e i z m bts ht hi hz1 hs1 hb1 hz hm v n xs ho ⟨W.heap.size,0,none⟩ 1 1 c (by omega) (fun j u hu => by
  have e1 : ((⟨W.heap.size,0,none⟩ : Addr).add j) = ⟨W.heap.size,j,none⟩ := by unfold Addr.add;split <;> simp_all
  rw [e1,cell_at (hp_new W _),List.getElem?_toArray];exact hu) h1 (by unfold maxLen;omega) hn (by rw [hsz];omega)
 have hs2 := hg.size;exact ⟨v',W',hr,h2,((Below.refl base W).alloc hbase _).grown hg (by rw [hsz];omega) (fun k hk => (World.ownsRow.lt hown k hk).1),by rw [hsz] at hs2;omega,fun g h2 h3 => (hg.block g (by rw [hsz];omega) (fun h => h3 h.symm)).trans (Below.heap_alloc W _ g h2)⟩
theorem wpList_append_st_k {t e : TypeId} {z : Value} {m bts : Nat} (ht : Tryz.prog.underlying t = some (.slice e)) (hi : ∃ i, Tryz.prog.info? e = some i /\ i.zero = some z /\ i.size = m /\ i.bytes = bts) (hz : z.cells.size = m) (hm : 0 < m)
  {ops : Array Oper} {rest : List Oper} {o : Oper} {a : Act} {Q : Exit -> Act -> World -> Prop} (hgd : o.guard = none) (s x : Operand)
  (ho : o.op = .call { callee := .builtin .append,args := #[s,x],argTypes := #[t,t] }) (W : World) (base : Nat) (v : Value) (n : Nat) (xs c : List Value) (hs : a.eval s = v) (hx : a.eval x = .slice (some ⟨W.heap.size,0,none⟩) 1 1)
  (hown : W.ownsRow base e m v n xs) (hc : c.length = m) (h1 : ∀ u ∈ c,u.oneCell' = true) (hn : (n + 1) * bts <= 140737488355328) (hn2 : n + 1 <= 140737488355328) (hbase : base <= W.heap.size)
  (h : ∀ v' W',W'.ownsRow base e m v' (n + 1) (xs ++ c) -> Below base W W' -> Kp W W' v -> wpList Tryz.prog ops Q rest (a.put o.dst v') W') : wpList Tryz.prog ops Q (o :: rest) a (W.alloc (.cells c.toArray e)) := by
 refine wpList_plain hgd fun K hK => ?_
 obtain ⟨v',W',hr,h2,h3,h4⟩ := append_st_k ht hi hz hm W base o.type v n xs c hown hc h1 hn hn2 hbase;unfold Oper.wp execOp;simp only [ho,resolve,invoke,builtin,Sem.run_bind,Sem.run_pure,Result.andThen_ok,List.map_toArray,List.map_cons,List.map_nil,hs,hx,hr];exact hK _ _ (h v' W' h2 h3 h4)
def PT (w : World) : Prop := Lib.TabIs Tryz.prog w "internal/strconv.uint64pow10" .u64 Lib.pow10Tab
theorem gpow : Tryz.prog.globalNamed "internal/strconv.uint64pow10" = some 1 := by kernel_rfl
theorem PT.below {w w' : World} (h : PT w) (hb : Below w.heap.size w w') : PT w' := by
 unfold PT Lib.TabIs World.var? at h |-
 rw [gpow] at h |-
 simp only [Option.bind_some] at h |-
 have hlt : 1 < w.heap.size := by
  rcases Nat.lt_or_ge 1 w.heap.size with h' | h'
  ·exact h'
  ·rw [Array.getElem?_eq_none h'] at h;cases h
 rw [hb.block 1 hlt];exact h
theorem below_grow (w : World) (q : Nat) (os : Array Obj) : Below w.heap.size w (Sort.grow (w.drewN q) os) :=
 ⟨rfl,rfl,rfl,by simp [Sort.grow],fun k hk => by simp [Sort.grow,World.drewN,Array.getElem?_append_left hk]⟩
def itoaS (p : Int) : ByteArray := ⟨(Lib.itoa p).toArray⟩
theorem itoa_any (p : Int) (w : World) (h0 : -9223372036854775808 <= p) (h1 : p <= 9223372036854775807) (ht : PT w) :
  Calls Tryz.prog 31 #[.int .i64 p] w fun e w' => e = .returned (.string (itoaS p)) /\ Below w.heap.size w w' := by
 refine (Tryz.strconv_Itoa p h0 h1 w ht).mono ?_;rintro e w' ⟨rfl,k,os,rfl⟩;exact ⟨rfl,below_grow w k os⟩
theorem itoaS_size (p : Int) (h0 : -9223372036854775808 <= p) (h1 : p <= 9223372036854775807) : (itoaS p).size <= 21 := by
 rw [<- size_len];simpa [itoaS] using Lib.itoa_length_le p h0 h1
structure Hb (h : Hi) : Prop where
 me : h.me.size <= 1048576
 ta : h.ta.size <= 1048576
 re : h.re.size <= 1048576
 mi0 : -9223372036854775808 <= h.mi
 mi1 : h.mi <= 9223372036854775807
 st0 : -9223372036854775808 <= h.st
 st1 : h.st <= 9223372036854775807
 fl : h.fs.length <= 1048576
 fs : ∀ f ∈ h.fs,f.1.size <= 1048576 /\ f.2.size <= 1048576
def verS (mi : Int) : ByteArray := ⟨#[72,84,84,80,47,49,46]⟩ ++ itoaS mi
def firstS (h : Hi) : ByteArray := if h.r then ((h.me ++ ⟨#[32]⟩) ++ h.ta ++ ⟨#[32]⟩) ++ verS h.mi else ((verS h.mi ++ ⟨#[32]⟩) ++ itoaS h.st ++ ⟨#[32]⟩) ++ h.re
theorem verS_size (h : Hi) (hb : Hb h) : (verS h.mi).size <= 28 := by
 have := itoaS_size h.mi hb.mi0 hb.mi1;unfold verS;rw [app_size];have e : (⟨#[72,84,84,80,47,49,46]⟩ : ByteArray).size = 7 := rfl;omega
theorem firstS_size (h : Hi) (hb : Hb h) : (firstS h).size <= 2097220 := by
 have h1 := verS_size h hb;have h2 := itoaS_size h.st hb.st0 hb.st1;have h3 := hb.me;have h4 := hb.ta;have h5 := hb.re;have e : (⟨#[32]⟩ : ByteArray).size = 1 := rfl;unfold firstS;split <;> simp only [app_size] <;> omega
def fldL (f : ByteArray × ByteArray) : List UInt8 := f.1.data.toList ++ ([58,32] ++ (f.2.data.toList ++ [13,10]))
def txt (acc : List UInt8) : List (ByteArray × ByteArray) -> List UInt8
 | [] => acc
 | f :: r => if 65536 < acc.length then acc else txt (acc ++ fldL f) r
def textL (h : Hi) : List UInt8 := txt ((firstS h).data.toList ++ [13,10]) h.fs ++ [13,10]
def Hx.hi (x : Hx) : Hi := ⟨x.r,x.me,x.ta,x.mi,x.st,x.re,x.fs⟩
def printB (h : Hi) : Bool := decide ((pParse h.r (textL h)).2.2 = 0) && hiEq (pParse h.r (textL h)).1.hi h
def textS (h : Hi) : ByteArray := ⟨(textL h).toArray⟩
theorem textS_list (h : Hi) : (textS h).data.toList = textL h := by simp [textS]
theorem conv_bs (w : World) (s : ByteArray) : ∃ cap W,(convert 9 31 (.string s)).run Tryz.prog w = .ok (.slice (some ⟨w.heap.size,0,none⟩) s.size cap) W /\ Bs W W.heap.size (.slice (some ⟨w.heap.size,0,none⟩) s.size cap) s.data.toList /\ Below w.heap.size w W := by
 have hconv := run_bytes_of_string (P := Tryz.prog) w 9 31 5 s Tryz.underlying9 Tryz.underlying31 Tryz.underlying5;have hge := grownCap_ge w s.size 0 5;generalize grownCap w s.size 0 5 = cap at hconv hge;refine ⟨cap,_,hconv,⟨some ⟨w.heap.size,0,none⟩,cap,by rw [size_len],by rw [size_len];exact hge,fun j hj => ?_⟩,((Below.refl _ w).drew).alloc (Nat.le_refl _) _⟩;have hb := hp_new w.drew (.cells (bytesRow s cap) 5 ((bytesRow s cap).size,(bytesRow s cap).size + 1));refine ⟨w.heap.size,0,rfl,lt_heap hb,lt_heap hb,?_⟩;have hj2 : j < s.data.size := by simpa using hj
 have hc := cell_at (w := w.drew.alloc (.cells (bytesRow s cap) 5 ((bytesRow s cap).size,(bytesRow s cap).size + 1))) (b := w.heap.size) hb (0 + j);rw [hc,Nat.zero_add,bytesRow_at s cap j hj2];simp
theorem txt_len : ∀ (A : List (ByteArray × ByteArray)) (acc : List UInt8), acc.length <= 2200000 -> (∀ f ∈ A, f.1.size <= 1048576 /\ f.2.size <= 1048576) -> (txt acc A).length <= 2200000
 | [],acc,h,_ => h
 | f :: r,acc,h,hf => by
  rw [txt];split
  ·exact h
  ·rename_i hh
   refine txt_len r _ ?_ (fun g hg => hf g (List.mem_cons_of_mem _ hg));have := hf f (by simp);unfold fldL;simp only [List.length_append,size_len,List.length_cons,List.length_nil];omega
theorem textL_len (h : Hi) (hb : Hb h) : (textL h).length <= 2200002 := by
 have h1 := firstS_size h hb;have h2 := txt_len h.fs ((firstS h).data.toList ++ [13,10]) (by simp only [List.length_append,size_len,List.length_cons,List.length_nil];omega) hb.fs;unfold textL;simp only [List.length_append,List.length_cons,List.length_nil] at h2 |-
 omega
theorem bytes_more : ∀ (l m : List UInt8) (p : Pz), p.whole = false -> (pBytes p l).1 = 0 -> (pBytes p l).2.2.whole = true -> pBytes p (l.take (pBytes p l).2.1 ++ m) = pBytes p l
 | [],m,p,hp,_,h2 => by rw [pBytes] at h2;rw [hp] at h2;cases h2
 | c :: r,m,p,hp,h1,h2 => by
  rw [pBytes] at h1 h2 |-
  by_cases he : (pNext p c).1 ≠ 0
  ·rw [if_pos he] at h1
   exact absurd h1 he
  ·rw [if_neg he] at h1 h2 |-
   by_cases hw : (pNext p c).2.whole = true
   ·rw [if_pos hw]
    rw [List.take_succ_cons,List.take_zero,List.cons_append,pBytes,if_neg he,if_pos hw]
   ·rw [if_neg hw] at h1 h2 |-
    have := bytes_more r m _ (by simpa using hw) h1 h2;rw [List.take_succ_cons,List.cons_append,pBytes,if_neg he,if_neg hw,this]
theorem parse_eq (rq : Bool) (l : List UInt8) : pParse rq l = if (pBytes (pNew rq 65536) l).1 ≠ 0 then (hx0,0,(pBytes (pNew rq 65536) l).1) else if (pBytes (pNew rq 65536) l).2.2.whole = false then (hx0,0,6) else ((pBytes (pNew rq 65536) l).2.2.hx,(pBytes (pNew rq 65536) l).2.1,0) := by
 unfold pParse pFeed;rw [if_neg (show ¬ ((pNew rq 65536).whole = true ∨ (pNew rq 65536).wrong ≠ 0) by simp [pNew])];generalize pBytes (pNew rq 65536) l = R;obtain ⟨e,n,q⟩ := R;dsimp only;by_cases he : e = 0
 ·subst he
  simp only [if_true,ne_eq,not_true,if_false];cases hw : q.whole with
  | true => simp only [if_true,Bool.true_eq_false,if_false];rfl
  | false => simp only [if_true]
 ·simp only [ne_eq,he,not_false_eq_true,if_true,if_false]
theorem parse_ok {rq : Bool} {l : List UInt8} (h : (pParse rq l).2.2 = 0) : (pBytes (pNew rq 65536) l).1 = 0 /\ (pBytes (pNew rq 65536) l).2.2.whole = true /\ pParse rq l = ((pBytes (pNew rq 65536) l).2.2.hx,(pBytes (pNew rq 65536) l).2.1,0) := by
 have hp := parse_eq rq l;by_cases h1 : (pBytes (pNew rq 65536) l).1 ≠ 0
 ·rw [if_pos h1] at hp
  rw [hp] at h;exact absurd h h1
 ·rw [if_neg h1] at hp
  by_cases h2 : (pBytes (pNew rq 65536) l).2.2.whole = false
  ·rw [if_pos h2] at hp
   rw [hp] at h;cases h
  ·rw [if_neg h2] at hp
   exact ⟨by simpa using h1,by simpa using h2,hp⟩
theorem bytes_mid : ∀ (l : List UInt8) (p : Pz) (rest : List UInt8), (∀ c ∈ l, c ≠ 13 /\ c ≠ 10) -> p.ending = false -> p.whole = false -> p.line.length + l.length <= 8192 -> p.read + l.length <= p.most ->
  pBytes p (l ++ rest) = shh (pBytes { p with read := p.read + l.length,line := p.line ++ l } rest) l.length
 | [],p,rest,_,_,_,_,_ => by simp [shh]
 | c :: l,p,rest,hc,he,hw,hl,hm => by
  obtain ⟨h13,h10⟩ := hc c (by simp);simp only [List.length_cons] at hl hm
  have e : pNext p c = (0,{ p with read := p.read + 1,line := p.line ++ [c] }) := by
   unfold pNext;rw [if_neg (by rw [he];simp [h10]),if_neg (by omega),if_neg h13,if_neg h10,if_neg (by omega)]
  have ih := bytes_mid l { p with read := p.read + 1,line := p.line ++ [c] } rest (fun d hd => hc d (List.mem_cons_of_mem _ hd)) he hw (by simp only [List.length_append,List.length_cons,List.length_nil];omega) (by dsimp only;omega);rw [List.cons_append,pBytes,e];rw [if_neg (by simp),if_neg (by simp [hw]),ih];simp only [shh,List.length_cons]
  have e2 : ({ p with read := p.read + 1 + l.length,line := p.line ++ [c] ++ l } : Pz) = { p with read := p.read + (l.length + 1),line := p.line ++ c :: l } := by
   congr 1
   ·omega
   ·simp
  rw [e2];simp only [Prod.mk.injEq,true_and,and_true];omega
theorem bytes_ln (l : List UInt8) (p : Pz) (rest : List UInt8) (hc : ∀ c ∈ l, c ≠ 13 /\ c ≠ 10) (he : p.ending = false) (hw : p.whole = false) (h0 : p.line = []) (hl : l.length <= 8192) (hm : p.read + l.length + 2 <= p.most) :
  pBytes p (l ++ 13 :: 10 :: rest) =
   if (pLine { p with read := p.read + l.length + 2 } (sS l)).1 ≠ 0 then ((pLine { p with read := p.read + l.length + 2 } (sS l)).1,l.length + 2,(pLine { p with read := p.read + l.length + 2 } (sS l)).2)
   else if (pLine { p with read := p.read + l.length + 2 } (sS l)).2.whole then (0,l.length + 2,(pLine { p with read := p.read + l.length + 2 } (sS l)).2)
   else shh (pBytes (pLine { p with read := p.read + l.length + 2 } (sS l)).2 rest) (l.length + 2) := by
 rw [bytes_mid l p _ hc he hw (by rw [h0];simpa using hl) (by omega)];obtain ⟨most,read,line,ending,passed,fn,req,me,ta,minor,status,re,fs,whole,wrong⟩ := p;dsimp only at he hw h0 hm |-
 subst he hw h0;rw [pBytes]
 have e1 : pNext (Pz.mk most (read + l.length) ([] ++ l) false passed fn req me ta minor status re fs false wrong) 13 = (0,Pz.mk most (read + l.length + 1) l true passed fn req me ta minor status re fs false wrong) := by
  unfold pNext;rw [if_neg (by simp),if_neg (by dsimp only;omega),if_pos rfl];simp
 rw [e1];rw [if_neg (by simp),if_neg (by simp),pBytes]
 have e2 : pNext (Pz.mk most (read + l.length + 1) l true passed fn req me ta minor status re fs false wrong) 10 = pLine (Pz.mk most (read + l.length + 2) [] false passed fn req me ta minor status re fs false wrong) (sS l) := by
  unfold pNext;rw [if_neg (by simp),if_neg (by dsimp only;omega),if_neg (by decide),if_pos rfl]
 dsimp only;rw [e2];generalize pLine (Pz.mk most (read + l.length + 2) [] false passed fn req me ta minor status re fs false wrong) (sS l) = R;by_cases h1 : R.1 ≠ 0
 ·rw [if_pos h1,if_pos h1];simp [shh,Nat.add_comm]
 ·rw [if_neg h1, if_neg h1]
  by_cases h2 : R.2.whole = true
  ·rw [if_pos h2,if_pos h2];simp [shh];omega
  ·rw [if_neg h2,if_neg h2];simp [shh];omega
theorem bytes_over : ∀ (l : List UInt8) (p : Pz) (rest : List UInt8), (∀ c ∈ l, c ≠ 13 /\ c ≠ 10) -> p.ending = false -> p.whole = false -> p.line.length <= 8192 -> p.read <= p.most -> (8192 < p.line.length + l.length ∨ p.most < p.read + l.length) -> (pBytes p (l ++ rest)).1 ≠ 0
 | [],p,rest,_,_,_,h1,h2,h => by simp only [List.length_nil] at h;omega
 | c :: l,p,rest,hc,he,hw,h1,h2,h => by
  obtain ⟨h13,h10⟩ := hc c (by simp);simp only [List.length_cons] at h;rw [List.cons_append,pBytes];by_cases hr : p.read = p.most
  ·have e : pNext p c = (85,p) := by
    unfold pNext;rw [if_neg (by rw [he];simp [h10]),if_pos hr]
   rw [e,if_pos (by simp)];simp
  ·by_cases hL : p.line.length = 8192
   ·have e : pNext p c = (85,{ p with read := p.read + 1 }) := by
     unfold pNext;rw [if_neg (by rw [he];simp [h10]),if_neg hr,if_neg h13,if_neg h10,if_pos hL]
    rw [e,if_pos (by simp)];simp
   ·have e : pNext p c = (0,{ p with read := p.read + 1,line := p.line ++ [c] }) := by
     unfold pNext;rw [if_neg (by rw [he];simp [h10]),if_neg hr,if_neg h13,if_neg h10,if_neg hL]
    rw [e];rw [if_neg (by simp),if_neg (by simp [hw])];exact bytes_over l { p with read := p.read + 1,line := p.line ++ [c] } rest (fun d hd => hc d (List.mem_cons_of_mem _ hd)) he hw (by simp only [List.length_append,List.length_cons,List.length_nil];omega) (by dsimp only;omega) (by simp only [List.length_append,List.length_cons,List.length_nil];omega)
theorem bytes_over2 (l : List UInt8) (p : Pz) (rest : List UInt8) (hc : ∀ c ∈ l,c ≠ 13 /\ c ≠ 10) (he : p.ending = false) (hw : p.whole = false) (h0 : p.line = []) (hr : p.read <= p.most) (h : 8192 < l.length ∨ p.most < p.read + l.length + 2) : (pBytes p (l ++ 13 :: 10 :: rest)).1 ≠ 0 := by
 by_cases h1 : 8192 < l.length ∨ p.most < p.read + l.length
 ·exact bytes_over l p _ hc he hw (by rw [h0];simp) hr (by rw [h0];simpa using h1)
 ·rw [bytes_mid l p _ hc he hw (by rw [h0]; simp; omega) (by omega)]
  obtain ⟨most,read,line,ending,passed,fn,req,me,ta,minor,status,re,fs,whole,wrong⟩ := p;dsimp only at he hw h0 hr h h1 |-
  subst he hw h0;simp only [shh];rw [pBytes];by_cases h2 : read + l.length = most
  ·have e1 : pNext (Pz.mk most (read + l.length) ([] ++ l) false passed fn req me ta minor status re fs false wrong) 13 = (85,Pz.mk most (read + l.length) ([] ++ l) false passed fn req me ta minor status re fs false wrong) := by
    unfold pNext;rw [if_neg (by simp),if_pos (by dsimp only;omega)]
   rw [e1,if_pos (by simp)];simp
  ·have e1 : pNext (Pz.mk most (read + l.length) ([] ++ l) false passed fn req me ta minor status re fs false wrong) 13 = (0,Pz.mk most (read + l.length + 1) l true passed fn req me ta minor status re fs false wrong) := by
    unfold pNext;rw [if_neg (by simp),if_neg (by dsimp only;omega),if_pos rfl];simp
   rw [e1];rw [if_neg (by simp),if_neg (by simp),pBytes]
   have e2 : pNext (Pz.mk most (read + l.length + 1) l true passed fn req me ta minor status re fs false wrong) 10 = (85,Pz.mk most (read + l.length + 1) l true passed fn req me ta minor status re fs false wrong) := by
    unfold pNext;rw [if_neg (by simp),if_pos (by dsimp only;omega)]
   dsimp only;rw [e2,if_pos (by simp)];simp
theorem itoa1 : itoaS 1 = ⟨#[49]⟩ := by
 unfold itoaS;rw [show (1 : Int) = ((1 : Nat) : Int) from rfl,Lib.itoa_nonneg,Lib.decDigits];rfl
theorem tokc_is {c : UInt8} (h : tokc c = true) : 32 < c.toNat /\ c.toNat < 127 /\ c ≠ 58 := by
 have hb := byte_lt c;unfold tokc at h;rw [Bool.or_eq_true] at h;rcases h with h | h
 ·unfold alnum at h
  simp only [Bool.or_eq_true,Bool.and_eq_true,decide_eq_true_eq] at h;refine ⟨by omega,by omega,?_⟩;rintro rfl;have : (58 : UInt8).toNat = 58 := rfl;omega
 ·rw [List.contains_eq_mem] at h
  have h := of_decide_eq_true h;unfold tokMarks at h;simp only [List.mem_cons,List.not_mem_nil,or_false] at h;rcases h with rfl | rfl | rfl | rfl | rfl | rfl | rfl | rfl | rfl | rfl | rfl | rfl | rfl | rfl | rfl <;> decide
theorem tokc_ne {c d : UInt8} (h : tokc c = true) (hd : d.toNat <= 32 ∨ d = 58) : c ≠ d := by
 obtain ⟨h1,h2,h3⟩ := tokc_is h;rintro rfl;rcases hd with hd | hd
 ·omega
 ·exact h3 hd
theorem tgc_ne {c d : UInt8} (h : tgc c = true) (hd : d.toNat <= 32) : c ≠ d := by
 unfold tgc at h;simp only [Bool.and_eq_true,decide_eq_true_eq] at h;rintro rfl;omega
theorem valc_ne {c d : UInt8} (h : valc c = true) (hd : d.toNat < 32 /\ d.toNat ≠ 9) : c ≠ d := by
 unfold valc at h;simp only [Bool.and_eq_true,Bool.or_eq_true,decide_eq_true_eq] at h;rintro rfl;omega
theorem tok_all {l : List UInt8} (h : tokenB l = true) : ∀ c ∈ l,tokc c = true := by
 unfold tokenB at h;rw [Bool.and_eq_true] at h;exact List.all_eq_true.1 h.1
theorem tgt_all {l : List UInt8} (h : tgtB l = true) : ∀ c ∈ l,tgc c = true := by
 unfold tgtB at h;rw [Bool.and_eq_true] at h;exact List.all_eq_true.1 h.1
theorem chk_is {f : ByteArray × ByteArray} (h : chkF f = 0) : tokenB f.1.data.toList = true /\ valueB f.2.data.toList = true := by
 unfold chkF at h;split at h
 ·rename_i h1
  split at h
  ·rename_i h2;exact ⟨h1,h2⟩
  ·cases h
 ·cases h
theorem val_all {l : List UInt8} (h : valueB l = true) : ∀ c ∈ l,valc c = true := by
 unfold valueB at h;rw [Bool.and_eq_true] at h;exact List.all_eq_true.1 h.1
theorem val_trim {l : List UInt8} (h : valueB l = true) : trimB l = l := by
 unfold valueB at h;rw [Bool.and_eq_true] at h;exact (of_decide_eq_true h.2).symm
theorem itoaS0 : itoaS 0 = ⟨#[48]⟩ := by
 unfold itoaS;rw [show (0 : Int) = ((0 : Nat) : Int) from rfl,Lib.itoa_nonneg,Lib.decDigits];rfl
theorem dec3 {n : Nat} (h0 : 100 <= n) (h1 : n <= 599) : Lib.decDigits n = [UInt8.ofNat (48 + n / 10 / 10),UInt8.ofNat (48 + n / 10 % 10),UInt8.ofNat (48 + n % 10)] := by
 rw [Lib.decDigits,dif_neg (by omega),Lib.decDigits,dif_neg (by omega),Lib.decDigits,dif_pos (by omega)];rfl
theorem itoaS3 {n : Nat} (h0 : 100 <= n) (h1 : n <= 599) : (itoaS (n : Int)).data.toList = [UInt8.ofNat (48 + n / 10 / 10),UInt8.ofNat (48 + n / 10 % 10),UInt8.ofNat (48 + n % 10)] := by
 unfold itoaS;rw [Lib.itoa_nonneg,dec3 h0 h1]
theorem digv_of {d : Nat} (h : d < 10) : digv (UInt8.ofNat (48 + d)) = d := by
 have : ∀ d : Fin 10,digv (UInt8.ofNat (48 + d.val)) = d.val := by decide
 exact this ⟨d,h⟩
theorem digc_of {d : Nat} (h : d < 10) : (UInt8.ofNat (48 + d)).toNat = 48 + d := by
 have : ∀ d : Fin 10,(UInt8.ofNat (48 + d.val)).toNat = 48 + d.val := by decide
 exact this ⟨d,h⟩
theorem stat3 {n : Nat} (h0 : 100 <= n) (h1 : n <= 599) : statB (itoaS (n : Int)).data.toList = true /\ numV 10 (itoaS (n : Int)).data.toList = n := by
 rw [itoaS3 h0 h1];have a1 : n / 10 / 10 < 10 := by omega
 have a2 : n / 10 % 10 < 10 := by omega
 have a3 : n % 10 < 10 := by omega
 have hacc : accu 10 [UInt8.ofNat (48 + n / 10 / 10),UInt8.ofNat (48 + n / 10 % 10),UInt8.ofNat (48 + n % 10)] = n := by
  unfold accu;simp only [List.foldl_cons,List.foldl_nil,stp,top,digv_of a1,digv_of a2,digv_of a3];rw [if_pos (by omega : (0 : Nat) <= 9007199254740992),if_pos (by omega : 0 * 10 + n / 10 / 10 <= 9007199254740992),if_pos (by omega : (0 * 10 + n / 10 / 10) * 10 + n / 10 % 10 <= 9007199254740992)];omega
 have hall : ([UInt8.ofNat (48 + n / 10 / 10),UInt8.ofNat (48 + n / 10 % 10),UInt8.ofNat (48 + n % 10)] : List UInt8).all (fun c => decide (digv c < 10)) = true := by
  simp only [List.all_cons,List.all_nil,digv_of a1,digv_of a2,digv_of a3,decide_eq_true a1,decide_eq_true a2,decide_eq_true a3,Bool.and_self]
 have hv : numV 10 [UInt8.ofNat (48 + n / 10 / 10),UInt8.ofNat (48 + n / 10 % 10),UInt8.ofNat (48 + n % 10)] = n := by
  unfold numV;rw [hacc,if_neg];rintro (h | h | h)
  ·cases h
  ·exact h hall
  ·unfold top at h;omega
 have he : numE 10 [UInt8.ofNat (48 + n / 10 / 10),UInt8.ofNat (48 + n / 10 % 10),UInt8.ofNat (48 + n % 10)] = 0 := by
  unfold numE;rw [hacc,if_neg,if_neg]
  ·unfold top;omega
  ·rintro (h | h)
   ·cases h
   ·exact h hall
 refine ⟨?_,hv⟩;unfold statB;rw [hv,he];simp only [decide_true,Bool.true_and,List.length_cons,List.length_nil,Bool.and_eq_true,decide_eq_true_eq];exact ⟨h0,h1⟩
structure Rh (h : Hx) : Prop where
 mi : h.mi <= 1
 rq : h.r = true -> tokenB h.me.data.toList = true /\ tgtB h.ta.data.toList = true /\ h.st = 0 /\ h.re = ⟨#[]⟩
 rs : h.r = false -> h.me = ⟨#[]⟩ /\ h.ta = ⟨#[]⟩ /\ 100 <= h.st /\ h.st <= 599 /\ h.re.data.toList.all valc = true
 fs : ∀ f ∈ h.fs,chkF f = 0
 fl : h.fs.length <= 100
theorem verM_le (l : List UInt8) : verM l <= 1 := by unfold verM;split <;> omega
theorem rh_first {rq : Bool} {s : ByteArray} (h : frE rq s = 0) : Rh (frH rq s) := by
 unfold frE at h;split at h
 ·cases h
 ·cases rq with
  | true =>
   simp only [if_true] at h;split at h
   ·cases h
   ·split at h
    ·cases h
    ·rename_i h1 h2 h3
     rw [Bool.not_eq_false] at h2;rw [Bool.not_eq_false,Bool.and_eq_true] at h3;refine ⟨verM_le _,fun _ => ⟨h3.1,?_,rfl,rfl⟩,fun e => (by cases e),fun f hf => (by cases hf),Nat.zero_le _⟩;show tgtB (k1 32 (k2 32 s)).data.toList = true
     unfold tgtB;rw [isEmpty_size,h2,h3.2];rfl
  | false =>
   simp only [Bool.false_eq_true,if_false] at h;split at h
   ·cases h
   ·split at h
    ·cases h
    ·rename_i h1 h2 h3
     rw [Bool.not_eq_false,Bool.and_eq_true] at h2;rw [Bool.not_eq_false] at h3;have h4 := h2.1;unfold statB at h4;simp only [Bool.and_eq_true,decide_eq_true_eq] at h4;exact ⟨verM_le _,fun e => (by cases e),fun _ => ⟨rfl,rfl,h4.2.2.1,h4.2.2.2,h3⟩,fun f hf => (by cases hf),Nat.zero_le _⟩
theorem k_split {c : UInt8} {s : ByteArray} (h : k3 c s = true) : s.data.toList = (k1 c s).data.toList ++ c :: (k2 c s).data.toList := by
 unfold k3 at h;unfold k1 k2;rcases cu_form c s.data.toList with h1 | ⟨a,b,h1,h2⟩
 ·rw [(cu_no h1).2.2] at h;cases h
 ·rw [sS_list,sS_list,h1,(cu_yes h2).1,(cu_yes h2).2.1]
theorem verE_zero {l : List UInt8} (h : verE l = 0) : l = ver10 ∨ l = ver11 := by
 unfold verE at h;split at h
 ·assumption
 ·split at h <;> cases h
theorem verS_of {l : List UInt8} (h : verE l = 0) : (verS ((verM l : Nat) : Int)).data.toList = l := by
 unfold verS;rcases verE_zero h with rfl | rfl
 ·rw [show verM ver10 = 0 from by decide,app_list,show ((0 : Nat) : Int) = 0 from rfl,itoaS0];rfl
 ·rw [show verM ver11 = 1 from by decide,app_list,show ((1 : Nat) : Int) = 1 from rfl,itoa1];rfl
theorem first_size {rq : Bool} {s : ByteArray} (h : frE rq s = 0) : (firstS (frH rq s).hi).size = s.size := by
 have hR := rh_first h;unfold frE at h;split at h
 ·cases h
 ·rename_i hk
  rw [Bool.not_eq_false,Bool.and_eq_true] at hk;have e1 := congrArg List.length (k_split hk.1);have e2 := congrArg List.length (k_split hk.2);simp only [List.length_append,List.length_cons,size_len] at e1 e2;cases rq with
  | true =>
   simp only [if_true] at h;split at h
   ·cases h
   ·split at h
    ·cases h
    ·have e3 := congrArg List.length (verS_of h)
     rw [size_len,size_len] at e3;show (firstS ⟨true,k1 32 s,k1 32 (k2 32 s),((verM (k2 32 (k2 32 s)).data.toList : Nat) : Int),0,⟨#[]⟩,[]⟩).size = s.size
     unfold firstS;rw [if_pos rfl];simp only [app_size];rw [e3];have : (⟨#[32]⟩ : ByteArray).size = 1 := rfl;omega
  | false =>
   simp only [Bool.false_eq_true,if_false] at h;split at h
   ·cases h
   ·split at h
    ·cases h
    ·rename_i h2 h3
     rw [Bool.not_eq_false,Bool.and_eq_true] at h2;have h4 := h2.1;unfold statB at h4;simp only [Bool.and_eq_true,decide_eq_true_eq] at h4;have h5 := h4.2.1;rw [size_len] at h5;have e3 := congrArg List.length (verS_of h);rw [size_len,size_len] at e3;have e4 := congrArg List.length (itoaS3 h4.2.2.1 h4.2.2.2);rw [size_len] at e4;show (firstS ⟨false,⟨#[]⟩,⟨#[]⟩,((verM (k1 32 s).data.toList : Nat) : Int),((numV 10 (k1 32 (k2 32 s)).data.toList : Nat) : Int),k2 32 (k2 32 s),[]⟩).size = s.size
     unfold firstS;rw [if_neg (by simp)];simp only [app_size];rw [e3,e4];have : (⟨#[32]⟩ : ByteArray).size = 1 := rfl;simp only [List.length_cons,List.length_nil];omega
def fsum : List (ByteArray × ByteArray) -> Nat
 | [] => 0
 | f :: r => f.1.size + f.2.size + 3 + fsum r
theorem fsum_app : ∀ a b : List (ByteArray × ByteArray), fsum (a ++ b) = fsum a + fsum b
 | [],b => by simp [fsum]
 | f :: r,b => by rw [List.cons_append,fsum,fsum,fsum_app r b];omega
def fsz (h : Hx) : Nat := (firstS h.hi).size + 2 + fsum h.fs
structure Jv (rq : Bool) (p : Pz) : Prop where
 ln : ∃ lines,Ln p lines
 rq : p.req = rq
 rh : p.fn = fnFld -> Rh p.hx /\ (firstS p.hx.hi).size <= 8192
 wh : p.whole = true -> p.fn = fnFld
 sz : (if p.fn = fnFld then fsz p.hx else 0) + p.line.length + (if p.ending = true then 1 else 0) + (if p.whole = true then 2 else 0) <= p.read
theorem jv_new (rq : Bool) (most : Nat) : Jv rq (pNew rq most) := by
 have hn : (pNew rq most).fn ≠ fnFld := by
  cases rq with
  | true => exact fn_ner.1
  | false => exact fn_ner.2.1
 refine ⟨⟨0,fun _ => ⟨rfl,rfl,rfl,rfl,rfl,rfl,rfl,rfl⟩,fun h => absurd h hn⟩,rfl,fun h => absurd h hn,fun h => (by cases h),?_⟩;rw [if_neg hn];exact Nat.le_refl _
theorem first_req (rq : Bool) (s : ByteArray) : (frH rq s).r = rq := by cases rq <;> rfl
theorem jv_line {rq : Bool} {p : Pz} (hf : Fit p) (hw : p.whole = false) (h : Jv rq p) (s : ByteArray) (hs : s.size <= 8192) (hl : p.line = []) (he : p.ending = false) (hz : (if p.fn = fnFld then fsz p.hx else 0) + s.size + 2 <= p.read) (h0 : (pLine p s).1 = 0) : Jv rq (pLine p s).2 := by
 obtain ⟨lines,hln⟩ := h.ln;have hO := ok_line p s hf.fs;have hE := line_end hf s;by_cases hn : p.fn = fnFld
 ·rw [if_pos hn] at hz
  obtain ⟨hR,hF⟩ := h.rh hn;rw [line_fld hn] at h0 hO hE |-
  by_cases h1 : s.size = 0
  ·have e : pFld p s = (0, { p with whole := true }) := by unfold pFld; rw [if_pos h1]
   rw [e];refine ⟨⟨lines,hln.nb,hln.bg⟩,h.rq,fun _ => ⟨hR,hF⟩,fun _ => hn,?_⟩;show (if p.fn = fnFld then fsz p.hx else 0) + p.line.length + (if p.ending = true then 1 else 0) + 2 <= p.read
   rw [if_pos hn,hl,he];simp only [List.length_nil,Bool.false_eq_true,if_false];omega
  ·obtain ⟨h2, h3⟩ := fld_eq p s (by omega)
   have h4 := h3 h0;rw [h2] at h0
   have h5 : fldE s = 0 /\ p.fs.length ≠ 100 := by
    split at h0
    ·cases h0
    ·rename_i h6
     exact ⟨h0,fun h7 => h6 ⟨h0,h7⟩⟩
   rw [h4];have h6 : fldR s = fldFh s := by unfold fldR;rw [if_pos h5.1]
   have h7 : k3 58 s = true /\ chkF (fldFh s) = 0 := by
    have h8 := h5.1;unfold fldE at h8;split at h8
    ·cases h8
    ·split at h8
     ·cases h8
     ·split at h8
      ·cases h8
      ·rename_i h9 _
       exact ⟨by simpa using h9,h8⟩
   have e1 := congrArg List.length (k_split h7.1);simp only [List.length_append,List.length_cons,size_len] at e1
   have e2 : (fldFh s).1.size + (fldFh s).2.size + 1 <= s.size := by
    have := trimS_size (k2 58 s);show (k1 58 s).size + (trimS (k2 58 s)).size + 1 <= s.size
    omega
   rw [h6];refine ⟨⟨lines,fun hx => absurd hn hx,hln.bg⟩,h.rq,fun _ => ⟨⟨hR.mi,hR.rq,hR.rs,?_,?_⟩,hF⟩,fun _ => hn,?_⟩
   ·intro f hf
    rcases List.mem_append.1 hf with hf | hf
    ·exact hR.fs f hf
    ·rw [List.mem_singleton.1 hf];exact h7.2
   ·show (p.fs ++ [fldFh s]).length <= 100
    have := hf.fs;rw [List.length_append,List.length_singleton];omega
   ·show (if p.fn = fnFld then fsz { p.hx with fs := p.fs ++ [fldFh s] } else 0) + p.line.length + (if p.ending = true then 1 else 0) + (if p.whole = true then 2 else 0) <= p.read
    have e3 : fsz { p.hx with fs := p.fs ++ [fldFh s] } = fsz p.hx + ((fldFh s).1.size + (fldFh s).2.size + 3) := by
     unfold fsz;show _ + 2 + fsum (p.fs ++ [fldFh s]) = (firstS p.hx.hi).size + 2 + fsum p.fs + _
     rw [fsum_app];show (firstS p.hx.hi).size + 2 + (fsum p.fs + ((fldFh s).1.size + (fldFh s).2.size + 3 + 0)) = _
     omega
    rw [if_pos hn,hl,he,hw,e3];simp only [List.length_nil,Bool.false_eq_true,if_false];omega
 ·rw [if_neg hn] at hz
  obtain ⟨a1,a2,a3,a4,a5,a6,a7,a8⟩ := hln.nb hn;by_cases h1 : p.req = true /\ s.size = 0 /\ lines < 4
  ·rw [h1.1] at a1
   have e : pLine p s = (0,{ p with passed := p.passed + 1 }) := by
    rw [line_req a1];unfold pReq;rw [if_pos ⟨h1.2.1,by omega⟩]
   rw [e];refine ⟨⟨lines + 1,fun _ => ⟨?_,?_,a3,a4,a5,a6,a7,a8⟩,fun hx => absurd hx hn⟩,h.rq,fun hx => absurd hx hn,fun hx => (by rw [show ({ p with passed := p.passed + 1 } : Pz).whole = p.whole from rfl,hw] at hx;cases hx),?_⟩
   ·show p.fn = if p.req then fnReq else fnRes
    rw [h1.1];exact a1
   ·show p.passed + 1 = lines + 1
    omega
   ·show (if p.fn = fnFld then fsz p.hx else 0) + p.line.length + (if p.ending = true then 1 else 0) + (if p.whole = true then 2 else 0) <= p.read
    rw [if_neg hn,hl,he,hw];simp
  ·obtain ⟨e1, e2⟩ := first_hx hln hn s h1
   have he0 : frE p.req s = 0 := e1.symm.trans h0;obtain ⟨e3,e4⟩ := e2 he0;have hwh : (pLine p s).2.whole = false := by rw [hE.2 (fun hx => hn hx.1),hw]
   refine ⟨⟨lines + 1,ln_line hln s h0 hwh⟩,?_,fun _ => ?_,fun hx => (by rw [hwh] at hx;cases hx),?_⟩
   ·have : (pLine p s).2.hx.r = (frH p.req s).r := by rw [e3]
    rw [first_req,h.rq] at this;exact this
   ·rw [e3, first_size he0]
    exact ⟨rh_first he0,hs⟩
   ·rw [if_pos e4, e3, hwh, hE.1, he, show (pLine p s).2.line = [] from hO.line.trans hl, hO.read]
    have e5 : (frH p.req s).fs = [] := by unfold frH;split <;> rfl
    unfold fsz;rw [first_size he0,e5];simp only [fsum,List.length_nil,Bool.false_eq_true,if_false];omega
theorem jv_next {rq : Bool} {p : Pz} (hf : Fit p) (hw : p.whole = false) (h : Jv rq p) (c : UInt8) (h0 : (pNext p c).1 = 0) : Jv rq (pNext p c).2 /\ (pNext p c).2.read = p.read + 1 := by
 have hz := h.sz;rw [hw] at hz;simp only [Bool.false_eq_true,if_false] at hz;unfold pNext at h0 |-
 by_cases h1 : p.ending ≠ decide (c = 10)
 ·rw [if_pos h1] at h0;cases h0
 ·rw [if_neg h1] at h0 |-
  simp only [ne_eq,Decidable.not_not] at h1;by_cases h2 : p.read = p.most
  ·rw [if_pos h2] at h0;cases h0
  ·rw [if_neg h2] at h0 |-
   by_cases h3 : c = 13
   ·rw [if_pos h3] at h0 |-
    subst h3;have he : p.ending = false := h1;rw [he] at hz;refine ⟨⟨h.ln.imp fun _ h => ⟨h.nb,h.bg⟩,h.rq,h.rh,h.wh,?_⟩,rfl⟩;show (if p.fn = fnFld then fsz p.hx else 0) + p.line.length + (if true = true then 1 else 0) + (if p.whole = true then 2 else 0) <= p.read + 1
    rw [hw];simp only [Bool.false_eq_true,if_false,if_true] at hz |-
    omega
   ·rw [if_neg h3] at h0 |-
    by_cases h4 : c = 10
    ·rw [if_pos h4] at h0 |-
     subst h4;have he : p.ending = true := h1;rw [he] at hz;simp only [if_true] at hz;have hq : Fit { p with read := p.read + 1,ending := false,line := [] } := ⟨hf.fn,hf.most,by have := hf.read;show p.read + 1 <= p.most;omega,Nat.zero_le _,hf.passed,hf.fs⟩
     have hj : Jv rq { p with read := p.read + 1,ending := false,line := [] } := by
      refine ⟨h.ln.imp fun _ h => ⟨h.nb,h.bg⟩,h.rq,h.rh,h.wh,?_⟩;show (if p.fn = fnFld then fsz p.hx else 0) + 0 + (if false = true then 1 else 0) + (if p.whole = true then 2 else 0) <= p.read + 1
      rw [hw];simp only [Bool.false_eq_true,if_false];omega
     refine ⟨jv_line hq hw hj (sS p.line) (by rw [sS_size];exact hf.line) rfl rfl ?_ h0,(ok_line ({ p with read := p.read + 1,ending := false,line := [] } : Pz) (sS p.line) hf.fs).read⟩;show (if p.fn = fnFld then fsz p.hx else 0) + (sS p.line).size + 2 <= p.read + 1
     rw [sS_size];omega
    ·rw [if_neg h4] at h0 |-
     by_cases h5 : p.line.length = 8192
     ·rw [if_pos h5] at h0;cases h0
     ·rw [if_neg h5]
      refine ⟨⟨h.ln.imp fun _ h => ⟨h.nb,h.bg⟩,h.rq,h.rh,h.wh,?_⟩,rfl⟩;show (if p.fn = fnFld then fsz p.hx else 0) + (p.line ++ [c]).length + (if p.ending = true then 1 else 0) + (if p.whole = true then 2 else 0) <= p.read + 1
      rw [hw,List.length_append,List.length_singleton];simp only [Bool.false_eq_true,if_false] at hz |-
      omega
theorem jv_bytes {rq : Bool} : ∀ (l : List UInt8) (p : Pz), Fit p -> p.whole = false -> Jv rq p -> (pBytes p l).1 = 0 -> Jv rq (pBytes p l).2.2 /\ (pBytes p l).2.2.read = p.read + (pBytes p l).2.1
 | [],p,_,_,h,_ => ⟨h,rfl⟩
 | c :: r,p,hf,hw,h,h0 => by
  rw [pBytes] at h0 |-
  by_cases h1 : (pNext p c).1 ≠ 0
  ·rw [if_pos h1] at h0
   exact absurd h0 h1
  ·rw [if_neg h1] at h0 |-
   have h1 : (pNext p c).1 = 0 := by simpa using h1
   obtain ⟨h2,h3⟩ := jv_next hf hw h c h1;by_cases h4 : (pNext p c).2.whole = true
   ·rw [if_pos h4]
    exact ⟨h2,h3⟩
   ·rw [if_neg h4] at h0 |-
    obtain ⟨h5,h6⟩ := jv_bytes r (pNext p c).2 (hf.next c) (by simpa using h4) h2 h0;exact ⟨h5,by dsimp only;rw [h6,h3];omega⟩
theorem parse_good {rq : Bool} {l : List UInt8} (h : (pParse rq l).2.2 = 0) : Rh (pParse rq l).1 /\ (pParse rq l).1.r = rq /\ (firstS (pParse rq l).1.hi).size <= 8192 /\ fsz (pParse rq l).1 + 2 <= (pParse rq l).2.1 := by
 obtain ⟨h1,h2,h3⟩ := parse_ok h;obtain ⟨h4,h5⟩ := jv_bytes l _ (fit_new rq 65536 (Nat.le_refl _)) rfl (jv_new rq 65536) h1;rw [h3];dsimp only;have h6 := h4.wh h2;obtain ⟨h7,h8⟩ := h4.rh h6;refine ⟨h7,h4.rq,h8,?_⟩;have h9 := h4.sz;rw [if_pos h6,if_pos h2,h5] at h9;have h10 : (pNew rq 65536).read = 0 := rfl;omega
theorem trim_blank (l : List UInt8) (h : trimB l = l) : trimB (32 :: l) = l := by
 rw [trimB_eq] at h |-
 rcases List.eq_nil_or_concat l with rfl | ⟨a,c,rfl⟩
 ·decide
 ·rw [List.concat_eq_append] at h |-
  have hb : blankc c = false := by
   cases hc : blankc c with
   | false => rfl
   | true =>
    rw [rtrim_snoc,if_pos hc] at h;have := congrArg List.length h;have h1 := ltrim_le (rtrim a);have h2 := rtrim_le a;simp only [List.length_append,List.length_singleton] at this;omega
  have e1 : rtrim (a ++ [c]) = a ++ [c] := by rw [rtrim_snoc,if_neg (by simp [hb])]
  have e2 : rtrim (32 :: (a ++ [c])) = 32 :: (a ++ [c]) := by
   rw [<- List.cons_append,rtrim_snoc,if_neg (by simp [hb])]
  rw [e1] at h;rw [e2,ltrim_cons,if_pos (by decide),h]
def fldl (f : ByteArray × ByteArray) : List UInt8 := f.1.data.toList ++ 58 :: 32 :: f.2.data.toList
theorem fldL_eq (f : ByteArray × ByteArray) (rest : List UInt8) : fldL f ++ rest = fldl f ++ 13 :: 10 :: rest := by simp [fldL,fldl]
theorem fldl_len (f : ByteArray × ByteArray) : (fldl f).length = f.1.size + f.2.size + 2 := by
 unfold fldl;simp only [List.length_append,List.length_cons,size_len];omega
theorem fldL_len (f : ByteArray × ByteArray) : (fldL f).length = f.1.size + f.2.size + 4 := by
 unfold fldL;simp only [List.length_append,List.length_cons,List.length_nil,size_len];omega
theorem fldl_no {f : ByteArray × ByteArray} (h : chkF f = 0) : ∀ c ∈ fldl f,c ≠ 13 /\ c ≠ 10 := by
 obtain ⟨h1,h2⟩ := chk_is h;intro c hc;unfold fldl at hc;rcases List.mem_append.1 hc with hc | hc
 ·have := tok_all h1 c hc
  exact ⟨tokc_ne this (.inl (by decide)),tokc_ne this (.inl (by decide))⟩
 ·rcases List.mem_cons.1 hc with rfl | hc
  ·decide
  ·rcases List.mem_cons.1 hc with rfl | hc
   ·decide
   ·have := val_all h2 c hc
    exact ⟨valc_ne this (by decide),valc_ne this (by decide)⟩
theorem fld_line {p : Pz} {f : ByteArray × ByteArray} (h : chkF f = 0) (hl : p.fs.length < 100) : pFld p (sS (fldl f)) = (0,{ p with fs := p.fs ++ [f] }) := by
 obtain ⟨h1,h2⟩ := chk_is h;have hne : ∀ x ∈ f.1.data.toList,x ≠ 58 := fun x hx => tokc_ne (tok_all h1 x hx) (.inr rfl)
 obtain ⟨c1,c2,c3⟩ := cu_yes (b := 32 :: f.2.data.toList) hne;have e1 : k1 58 (sS (fldl f)) = f.1 := by unfold k1;rw [sS_list];unfold fldl;rw [c1,sS_of]
 have e2 : k2 58 (sS (fldl f)) = sS (32 :: f.2.data.toList) := by unfold k2;rw [sS_list];unfold fldl;rw [c2]
 have e3 : k3 58 (sS (fldl f)) = true := by unfold k3;rw [sS_list];unfold fldl;rw [c3]
 have e4 : fldFh (sS (fldl f)) = f := by
  unfold fldFh;rw [e1,e2];unfold trimS;rw [sS_list,trim_blank _ (val_trim h2)]
 have hp := tok_pos h1
 have hd : blankc ((sS (fldl f)).data.toList.headD 0) = false := by
  rw [sS_list];unfold fldl;rw [head_list f.1 (by omega)];show blankc f.1[0] = false
  have ht := tokc_is (tok_all h1 f.1[0] (by rw [head_list f.1 (by omega)];simp));unfold blankc;simp
  omega
 have hr : rtrimS f.1 = f.1 := by
  refine data_inj ?_;show (⟨(rtrim f.1.data.toList).toArray⟩ : ByteArray).data.toList = _
  refine (rtrim_id_iff _).2 fun c hc => ?_
  have ht := tokc_is (tok_all h1 c (List.mem_of_getLast? hc));unfold blankc;simp
  omega
 unfold pFld;rw [if_neg (by rw [sS_size,fldl_len];omega),if_neg (by rw [hd];exact Bool.false_ne_true),if_neg (by rw [e3];exact fun h => by cases h),e1,if_neg (by simp [hr]),e4,if_neg (by simp [h]),if_neg (by omega)]
theorem bytes_flds : ∀ (A : List (ByteArray × ByteArray)) (p : Pz) (rest : List UInt8), p.ending = false -> p.whole = false -> p.line = [] -> p.fn = fnFld -> (∀ f ∈ A, chkF f = 0 /\ f.1.size + f.2.size + 2 <= 8192) -> p.fs.length + A.length <= 100 -> p.read + (A.flatMap fldL).length <= p.most ->
  pBytes p (A.flatMap fldL ++ rest) = shh (pBytes { p with read := p.read + (A.flatMap fldL).length,fs := p.fs ++ A } rest) (A.flatMap fldL).length
 | [],p,rest,_,_,_,_,_,_,_ => by simp [shh]
 | f :: A,p,rest,he,hw,h0,hn,hc,hl,hm => by
  obtain ⟨c1,c2⟩ := hc f (by simp);simp only [List.length_cons] at hl;rw [List.flatMap_cons,List.length_append] at hm;have hfl := fldL_len f;have hfl2 := fldl_len f;rw [List.flatMap_cons,List.append_assoc,fldL_eq,bytes_ln (fldl f) p _ (fldl_no c1) he hw h0 (by omega) (by omega)];have e := fld_line (p := { p with read := p.read + (fldl f).length + 2 }) c1 (by dsimp only;omega);have e2 : pLine { p with read := p.read + (fldl f).length + 2 } (sS (fldl f)) = (0,{ p with read := p.read + (fldl f).length + 2,fs := p.fs ++ [f] }) := by rw [line_fld (p := { p with read := p.read + (fldl f).length + 2 }) hn,e]
  rw [e2];dsimp only;rw [if_neg (by simp),if_neg (by simp [hw])];rw [bytes_flds A { p with read := p.read + (fldl f).length + 2,fs := p.fs ++ [f] } rest he hw h0 hn (fun g hg => hc g (List.mem_cons_of_mem _ hg)) (by simp only [List.length_append,List.length_cons,List.length_nil];omega) (by dsimp only;omega)]
  have e3 : ({ p with read := p.read + (fldl f).length + 2 + (A.flatMap fldL).length,fs := p.fs ++ [f] ++ A } : Pz) = { p with read := p.read + (fldL f ++ A.flatMap fldL).length,fs := p.fs ++ f :: A } := by
   congr 1
   ·rw [List.length_append];omega
   ·simp
  dsimp only at e3 |-
  rw [e3];simp only [shh,Prod.mk.injEq,true_and,and_true,List.length_append];omega
theorem bytes_flds_no : ∀ (A : List (ByteArray × ByteArray)) (p : Pz) (rest : List UInt8), p.ending = false -> p.whole = false -> p.line = [] -> p.fn = fnFld -> (∀ f ∈ A, chkF f = 0) -> p.fs.length + A.length <= 100 -> p.read <= p.most -> ((∃ f ∈ A, 8192 < f.1.size + f.2.size + 2) ∨ p.most < p.read + (A.flatMap fldL).length) -> (pBytes p (A.flatMap fldL ++ rest)).1 ≠ 0
 | [],p,rest,_,_,_,_,_,_,hr,h => by
  rcases h with ⟨f,hf,_⟩ | h
  ·cases hf
  ·simp only [List.flatMap_nil,List.length_nil] at h;omega
 | f :: A,p,rest,he,hw,h0,hn,hc,hl,hr,h => by
  have c1 := hc f (by simp);simp only [List.length_cons] at hl;have hfl := fldL_len f;have hfl2 := fldl_len f;rw [List.flatMap_cons,List.append_assoc,fldL_eq];by_cases ho : 8192 < (fldl f).length ∨ p.most < p.read + (fldl f).length + 2
  ·exact bytes_over2 (fldl f) p _ (fldl_no c1) he hw h0 hr ho
  ·rw [bytes_ln (fldl f) p _ (fldl_no c1) he hw h0 (by omega) (by omega)]
   have e := fld_line (p := { p with read := p.read + (fldl f).length + 2 }) c1 (by dsimp only;omega);have e2 : pLine { p with read := p.read + (fldl f).length + 2 } (sS (fldl f)) = (0,{ p with read := p.read + (fldl f).length + 2,fs := p.fs ++ [f] }) := by rw [line_fld (p := { p with read := p.read + (fldl f).length + 2 }) hn,e]
   rw [e2];dsimp only;rw [if_neg (by simp),if_neg (by simp [hw])];refine bytes_flds_no A { p with read := p.read + (fldl f).length + 2,fs := p.fs ++ [f] } rest he hw h0 hn (fun g hg => hc g (List.mem_cons_of_mem _ hg)) (by simp only [List.length_append,List.length_cons,List.length_nil];omega) (by dsimp only;omega) ?_;rcases h with ⟨g,hg,h⟩ | h
   ·rcases List.mem_cons.1 hg with rfl | hg
    ·omega
    ·exact .inl ⟨g,hg,h⟩
   ·refine .inr ?_
    rw [List.flatMap_cons,List.length_append] at h;dsimp only;omega
theorem ver_of {n : Nat} (h : n <= 1) : verE (verS (n : Int)).data.toList = 0 /\ verM (verS (n : Int)).data.toList = n /\ (∀ c ∈ (verS (n : Int)).data.toList,32 < c.toNat) := by
 unfold verS;rw [app_list];rcases (show n = 0 ∨ n = 1 by omega) with rfl | rfl
 ·rw [show ((0 : Nat) : Int) = 0 from rfl,itoaS0];decide
 ·rw [show ((1 : Nat) : Int) = 1 from rfl,itoa1];decide
theorem hi_ne {c d : UInt8} (h : 32 < c.toNat) (hd : d.toNat <= 32) : c ≠ d := by rintro rfl;omega
theorem parts {a b c : List UInt8} (ha : ∀ x ∈ a, x ≠ 32) (hb : ∀ x ∈ b, x ≠ 32) {s : ByteArray} (hs : s.data.toList = a ++ 32 :: (b ++ 32 :: c)) :
  k3 32 s = true /\ k1 32 s = sS a /\ k3 32 (k2 32 s) = true /\ k1 32 (k2 32 s) = sS b /\ k2 32 (k2 32 s) = sS c := by
 obtain ⟨a1,a2,a3⟩ := cu_yes (b := b ++ 32 :: c) ha;obtain ⟨b1,b2,b3⟩ := cu_yes (b := c) hb;have e2 : k2 32 s = sS (b ++ 32 :: c) := by unfold k2;rw [hs,a2]
 refine ⟨by unfold k3;rw [hs,a3],by unfold k1;rw [hs,a1],?_,?_,?_⟩
 ·rw [e2];unfold k3;rw [sS_list,b3]
 ·rw [e2];unfold k1;rw [sS_list,b1]
 ·rw [e2]
  show sS (cu2 32 (sS (b ++ 32 :: c)).data.toList) = sS c
  rw [sS_list,b2]
theorem dig_hi {n : Nat} (h0 : 100 <= n) (h1 : n <= 599) : ∀ c ∈ (itoaS (n : Int)).data.toList,32 < c.toNat := by
 rw [itoaS3 h0 h1];intro c hc;simp only [List.mem_cons,List.not_mem_nil,or_false] at hc;rcases hc with rfl | rfl | rfl
 ·rw [digc_of (by omega)];omega
 ·rw [digc_of (by omega)];omega
 ·rw [digc_of (by omega)];omega
theorem first_rq {x : Hx} (hr : x.r = true) : (firstS x.hi).data.toList = x.me.data.toList ++ 32 :: (x.ta.data.toList ++ 32 :: (verS (x.mi : Int)).data.toList) := by
 unfold firstS;rw [if_pos (show x.hi.r = true from hr)];simp only [app_list];show x.me.data.toList ++ [32] ++ x.ta.data.toList ++ [32] ++ (verS (x.mi : Int)).data.toList = _
 simp
theorem first_rs {x : Hx} (hr : x.r = false) : (firstS x.hi).data.toList = (verS (x.mi : Int)).data.toList ++ 32 :: ((itoaS (x.st : Int)).data.toList ++ 32 :: x.re.data.toList) := by
 unfold firstS;rw [if_neg (by rw [show x.hi.r = false from hr];simp)];simp only [app_list];show (verS (x.mi : Int)).data.toList ++ [32] ++ (itoaS (x.st : Int)).data.toList ++ [32] ++ x.re.data.toList = _
 simp
theorem first_no {x : Hx} (h : Rh x) : ∀ c ∈ (firstS x.hi).data.toList,c ≠ 13 /\ c ≠ 10 := by
 obtain ⟨v1,v2,v3⟩ := ver_of h.mi;intro c hc;cases hr : x.r with
 | true =>
  obtain ⟨r1,r2,r3,r4⟩ := h.rq hr;rw [first_rq hr] at hc;simp only [List.mem_append,List.mem_cons] at hc;rcases hc with hc | rfl | hc | rfl | hc
  ·have := tok_all r1 c hc;exact ⟨tokc_ne this (.inl (by decide)),tokc_ne this (.inl (by decide))⟩
  ·decide
  ·have := tgt_all r2 c hc;exact ⟨tgc_ne this (by decide),tgc_ne this (by decide)⟩
  ·decide
  ·exact ⟨hi_ne (v3 c hc) (by decide),hi_ne (v3 c hc) (by decide)⟩
 | false =>
  obtain ⟨r1,r2,r3,r4,r5⟩ := h.rs hr;rw [first_rs hr] at hc;simp only [List.mem_append,List.mem_cons] at hc;rcases hc with hc | rfl | hc | rfl | hc
  ·exact ⟨hi_ne (v3 c hc) (by decide),hi_ne (v3 c hc) (by decide)⟩
  ·decide
  ·have := dig_hi r3 r4 c hc;exact ⟨hi_ne this (by decide),hi_ne this (by decide)⟩
  ·decide
  ·have := List.all_eq_true.1 r5 c hc;exact ⟨valc_ne this (by decide),valc_ne this (by decide)⟩
def pAt (x : Hx) (most n : Nat) (A : List (ByteArray × ByteArray)) : Pz := { most := most,read := n,line := [],ending := false,passed := 0,fn := fnFld,req := x.r,me := x.me,ta := x.ta,minor := x.mi,status := x.st,re := x.re,fs := A,whole := false,wrong := 0 }
theorem first_read {x : Hx} (h : Rh x) (most n : Nat) : pLine { pNew x.r most with read := n } (sS (firstS x.hi).data.toList) = (0,pAt x most n []) := by
 obtain ⟨v1,v2,v3⟩ := ver_of h.mi;rw [sS_of];cases hr : x.r with
 | true =>
  obtain ⟨r1,r2,r3,r4⟩ := h.rq hr;obtain ⟨q1,q2,q3,q4,q5⟩ := parts (fun c hc => tokc_ne (tok_all r1 c hc) (.inl (by decide))) (fun c hc => tgc_ne (tgt_all r2 c hc) (by decide)) (first_rq hr);rw [sS_of] at q2 q4 q5
  have hz : (firstS x.hi).size ≠ 0 := by
   rw [<- size_len,first_rq hr];simp
  have h0 : frE true (firstS x.hi) = 0 := by
   unfold frE;have hta := r2;unfold tgtB at hta;rw [Bool.and_eq_true,isEmpty_size] at hta;rw [q1,q3,q2,q4,q5,r1,hta.1,hta.2];exact v1
  have e := req_eq { pNew true most with read := n } (firstS x.hi) (fun hx => hz hx.1);rw [line_req (show ({ pNew true most with read := n } : Pz).fn = fnReq from rfl)];have e2 := e.2 h0 rfl;rw [<- Prod.eta (pReq { pNew true most with read := n } (firstS x.hi)),e.1,h0,e2,q2,q4,q5,v2];unfold pAt pNew;rw [hr,r3,r4]
 | false =>
  obtain ⟨r1,r2,r3,r4,r5⟩ := h.rs hr;obtain ⟨q1,q2,q3,q4,q5⟩ := parts (fun c hc => hi_ne (v3 c hc) (by decide)) (fun c hc => hi_ne (dig_hi r3 r4 c hc) (by decide)) (first_rs hr);rw [sS_of] at q2 q4 q5;obtain ⟨s1,s2⟩ := stat3 r3 r4
  have h0 : frE false (firstS x.hi) = 0 := by
   unfold frE;rw [q1,q3,q2,q4,q5,s1,v1,r5];rfl
  have e := res_eq { pNew false most with read := n } (firstS x.hi);rw [line_res (show ({ pNew false most with read := n } : Pz).fn = fnRes from rfl)];have e2 := e.2 h0 rfl;rw [<- Prod.eta (pRes { pNew false most with read := n } (firstS x.hi)),e.1,h0,e2,q2,q4,q5,v2,s2];unfold pAt pNew;rw [hr,r1,r2]
def fullL (h : Hi) : List UInt8 := (firstS h).data.toList ++ 13 :: 10 :: (h.fs.flatMap fldL ++ [13,10])
theorem flat_len : ∀ A : List (ByteArray × ByteArray), (A.flatMap fldL).length = fsum A + A.length
 | [] => rfl
 | f :: A => by rw [List.flatMap_cons,List.length_append,flat_len A,fldL_len,fsum,List.length_cons];omega
theorem full_len (x : Hx) : (fullL x.hi).length = fsz x + x.fs.length + 2 := by
 unfold fullL fsz;simp only [List.length_append,List.length_cons,List.length_nil,size_len];rw [show x.hi.fs = x.fs from rfl,flat_len];omega
theorem txt_form : ∀ (A : List (ByteArray × ByteArray)) (acc : List UInt8), ∃ B C, A = B ++ C /\ txt acc A = acc ++ B.flatMap fldL /\ (C ≠ [] -> 65536 < (acc ++ B.flatMap fldL).length)
 | [],acc => ⟨[],[],rfl,by simp [txt],fun h => absurd rfl h⟩
 | f :: A,acc => by
  rw [txt];by_cases h : 65536 < acc.length
  ·rw [if_pos h]
   exact ⟨[],f :: A,rfl,by simp,fun _ => by simpa using h⟩
  ·rw [if_neg h]
   obtain ⟨B,C,h1,h2,h3⟩ := txt_form A (acc ++ fldL f);refine ⟨f :: B,C,by rw [h1];rfl,?_,fun hc => ?_⟩
   ·rw [h2,List.flatMap_cons,List.append_assoc]
   ·have := h3 hc
    rw [List.flatMap_cons,<- List.append_assoc];exact this
theorem empty_line {p : Pz} (hn : p.fn = fnFld) : pLine p (sS []) = (0,{ p with whole := true }) := by
 rw [line_fld hn];unfold pFld;rw [if_pos (by rw [sS_size];rfl)]
theorem full_read {x : Hx} (h : Rh x) (h1 : (firstS x.hi).size <= 8192) (h2 : ∀ f ∈ x.fs,f.1.size + f.2.size + 2 <= 8192) (h3 : fsz x + x.fs.length + 2 <= 65536) : pParse x.r (fullL x.hi) = (x,(fullL x.hi).length,0) := by
 have hlen := full_len x;have hfl := flat_len x.fs;unfold fsz at h3 hlen;have e1 := bytes_ln (firstS x.hi).data.toList (pNew x.r 65536) (x.hi.fs.flatMap fldL ++ [13,10]) (first_no h) rfl rfl rfl (by rw [size_len];exact h1) (by rw [size_len];show 0 + (firstS x.hi).size + 2 <= 65536;omega);rw [first_read h] at e1;rw [if_neg (by simp),if_neg (by unfold pAt;simp)] at e1;rw [show x.hi.fs = x.fs from rfl,show (pNew x.r 65536).read = 0 from rfl,size_len] at e1;have e2 := bytes_flds x.fs (pAt x 65536 (0 + (firstS x.hi).size + 2) []) [13,10] rfl rfl rfl rfl (fun f hf => ⟨h.fs f hf,h2 f hf⟩) (by show 0 + x.fs.length <= 100;have := h.fl;omega) (by show 0 + (firstS x.hi).size + 2 + (x.fs.flatMap fldL).length <= 65536;omega);have e3 := bytes_ln [] ({ pAt x 65536 (0 + (firstS x.hi).size + 2) [] with read := (pAt x 65536 (0 + (firstS x.hi).size + 2) []).read + (x.fs.flatMap fldL).length,fs := (pAt x 65536 (0 + (firstS x.hi).size + 2) []).fs ++ x.fs }) [] (fun c hc => by cases hc) rfl rfl rfl (Nat.zero_le _) (by show 0 + (firstS x.hi).size + 2 + (x.fs.flatMap fldL).length + 0 + 2 <= 65536;omega);rw [empty_line (by rfl)] at e3;rw [if_neg (by simp),if_pos rfl] at e3;rw [List.nil_append] at e3;rw [e3] at e2;rw [e2] at e1
 obtain ⟨Q,hQ,hw,hx⟩ : ∃ Q,pBytes (pNew x.r 65536) (fullL x.hi) = (0,(fullL x.hi).length,Q) /\ Q.whole = true /\ Q.hx = x := by
  refine ⟨_,e1.trans (Prod.ext rfl (Prod.ext ?_ rfl)),rfl,rfl⟩;show [].length + 2 + (x.fs.flatMap fldL).length + ((firstS x.hi).size + 2) = (fullL x.hi).length
  simp only [List.length_nil];omega
 rw [parse_eq,hQ];dsimp only;rw [if_neg (by simp),if_neg (by simp [hw]),hx]
theorem text_full {x : Hx} (h3 : fsz x + x.fs.length + 2 <= 65536) : textL x.hi = fullL x.hi := by
 have hfl := flat_len x.fs;unfold fsz at h3;unfold textL;obtain ⟨B,C,h1,h2,hc⟩ := txt_form x.hi.fs ((firstS x.hi).data.toList ++ [13,10])
 have hC : C = [] := by
  cases C with
  | nil => rfl
  | cons f C =>
   have h4 := hc (by simp);have h5 := flat_len B;rw [show x.hi.fs = x.fs from rfl] at h1;rw [h1,fsum_app,List.length_append] at hfl h3;simp only [List.length_append,List.length_cons,List.length_nil,size_len] at h4;omega
 subst hC;rw [List.append_nil] at h1;rw [h2,<- h1];unfold fullL;simp
theorem print_is {h : Hi} (hp : printB h = true) : ∃ x : Hx,x.hi = h /\ Rh x /\ textL h = fullL h /\ pParse h.r (fullL h) = (x,(fullL h).length,0) /\ (fullL h).length <= 65536 := by
 unfold printB at hp;rw [Bool.and_eq_true] at hp;have hp1 : (pParse h.r (textL h)).2.2 = 0 := of_decide_eq_true hp.1;have hp2 := hiEq_iff.1 hp.2;obtain ⟨g1,g2,g3,g4⟩ := parse_good hp1;obtain ⟨b1,b2,b3⟩ := parse_ok hp1;generalize hx : (pParse h.r (textL h)).1 = x at hp2 g1 g2 g3 g4;clear g4 hx b2 b3 hp1;subst hp2;rw [show x.hi.r = x.r from rfl] at *;obtain ⟨B,C,h1,h2,hc⟩ := txt_form x.hi.fs ((firstS x.hi).data.toList ++ [13,10]);rw [show x.hi.fs = x.fs from rfl] at h1;have hBf : ∀ f ∈ B,chkF f = 0 := fun f hf => g1.fs f (by rw [h1];exact List.mem_append_left _ hf)
 have hBl : B.length <= 100 := by have := g1.fl;rw [h1,List.length_append] at this;omega
 have hT : textL x.hi = (firstS x.hi).data.toList ++ 13 :: 10 :: (B.flatMap fldL ++ [13,10]) := by
  unfold textL;rw [h2];simp
 rw [hT] at b1;have e1 := bytes_ln (firstS x.hi).data.toList (pNew x.r 65536) (B.flatMap fldL ++ [13,10]) (first_no g1) rfl rfl rfl (by rw [size_len];exact g3) (by rw [size_len];show 0 + (firstS x.hi).size + 2 <= 65536;omega);rw [first_read g1] at e1;rw [if_neg (by simp),if_neg (by unfold pAt;simp)] at e1;rw [show (pNew x.r 65536).read = 0 from rfl,size_len] at e1;rw [e1] at b1;simp only [shh] at b1
 have hfit : ¬ ((∃ f ∈ B,8192 < f.1.size + f.2.size + 2) ∨ 65536 < 0 + (firstS x.hi).size + 2 + (B.flatMap fldL).length) := fun hx =>
  bytes_flds_no B (pAt x 65536 (0 + (firstS x.hi).size + 2) []) [13,10] rfl rfl rfl rfl hBf (by show 0 + B.length <= 100;omega) (by show 0 + (firstS x.hi).size + 2 <= 65536;omega) hx b1
 have hf1 : ∀ f ∈ B,f.1.size + f.2.size + 2 <= 8192 := fun f hf => by
  apply Nat.le_of_not_lt
  exact fun hx => hfit (.inl ⟨f,hf,hx⟩)
 have hf2 : 0 + (firstS x.hi).size + 2 + (B.flatMap fldL).length <= 65536 := Nat.le_of_not_lt fun hx => hfit (.inr hx)
 have hC : C = [] := by
  cases C with
  | nil => rfl
  | cons f C =>
   have h4 := hc (by simp);simp only [List.length_append,List.length_cons,List.length_nil,size_len] at h4;omega
 subst hC;rw [List.append_nil] at h1;subst h1;have e2 := bytes_flds x.fs (pAt x 65536 (0 + (firstS x.hi).size + 2) []) [13,10] rfl rfl rfl rfl (fun f hf => ⟨hBf f hf,hf1 f hf⟩) (by show 0 + x.fs.length <= 100;omega) (by show 0 + (firstS x.hi).size + 2 + (x.fs.flatMap fldL).length <= 65536;omega);rw [e2] at b1;simp only [shh] at b1
 have h3 : fsz x + x.fs.length + 2 <= 65536 := by
  have hfl := flat_len x.fs;unfold fsz;apply Nat.le_of_not_lt
  intro hx;refine bytes_over2 [] _ [] (fun c hc => by cases hc) ?_ ?_ ?_ ?_ (.inr ?_) b1
  ·rfl
  ·rfl
  ·rfl
  ·show 0 + (firstS x.hi).size + 2 + (x.fs.flatMap fldL).length <= 65536
   omega
  ·show 65536 < 0 + (firstS x.hi).size + 2 + (x.fs.flatMap fldL).length + 0 + 2
   omega
 exact ⟨x,rfl,g1,text_full h3,full_read g1 g3 hf1 h3,by rw [full_len];exact h3⟩
theorem print_iff (h : Hi) : printB h = true ↔ (pParse h.r (fullL h)).2.2 = 0 /\ (pParse h.r (fullL h)).2.1 = (fullL h).length /\ (pParse h.r (fullL h)).1.hi = h := by
 constructor
 ·intro hp
  obtain ⟨x,rfl,_,_,h2,_⟩ := print_is hp;rw [h2];exact ⟨rfl,rfl,rfl⟩
 ·rintro ⟨h1, h2, h3⟩
  obtain ⟨g1,g2,g3,g4⟩ := parse_good h1
  have hle : (pParse h.r (fullL h)).2.1 <= 65536 := by
   obtain ⟨b1,b2,b3⟩ := parse_ok h1;obtain ⟨h4,h5⟩ := jv_bytes (fullL h) _ (fit_new h.r 65536 (Nat.le_refl _)) rfl (jv_new h.r 65536) b1;have h6 := (fit_bytes (fullL h) (pNew h.r 65536) (fit_new h.r 65536 (Nat.le_refl _)));have h7 := h6.read;have h8 := h6.most;rw [h5,show (pNew h.r 65536).read = 0 from rfl] at h7;rw [b3];dsimp only;omega
  generalize hx : (pParse h.r (fullL h)).1 = x at h3 g1 g2 g3 g4;have hP : pParse h.r (fullL h) = (x,(fullL h).length,0) := Prod.ext hx (Prod.ext h2 h1);clear hx;subst h3;rw [h2,full_len] at hle;unfold printB;rw [text_full hle,hP];exact Bool.and_eq_true_iff.2 ⟨rfl,hiEq_iff.2 rfl⟩
theorem parse_sz (rq : Bool) (l : List UInt8) : (pParse rq l).1.me.size <= 8192 /\ (pParse rq l).1.ta.size <= 8192 /\ (pParse rq l).1.re.size <= 8192 /\ (∀ f ∈ (pParse rq l).1.fs,f.1.size <= 8192 /\ f.2.size <= 8192) /\ (pParse rq l).1.mi <= 1 /\ (pParse rq l).1.st <= 9007199254740992 /\ (pParse rq l).1.fs.length <= 100 := by
 have h1 := (sz_new rq 65536).feed (fit_new rq 65536 (Nat.le_refl _)) l;have h2 := ((fit_new rq 65536 (Nat.le_refl _)).feed l).fs;have h0 : hx0.me.size <= 8192 /\ hx0.ta.size <= 8192 /\ hx0.re.size <= 8192 /\ (∀ f ∈ hx0.fs,f.1.size <= 8192 /\ f.2.size <= 8192) /\ hx0.mi <= 1 /\ hx0.st <= 9007199254740992 /\ hx0.fs.length <= 100 := ⟨by decide,by decide,by decide,(fun f hf => (by cases hf)),by decide,by decide,by decide⟩;unfold pParse;split
 ·exact h0
 ·split
  ·exact h0
  ·exact ⟨h1.me,h1.ta,h1.re,h1.fs,h1.minor,h1.status,h2⟩
def decc (d : Nat) : UInt8 := UInt8.ofNat (48 + d)
theorem decD_last {a : Nat} (h : a < 10) : Lib.decDigits a = [decc a] := by rw [Lib.decDigits,dif_pos h];rfl
theorem decD_step {a : Nat} (h : ¬ a < 10) : Lib.decDigits a = Lib.decDigits (a / 10) ++ [decc (a % 10)] := by rw [Lib.decDigits,dif_neg h];rfl
theorem decD_len21 {n : Nat} (hn : n <= 9007199254740992) : (Lib.decDigits n).length <= 21 := by
 have := Lib.itoa_length_le n (by omega) (by omega)
 rwa [Lib.itoa_nonneg] at this
def Dx (n a : Nat) (t : List UInt8) : Prop := (t = [] /\ a = n) ∨ (t ≠ [] /\ 0 < a /\ Lib.decDigits n = Lib.decDigits a ++ t) ∨ (t ≠ [] /\ a = 0 /\ Lib.decDigits n = t)
theorem Dx.next {n a : Nat} {t : List UInt8} (h : Dx n a t) (hg : 0 < a ∨ t = []) : Dx n (a / 10) (decc (a % 10) :: t) := by
 have e : Lib.decDigits n = Lib.decDigits a ++ t := by
  rcases h with ⟨h1,h2⟩ | ⟨_,_,h3⟩ | ⟨h1,h2,_⟩
  ·rw [h1,h2];simp
  ·exact h3
  ·rcases hg with hg | hg
   ·omega
   ·exact absurd hg h1
 by_cases h10 : a < 10
 ·right; right
  refine ⟨by simp,by omega,?_⟩;rw [e,decD_last h10,Nat.mod_eq_of_lt h10];rfl
 ·right; left
  refine ⟨by simp,by omega,?_⟩;rw [e,decD_step h10];simp
theorem Dx.len {n a : Nat} {t : List UInt8} (h : Dx n a t) (hn : n <= 9007199254740992) : t.length <= 21 := by
 have := decD_len21 hn;rcases h with ⟨h1,_⟩ | ⟨_,_,h3⟩ | ⟨_,_,h3⟩
 ·rw [h1];simp
 ·rw [h3,List.length_append] at this;omega
 ·rw [h3] at this;exact this
theorem Dx.done {n a : Nat} {t : List UInt8} (h : Dx n a t) (h0 : ¬ 0 < a) (h1 : t ≠ []) : Lib.decDigits n = t := by
 rcases h with ⟨h2,_⟩ | ⟨_,h2,_⟩ | ⟨_,_,h3⟩
 ·exact absurd h2 h1
 ·exact absurd h2 h0
 ·exact h3
theorem dig10 : ∀ k : Fin 10,(⟨#[48,49,50,51,52,53,54,55,56,57]⟩ : ByteArray).extract k.val (k.val + 1) = ⟨#[decc k.val]⟩ := by decide
theorem slice10 (a : Int) (h0 : 0 <= a) (w : World) : (Instr.slice 9 (.string ⟨#[48,49,50,51,52,53,54,55,56,57]⟩) (some (.int .i64 (a % 10))) (some (.int .i64 (a % 10 + 1))) none).run Tryz.prog w = .ok (.string ⟨#[decc (a.toNat % 10)]⟩) w := by
 have h1 : 0 <= a % 10 := by omega
 have h2 : a % 10 + 1 <= 10 := by omega
 rw [run_slice_string (P := Tryz.prog) w 9 ⟨#[48,49,50,51,52,53,54,55,56,57]⟩ .i64 .i64 (a % 10) (a % 10 + 1) Tryz.underlying9 h1 (by omega) h2];have := dig10 ⟨a.toNat % 10,Nat.mod_lt _ (by decide)⟩;rw [show (a % 10).toNat = a.toNat % 10 by omega,show (a % 10 + 1).toNat = a.toNat % 10 + 1 by omega,this]
theorem text_any (n : Nat) (hn : n <= 9007199254740992) (w : World) :
    Calls Tryz.prog 18 #[.int .i64 n] w fun e w' => e = .returned (.string (decS n)) /\ w = w' := by
  go_enter Tryz.func18,Tryz.ntmps18
  go_wp2
  go_loop [3,4] (fun s m => ∃ (t : ByteArray) (a : Int),s = .string t /\ m = .int .i64 a /\ 0 <= a /\ a <= 9007199254740992 /\ Hid (Dx n a.toNat t.data.toList)) (fun s m => 2 * (intOf m).toNat + (1 - strLen s))
  case atStart => exact ⟨⟨#[]⟩,n,rfl,rfl,by omega,by omega,hide (.inl ⟨rfl,by simp⟩)⟩
  case round =>
    obtain ⟨t,a,rfl,rfl,ha0,ha1,H⟩ := hrel;have hz : t.size <= 21 := by rw [<- size_len];exact H.out.len hn
    have hsl := slice10 a ha0;have hds : (⟨#[decc (a.toNat % 10)]⟩ : ByteArray).size = 1 := rfl;have hdl : (⟨#[decc (a.toNat % 10)]⟩ : ByteArray).data.toList = [decc (a.toNat % 10)] := rfl
    have HT : (0 < a ∨ t.data.toList = []) -> Dx n (a / 10).toNat ((⟨#[decc (a.toNat % 10)]⟩ : ByteArray) ++ t).data.toList := by
      intro hg;rw [app_list,hdl,show (a / 10).toNat = a.toNat / 10 by omega]
      exact H.out.next (by rcases hg with hg | hg; · left; omega
                           · exact .inr hg)
    have HT2 := hide HT;clear HT hdl;generalize (⟨#[decc (a.toNat % 10)]⟩ : ByteArray) = d at hsl hds HT2;have HM := hide (app_size d t);by_cases hg : 0 < a
    · have HT3 := hide (HT2.out (.inl hg))
      go_wp2
      refine ⟨⟨_,_,rfl,rfl,by omega,by omega,HT3⟩,?_⟩;simp only [intOf,strLen];rw [HM.out];omega
    · by_cases ht : t.size = 0
      · have he : t.toList.isEmpty = true := by rw [Lib.toList_data, isEmpty_size]; exact decide_eq_true ht
        have HT3 := hide (HT2.out (.inr (nil_list t (by omega))));have ha : a = 0 := by omega
        have H0 := hide ha;clear ha;go_wp2
        refine ⟨⟨_,_,rfl,rfl,by omega,by omega,HT3⟩,?_⟩;simp only [intOf,strLen];have := H0.out;rw [HM.out];omega
      · have he : t.toList.isEmpty = false := by rw [Lib.toList_data, isEmpty_size]; exact decide_eq_false ht
        have HD := hide (H.out.done (by omega) (fun e => by have := size_len t;rw [e] at this;simp at this;omega));have HE : Hid (decS n = t) := hide (by unfold decS;rw [HD.out];exact data_inj (sS_list _));clear hsl;go_wp2
        go_ret
        exact ⟨by rw [HE.out];rfl,rfl⟩
end Go.Proofs.YtcagjipdldlehaaGreatDoor
