/- YA. -/
import Derived.Lib.SlTrimSet
import Derived.Lib.ItoaMem
import Derived.Test.YtecjlcjaccijpaaGreatDoorRows
import Derived.WalkKit
import Derived.ProofKit
import Derived.OpenShut
import Derived.Below
import Derived.Outline
import Derived.Laws.AppendOwn
import Derived.Laws.OwnMore
import Derived.Laws.BytesArg
import Derived.Laws.IdiomStrings
import Derived.OwnWalk
import Derived.Deep.QuietTactic
import Derived.BigQuiet
import Derived.Deep.RegionLaw
import Derived.Laws.AppendOwnNone
import Derived.Maps.AppendAt
namespace Go.Proofs.YtecjlcjaccijpaaGreatDoor
open Go.ChangeShapes Go.WideShapes Go.ChangeAt Go.RowKit
set_option linter.unusedVariables false
set_option maxHeartbeats 16000000
set_option maxRecDepth 100000
theorem sl_ : (∀ (l : List Value) (i : Nat) (a : Value), l.toArray.setIfInBounds i a = (l.set i a).toArray) ∧ (∀ (x : Value) (l : List Value) (a : Value), (x :: l).set 0 a = a :: l) ∧ (∀ (x : Value) (l : List Value) (n : Nat) (a : Value), (x :: l).set (n + 1) a = x :: l.set n a) := ⟨fun _ _ _ => List.setIfInBounds_toArray .., fun _ _ _ => List.set_cons_zero .., fun _ _ _ _ => List.set_cons_succ ..⟩
theorem ge_ : (∀ (l : List Oper) (i : Nat) (h : i < l.toArray.size), l.toArray[i] = l[i]'(by simpa using h)) ∧ (∀ (x : Oper) (l : List Oper) (h : 0 < (x :: l).length), (x :: l)[0] = x) ∧ (∀ (x : Oper) (l : List Oper) (n : Nat) (h : n + 1 < (x :: l).length), (x :: l)[n + 1] = l[n]'(by simpa using h)) := ⟨fun _ _ _ => rfl, fun _ _ _ => rfl, fun _ _ _ _ => rfl⟩
theorem snoc_ind {α : Type} {P : List α -> Prop} (h0 : P []) (h1 : ∀ l c, P l -> P (l ++ [c])) (l : List α) : P l := by
 have : ∀ r : List α, P r.reverse := by
  intro r
  induction r with
  | nil => exact h0
  | cons a r ih => rw [List.reverse_cons]; exact h1 _ _ ih
 simpa using this l.reverse
theorem dropWhile_len {α : Type} (p : α -> Bool) : ∀ l : List α, (l.dropWhile p).length <= l.length
 | [] => Nat.le_refl _
 | a :: r => by
  rw [List.dropWhile_cons]
  split
  ·exact Nat.le_succ_of_le (dropWhile_len p r)
  ·exact Nat.le_refl _
/-! ### Bytes -/
def tokMarks : List UInt8 := [33, 35, 36, 37, 38, 39, 42, 43, 45, 46, 94, 95, 96, 124, 126]
def alnum (c : UInt8) : Bool := (decide (65 <= c.toNat) && decide (c.toNat <= 90)) || (decide (97 <= c.toNat) && decide (c.toNat <= 122)) || (decide (48 <= c.toNat) && decide (c.toNat <= 57))
def tokc (c : UInt8) : Bool := alnum c || tokMarks.contains c
def tokenB (l : List UInt8) : Bool := l.all tokc && !l.isEmpty
def blankc (c : UInt8) : Bool := decide (c.toNat = 9) || decide (c.toNat = 32)
def valc (c : UInt8) : Bool := decide (c.toNat = 9) || (decide (32 <= c.toNat) && !decide (c.toNat = 127))
def trimB (l : List UInt8) : List UInt8 := Lib.trimS l [9, 32]
def valueB (l : List UInt8) : Bool := l.all valc && decide (l = trimB l)
def lowc (c : UInt8) : UInt8 := if 65 <= c.toNat /\ c.toNat <= 90 then UInt8.ofNat (c.toNat + 32) else c
def lowerB (l : List UInt8) : List UInt8 := l.map lowc
def sameB (a b : List UInt8) : Bool := decide (lowerB a = lowerB b)
theorem blankc_contains (c : UInt8) : [9, 32].contains c = blankc c := by
 unfold blankc
 rw [Bool.eq_iff_iff]
 simp only [List.contains_cons, List.contains_nil, Bool.or_false, Bool.or_eq_true, beq_iff_eq, decide_eq_true_eq]
 constructor
 ·rintro (rfl | rfl) <;> simp
 ·rintro (h | h)
  ·exact .inl (UInt8.toNat_inj.1 (by simpa using h))
  ·exact .inr (UInt8.toNat_inj.1 (by simpa using h))
def ltrim (l : List UInt8) : List UInt8 := l.dropWhile blankc
def rtrim (l : List UInt8) : List UInt8 := (l.reverse.dropWhile blankc).reverse
theorem trimB_eq (l : List UInt8) : trimB l = ltrim (rtrim l) := by
 have e : (fun c : UInt8 => [9, 32].contains c) = blankc := funext blankc_contains
 unfold trimB Lib.trimS Lib.trimLeftS Lib.trimRightS ltrim rtrim
 rw [e]
theorem ltrim_cons (c : UInt8) (l : List UInt8) : ltrim (c :: l) = if blankc c then ltrim l else c :: l := by
 unfold ltrim; rw [List.dropWhile_cons]
theorem rtrim_snoc (l : List UInt8) (c : UInt8) : rtrim (l ++ [c]) = if blankc c then rtrim l else l ++ [c] := by
 unfold rtrim
 rw [List.reverse_append, List.reverse_singleton, List.singleton_append, List.dropWhile_cons]
 split <;> simp
theorem rtrim_nil : rtrim [] = [] := rfl
theorem ltrim_snoc (l : List UInt8) (c : UInt8) (h : blankc c = true) : ltrim (l ++ [c]) = if ltrim l = [] then [] else ltrim l ++ [c] := by
 induction l with
 | nil => simp [ltrim, h]
 | cons a l ih =>
  rw [List.cons_append, ltrim_cons, ltrim_cons]
  split
  ·exact ih
  ·simp
theorem ltrim_last (l : List UInt8) (c : UInt8) (h : blankc c = false) : ltrim (l ++ [c]) = ltrim l ++ [c] := by
 induction l with
 | nil => simp [ltrim, h]
 | cons a l ih =>
  rw [List.cons_append, ltrim_cons, ltrim_cons]
  split
  ·exact ih
  ·simp
theorem trim_comm (l : List UInt8) : ltrim (rtrim l) = rtrim (ltrim l) := by
 induction l using snoc_ind with
 | h0 => rfl
 | h1 l c ih =>
  rw [rtrim_snoc]
  by_cases h : blankc c = true
  ·rw [if_pos h, ih, ltrim_snoc l c h]
   by_cases e : ltrim l = []
   ·rw [if_pos e, e]
   ·rw [if_neg e, rtrim_snoc, if_pos h]
  ·have h' : blankc c = false := by simpa using h
   rw [if_neg h, ltrim_last l c h', rtrim_snoc, if_neg h]
theorem ltrim_le (l : List UInt8) : (ltrim l).length <= l.length := by
 unfold ltrim; exact dropWhile_len _ _
theorem rtrim_le (l : List UInt8) : (rtrim l).length <= l.length := by
 unfold rtrim; rw [List.length_reverse]; exact Nat.le_trans (dropWhile_len _ _) (by simp)
theorem trimB_le (l : List UInt8) : (trimB l).length <= l.length := by
 rw [trimB_eq]; exact Nat.le_trans (ltrim_le _) (rtrim_le _)
theorem ltrim_id_iff (l : List UInt8) : ltrim l = l ↔ ∀ c, l.head? = some c -> blankc c = false := by
 cases l with
 | nil => simp [ltrim]
 | cons a r =>
  rw [ltrim_cons]
  by_cases h : blankc a = true
  ·rw [if_pos h]
   constructor
   ·intro e; have := ltrim_le r; rw [e, List.length_cons] at this; omega
   ·intro e; have := e a rfl; rw [h] at this; cases this
  ·rw [if_neg h]; simp at h; simp [h]
theorem rtrim_id_iff (l : List UInt8) : rtrim l = l ↔ ∀ c, l.getLast? = some c -> blankc c = false := by
 induction l using snoc_ind with
 | h0 => simp [rtrim]
 | h1 l a _ =>
  rw [rtrim_snoc]
  by_cases h : blankc a = true
  ·rw [if_pos h]
   constructor
   ·intro e; have := rtrim_le l; rw [e, List.length_append, List.length_singleton] at this; omega
   ·intro e; have := e a (by simp); rw [h] at this; cases this
  ·rw [if_neg h]; simp at h; simp [h]
theorem trim_id (l : List UInt8) : (l = trimB l) ↔ (∀ c, l.head? = some c -> blankc c = false) /\ (∀ c, l.getLast? = some c -> blankc c = false) := by
 rw [trimB_eq]
 constructor
 ·intro e
  have h1 : rtrim l = l := by
   have a := ltrim_le (rtrim l)
   have b := rtrim_le l
   rw [<- e] at a
   refine List.Sublist.eq_of_length (l₁ := rtrim l) ?_ (by omega)
   unfold rtrim
   have := List.dropWhile_sublist blankc (l := l.reverse)
   simpa using this.reverse
  rw [h1] at e
  exact ⟨(ltrim_id_iff l).1 e.symm, (rtrim_id_iff l).1 h1⟩
 ·rintro ⟨h1, h2⟩
  rw [(rtrim_id_iff l).2 h2, (ltrim_id_iff l).2 h1]
/-! ### Numbers -/
def digv (c : UInt8) : Nat :=
 if 65 <= c.toNat /\ c.toNat <= 70 then c.toNat - 55 else if 97 <= c.toNat /\ c.toNat <= 102 then c.toNat - 87 else if 48 <= c.toNat /\ c.toNat <= 57 then c.toNat - 48 else 16
def top : Nat := 9007199254740992
def stp (base n : Nat) (c : UInt8) : Nat := if n <= top then n * base + digv c else n
def accu (base : Nat) (l : List UInt8) : Nat := l.foldl (stp base) 0
def numV (base : Nat) (l : List UInt8) : Nat := if l = [] ∨ ¬ (l.all fun c => decide (digv c < base)) ∨ top < accu base l then 0 else accu base l
def numE (base : Nat) (l : List UInt8) : Nat := if l = [] ∨ ¬ (l.all fun c => decide (digv c < base)) then 50 else if top < accu base l then 51 else 0
theorem accu_snoc (base : Nat) (l : List UInt8) (c : UInt8) : accu base (l ++ [c]) = stp base (accu base l) c := by simp [accu]
theorem digv_le (c : UInt8) : digv c <= 16 := by unfold digv; split <;> (try split) <;> (try split) <;> omega
theorem stp_le (base n : Nat) (c : UInt8) (hb : base <= 16) (h : n <= top * 16 + 16) : stp base n c <= top * 16 + 16 := by
 unfold stp
 have := digv_le c
 split
 ·have : n * base <= top * 16 := Nat.mul_le_mul ‹_› hb
  omega
 ·exact h
theorem accu_le (base : Nat) (hb : base <= 16) (l : List UInt8) : accu base l <= top * 16 + 16 := by
 induction l using snoc_ind with
 | h0 => simp [accu]
 | h1 l c ih => rw [accu_snoc]; exact stp_le base _ c hb ih
def nx (q k : Bool) (c : UInt8) : Bool × Bool := if k = true then (q, false) else if c = 92 /\ q = true then (q, true) else if c = 34 then (!q, false) else (q, false)
def pend : Bool -> Bool -> List UInt8 -> Nat
 | _, _, [] => 0
 | q, k, c :: r => if c = 44 /\ q = false then 0 else pend (nx q k c).1 (nx q k c).2 r + 1
def elem (p : List UInt8) : List (List UInt8) := if trimB p = [] then [] else [trimB p]
theorem pend_le : ∀ (l : List UInt8) (q k : Bool), pend q k l <= l.length
 | [], _, _ => Nat.le_refl _
 | c :: r, q, k => by
  rw [pend]
  split
  ·exact Nat.zero_le _
  ·exact Nat.succ_le_succ (pend_le r _ _)
def listB (l : List UInt8) : List (List UInt8) :=
 if _h : l = [] then [] else elem (l.take (pend false false l)) ++ listB (l.drop (pend false false l + 1))
termination_by l.length
decreasing_by
 rw [List.length_drop]
 have : 0 < l.length := List.length_pos_iff.2 _h
 omega
theorem listB_nil : listB [] = [] := by rw [listB]; rfl
theorem listB_cons {l : List UInt8} (h : l ≠ []) : listB l = elem (l.take (pend false false l)) ++ listB (l.drop (pend false false l + 1)) := by
 rw [listB, dif_neg h]
theorem elem_nil : elem [] = [] := by simp [elem, trimB_eq, ltrim, rtrim]
theorem listB_all (l : List UInt8) : listB l = elem (l.take (pend false false l)) ++ listB (l.drop (pend false false l + 1)) := by
 by_cases h : l = []
 ·subst h; simp [listB_nil, elem_nil]
 ·exact listB_cons h
theorem elem_len (p : List UInt8) : (elem p).length <= 1 := by unfold elem; split <;> simp
theorem elem_le (p : List UInt8) : (elem p).length <= p.length := by
 by_cases h : p = []
 ·subst h; simp [elem_nil]
 ·have := elem_len p
  have : 0 < p.length := List.length_pos_iff.2 h
  omega
theorem listB_len (l : List UInt8) : (listB l).length <= l.length := by
 induction h : l.length using Nat.strongRecOn generalizing l with
 | ind n ih =>
  by_cases h0 : l = []
  ·subst h0; simp [listB_nil]
  ·rw [listB_cons h0, List.length_append]
   have hp : 0 < l.length := List.length_pos_iff.2 h0
   have h1 := ih (l.drop (pend false false l + 1)).length (by rw [List.length_drop]; omega) _ rfl
   have h2 := elem_le (l.take (pend false false l))
   rw [List.length_drop] at h1
   rw [List.length_take] at h2
   have := elem_len (l.take (pend false false l))
   omega
def refL (part : List UInt8) (q k : Bool) : List UInt8 -> List (List UInt8)
 | [] => elem part
 | c :: r => if c = 44 /\ q = false then elem part ++ refL [] q k r else refL (part ++ [c]) (nx q k c).1 (nx q k c).2 r
theorem nx_inv (q k : Bool) (c : UInt8) (_ : k = true -> q = true) : (nx q k c).2 = true -> (nx q k c).1 = true := by
 unfold nx
 split
 ·simp
 ·split
  ·rename_i h2; intro _; exact h2.2
  ·split <;> simp
theorem refL_eq : ∀ (l part : List UInt8) (q k : Bool), (k = true -> q = true) -> refL part q k l = elem (part ++ l.take (pend q k l)) ++ listB (l.drop (pend q k l + 1))
 | [], part, q, k, _ => by simp [refL, pend, listB_nil]
 | c :: r, part, q, k, hk => by
  rw [refL, pend]
  by_cases h : c = 44 /\ q = false
  ·rw [if_pos h, if_pos h]
   have hk' : k = false := by cases k <;> simp_all
   rw [h.2, hk', refL_eq r [] false false (by simp)]
   simp only [List.nil_append, List.take_zero, List.append_nil, List.drop_succ_cons, List.drop_zero]
   rw [<- listB_all]
  ·rw [if_neg h, if_neg h, refL_eq r _ _ _ (nx_inv q k c hk)]
   simp
theorem refL_list (l : List UInt8) : refL [] false false l = listB l := by
 rw [refL_eq l [] false false (by simp), List.nil_append, <- listB_all]
/-! ### Joined -/
theorem rtrim_idem (l : List UInt8) : rtrim (rtrim l) = rtrim l := by
 induction l using snoc_ind with
 | h0 => rfl
 | h1 l c ih =>
  rw [rtrim_snoc]
  by_cases h : blankc c = true
  ·rw [if_pos h, ih]
  ·rw [if_neg h, rtrim_snoc, if_neg h]
theorem ltrim_idem (l : List UInt8) : ltrim (ltrim l) = ltrim l := by
 induction l with
 | nil => rfl
 | cons c l ih =>
  rw [ltrim_cons]
  by_cases h : blankc c = true
  ·rw [if_pos h, ih]
  ·rw [if_neg h, ltrim_cons, if_neg h]
theorem trimB_idem (l : List UInt8) : trimB (trimB l) = trimB l := by
 rw [trimB_eq, trimB_eq, trim_comm (ltrim (rtrim l)), ltrim_idem, trim_comm l, rtrim_idem]
def joinB : List (List UInt8) -> List UInt8
 | [] => []
 | [x] => x
 | x :: y :: r => x ++ [44, 32] ++ joinB (y :: r)
theorem joinB_snoc : ∀ (l : List (List UInt8)) (x : List UInt8), joinB (l ++ [x]) = if l = [] then x else joinB l ++ [44, 32] ++ x
 | [], x => by simp [joinB]
 | [a], x => by simp [joinB]
 | a :: b :: r, x => by
  have := joinB_snoc (b :: r) x
  rw [if_neg (by simp)] at this
  rw [if_neg (by simp), List.cons_append, List.cons_append, joinB, <- List.cons_append, this, joinB]
  simp
theorem ret_bool {a b : Bool} (h : a = b) : Ending.returned (.bool a) = .returned (.bool b) := by rw [h]
theorem ret_int {k : IntKind} {a b : Int} (h : a = b) : Ending.returned (.int k a) = .returned (.int k b) := by rw [h]
theorem byte_lt (c : UInt8) : c.toNat < 256 := UInt8.toNat_lt c
theorem hide {p : Prop} (h : p) : Hid p := h
theorem take_snoc (s : ByteArray) (k : Nat) (h : k < s.size) : s.data.toList.take (k + 1) = s.data.toList.take k ++ [s[k]] := by
 rw [List.take_succ_eq_append_getElem (by simpa using h)]; rfl
theorem take_all (s : ByteArray) (k : Nat) (h : s.size <= k) : s.data.toList.take k = s.data.toList := List.take_of_length_le (by simpa using h)
theorem all_snoc (p : UInt8 -> Bool) (s : ByteArray) (k : Nat) (h : k < s.size) : (s.data.toList.take (k + 1)).all p = ((s.data.toList.take k).all p && p s[k]) := by
 rw [take_snoc s k h, List.all_append]; simp
theorem all_no (p : UInt8 -> Bool) (s : ByteArray) (k : Nat) (h : k < s.size) (hp : p s[k] = false) : s.data.toList.all p = false := by
 cases e : s.data.toList.all p with
 | false => rfl
 | true =>
  have := List.all_eq_true.1 e s[k] (by exact List.getElem_mem (by simpa using h) (l := s.data.toList))
  rw [hp] at this
  cases this
theorem size_len (s : ByteArray) : s.data.toList.length = s.size := by simp
theorem isEmpty_size (s : ByteArray) : s.data.toList.isEmpty = decide (s.size = 0) := by
 rw [<- size_len]; cases s.data.toList <;> simp
theorem byte_eqI (a b : UInt8) : (((a.toNat : Int)) == (b.toNat : Int)) = (a == b) := by
 rw [Bool.eq_iff_iff]
 simp only [beq_iff_eq, Int.natCast_inj]
 exact UInt8.toNat_inj
theorem beq_list (a b : List UInt8) : (a == b) = decide (a = b) := by rw [Bool.eq_iff_iff]; simp
theorem ext_list (t : ByteArray) (i j : Nat) : (t.extract i j).data.toList = (t.data.toList.drop i).take (j - i) := by
 rw [ByteArray.data_extract, Array.toList_extract, List.extract_eq_take_drop]
theorem ext_size (t : ByteArray) (i j : Nat) : (t.extract i j).size = min j t.size - i := ByteArray.size_extract
theorem app_list (a b : ByteArray) : (a ++ b).data.toList = a.data.toList ++ b.data.toList := by rw [ByteArray.data_append]; simp
theorem app_size (a b : ByteArray) : (a ++ b).size = a.size + b.size := ByteArray.size_append
def strLen : Value -> Nat
 | .string t => t.size
 | _ => 0
theorem head_list (t : ByteArray) (h : 0 < t.size) : t.data.toList = t[0] :: (t.extract 1 t.size).data.toList := by
 rw [ext_list]
 have : t.data.toList.length = t.size := size_len t
 cases e : t.data.toList with
 | nil => rw [e] at this; simp at this; omega
 | cons a r =>
  have h2 : t.data.toList[0]? = some t[0] := by rw [List.getElem?_eq_getElem (by omega)]; rfl
  rw [e] at h2 this
  simp only [List.length_cons] at this
  simp only [List.getElem?_cons_zero, Option.some.injEq] at h2
  rw [h2, List.drop_succ_cons, List.drop_zero, List.take_of_length_le (by omega)]
theorem last_list (t : ByteArray) (h : 0 < t.size) : t.data.toList = (t.extract 0 (t.size - 1)).data.toList ++ [t[t.size - 1]] := by
 have := take_snoc t (t.size - 1) (by omega)
 rw [Nat.sub_add_cancel h, take_all t t.size (Nat.le_refl _)] at this
 rw [ext_list, List.drop_zero, Nat.sub_zero]
 exact this
theorem nil_list (t : ByteArray) (h : ¬ 0 < t.size) : t.data.toList = [] := List.eq_nil_of_length_eq_zero (by rw [size_len]; omega)
theorem hp_new (W : World) (o : Obj) : (W.alloc o).heap[W.heap.size]? = some o := by
 show (W.heap.push o)[W.heap.size]? = some o
 simp
theorem hp_set {W : World} {b : Nat} {cur : Array Value} {t : TypeId} {fr : Nat × Nat} (h : W.heap[b]? = some (.cells cur t fr)) (i : Nat) (v : Value) : (W.setCell ⟨b, i, none⟩ v).heap[b]? = some (.cells (cur.setIfInBounds i v) t fr) := by
 rw [setCell_eq_setRow W b i cur t fr v h]; exact setRow_heap W b cur _ t fr h
theorem cell_at {w : World} {b : Nat} {c : Array Value} {t : TypeId} {fr : Nat × Nat} (h : w.heap[b]? = some (.cells c t fr)) (i : Nat) : w.cell? ⟨b, i, none⟩ = c[i]? := by
 simp [World.cell?, h]
theorem frozen_at {w : World} {b : Nat} {c : Array Value} {t : TypeId} {lo hi : Nat} (h : w.heap[b]? = some (.cells c t (lo, hi))) (i : Nat) : w.frozen? ⟨b, i, none⟩ = (decide (lo <= i) && decide (i < hi)) := by
 simp [World.frozen?, h]
def Row (W : World) (base : Nat) (e : TypeId) (v : Value) (xs : List Value) : Prop := W.ownsRow base e 1 v xs.length xs
theorem Row.nil (W : World) (base : Nat) (e : TypeId) : Row W base e (.slice none 0 0) [] := ⟨rfl, .inl ⟨rfl, rfl⟩⟩
theorem Row.frame {W W' : World} {base : Nat} {e : TypeId} {v : Value} {xs : List Value} (h : Row W base e v xs) (hb : ∀ g, v.ownBlock = some g -> W'.heap[g]? = W.heap[g]?) : Row W' base e v xs := by
 refine ⟨h.1, ?_⟩
 rcases h.2 with x | ⟨g, cap, cur, rfl, h1, hg, hc, hm, hs, ht⟩
 ·exact .inl x
 ·exact .inr ⟨g, cap, cur, rfl, h1, (hb g rfl).trans hg, hc, hm, hs, ht⟩
theorem Row.lt {W : World} {base : Nat} {e : TypeId} {v : Value} {xs : List Value} (h : Row W base e v xs) {g : Nat} (hg : v.ownBlock = some g) : base <= g /\ g < W.heap.size := World.ownsRow.lt h g hg
theorem Row.below {W W' : World} {base : Nat} {e : TypeId} {v : Value} {xs : List Value} (h : Row W base e v xs) (hb : Below W.heap.size W W') : Row W' base e v xs := h.frame fun g hg => hb.block g (h.lt hg).2
theorem Row.shape {W : World} {base : Nat} {e : TypeId} {v : Value} {xs : List Value} (h : Row W base e v xs) : ∃ a c, v = .slice a xs.length c /\ xs.length <= c /\ c <= maxLen := by
 rcases h.2 with ⟨rfl, h0⟩ | ⟨g, cap, cur, rfl, h1, hg, hc, hm, hs, ht⟩
 ·exact ⟨none, 0, by rw [h0], by omega, Nat.zero_le _⟩
 ·exact ⟨_, cap, rfl, hc, hm⟩
theorem Row.cell {W : World} {base : Nat} {e : TypeId} {a : Option Addr} {n c : Nat} {xs : List Value} (h : Row W base e (.slice a n c) xs) {j : Nat} (hj : j < xs.length) : ∃ g, a = some ⟨g, 0, none⟩ /\ W.cell? ⟨g, j, none⟩ = xs[j]? := by
 rcases h.2 with ⟨_, h0⟩ | ⟨g, cap, cur, hv, h1, hg, hc, hm, hs, ht⟩
 ·omega
 ·simp only [Value.slice.injEq] at hv
  refine ⟨g, hv.1, ?_⟩
  rw [cell_at hg, <- ht, List.getElem?_take, if_pos (by omega)]
  simp
structure El (t e : TypeId) (z : Value) (bts : Nat) : Prop where
 u : Tryz.prog.underlying t = some (.slice e)
 i : ∃ i, Tryz.prog.info? e = some i /\ i.zero = some z /\ i.size = 1 /\ i.bytes = bts
 z1 : z.cells.size = 1
theorem elB : El 24 5 (.int .u8 0) 1 := by
 refine ⟨Tryz.underlying24, ?_, rfl⟩
 have h : (Tryz.prog.info? 5).map (fun i => (i.zero, i.size, i.bytes)) = some (some (.int .u8 0), 1, 1) := by kernel_rfl
 obtain ⟨i, hi, hz⟩ := Option.map_eq_some_iff.1 h
 simp only [Prod.mk.injEq] at hz
 exact ⟨i, hi, hz.1, hz.2.1, hz.2.2⟩
theorem elS : El 100 9 (.string ByteArray.empty) 16 := by
 refine ⟨Tryz.underlying100, ?_, rfl⟩
 have h : (Tryz.prog.info? 9).map (fun i => (i.zero, i.size, i.bytes)) = some (some (.string ByteArray.empty), 1, 16) := by kernel_rfl
 obtain ⟨i, hi, hz⟩ := Option.map_eq_some_iff.1 h
 simp only [Prod.mk.injEq] at hz
 exact ⟨i, hi, hz.1, hz.2.1, hz.2.2⟩
theorem one_cell (w : World) (x : Value) (e : TypeId) (j : Nat) (u : Value) (h : [x][j]? = some u) : (w.alloc (.cells #[x] e)).cell? ((⟨w.heap.size, 0, none⟩ : Addr).add j) = some u := by
 match j, h with
 | 0, h =>
  simp at h
  subst h
  have e1 : ((⟨w.heap.size, 0, none⟩ : Addr).add 0) = ⟨w.heap.size, 0, none⟩ := by unfold Addr.add; simp
  rw [e1, cell_at (hp_new w _)]
  rfl
theorem append_one {t e : TypeId} {z : Value} {bts : Nat} (E : El t e z bts) (W : World) (base : Nat) (ty : TypeId) (v : Value) (xs : List Value) (y : Value) (hown : Row W base e v xs) (hy : y.oneCell' = true) (hn : (xs.length + 1) * bts <= 140737488355328) (hn2 : xs.length + 1 <= 140737488355328) (hbase : base <= W.heap.size) :
  ∃ v' W', (Builtin.append_ #[t, t] ty #[v, .slice (some ⟨W.heap.size, 0, none⟩) 1 1]).run Tryz.prog (W.alloc (.cells #[y] e)) = .ok v' W' /\ Row W' base e v' (xs ++ [y]) /\ Below base W W' := by
 obtain ⟨i, hi, hz, hs1, hb1⟩ := E.i
 have ho : Row (W.alloc (.cells #[y] e)) base e v xs := hown.frame fun g hg => Below.heap_alloc W _ g (hown.lt hg).2
 obtain ⟨v', W', hr, h1, hg, _⟩ := run_append_own (w := W.alloc (.cells #[y] e)) base t ty e i z 1 bts E.u hi hz hs1 hb1 E.z1 (by omega) v xs.length xs ho ⟨W.heap.size, 0, none⟩ 1 1 [y] rfl (one_cell W y e) (by intro u hu; simp at hu; subst hu; exact hy) (by unfold maxLen; omega) hn (by simp; omega)
 refine ⟨v', W', hr, ?_, ?_⟩
 ·unfold Row
  rw [List.length_append]
  exact h1
 ·exact ((Below.refl base W).alloc hbase _).grown hg (by simp; omega) (fun k hk => (hown.lt hk).1)
theorem wpList_append_one {t e : TypeId} {z : Value} {bts : Nat} (E : El t e z bts) {ops : Array Oper} {rest : List Oper} {o : Oper} {a : Act} {Q : Exit -> Act -> World -> Prop} (hgd : o.guard = none) (s x : Operand)
  (ho : o.op = .call { callee := .builtin .append, args := #[s, x], argTypes := #[t, t] }) (W : World) (base : Nat) (v : Value) (xs : List Value) (y : Value) (hs : a.eval s = v) (hx : a.eval x = .slice (some ⟨W.heap.size, 0, none⟩) 1 1)
  (hown : Row W base e v xs) (hy : y.oneCell' = true) (hn : (xs.length + 1) * bts <= 140737488355328) (hn2 : xs.length + 1 <= 140737488355328) (hbase : base <= W.heap.size)
  (h : ∀ v' W', Row W' base e v' (xs ++ [y]) -> Below base W W' -> wpList Tryz.prog ops Q rest (a.put o.dst v') W') : wpList Tryz.prog ops Q (o :: rest) a (W.alloc (.cells #[y] e)) := by
 refine wpList_plain hgd fun K hK => ?_
 obtain ⟨v', W', hr, h2, h3⟩ := append_one E W base o.type v xs y hown hy hn hn2 hbase
 unfold Oper.wp execOp
 simp only [ho, resolve, invoke, builtin, Sem.run_bind, Sem.run_pure, Result.andThen_ok, List.map_toArray, List.map_cons, List.map_nil, hs, hx, hr]
 exact hK _ _ (h v' W' h2 h3)
/-! ### Bytes -/
def bc (l : List UInt8) : List Value := l.map fun b => Value.int .u8 (b.toNat : Int)
theorem bc_len (l : List UInt8) : (bc l).length = l.length := by simp [bc]
theorem bc_snoc (l : List UInt8) (c : UInt8) : bc (l ++ [c]) = bc l ++ [.int .u8 (c.toNat : Int)] := by simp [bc]
theorem Row.text {W : World} {base : Nat} {v : Value} {l : List UInt8} (h : Row W base 5 v (bc l)) : (convert 24 9 v).run Tryz.prog W = .ok (.string ⟨l.toArray⟩) W := by
 rcases h.2 with ⟨rfl, h0⟩ | ⟨g, cap, cur, rfl, h1, hg, hc, hm, hs, ht⟩
 ·rw [bc_len] at h0
  have : l = [] := List.eq_nil_of_length_eq_zero h0
  subst this
  exact run_convert_bytes_nil W 24 5 Tryz.underlying24 Tryz.underlying5 0 0 9 Tryz.underlying9
 ·rw [bc_len] at ht |-
  refine run_convert_bytes_back W 24 9 5 ⟨g, 0, none⟩ cap l Tryz.underlying24 Tryz.underlying5 Tryz.underlying9 (fun j hj => ?_)
  have e : (⟨g, 0, none⟩ : Addr).add j = ⟨g, j, none⟩ := by unfold Addr.add; split <;> simp_all
  rw [e, cell_at hg]
  have e2 : cur[j]? = (cur.toList.take (l.length * 1))[j]? := by rw [List.getElem?_take, if_pos (by omega)]; simp
  rw [e2, ht]
  simp [bc, hj]
def Cl (w W : World) : Prop := Below w.heap.size w W
theorem Cl.out {w W : World} (h : Cl w W) : Below w.heap.size w W := h
theorem Cl.cell {w W : World} (h : Cl w W) {a : Addr} {v : Value} (hc : w.cell? a = some v) : W.cell? a = some v :=
 (h.out.cell (World.block_lt_of_cell? w a hc)).trans hc
theorem call_cl {P : Program} {f : Nat} {args : Array Value} {w W : World} {r : Value} (h : Cl w W) (c : Calls P f args W fun e w' => e = .returned r /\ Below W.heap.size W w') : Calls P f args W fun e w' => e = .returned r /\ Cl w w' :=
 c.mono fun _ _ ⟨h1, h2⟩ => ⟨h1, h.out.trans (h2.mono h.out.size)⟩
theorem call_cl_same {P : Program} {f : Nat} {args : Array Value} {w W : World} {r : Value} (h : Cl w W) (c : Calls P f args W fun e w' => e = .returned r /\ W = w') : Calls P f args W fun e w' => e = .returned r /\ Cl w w' :=
 c.mono fun _ _ ⟨h1, h2⟩ => ⟨h1, h2 ▸ h⟩
theorem wp_region_cl {P : Program} {id : Nat} {Q : Exit -> Act -> World -> Prop} {a : Act} {w : World} {l : List Oper} (hm : P.follows .mixedOrders = true) (hB : Region.lexB .any l.toArray = true)
  (h : wpQuiet P l.toArray (Cl w) (fun a' => ∀ w', Cl w w' -> Q .normal a' w') l a) : (Code.region id l.toArray true).wp P Q a w :=
 wp_region_quiet (C := Cl w) hm hB ⟨rfl, rfl, rfl, Nat.le_refl _, fun _ _ => rfl⟩ (by simpa using h)
section
variable {P : Program} {ops : Array Oper} {C : World -> Prop} {Q : Act -> Prop} {a : Act} {o : Oper} {rest : List Oper}
theorem cl_val {v : Value} (hw : Region.wanted o (yielded ops a.tmps) = true) (h : ∀ W, C W -> o.quietAt P a C W v) (hk : wpQuiet P ops C Q rest (a.put o.dst v)) : wpQuiet P ops C Q (o :: rest) a :=
 BigFrame.wpQuiet_want hw (fun _ hK => ⟨v, h, hK _ hk⟩)
theorem cl_move (x : Operand) (hw : Region.wanted o (yielded ops a.tmps) = true) (h : o.op = .move x) (hk : wpQuiet P ops C Q rest (a.put o.dst (a.eval x))) : wpQuiet P ops C Q (o :: rest) a :=
 BigFrame.wpQuiet_want hw (fun _ hK => BigFrame.quiet_move x h (hK _ hk))
theorem cl_assign (x : Operand) (hw : Region.wanted o (yielded ops a.tmps) = true) (h : o.op = .assign x) (hk : wpQuiet P ops C Q rest (a.put o.dst (a.eval x))) : wpQuiet P ops C Q (o :: rest) a :=
 BigFrame.wpQuiet_want hw (fun _ hK => BigFrame.quiet_assign x h (hK _ hk))
theorem cl_skip (hw : Region.wanted o (yielded ops a.tmps) = false) (hk : wpQuiet P ops C Q rest (a.put o.dst undef)) : wpQuiet P ops C Q (o :: rest) a :=
 BigFrame.wpQuiet_skip hw hk
end
theorem step_append_is {P : Program} {ops : Array Oper} {o : Oper} {a : Act} {w w' : World} {K : Act -> World -> Prop} {Q : Exit -> Act -> World -> Prop} {E : Prop}
  (hg : o.guard = none) (s x : Operand) (t : TypeId) (hop : o.op = Op.call { callee := Callee.builtin Builtin.append, args := #[s, x], argTypes := #[t, t] }) (v src v' : Value) (hs : a.eval s = v) (hx : a.eval x = src)
  (hrun : (Builtin.append_ #[t, t] o.type #[v, src]).run P w = .ok v' w') (hK : K (a.put o.dst v') w') : if Region.wanted o (yielded ops a.tmps) = true then Oper.wp P o a w K Q else E := by
 have hw : Region.wanted o (yielded ops a.tmps) = true := by simp [Region.wanted, hg]
 rw [if_pos hw]
 unfold Oper.wp
 simp only [execOp, hop, resolve, invoke, builtin, Sem.run_bind, Sem.run_pure, Result.andThen_ok, List.map_toArray, List.map_cons, List.map_nil, hs, hx, hrun]
 exact hK
theorem step_call {P : Program} {ops : Array Oper} {o : Oper} {a : Act} {w : World} {K : Act -> World -> Prop} {Q : Exit -> Act -> World -> Prop} {E : Prop}
  (hg : o.guard = none) (f : Nat) (xs : Array Operand) (ts : Array TypeId) (hop : o.op = Op.call { callee := Callee.value (Operand.func f), args := xs, argTypes := ts }) (he : ∀ args w, (callFunc f args).run P w = .ok (.enter f args) w) (vals : Array Value) (hx : xs.map a.eval = vals)
  (R : Value -> World -> Prop) (C : Calls P f vals w fun e w' => ∃ r, e = .returned r /\ R r w') (hK : ∀ r w', R r w' -> K (a.put o.dst r) w') : if Region.wanted o (yielded ops a.tmps) = true then Oper.wp P o a w K Q else E := by
 have hw : Region.wanted o (yielded ops a.tmps) = true := by simp [Region.wanted, hg]
 rw [if_pos hw]
 have hr : (execOp a.eval o).run P w = .ok (.enter f vals) w := by
  simp [execOp, hop, resolve, invoke, Deferred.ofValue, hx, Act.eval, he]
 unfold Oper.wp
 rw [hr]
 refine C.mono ?_
 rintro e w' ⟨r, rfl, h⟩
 exact hK r w' h
theorem step_callg {P : Program} {ops : Array Oper} {o : Oper} {a : Act} {w : World} {K : Act -> World -> Prop} {Q : Exit -> Act -> World -> Prop} {E : Prop}
  (hw : Region.wanted o (yielded ops a.tmps) = true) (f : Nat) (xs : Array Operand) (ts : Array TypeId) (hop : o.op = Op.call { callee := Callee.value (Operand.func f), args := xs, argTypes := ts }) (he : ∀ args w, (callFunc f args).run P w = .ok (.enter f args) w) (vals : Array Value) (hx : xs.map a.eval = vals)
  (R : Value -> World -> Prop) (C : Calls P f vals w fun e w' => ∃ r, e = .returned r /\ R r w') (hK : ∀ r w', R r w' -> K (a.put o.dst r) w') : if Region.wanted o (yielded ops a.tmps) = true then Oper.wp P o a w K Q else E := by
 rw [if_pos hw]
 have hr : (execOp a.eval o).run P w = .ok (.enter f vals) w := by
  simp [execOp, hop, resolve, invoke, Deferred.ofValue, hx, Act.eval, he]
 unfold Oper.wp
 rw [hr]
 refine C.mono ?_
 rintro e w' ⟨r, rfl, h⟩
 exact hK r w' h
def Strs (W : World) (v : Value) (A : List ByteArray) : Prop := ∃ (a : Option Addr) (c : Nat), v = .slice a A.length c /\ ∀ j (h : j < A.length), ∃ g, a = some ⟨g, 0, none⟩ /\ g < W.heap.size /\ W.cell? ⟨g, j, none⟩ = some (.string A[j])
def sc (A : List ByteArray) : List Value := A.map Value.string
theorem sc_len (A : List ByteArray) : (sc A).length = A.length := by simp [sc]
theorem sc_snoc (A : List ByteArray) (x : ByteArray) : sc (A ++ [x]) = sc A ++ [.string x] := by simp [sc]
theorem Strs.of_row {W : World} {base : Nat} {v : Value} {A : List ByteArray} (h : Row W base 9 v (sc A)) : Strs W v A := by
 obtain ⟨a, c, rfl, _, _⟩ := h.shape
 rw [sc_len] at h
 refine ⟨a, c, by rw [sc_len], fun j hj => ?_⟩
 obtain ⟨g, rfl, hc⟩ := h.cell (j := j) (by rw [sc_len]; exact hj)
 refine ⟨g, rfl, (h.lt rfl).2, ?_⟩
 rw [hc]
 simp [sc, hj]
theorem Strs.below {W W' : World} {v : Value} {A : List ByteArray} (h : Strs W v A) (hb : Below W.heap.size W W') : Strs W' v A := by
 obtain ⟨a, c, rfl, hc⟩ := h
 refine ⟨a, c, rfl, fun j hj => ?_⟩
 obtain ⟨g, h1, h2, h3⟩ := hc j hj
 exact ⟨g, h1, Nat.lt_of_lt_of_le h2 hb.size, (hb.cell (p := ⟨g, j, none⟩) h2).trans h3⟩
theorem below_drewN (w : World) (n : Nat) : Below w.heap.size w (w.drewN n) := ⟨rfl, rfl, rfl, Nat.le_refl _, fun _ _ => rfl⟩
theorem bytes_eq (a b : ByteArray) : (a.toList == b.toList) = decide (a = b) := by
 rw [Lib.toList_data, Lib.toList_data, beq_list, Bool.eq_iff_iff]
 simp only [decide_eq_true_eq]
 constructor
 ·intro h
  cases a; cases b
  simp only [ByteArray.mk.injEq]
  exact Array.toList_inj.1 h
 ·rintro rfl; rfl
theorem take_snocA (A : List ByteArray) (k : Nat) (h : k < A.length) : A.take (k + 1) = A.take k ++ [A[k]] := List.take_succ_eq_append_getElem h
def fc (f : ByteArray × ByteArray) : List Value := [.string f.1, .string f.2]
def fcs (A : List (ByteArray × ByteArray)) : List Value := A.flatMap fc
theorem fcs_snoc (A : List (ByteArray × ByteArray)) (f : ByteArray × ByteArray) : fcs (A ++ [f]) = fcs A ++ fc f := by simp [fcs]
theorem fcs_at : ∀ (A : List (ByteArray × ByteArray)) (j : Nat) (h : j < A.length), (fcs A)[2 * j]? = some (.string A[j].1) /\ (fcs A)[2 * j + 1]? = some (.string A[j].2)
 | [], j, h => by simp at h
 | f :: r, 0, h => by simp [fcs, fc]
 | f :: r, j + 1, h => by
  have ih := fcs_at r j (by simpa using h)
  have e : fcs (f :: r) = .string f.1 :: .string f.2 :: fcs r := by simp [fcs, fc]
  rw [e]
  constructor
  ·rw [show 2 * (j + 1) = 2 * j + 1 + 1 by omega]; simpa using ih.1
  ·rw [show 2 * (j + 1) + 1 = 2 * j + 1 + 1 + 1 by omega]; simpa using ih.2
def Flds (W : World) (v : Value) (A : List (ByteArray × ByteArray)) : Prop := ∃ (a : Option Addr) (c : Nat), v = .slice a A.length c /\ (A.length <= c /\ (a = none -> c = 0)) /\ ∀ j (h : j < A.length), ∃ g o, a = some ⟨g, o, none⟩ /\ g < W.heap.size /\ W.cell? ⟨g, o + j * 2, none⟩ = some (.string A[j].1) /\ W.cell? ⟨g, o + j * 2 + 1, none⟩ = some (.string A[j].2)
theorem Flds.below {W W' : World} {v : Value} {A : List (ByteArray × ByteArray)} (h : Flds W v A) (hb : Below W.heap.size W W') : Flds W' v A := by
 obtain ⟨a, c, rfl, hl, hc⟩ := h
 refine ⟨a, c, rfl, hl, fun j hj => ?_⟩
 obtain ⟨g, o, h1, h2, h3, h4⟩ := hc j hj
 exact ⟨g, o, h1, Nat.lt_of_lt_of_le h2 hb.size, (hb.cell (p := ⟨g, o + j * 2, none⟩) h2).trans h3, (hb.cell (p := ⟨g, o + j * 2 + 1, none⟩) h2).trans h4⟩
def FRow (W : World) (base : Nat) (v : Value) (A : List (ByteArray × ByteArray)) : Prop := W.ownsRow base 92 2 v A.length (fcs A)
theorem FRow.nil (W : World) (base : Nat) : FRow W base (.slice none 0 0) [] := ⟨rfl, .inl ⟨rfl, rfl⟩⟩
theorem FRow.lt {W : World} {base : Nat} {v : Value} {A : List (ByteArray × ByteArray)} (h : FRow W base v A) {g : Nat} (hg : v.ownBlock = some g) : base <= g /\ g < W.heap.size := World.ownsRow.lt h g hg
theorem FRow.frame {W W' : World} {base : Nat} {v : Value} {A : List (ByteArray × ByteArray)} (h : FRow W base v A) (hb : ∀ g, v.ownBlock = some g -> W'.heap[g]? = W.heap[g]?) : FRow W' base v A := by
 refine ⟨h.1, ?_⟩
 rcases h.2 with x | ⟨g, cap, cur, rfl, h1, hg, hc, hm, hs, ht⟩
 ·exact .inl x
 ·exact .inr ⟨g, cap, cur, rfl, h1, (hb g rfl).trans hg, hc, hm, hs, ht⟩
theorem FRow.below {W W' : World} {base : Nat} {v : Value} {A : List (ByteArray × ByteArray)} (h : FRow W base v A) (hb : Below W.heap.size W W') : FRow W' base v A := h.frame fun g hg => hb.block g (h.lt hg).2
theorem FRow.shape {W : World} {base : Nat} {v : Value} {A : List (ByteArray × ByteArray)} (h : FRow W base v A) : ∃ a c, v = .slice a A.length c /\ A.length <= c /\ c <= maxLen := by
 rcases h.2 with ⟨rfl, h0⟩ | ⟨g, cap, cur, rfl, h1, hg, hc, hm, hs, ht⟩
 ·exact ⟨none, 0, by rw [h0], by omega, Nat.zero_le _⟩
 ·exact ⟨_, cap, rfl, hc, hm⟩
theorem Flds.of_row {W : World} {base : Nat} {v : Value} {A : List (ByteArray × ByteArray)} (h : FRow W base v A) : Flds W v A := by
 rcases h.2 with ⟨rfl, h0⟩ | ⟨g, cap, cur, rfl, h1, hg, hc, hm, hs, ht⟩
 ·exact ⟨none, 0, by rw [h0], ⟨by omega, fun _ => rfl⟩, fun j hj => by omega⟩
 ·refine ⟨_, cap, rfl, ⟨hc, fun h => by cases h⟩, fun j hj => ⟨g, 0, rfl, (h.lt rfl).2, ?_, ?_⟩⟩
  ·rw [cell_at hg, Nat.zero_add, Nat.mul_comm, <- (fcs_at A j hj).1, <- ht, List.getElem?_take, if_pos (by omega)]
   simp
  ·rw [cell_at hg, Nat.zero_add, Nat.mul_comm j 2, <- (fcs_at A j hj).2, <- ht, List.getElem?_take, if_pos (by omega)]
   simp
theorem infoF : ∃ i, Tryz.prog.info? 92 = some i /\ i.zero = some (.agg #[.string ByteArray.empty, .string ByteArray.empty]) /\ i.size = 2 /\ i.bytes = 32 := by
 have h : (Tryz.prog.info? 92).map (fun i => (i.zero, i.size, i.bytes)) = some (some (.agg #[.string ByteArray.empty, .string ByteArray.empty]), 2, 32) := by kernel_rfl
 obtain ⟨i, hi, hz⟩ := Option.map_eq_some_iff.1 h
 simp only [Prod.mk.injEq] at hz
 exact ⟨i, hi, hz.1, hz.2.1, hz.2.2⟩
theorem two_cells (w : World) (f : ByteArray × ByteArray) (j : Nat) (u : Value) (h : (fc f)[j]? = some u) : (w.alloc (.cells #[.string f.1, .string f.2] 92)).cell? ((⟨w.heap.size, 0, none⟩ : Addr).add j) = some u := by
 have e1 : ((⟨w.heap.size, 0, none⟩ : Addr).add j) = ⟨w.heap.size, j, none⟩ := by unfold Addr.add; split <;> simp_all
 rw [e1, cell_at (hp_new w _)]
 unfold fc at h
 rw [<- h]
 simp
theorem append_fld (W : World) (base : Nat) (ty : TypeId) (v : Value) (A : List (ByteArray × ByteArray)) (f : ByteArray × ByteArray) (hown : FRow W base v A) (hn : A.length <= 1099511627776) (hbase : base <= W.heap.size) :
  ∃ v' W', (Builtin.append_ #[25, 25] ty #[v, .slice (some ⟨W.heap.size, 0, none⟩) 1 1]).run Tryz.prog (W.alloc (.cells #[.string f.1, .string f.2] 92)) = .ok v' W' /\ FRow W' base v' (A ++ [f]) /\ Below base W W' := by
 obtain ⟨i, hi, hz, hs1, hb1⟩ := infoF
 have ho : FRow (W.alloc (.cells #[.string f.1, .string f.2] 92)) base v A := hown.frame fun g hg => Below.heap_alloc W _ g (hown.lt hg).2
 obtain ⟨v', W', hr, h1, hg, _⟩ := run_append_own (w := W.alloc (.cells #[.string f.1, .string f.2] 92)) base 25 ty 92 i _ 2 32 Tryz.underlying25 hi hz hs1 hb1 rfl (by omega) v A.length (fcs A) ho ⟨W.heap.size, 0, none⟩ 1 1 (fc f) rfl (two_cells W f) (by intro u hu; simp [fc] at hu; rcases hu with rfl | rfl <;> rfl) (by unfold maxLen; omega) (by omega) (by simp; omega)
 refine ⟨v', W', hr, ?_, ?_⟩
 ·unfold FRow
  rw [List.length_append, fcs_snoc]
  exact h1
 ·exact ((Below.refl base W).alloc hbase _).grown hg (by simp; omega) (fun k hk => (hown.lt hk).1)
theorem wpList_append_fld {ops : Array Oper} {rest : List Oper} {o : Oper} {a : Act} {Q : Exit -> Act -> World -> Prop} (hgd : o.guard = none) (s x : Operand)
  (ho : o.op = .call { callee := .builtin .append, args := #[s, x], argTypes := #[25, 25] }) (W : World) (base : Nat) (v : Value) (A : List (ByteArray × ByteArray)) (y1 y2 : ByteArray) (hs : a.eval s = v) (hx : a.eval x = .slice (some ⟨W.heap.size, 0, none⟩) 1 1)
  (hown : FRow W base v A) (hn : A.length <= 1099511627776) (hbase : base <= W.heap.size)
  (h : ∀ v' W', FRow W' base v' (A ++ [(y1, y2)]) -> Below base W W' -> wpList Tryz.prog ops Q rest (a.put o.dst v') W') : wpList Tryz.prog ops Q (o :: rest) a (W.alloc (.cells #[.string y1, .string y2] 92)) := by
 refine wpList_plain hgd fun K hK => ?_
 obtain ⟨v', W', hr, h2, h3⟩ := append_fld W base o.type v A (y1, y2) hown hn hbase
 unfold Oper.wp execOp
 simp only [ho, resolve, invoke, builtin, Sem.run_bind, Sem.run_pure, Result.andThen_ok, List.map_toArray, List.map_cons, List.map_nil, hs, hx, hr]
 exact hK _ _ (h v' W' h2 h3)
structure Kept (W W' : World) (v v' : Value) : Prop where
 size : W.heap.size <= W'.heap.size
 block : ∀ g, g < W.heap.size -> v.ownBlock ≠ some g -> W'.heap[g]? = W.heap[g]?
 apart : ∀ g, g < W.heap.size -> v.ownBlock ≠ some g -> v'.ownBlock ≠ some g
theorem Kept.refl (W : World) (v : Value) : Kept W W v v := ⟨Nat.le_refl _, fun _ _ _ => rfl, fun _ _ h => h⟩
theorem Kept.trans {A B C : World} {u v x : Value} (h : Kept A B u v) (k : Kept B C v x) : Kept A C u x :=
 ⟨Nat.le_trans h.size k.size, fun g hg hn => (k.block g (Nat.lt_of_lt_of_le hg h.size) (h.apart g hg hn)).trans (h.block g hg hn), fun g hg hn => k.apart g (Nat.lt_of_lt_of_le hg h.size) (h.apart g hg hn)⟩
theorem Kept.below {A B C : World} {u v : Value} (h : Kept A B u v) (hb : Below B.heap.size B C) : Kept A C u v :=
 ⟨Nat.le_trans h.size hb.size, fun g hg hn => (hb.block g (Nat.lt_of_lt_of_le hg h.size)).trans (h.block g hg hn), h.apart⟩
theorem Kept.cell {W W' : World} {v v' : Value} (h : Kept W W' v v') {g j : Nat} (hg : g < W.heap.size) (hn : v.ownBlock ≠ some g) : W'.cell? ⟨g, j, none⟩ = W.cell? ⟨g, j, none⟩ := by
 unfold World.cell?
 rw [h.block g hg hn]
theorem append_one_k {t e : TypeId} {z : Value} {bts : Nat} (E : El t e z bts) (W : World) (base : Nat) (ty : TypeId) (v : Value) (xs : List Value) (y : Value) (hown : Row W base e v xs) (hy : y.oneCell' = true) (hn : (xs.length + 1) * bts <= 140737488355328) (hn2 : xs.length + 1 <= 140737488355328) (hbase : base <= W.heap.size) :
  ∃ v' W', (Builtin.append_ #[t, t] ty #[v, .slice (some ⟨W.heap.size, 0, none⟩) 1 1]).run Tryz.prog (W.alloc (.cells #[y] e)) = .ok v' W' /\ Row W' base e v' (xs ++ [y]) /\ Below base W W' /\ Kept W W' v v' := by
 obtain ⟨i, hi, hz, hs1, hb1⟩ := E.i
 have ho : Row (W.alloc (.cells #[y] e)) base e v xs := hown.frame fun g hg => Below.heap_alloc W _ g (hown.lt hg).2
 have hsz : (W.alloc (.cells #[y] e)).heap.size = W.heap.size + 1 := by show (W.heap.push _).size = _; simp
 obtain ⟨v', W', hr, h1, hg, _, hloc⟩ := run_append_own_at (w := W.alloc (.cells #[y] e)) base t ty e i z 1 bts E.u hi hz hs1 hb1 E.z1 (by omega) v xs.length xs ho ⟨W.heap.size, 0, none⟩ 1 1 [y] rfl (one_cell W y e) (by intro u hu; simp at hu; subst hu; exact hy) (by unfold maxLen; omega) hn (by rw [hsz]; omega)
 refine ⟨v', W', hr, ?_, ?_, ?_⟩
 ·unfold Row
  rw [List.length_append]
  exact h1
 ·exact ((Below.refl base W).alloc hbase _).grown hg (by rw [hsz]; omega) (fun k hk => (hown.lt hk).1)
 ·have hs2 := hg.size
  refine ⟨by rw [hsz] at hs2; omega, fun g h2 h3 => ?_, fun g h2 h3 h4 => ?_⟩
  ·rw [hg.block g (by rw [hsz]; omega) (fun h => h3 h.symm)]
   exact Below.heap_alloc W _ g h2
  ·rcases hloc with h5 | h5
   ·exact h3 (h5.symm.trans h4)
   ·rw [h5, hsz] at h4
    simp only [Option.some.injEq] at h4
    omega
theorem wpList_append_one_k {t e : TypeId} {z : Value} {bts : Nat} (E : El t e z bts) {ops : Array Oper} {rest : List Oper} {o : Oper} {a : Act} {Q : Exit -> Act -> World -> Prop} (hgd : o.guard = none) (s x : Operand)
  (ho : o.op = .call { callee := .builtin .append, args := #[s, x], argTypes := #[t, t] }) (W : World) (base : Nat) (v : Value) (xs : List Value) (y : Value) (hs : a.eval s = v) (hx : a.eval x = .slice (some ⟨W.heap.size, 0, none⟩) 1 1)
  (hown : Row W base e v xs) (hy : y.oneCell' = true) (hn : (xs.length + 1) * bts <= 140737488355328) (hn2 : xs.length + 1 <= 140737488355328) (hbase : base <= W.heap.size)
  (h : ∀ v' W', Row W' base e v' (xs ++ [y]) -> Below base W W' -> Kept W W' v v' -> wpList Tryz.prog ops Q rest (a.put o.dst v') W') : wpList Tryz.prog ops Q (o :: rest) a (W.alloc (.cells #[y] e)) := by
 refine wpList_plain hgd fun K hK => ?_
 obtain ⟨v', W', hr, h2, h3, h4⟩ := append_one_k E W base o.type v xs y hown hy hn hn2 hbase
 unfold Oper.wp execOp
 simp only [ho, resolve, invoke, builtin, Sem.run_bind, Sem.run_pure, Result.andThen_ok, List.map_toArray, List.map_cons, List.map_nil, hs, hx, hr]
 exact hK _ _ (h v' W' h2 h3 h4)
structure Bl (w x : World) (L : List (Array Value × TypeId)) : Prop where
 hp : ∀ i c t, L[i]? = some (c, t) -> x.heap[w.heap.size + i]? = some (.cells c t)
 b : Below w.heap.size w x
theorem Bl.nil (w : World) : Bl w w [] := ⟨fun i c t h => by simp at h, Below.refl _ w⟩
theorem Bl.add {w x : World} {L : List (Array Value × TypeId)} (h : Bl w x L) (hs : x.heap.size = w.heap.size + L.length) (c : Array Value) (t : TypeId) : Bl w (x.alloc (.cells c t)) (L ++ [(c, t)]) := by
 refine ⟨fun i c' t' hi => ?_, h.b.alloc (by omega) _⟩
 by_cases hl : i < L.length
 ·rw [List.getElem?_append_left hl] at hi
  rw [Below.heap_alloc _ _ _ (by omega)]
  exact h.hp i c' t' hi
 ·have hi2 : i = L.length := by
   have := (List.getElem?_eq_some_iff.1 hi).1
   simp at this
   omega
  subst hi2
  simp at hi
  obtain ⟨rfl, rfl⟩ := hi
  rw [<- hs]
  exact hp_new _ _
theorem Bl.one (w : World) (c : Array Value) (t : TypeId) : Bl w (w.alloc (.cells c t)) [(c, t)] := (Bl.nil w).add rfl c t
theorem Bl.two (w : World) (c : Array Value) (t : TypeId) (c1 : Array Value) (t1 : TypeId) : Bl w ((w.alloc (.cells c t)).alloc (.cells c1 t1)) [(c, t), (c1, t1)] := (Bl.one w c t).add (by simp) c1 t1
theorem Bl.three (w : World) (c : Array Value) (t : TypeId) (c1 : Array Value) (t1 : TypeId) (c2 : Array Value) (t2 : TypeId) : Bl w (((w.alloc (.cells c t)).alloc (.cells c1 t1)).alloc (.cells c2 t2)) [(c, t), (c1, t1), (c2, t2)] := (Bl.two w c t c1 t1).add (by simp) c2 t2
theorem blk_lt {x : World} {b : Nat} {o : Obj} (h : x.heap[b]? = some o) : b < x.heap.size := (Array.getElem?_eq_some_iff.1 h).1
theorem Bl.below {w x y : World} {L : List (Array Value × TypeId)} (h : Bl w x L) (hb : Below x.heap.size x y) : Bl w y L :=
 ⟨fun i c t hi => (hb.block _ (blk_lt (h.hp i c t hi))).trans (h.hp i c t hi), h.b.trans (hb.mono h.b.size)⟩
theorem Bl.drew {w x : World} {L : List (Array Value × TypeId)} (h : Bl w x L) : Bl w x.drew L := h.below (Below.refl _ x).drew
theorem Bl.cell {w x : World} {L : List (Array Value × TypeId)} (h : Bl w x L) (i : Nat) {c : Array Value} {t : TypeId} (hi : L[i]? = some (c, t)) (j : Nat) : x.cell? ⟨w.heap.size + i, j, none⟩ = c[j]? := cell_at (h.hp i c t hi) j
theorem Bl.fr {w x : World} {L : List (Array Value × TypeId)} (h : Bl w x L) (i : Nat) {c : Array Value} {t : TypeId} (hi : L[i]? = some (c, t)) (j : Nat) : x.frozen? ⟨w.heap.size + i, j, none⟩ = false := by
 rw [frozen_at (h.hp i c t hi)]; simp
theorem Bl.set {w x : World} {L : List (Array Value × TypeId)} (h : Bl w x L) (i : Nat) {c : Array Value} {t : TypeId} (hi : L[i]? = some (c, t)) (j : Nat) (v : Value) : Bl w (x.setCell ⟨w.heap.size + i, j, none⟩ v) (L.set i (c.setIfInBounds j v, t)) := by
 have hlen := (List.getElem?_eq_some_iff.1 hi).1
 refine ⟨fun k c' t' hk => ?_, h.b.setCell (by simp) _⟩
 by_cases hki : k = i
 ·subst hki
  rw [List.getElem?_set_self hlen] at hk
  simp only [Option.some.injEq, Prod.mk.injEq] at hk
  obtain ⟨rfl, rfl⟩ := hk
  exact hp_set (h.hp k c t hi) j v
 ·rw [List.getElem?_set_ne (fun e => hki e.symm)] at hk
  rw [Below.heap_setCell _ _ _ _ (by simp; omega)]
  exact h.hp k c' t' hk
def lowS (s : ByteArray) : ByteArray := ⟨(lowerB s.data.toList).toArray⟩
theorem lowS_size (s : ByteArray) : (lowS s).size = s.size := by
 show (lowerB s.data.toList).length = s.size
 simp [lowerB]
theorem lowS_list (s : ByteArray) : (lowS s).data.toList = lowerB s.data.toList := by simp [lowS]
theorem lowc_up {c : UInt8} (h : 65 <= c.toNat) (h2 : c.toNat <= 90) : ((lowc c).toNat : Int) = c.toNat + 32 := by
 unfold lowc
 rw [if_pos ⟨h, h2⟩, UInt8.toNat_ofNat']
 omega
theorem lowc_id {c : UInt8} (h : ¬ (65 <= c.toNat /\ c.toNat <= 90)) : lowc c = c := by unfold lowc; rw [if_neg h]
structure Low (w wr : World) (s : ByteArray) (k : Nat) : Prop where
 blk : ∃ C, wr.heap[w.heap.size]? = some (.cells C 5 (C.size, C.size + 1)) /\ ∀ j (h : j < s.size), C[j]? = some (.int .u8 ((if j < k then lowc s[j] else s[j]).toNat : Int))
 below : Below w.heap.size w wr
theorem Low.start (w : World) (s : ByteArray) (cap : Nat) : Low w (w.drew.alloc (.cells (bytesRow s cap) 5 ((bytesRow s cap).size, (bytesRow s cap).size + 1))) s 0 := by
 refine ⟨⟨bytesRow s cap, hp_new w.drew _, fun j h => ?_⟩, ((Below.refl _ w).drew).alloc (Nat.le_refl _) _⟩
 rw [bytesRow_at s cap j h, if_neg (by omega)]
 rfl
theorem Low.cell {w wr : World} {s : ByteArray} {k : Nat} (h : Low w wr s k) (hk : k < s.size) : wr.cell? ⟨w.heap.size, k, none⟩ = some (.int .u8 (s[k].toNat : Int)) := by
 obtain ⟨C, h1, h2⟩ := h.blk
 rw [cell_at h1, h2 k hk, if_neg (by omega)]
theorem Low.frozen {w wr : World} {s : ByteArray} {k : Nat} (h : Low w wr s k) (hk : k < s.size) : wr.frozen? ⟨w.heap.size, k, none⟩ = false := by
 obtain ⟨C, h1, h2⟩ := h.blk
 have : k < C.size := by
  have := h2 k hk
  exact (Array.getElem?_eq_some_iff.1 this).1
 rw [frozen_at h1]
 simp; omega
theorem Low.skip {w wr : World} {s : ByteArray} {k : Nat} (h : Low w wr s k) (hk : k < s.size) (hi : lowc s[k] = s[k]) : Low w wr s (k + 1) := by
 obtain ⟨C, h1, h2⟩ := h.blk
 refine ⟨⟨C, h1, fun j hj => ?_⟩, h.below⟩
 rw [h2 j hj]
 by_cases e : j = k
 ·subst e
  rw [if_neg (by omega), if_pos (by omega), hi]
 ·by_cases e2 : j < k
  ·rw [if_pos e2, if_pos (by omega)]
  ·rw [if_neg e2, if_neg (by omega)]
theorem Low.step {w wr : World} {s : ByteArray} {k : Nat} (h : Low w wr s k) (hk : k < s.size) {x : Int} (hx : ((lowc s[k]).toNat : Int) = x) : Low w (wr.setCell ⟨w.heap.size, k, none⟩ (.int .u8 x)) s (k + 1) := by
 obtain ⟨C, h1, h2⟩ := h.blk
 have hC : k < C.size := (Array.getElem?_eq_some_iff.1 (h2 k hk)).1
 refine ⟨⟨C.setIfInBounds k (.int .u8 x), ?_, fun j hj => ?_⟩, h.below.setCell (Nat.le_refl _) _⟩
 ·have := hp_set h1 k (.int .u8 x)
  rw [this]
  simp
 ·rw [Array.getElem?_setIfInBounds]
  by_cases e : k = j
  ·subst e
   rw [if_pos rfl, if_pos hC, if_pos (by omega), hx]
  ·rw [if_neg e, h2 j hj]
   by_cases e2 : j < k
   ·rw [if_pos e2, if_pos (by omega)]
   ·rw [if_neg e2, if_neg (by omega)]
theorem Low.text {w wr : World} {s : ByteArray} {k : Nat} (h : Low w wr s k) (hk : s.size <= k) (cap : Nat) : (convert 24 9 (.slice (some ⟨w.heap.size, 0, none⟩) s.size cap)).run Tryz.prog wr = .ok (.string (lowS s)) wr := by
 obtain ⟨C, h1, h2⟩ := h.blk
 have hl : s.size = (lowerB s.data.toList).length := by simp [lowerB]
 rw [hl]
 refine run_convert_bytes_back wr 24 9 5 ⟨w.heap.size, 0, none⟩ cap (lowerB s.data.toList) Tryz.underlying24 Tryz.underlying5 Tryz.underlying9 (fun j hj => ?_)
 have e : (⟨w.heap.size, 0, none⟩ : Addr).add j = ⟨w.heap.size, j, none⟩ := by unfold Addr.add; split <;> simp_all
 rw [e, cell_at h1, h2 j (by omega), if_pos (by omega)]
 simp [lowerB]
 rfl
theorem lower_any (s : ByteArray) (w : World) (hs : s.size <= maxLen) :
  Calls Tryz.prog 135 #[.string s] w fun e w' => e = .returned (.string (lowS s)) /\ Below w.heap.size w w' := by
 unfold maxLen at hs
 have hconv := run_bytes_of_string (P := Tryz.prog) w 9 24 5 s Tryz.underlying9 Tryz.underlying24 Tryz.underlying5
 generalize grownCap w s.size 0 5 = cap at hconv
 have HS := hide (Low.start w s cap)
 go_enter Tryz.func135, Tryz.ntmps135
 go_wp2
 clear hconv
 go_loopw [10] (fun i wr => ∃ k : Nat, k <= s.size /\ i = .int .i64 k /\ Hid (Low w wr s k)) (fun i _ => s.size - (intOf i).toNat)
 case atStart => exact ⟨0, Nat.zero_le _, rfl, HS⟩
 case round =>
  clear HS
  obtain ⟨k, hk, rfl, H⟩ := hrel
  by_cases hlt : k < s.size
  ·have hc := H.out.cell hlt
   have hf := H.out.frozen hlt
   have hb := byte_lt s[k]
   by_cases hu : 65 <= s[k].toNat /\ s[k].toNat <= 90
   ·obtain ⟨h1, h2⟩ := hu
    have HL := hide (lowc_up h1 h2)
    go_wp2
    exact ⟨⟨k + 1, by omega, by go_num, H.out.step hlt (by rw [HL.out]; omega)⟩, by simp [intOf]; omega⟩
   ·have HL := hide (H.out.skip hlt (lowc_id hu))
    by_cases h1 : 65 <= s[k].toNat
    ·have h2 : 90 < s[k].toNat := by omega
     clear hu
     go_wp2
     exact ⟨⟨k + 1, by omega, by go_num, HL⟩, by simp [intOf]; omega⟩
    ·clear hu
     go_wp2
     exact ⟨⟨k + 1, by omega, by go_num, HL⟩, by simp [intOf]; omega⟩
  ·have ht := H.out.text (show s.size <= k by omega) cap
   go_wp2
   go_ret
   exact ⟨rfl, H.out.below⟩
/-! ### The document's -/
theorem low_snoc (s : ByteArray) (k : Nat) (h : k < s.size) : lowerB (s.data.toList.take (k + 1)) = lowerB (s.data.toList.take k) ++ [lowc s[k]] := by
 rw [take_snoc s k h]; simp [lowerB]
theorem low_len (s : ByteArray) (k : Nat) (h : k <= s.size) : (bc (lowerB (s.data.toList.take k))).length = k := by
 simp [bc, lowerB]; omega
theorem rlower_any (s : ByteArray) (w : World) (hs : s.size <= 140737488355328) :
  Calls Tryz.prog 70 #[.string s] w fun e w' => e = .returned (.string (lowS s)) /\ Below w.heap.size w w' := by
 go_enter Tryz.func70, Tryz.ntmps70
 go_wp2
 go_loopw [3, 4] (fun o i wr => ∃ k : Nat, k <= s.size /\ i = .int .i64 k /\ Hid (Row wr w.heap.size 5 o (bc (lowerB (s.data.toList.take k)))) /\ Hid (Below w.heap.size w wr)) (fun _ i _ => s.size - (intOf i).toNat)
 case atStart => exact ⟨0, Nat.zero_le _, rfl, hide (Row.nil _ _ _), hide (Below.refl _ _)⟩
 case round =>
  obtain ⟨k, hk, rfl, HR, HB⟩ := hrel
  have HN := hide (low_len s k hk)
  by_cases hlt : k < s.size
  ·have hb := byte_lt s[k]
   have HS := hide (low_snoc s k hlt)
   obtain ⟨a, c, rfl, _, _⟩ := HR.out.shape
   have HR2 : ∀ (x : Int) (v : Value) (W : World), ((lowc s[k]).toNat : Int) = x -> Row W w.heap.size 5 v (bc (lowerB (s.data.toList.take k)) ++ [.int .u8 x]) -> Row W w.heap.size 5 v (bc (lowerB (s.data.toList.take (k + 1)))) := by
    intro x v W hx h
    rw [HS.out, bc_snoc, hx]
    exact h
   have HR3 := hide HR2
   clear HR2
   by_cases hu : 65 <= s[k].toNat /\ s[k].toNat <= 90
   ·have HL := hide (lowc_up hu.1 hu.2)
    obtain ⟨h1, h2⟩ := hu
    go_wp2_with (at_builtin; apply Hid.out)
    unfold Hid
    refine wpList_append_one elB rfl _ _ rfl wr w.heap.size (.slice a (bc (lowerB (s.data.toList.take k))).length c) (bc (lowerB (s.data.toList.take k))) (.int .u8 ((s[k].toNat : Int) - 65 + 97)) rfl rfl HR.out rfl (by rw [HN.out]; omega) (by rw [HN.out]; omega) HB.out.size ?_
    intro v' w' O' B'
    have O2 := hide O'
    have B2 := hide (HB.out.trans B')
    clear O' B'
    go_wp2
    exact ⟨⟨k + 1, by omega, by go_num, hide (HR3.out _ _ _ (by rw [HL.out]; omega) O2.out), B2⟩, by simp [intOf]; omega⟩
   ·have HL := hide (lowc_id hu)
    by_cases h1 : 65 <= s[k].toNat
    ·have h2 : 90 < s[k].toNat := by omega
     clear hu
     go_wp2_with (at_builtin; apply Hid.out)
     unfold Hid
     refine wpList_append_one elB rfl _ _ rfl wr w.heap.size (.slice a (bc (lowerB (s.data.toList.take k))).length c) (bc (lowerB (s.data.toList.take k))) (.int .u8 (s[k].toNat : Int)) rfl rfl HR.out rfl (by rw [HN.out]; omega) (by rw [HN.out]; omega) HB.out.size ?_
     intro v' w' O' B'
     have O2 := hide O'
     have B2 := hide (HB.out.trans B')
     clear O' B'
     go_wp2
     exact ⟨⟨k + 1, by omega, by go_num, hide (HR3.out _ _ _ (by rw [HL.out]) O2.out), B2⟩, by simp [intOf]; omega⟩
    ·clear hu
     go_wp2_with (at_builtin; apply Hid.out)
     unfold Hid
     refine wpList_append_one elB rfl _ _ rfl wr w.heap.size (.slice a (bc (lowerB (s.data.toList.take k))).length c) (bc (lowerB (s.data.toList.take k))) (.int .u8 (s[k].toNat : Int)) rfl rfl HR.out rfl (by rw [HN.out]; omega) (by rw [HN.out]; omega) HB.out.size ?_
     intro v' w' O' B'
     have O2 := hide O'
     have B2 := hide (HB.out.trans B')
     clear O' B'
     go_wp2
     exact ⟨⟨k + 1, by omega, by go_num, hide (HR3.out _ _ _ (by rw [HL.out]) O2.out), B2⟩, by simp [intOf]; omega⟩
  ·have ht := HR.out.text
   rw [take_all s k (by omega)] at ht
   go_wp2
   go_ret
   exact ⟨rfl, HB.out⟩
theorem str_beq (a b : ByteArray) : (a.toList == b.toList) = decide (a.data.toList = b.data.toList) := by rw [Lib.toList_data, Lib.toList_data, beq_list]
theorem same_eq (a b : ByteArray) : ((lowS a).toList == (lowS b).toList) = sameB a.data.toList b.data.toList := by rw [str_beq, lowS_list, lowS_list]; rfl
end Go.Proofs.YtecjlcjaccijpaaGreatDoor
