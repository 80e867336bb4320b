/- QZ1: Pure Com Base Tok Val App Lists Pend Strs Lst RLst Num Low AppK Bcl Blk. -/
import Derived.Lib.SlTrimSet
import Derived.Lib.ItoaMem
import Derived.Test.YtekkhjlipijmcaaGreatDoorRows
import Derived.WalkKit
import Derived.ProofKit
import Derived.OpenShut
import Derived.Below
import Derived.Outline
import Derived.Test.YtekkhjlipijmcaaGreatDoorLib
import Derived.Lib.SlBytesConst
import Derived.Laws.AppendOwn
import Derived.Laws.OwnMore
import Derived.Laws.BytesArg
import Derived.Laws.IdiomStrings
import Derived.OwnWalk
import Derived.Deep.QuietTactic
import Derived.BigQuiet
import Derived.Maps.AppendAt
/- Package lexis as plain functions on lists of bytes, and what follows of them: no program in it. -/
namespace Go.Proofs.YtekkhjlipijmcaaGreatDoor

theorem snoc_ind {α : Type} {P : List α → Prop} (h0 : P []) (h1 : ∀ l c, P l → P (l ++ [c])) (l : List α) : P l := by
  have : ∀ r : List α, P r.reverse := by
    intro r
    induction r with
    | nil => exact h0
    | cons a r ih => rw [List.reverse_cons]; exact h1 _ _ ih
  simpa using this l.reverse
theorem dropWhile_len {α : Type} (p : α → Bool) : ∀ l : List α, (l.dropWhile p).length ≤ l.length
  | [] => Nat.le_refl _
  | a :: r => by
    rw [List.dropWhile_cons]
    split
    · exact Nat.le_succ_of_le (dropWhile_len p r)
    · exact Nat.le_refl _

/-! ### Bytes -/
def tokMarks : List UInt8 := [33, 35, 36, 37, 38, 39, 42, 43, 45, 46, 94, 95, 96, 124, 126]
def alnum (c : UInt8) : Bool := (decide (65 ≤ c.toNat) && decide (c.toNat ≤ 90)) || (decide (97 ≤ c.toNat) && decide (c.toNat ≤ 122)) || (decide (48 ≤ c.toNat) && decide (c.toNat ≤ 57))
def tokc (c : UInt8) : Bool := alnum c || tokMarks.contains c
def tokenB (l : List UInt8) : Bool := l.all tokc && !l.isEmpty
def blankc (c : UInt8) : Bool := decide (c.toNat = 9) || decide (c.toNat = 32)
def valc (c : UInt8) : Bool := decide (c.toNat = 9) || (decide (32 ≤ c.toNat) && !decide (c.toNat = 127))
def trimB (l : List UInt8) : List UInt8 := Lib.trimS l [9, 32]
def valueB (l : List UInt8) : Bool := l.all valc && decide (l = trimB l)
def lowc (c : UInt8) : UInt8 := if 65 ≤ c.toNat ∧ c.toNat ≤ 90 then UInt8.ofNat (c.toNat + 32) else c
def lowerB (l : List UInt8) : List UInt8 := l.map lowc
def sameB (a b : List UInt8) : Bool := decide (lowerB a = lowerB b)

theorem blankc_contains (c : UInt8) : [9, 32].contains c = blankc c := by
  unfold blankc
  rw [Bool.eq_iff_iff]
  simp only [List.contains_cons, List.contains_nil, Bool.or_false, Bool.or_eq_true, beq_iff_eq, decide_eq_true_eq]
  constructor
  · rintro (rfl | rfl) <;> simp
  · rintro (h | h)
    · exact .inl (UInt8.toNat_inj.1 (by simpa using h))
    · exact .inr (UInt8.toNat_inj.1 (by simpa using h))

def ltrim (l : List UInt8) : List UInt8 := l.dropWhile blankc
def rtrim (l : List UInt8) : List UInt8 := (l.reverse.dropWhile blankc).reverse
theorem trimB_eq (l : List UInt8) : trimB l = ltrim (rtrim l) := by
  have e : (fun c : UInt8 => [9, 32].contains c) = blankc := funext blankc_contains
  unfold trimB Lib.trimS Lib.trimLeftS Lib.trimRightS ltrim rtrim
  rw [e]

theorem ltrim_cons (c : UInt8) (l : List UInt8) : ltrim (c :: l) = if blankc c then ltrim l else c :: l := by
  unfold ltrim; rw [List.dropWhile_cons]
theorem rtrim_snoc (l : List UInt8) (c : UInt8) : rtrim (l ++ [c]) = if blankc c then rtrim l else l ++ [c] := by
  unfold rtrim
  rw [List.reverse_append, List.reverse_singleton, List.singleton_append, List.dropWhile_cons]
  split <;> simp
theorem rtrim_nil : rtrim [] = [] := rfl
theorem ltrim_nil : ltrim [] = [] := rfl
theorem ltrim_snoc (l : List UInt8) (c : UInt8) (h : blankc c = true) : ltrim (l ++ [c]) = if ltrim l = [] then [] else ltrim l ++ [c] := by
  induction l with
  | nil => simp [ltrim, h]
  | cons a l ih =>
    rw [List.cons_append, ltrim_cons, ltrim_cons]
    split
    · exact ih
    · simp
theorem ltrim_last (l : List UInt8) (c : UInt8) (h : blankc c = false) : ltrim (l ++ [c]) = ltrim l ++ [c] := by
  induction l with
  | nil => simp [ltrim, h]
  | cons a l ih =>
    rw [List.cons_append, ltrim_cons, ltrim_cons]
    split
    · exact ih
    · simp
/-- Which end is trimmed first does not matter. -/
theorem trim_comm (l : List UInt8) : ltrim (rtrim l) = rtrim (ltrim l) := by
  induction l using snoc_ind with
  | h0 => rfl
  | h1 l c ih =>
    rw [rtrim_snoc]
    by_cases h : blankc c = true
    · rw [if_pos h, ih, ltrim_snoc l c h]
      by_cases e : ltrim l = []
      · rw [if_pos e, e]
      · rw [if_neg e, rtrim_snoc, if_pos h]
    · have h' : blankc c = false := by simpa using h
      rw [if_neg h, ltrim_last l c h', rtrim_snoc, if_neg h]

theorem ltrim_le (l : List UInt8) : (ltrim l).length ≤ l.length := by
  unfold ltrim; exact dropWhile_len _ _
theorem rtrim_le (l : List UInt8) : (rtrim l).length ≤ l.length := by
  unfold rtrim; rw [List.length_reverse]; exact Nat.le_trans (dropWhile_len _ _) (by simp)
theorem trimB_le (l : List UInt8) : (trimB l).length ≤ l.length := by
  rw [trimB_eq]; exact Nat.le_trans (ltrim_le _) (rtrim_le _)

theorem ltrim_id_iff (l : List UInt8) : ltrim l = l ↔ ∀ c, l.head? = some c → blankc c = false := by
  cases l with
  | nil => simp [ltrim]
  | cons a r =>
    rw [ltrim_cons]
    by_cases h : blankc a = true
    · rw [if_pos h]
      constructor
      · intro e; have := ltrim_le r; rw [e, List.length_cons] at this; omega
      · intro e; have := e a rfl; rw [h] at this; cases this
    · rw [if_neg h]; simp at h; simp [h]
theorem rtrim_id_iff (l : List UInt8) : rtrim l = l ↔ ∀ c, l.getLast? = some c → blankc c = false := by
  induction l using snoc_ind with
  | h0 => simp [rtrim]
  | h1 l a _ =>
    rw [rtrim_snoc]
    by_cases h : blankc a = true
    · rw [if_pos h]
      constructor
      · intro e; have := rtrim_le l; rw [e, List.length_append, List.length_singleton] at this; omega
      · intro e; have := e a (by simp); rw [h] at this; cases this
    · rw [if_neg h]; simp at h; simp [h]

/-- A text is its own trimming just where neither end is a blank. -/
theorem trim_id (l : List UInt8) : (l = trimB l) ↔ (∀ c, l.head? = some c → blankc c = false) ∧ (∀ c, l.getLast? = some c → blankc c = false) := by
  rw [trimB_eq]
  constructor
  · intro e
    have h1 : rtrim l = l := by
      have a := ltrim_le (rtrim l)
      have b := rtrim_le l
      rw [← e] at a
      refine List.Sublist.eq_of_length (l₁ := rtrim l) ?_ (by omega)
      unfold rtrim
      have := List.dropWhile_sublist blankc (l := l.reverse)
      simpa using this.reverse
    rw [h1] at e
    exact ⟨(ltrim_id_iff l).1 e.symm, (rtrim_id_iff l).1 h1⟩
  · rintro ⟨h1, h2⟩
    rw [(rtrim_id_iff l).2 h2, (ltrim_id_iff l).2 h1]

/-! ### Numbers -/
/-- What a digit says; 16: it is none. -/
def digv (c : UInt8) : Nat :=
  if 65 ≤ c.toNat ∧ c.toNat ≤ 70 then c.toNat - 55 else if 97 ≤ c.toNat ∧ c.toNat ≤ 102 then c.toNat - 87 else if 48 ≤ c.toNat ∧ c.toNat ≤ 57 then c.toNat - 48 else 16
def top : Nat := 9007199254740992
def stp (base n : Nat) (c : UInt8) : Nat := if n ≤ top then n * base + digv c else n
def accu (base : Nat) (l : List UInt8) : Nat := l.foldl (stp base) 0
def numV (base : Nat) (l : List UInt8) : Nat := if l = [] ∨ ¬ (l.all fun c => decide (digv c < base)) ∨ top < accu base l then 0 else accu base l
def numE (base : Nat) (l : List UInt8) : Nat := if l = [] ∨ ¬ (l.all fun c => decide (digv c < base)) then 50 else if top < accu base l then 51 else 0

theorem accu_snoc (base : Nat) (l : List UInt8) (c : UInt8) : accu base (l ++ [c]) = stp base (accu base l) c := by simp [accu]
theorem digv_le (c : UInt8) : digv c ≤ 16 := by unfold digv; split <;> (try split) <;> (try split) <;> omega
theorem stp_le (base n : Nat) (c : UInt8) (hb : base ≤ 16) (h : n ≤ top * 16 + 16) : stp base n c ≤ top * 16 + 16 := by
  unfold stp
  have := digv_le c
  split
  · have : n * base ≤ top * 16 := Nat.mul_le_mul ‹_› hb
    omega
  · exact h
theorem accu_le (base : Nat) (hb : base ≤ 16) (l : List UInt8) : accu base l ≤ top * 16 + 16 := by
  induction l using snoc_ind with
  | h0 => simp [accu]
  | h1 l c ih => rw [accu_snoc]; exact stp_le base _ c hb ih

/-- A number in hex digits. -/
def hexc (d : Nat) : UInt8 := if d < 10 then UInt8.ofNat (48 + d) else UInt8.ofNat (87 + d)
def hexD (u : Nat) : List UInt8 :=
  if _h : u < 16 then [hexc u] else hexD (u / 16) ++ [hexc (u % 16)]
termination_by u
decreasing_by omega
def hexV (n : Int) : List UInt8 := if 0 ≤ n ∧ n ≤ 9007199254740992 then hexD n.toNat else []
def hexE (n : Int) : Nat := if 0 ≤ n ∧ n ≤ 9007199254740992 then 0 else 1

theorem digv_hexc : ∀ d : Fin 16, digv (hexc d.val) = d.val := by decide
theorem digv_hex {d : Nat} (h : d < 16) : digv (hexc d) = d := digv_hexc ⟨d, h⟩
theorem digv_decc : ∀ d : Fin 10, digv (UInt8.ofNat (48 + d.val)) = d.val := by decide
theorem digv_dec {d : Nat} (h : d < 10) : digv (UInt8.ofNat (48 + d)) = d := digv_decc ⟨d, h⟩

theorem hexD_ne (u : Nat) : hexD u ≠ [] := by rw [hexD]; split <;> simp
theorem decD_ne (u : Nat) : Lib.decDigits u ≠ [] := by rw [Lib.decDigits]; split <;> simp

theorem hexD_back (u : Nat) : u ≤ top → (hexD u).all (fun c => decide (digv c < 16)) = true ∧ accu 16 (hexD u) = u := by
  induction u using Nat.strongRecOn with
  | ind u ih =>
    intro hu
    rw [hexD]
    by_cases h : u < 16
    · rw [dif_pos h]
      simp [digv_hex h, h, accu, stp, top]
    · rw [dif_neg h]
      obtain ⟨h1, h2⟩ := ih (u / 16) (by omega) (by omega)
      have h3 : u % 16 < 16 := Nat.mod_lt _ (by decide)
      rw [List.all_append, h1, accu_snoc, h2]
      refine ⟨by simp [digv_hex h3, h3], ?_⟩
      unfold stp
      rw [if_pos (by omega), digv_hex h3]
      omega
theorem decD_back (u : Nat) : u ≤ top → (Lib.decDigits u).all (fun c => decide (digv c < 10)) = true ∧ accu 10 (Lib.decDigits u) = u := by
  induction u using Nat.strongRecOn with
  | ind u ih =>
    intro hu
    rw [Lib.decDigits]
    by_cases h : u < 10
    · rw [dif_pos h]
      have e := digv_dec h
      generalize UInt8.ofNat (48 + u) = c at e ⊢
      simp [e, h, accu, stp, top]
    · rw [dif_neg h]
      obtain ⟨h1, h2⟩ := ih (u / 10) (by omega) (by omega)
      have h3 : u % 10 < 10 := Nat.mod_lt _ (by decide)
      rw [List.all_append, h1, accu_snoc, h2]
      have e := digv_dec h3
      generalize UInt8.ofNat (48 + u % 10) = c at e ⊢
      refine ⟨by simp [e, h3], ?_⟩
      unfold stp
      rw [if_pos (by omega), e]
      omega
theorem num_hex {u : Nat} (h : u ≤ top) : numV 16 (hexD u) = u ∧ numE 16 (hexD u) = 0 := by
  obtain ⟨h1, h2⟩ := hexD_back u h
  have h3 := hexD_ne u
  have h4 : ¬ top < u := by omega
  unfold numV numE
  rw [h1, h2]
  simp [h3, h4]
theorem num_dec {u : Nat} (h : u ≤ top) : numV 10 (Lib.decDigits u) = u ∧ numE 10 (Lib.decDigits u) = 0 := by
  obtain ⟨h1, h2⟩ := decD_back u h
  have h3 := decD_ne u
  have h4 : ¬ top < u := by omega
  unfold numV numE
  rw [h1, h2]
  simp [h3, h4]
end Go.Proofs.YtekkhjlipijmcaaGreatDoor
/- Small laws on texts that all the walks take. -/
namespace Go.Proofs.YtekkhjlipijmcaaGreatDoor
open Go.ChangeShapes Go.WideShapes Go.ChangeAt Go.RowKit

theorem ret_bool {a b : Bool} (h : a = b) : Ending.returned (.bool a) = .returned (.bool b) := by rw [h]
theorem ret_int {k : IntKind} {a b : Int} (h : a = b) : Ending.returned (.int k a) = .returned (.int k b) := by rw [h]
theorem byte_lt (c : UInt8) : c.toNat < 256 := UInt8.toNat_lt c

theorem hide {p : Prop} (h : p) : Hid p := h
theorem take_snoc (s : ByteArray) (k : Nat) (h : k < s.size) : s.data.toList.take (k + 1) = s.data.toList.take k ++ [s[k]] := by
  rw [List.take_succ_eq_append_getElem (by simpa using h)]; rfl
theorem take_all (s : ByteArray) (k : Nat) (h : s.size ≤ k) : s.data.toList.take k = s.data.toList := List.take_of_length_le (by simpa using h)
theorem all_snoc (p : UInt8 → Bool) (s : ByteArray) (k : Nat) (h : k < s.size) : (s.data.toList.take (k + 1)).all p = ((s.data.toList.take k).all p && p s[k]) := by
  rw [take_snoc s k h, List.all_append]; simp
theorem all_no (p : UInt8 → Bool) (s : ByteArray) (k : Nat) (h : k < s.size) (hp : p s[k] = false) : s.data.toList.all p = false := by
  cases e : s.data.toList.all p with
  | false => rfl
  | true =>
    have := List.all_eq_true.1 e s[k] (by exact List.getElem_mem (by simpa using h) (l := s.data.toList))
    rw [hp] at this
    cases this
theorem size_len (s : ByteArray) : s.data.toList.length = s.size := by simp
theorem isEmpty_size (s : ByteArray) : s.data.toList.isEmpty = decide (s.size = 0) := by
  rw [← size_len]; cases s.data.toList <;> simp

theorem byte_eqI (a b : UInt8) : (((a.toNat : Int)) == (b.toNat : Int)) = (a == b) := by
  rw [Bool.eq_iff_iff]
  simp only [beq_iff_eq, Int.natCast_inj]
  exact UInt8.toNat_inj

theorem beq_list (a b : List UInt8) : (a == b) = decide (a = b) := by rw [Bool.eq_iff_iff]; simp
theorem ext_list (t : ByteArray) (i j : Nat) : (t.extract i j).data.toList = (t.data.toList.drop i).take (j - i) := by
  rw [ByteArray.data_extract, Array.toList_extract, List.extract_eq_take_drop]
theorem ext_size (t : ByteArray) (i j : Nat) : (t.extract i j).size = min j t.size - i := ByteArray.size_extract
theorem app_list (a b : ByteArray) : (a ++ b).data.toList = a.data.toList ++ b.data.toList := by rw [ByteArray.data_append]; simp
theorem app_size (a b : ByteArray) : (a ++ b).size = a.size + b.size := ByteArray.size_append
def strLen : Value → Nat
  | .string t => t.size
  | _ => 0
theorem head_list (t : ByteArray) (h : 0 < t.size) : t.data.toList = t[0] :: (t.extract 1 t.size).data.toList := by
  rw [ext_list]
  have : t.data.toList.length = t.size := size_len t
  cases e : t.data.toList with
  | nil => rw [e] at this; simp at this; omega
  | cons a r =>
    have h2 : t.data.toList[0]? = some t[0] := by rw [List.getElem?_eq_getElem (by omega)]; rfl
    rw [e] at h2 this
    simp only [List.length_cons] at this
    simp only [List.getElem?_cons_zero, Option.some.injEq] at h2
    rw [h2, List.drop_succ_cons, List.drop_zero, List.take_of_length_le (by omega)]
theorem last_list (t : ByteArray) (h : 0 < t.size) : t.data.toList = (t.extract 0 (t.size - 1)).data.toList ++ [t[t.size - 1]] := by
  have := take_snoc t (t.size - 1) (by omega)
  rw [Nat.sub_add_cancel h, take_all t t.size (Nat.le_refl _)] at this
  rw [ext_list, List.drop_zero, Nat.sub_zero]
  exact this
theorem nil_list (t : ByteArray) (h : ¬ 0 < t.size) : t.data.toList = [] := List.eq_nil_of_length_eq_zero (by rw [size_len]; omega)
end Go.Proofs.YtekkhjlipijmcaaGreatDoor
/- What the smallest functions of package lexis, and of the document's answer for it, tell of a byte. -/
namespace Go.Proofs.YtekkhjlipijmcaaGreatDoor
open Go.ChangeShapes Go.WideShapes Go.ChangeAt Go.RowKit

theorem indexByte_neg : ∀ (l : List UInt8) (c : UInt8), Lib.indexByte l c = -1 ∨ 0 ≤ Lib.indexByte l c
  | [], c => .inl rfl
  | b :: l, c => by
    unfold Lib.indexByte
    rcases indexByte_neg l c with h | h
    · split
      · right; omega
      · left; simp [h]
    · split
      · right; omega
      · split
        · left; rfl
        · right; omega
theorem indexByte_mem : ∀ (l : List UInt8) (c : UInt8), decide (0 ≤ Lib.indexByte l c) = l.contains c
  | [], c => rfl
  | b :: l, c => by
    have ih := indexByte_mem l c
    have hn := indexByte_neg l c
    unfold Lib.indexByte
    rw [List.contains_cons, ← ih]
    by_cases h : b = c
    · subst h; simp
    · have h1 : (b == c) = false := by simpa using h
      have h2 : (c == b) = false := by simpa using Ne.symm h
      rw [h1, h2]
      simp only [Bool.false_or]
      rcases hn with hn | hn
      · rw [hn]; simp
      · have h3 : (Lib.indexByte l c == -1) = false := by rw [beq_eq_false_iff_ne]; omega
        simp only [h3, Bool.false_eq_true, ↓reduceIte]
        congr 1
        rw [eq_iff_iff]
        omega

theorem alnum_yes {c : UInt8} (h : (65 ≤ c.toNat ∧ c.toNat ≤ 90) ∨ (97 ≤ c.toNat ∧ c.toNat ≤ 122) ∨ (48 ≤ c.toNat ∧ c.toNat ≤ 57)) : alnum c = true := by
  simp only [alnum, Bool.or_eq_true, Bool.and_eq_true, decide_eq_true_eq]; omega
theorem alnum_no {c : UInt8} (h : ¬ ((65 ≤ c.toNat ∧ c.toNat ≤ 90) ∨ (97 ≤ c.toNat ∧ c.toNat ≤ 122) ∨ (48 ≤ c.toNat ∧ c.toNat ≤ 57))) : alnum c = false := by
  cases e : alnum c with
  | false => rfl
  | true => simp only [alnum, Bool.or_eq_true, Bool.and_eq_true, decide_eq_true_eq] at e; omega
theorem tok_yes {c : UInt8} (h : alnum c = true) : true = tokc c := by unfold tokc; rw [h]; rfl
theorem tok_no {c : UInt8} (h : alnum c = false) : decide (0 ≤ Lib.indexByte [33, 35, 36, 37, 38, 39, 42, 43, 45, 46, 94, 95, 96, 124, 126] c) = tokc c := by
  rw [indexByte_mem]; unfold tokc; rw [h]; rfl

set_option maxHeartbeats 400000 in
theorem inToken_any (c : UInt8) (w : World) : Calls Tryz.prog 61 #[.int .u8 (c.toNat : Int)] w fun e w' => e = .returned (.bool (tokc c)) ∧ w = w' := by
  have hc := byte_lt c
  go_enter Tryz.func61, Tryz.ntmps61
  go_wp2_with (go_at_call 80; refine (Tryz.strings_IndexByte _ _ _).mono ?_; rintro e w' ⟨rfl, rfl⟩)
  all_goals go_ret
  all_goals first
    | exact ⟨ret_bool (tok_yes (alnum_yes (by omega))), rfl⟩
    | exact ⟨ret_bool (tok_no (alnum_no (by omega))), rfl⟩

theorem inValue_any (c : UInt8) (w : World) : Calls Tryz.prog 62 #[.int .u8 (c.toNat : Int)] w fun e w' => e = .returned (.bool (valc c)) ∧ w = w' := by
  have hc := byte_lt c
  by_cases h9 : c.toNat = 9
  · have t : (((c.toNat : Int)) == 9) = true := beq_iff_eq.2 (by omega)
    go_enter Tryz.func62, Tryz.ntmps62
    go_wp2
    all_goals go_ret
    all_goals exact ⟨ret_bool (by simp [valc, h9]), rfl⟩
  · have t : (((c.toNat : Int)) == 9) = false := beq_eq_false_iff_ne.2 (by omega)
    by_cases h32 : 32 ≤ c.toNat
    · by_cases h127 : c.toNat = 127
      · have t2 : (((c.toNat : Int)) != 127) = false := by rw [bne_eq_false_iff_eq]; omega
        go_enter Tryz.func62, Tryz.ntmps62
        go_wp2
        all_goals go_ret
        all_goals exact ⟨ret_bool (by simp [valc, h127]), rfl⟩
      · have t2 : (((c.toNat : Int)) != 127) = true := by rw [bne_iff_ne]; omega
        go_enter Tryz.func62, Tryz.ntmps62
        go_wp2
        all_goals go_ret
        all_goals exact ⟨ret_bool (by simp [valc, h9, h32, h127]), rfl⟩
    · go_enter Tryz.func62, Tryz.ntmps62
      go_wp2
      all_goals go_ret
      all_goals exact ⟨ret_bool (by simp [valc, h9, h32]), rfl⟩

theorem blank_any (c : UInt8) (w : World) : Calls Tryz.prog 75 #[.int .u8 (c.toNat : Int)] w fun e w' => e = .returned (.bool (blankc c)) ∧ w = w' := by
  have hc := byte_lt c
  by_cases h9 : c.toNat = 9
  · have t : (((c.toNat : Int)) == 9) = true := beq_iff_eq.2 (by omega)
    go_enter Tryz.func75, Tryz.ntmps75
    go_wp2
    go_ret
    exact ⟨ret_bool (by simp [blankc, h9]), rfl⟩
  · have t : (((c.toNat : Int)) == 9) = false := beq_eq_false_iff_ne.2 (by omega)
    by_cases h32 : c.toNat = 32
    · have t2 : (((c.toNat : Int)) == 32) = true := beq_iff_eq.2 (by omega)
      go_enter Tryz.func75, Tryz.ntmps75
      go_wp2
      go_ret
      exact ⟨ret_bool (by simp [blankc, h32]), rfl⟩
    · have t2 : (((c.toNat : Int)) == 32) = false := beq_eq_false_iff_ne.2 (by omega)
      go_enter Tryz.func75, Tryz.ntmps75
      go_wp2
      go_ret
      exact ⟨ret_bool (by simp [blankc, h9, h32]), rfl⟩
end Go.Proofs.YtekkhjlipijmcaaGreatDoor
/- Tokens: what the program tells of a text, and what the document's answer does, are one plain function. -/
namespace Go.Proofs.YtekkhjlipijmcaaGreatDoor
open Go.ChangeShapes Go.WideShapes Go.ChangeAt Go.RowKit

theorem token_yes {s : ByteArray} {k : Nat} (hk : s.size ≤ k) (h : (s.data.toList.take k).all tokc = true) (h0 : 0 < s.size) : true = tokenB s.data.toList := by
  rw [take_all s k hk] at h
  unfold tokenB
  rw [h, isEmpty_size, decide_eq_false (by omega)]
  rfl
theorem token_empty {s : ByteArray} (h0 : s.size = 0) : false = tokenB s.data.toList := by
  unfold tokenB
  rw [isEmpty_size]
  simp [h0]
theorem token_no {s : ByteArray} {k : Nat} (h : k < s.size) (hp : tokc s[k] = false) : false = tokenB s.data.toList := by
  unfold tokenB
  rw [all_no tokc s k h hp]
  rfl

theorem token_end {s : ByteArray} {k : Nat} (hk : s.size ≤ k) (h : (s.data.toList.take k).all tokc = true) : (!s.toList.isEmpty) = tokenB s.data.toList := by
  rw [take_all s k hk] at h
  unfold tokenB
  rw [h, Lib.toList_data]
  rfl

set_option maxHeartbeats 400000 in
theorem token_any (s : ByteArray) (w : World) (hs : s.size ≤ maxLen) :
    Calls Tryz.prog 43 #[.string s] w fun e w' => e = .returned (.bool (tokenB s.data.toList)) ∧ w = w' := by
  unfold maxLen at hs
  go_enter Tryz.func43, Tryz.ntmps43
  go_wp2
  go_loop [6] (fun i => ∃ k : Nat, k ≤ s.size ∧ i = .int .i64 k ∧ Hid ((s.data.toList.take k).all tokc = true)) (fun i => s.size - (intOf i).toNat)
  case atStart => exact ⟨0, Nat.zero_le _, rfl, by simp [Hid]⟩
  case round =>
    obtain ⟨k, hk, rfl, H⟩ := hrel
    by_cases hlt : k < s.size
    · cases ht : tokc s[k] with
      | true =>
        go_wp2_with (go_at_call 61; refine (inToken_any _ _).mono ?_; rintro e w' ⟨rfl, rfl⟩)
        go_round
        case rel => exact ⟨k + 1, by omega, by go_num, by show _ = _; rw [all_snoc tokc s k hlt, H.out, ht]; rfl⟩
        case measure => simp [intOf]; omega
      | false =>
        go_wp2_with (go_at_call 61; refine (inToken_any _ _).mono ?_; rintro e w' ⟨rfl, rfl⟩)
        go_ret
        exact ⟨ret_bool (token_no hlt ht), rfl⟩
    · go_wp2_with fail
      go_ret
      exact ⟨ret_bool (token_end (by omega) H.out), rfl⟩

/-! ### The document's answer -/
theorem marks_get : ∀ k : Fin 15, tokMarks[k.val]? = some (tokMarks.getD k.val 0) := by decide
theorem contains_snoc (c : UInt8) (k : Nat) (h : k < 15) : (tokMarks.take (k + 1)).contains c = ((tokMarks.take k).contains c || c == tokMarks.getD k 0) := by
  rw [List.take_add_one, marks_get ⟨k, h⟩]
  rw [Bool.eq_iff_iff]
  simp [List.contains_eq_mem, List.mem_append]
theorem mark_cells : ∀ k : Fin 15, (#[.int .u8 33, .int .u8 35, .int .u8 36, .int .u8 37, .int .u8 38, .int .u8 39, .int .u8 42, .int .u8 43, .int .u8 45, .int .u8 46, .int .u8 94, .int .u8 95, .int .u8 96, .int .u8 124, .int .u8 126] : Array Value)[k.val]? = some (.int .u8 ((tokMarks.getD k.val 0).toNat : Int)) := by
  intro k
  match k with
  | ⟨0, _⟩ => rfl
  | ⟨1, _⟩ => rfl
  | ⟨2, _⟩ => rfl
  | ⟨3, _⟩ => rfl
  | ⟨4, _⟩ => rfl
  | ⟨5, _⟩ => rfl
  | ⟨6, _⟩ => rfl
  | ⟨7, _⟩ => rfl
  | ⟨8, _⟩ => rfl
  | ⟨9, _⟩ => rfl
  | ⟨10, _⟩ => rfl
  | ⟨11, _⟩ => rfl
  | ⟨12, _⟩ => rfl
  | ⟨13, _⟩ => rfl
  | ⟨14, _⟩ => rfl
theorem mark_cell (w : World) (k : Nat) (h : k < 15) : (w.alloc (.cells #[.int .u8 33, .int .u8 35, .int .u8 36, .int .u8 37, .int .u8 38, .int .u8 39, .int .u8 42, .int .u8 43, .int .u8 45, .int .u8 46, .int .u8 94, .int .u8 95, .int .u8 96, .int .u8 124, .int .u8 126] 5 (15, 16))).cell? ⟨w.heap.size, k, none⟩ = some (.int .u8 ((tokMarks.getD k 0).toNat : Int)) := by
  rw [World.cell?_alloc_mark]
  exact mark_cells ⟨k, h⟩
set_option maxHeartbeats 400000 in
set_option maxRecDepth 100000 in
theorem tchar_any (c : UInt8) (w : World) : Calls Tryz.prog 74 #[.int .u8 (c.toNat : Int)] w fun e w' => e = .returned (.bool (tokc c)) ∧ Below w.heap.size w w' := by
  have hc := byte_lt c
  by_cases ha : alnum c = true
  · have h : (65 ≤ c.toNat ∧ c.toNat ≤ 90) ∨ (97 ≤ c.toNat ∧ c.toNat ≤ 122) ∨ (48 ≤ c.toNat ∧ c.toNat ≤ 57) := by
      simp only [alnum, Bool.or_eq_true, Bool.and_eq_true, decide_eq_true_eq] at ha; omega
    have H := ha
    rcases h with ⟨h1, h2⟩ | ⟨h1, h2⟩ | ⟨h1, h2⟩
    all_goals
      clear ha
      have HH : Hid (alnum c = true) := H
      clear H
      go_enter Tryz.func74, Tryz.ntmps74
      go_wp2
      go_ret
      exact ⟨ret_bool (tok_yes HH.out), Below.refl _ _⟩
  · have hn : Hid (alnum c = false) := by show _ = _; simpa using ha
    have h : ¬ ((65 ≤ c.toNat ∧ c.toNat ≤ 90) ∨ (97 ≤ c.toNat ∧ c.toNat ≤ 122) ∨ (48 ≤ c.toNat ∧ c.toNat ≤ 57)) := by
      simp only [alnum, Bool.or_eq_true, Bool.and_eq_true, decide_eq_true_eq] at ha; omega
    clear ha
    have HCELL := hide (mark_cell w)
    have hconv := Lib.run_convert_bytes_const (P := Tryz.prog) w 99 5 #[.int .u8 33, .int .u8 35, .int .u8 36, .int .u8 37, .int .u8 38, .int .u8 39, .int .u8 42, .int .u8 43, .int .u8 45, .int .u8 46, .int .u8 94, .int .u8 95, .int .u8 96, .int .u8 124, .int .u8 126] 15 15 Tryz.underlying99 Tryz.underlying5
    simp only [List.size_toArray, List.length_cons, List.length_nil, Nat.reduceAdd] at hconv
    have h' : (65 ≤ c.toNat ∧ 90 < c.toNat ∧ 97 ≤ c.toNat ∧ 122 < c.toNat) ∨ (65 ≤ c.toNat ∧ 90 < c.toNat ∧ c.toNat < 97) ∨ (57 < c.toNat ∧ c.toNat < 65) ∨ c.toNat < 48 := by omega
    clear h
    go_enter Tryz.func74, Tryz.ntmps74
    rcases h' with ⟨h1, h2, h3, h4⟩ | ⟨h1, h2, h3⟩ | ⟨h1, h2⟩ | h1
    all_goals
      go_wp2
      go_loop [30] (fun i => ∃ k : Nat, k ≤ 15 ∧ i = .int .i64 k ∧ Hid ((tokMarks.take k).contains c = false)) (fun i => 15 - (intOf i).toNat)
      case atStart => exact ⟨0, Nat.zero_le _, rfl, by simp [Hid]⟩
      case round =>
        obtain ⟨k, hk, rfl, H⟩ := hrel
        by_cases hlt : k < 15
        · have hcs := contains_snoc c k hlt
          have hck := HCELL.out k hlt
          have hme : tokMarks.contains (tokMarks.getD k 0) = true := by
            rw [List.contains_eq_mem, decide_eq_true_eq, List.getD_eq_getElem?_getD, List.getElem?_eq_getElem (by simpa [tokMarks] using hlt), Option.getD_some]
            exact List.getElem_mem _
          generalize tokMarks.getD k 0 = x at hcs hck hme
          have hbe := byte_eqI c x
          cases ht : (c == x) with
          | true =>
            rw [ht] at hbe
            have HT : Hid (tokc c = true) := by
              show _ = _
              unfold tokc; rw [eq_of_beq ht, hme]; simp
            clear ht hcs hme
            go_wp2
            go_ret
            exact ⟨ret_bool HT.out.symm, (Below.refl _ _).alloc (Nat.le_refl _) _⟩
          | false =>
            rw [ht] at hbe
            have HC : Hid ((tokMarks.take (k + 1)).contains c = false) := by show _ = _; rw [hcs, H.out, ht]; rfl
            clear ht hcs hme
            go_wp2
            go_round
            case rel => exact ⟨k + 1, by omega, by go_num, HC⟩
            case measure => simp [intOf]; omega
        · have e : k = 15 := by omega
          subst e
          have HT : Hid (tokc c = false) := by
            show _ = _
            unfold tokc
            rw [hn.out]
            exact H.out
          go_wp2
          go_ret
          exact ⟨ret_bool HT.out.symm, (Below.refl _ _).alloc (Nat.le_refl _) _⟩
end Go.Proofs.YtekkhjlipijmcaaGreatDoor
/- Values and trimmed texts: the program's and the document's. -/
namespace Go.Proofs.YtekkhjlipijmcaaGreatDoor
open Go.ChangeShapes Go.WideShapes Go.ChangeAt Go.RowKit

theorem token_pos {s : ByteArray} {k : Nat} (hk : s.size ≤ k) (h : (s.data.toList.take k).all tokc = true) : decide (0 < s.size) = tokenB s.data.toList := by
  rw [take_all s k hk] at h
  unfold tokenB
  rw [h, isEmpty_size, Bool.eq_iff_iff]
  simp only [Bool.true_and, Bool.not_eq_true', decide_eq_true_eq, decide_eq_false_iff_not]
  omega

set_option maxHeartbeats 400000 in
theorem rtoken_any (s : ByteArray) (w : World) (hs : s.size ≤ maxLen) :
    Calls Tryz.prog 52 #[.string s] w fun e w' => e = .returned (.bool (tokenB s.data.toList)) ∧ Below w.heap.size w w' := by
  unfold maxLen at hs
  go_enter Tryz.func52, Tryz.ntmps52
  go_wp2
  go_loopw [3] (fun i wr => ∃ k : Nat, k ≤ s.size ∧ i = .int .i64 k ∧ Hid ((s.data.toList.take k).all tokc = true) ∧ Hid (Below w.heap.size w wr)) (fun i _ => s.size - (intOf i).toNat)
  case atStart => exact ⟨0, Nat.zero_le _, rfl, by simp [Hid], Below.refl _ _⟩
  case round =>
    obtain ⟨k, hk, rfl, H, HB⟩ := hrel
    by_cases hlt : k < s.size
    · cases ht : tokc s[k] with
      | true =>
        go_wp2_with (go_at_call 74; refine (tchar_any _ _).mono ?_; rintro e w' ⟨rfl, hb⟩)
        go_roundw
        case rel => exact ⟨k + 1, by omega, by go_num, by show _ = _; rw [all_snoc tokc s k hlt, H.out, ht]; rfl, HB.out.trans (hb.mono HB.out.size)⟩
        case measure => simp [intOf]; omega
      | false =>
        go_wp2_with (go_at_call 74; refine (tchar_any _ _).mono ?_; rintro e w' ⟨rfl, hb⟩)
        go_ret
        exact ⟨ret_bool (token_no hlt ht), HB.out.trans (hb.mono HB.out.size)⟩
    · go_wp2_with fail
      go_ret
      exact ⟨ret_bool (token_pos (by omega) H.out), HB.out⟩

/-! ### Trimmed -/
def trimS (s : ByteArray) : ByteArray := ⟨(trimB s.data.toList).toArray⟩
theorem trim_size (s : ByteArray) : (trimS s).size ≤ s.size := by
  have := trimB_le s.data.toList
  rw [size_len] at this
  exact this
theorem strim_any (s : ByteArray) (w : World) (hs : s.size ≤ maxLen) :
    Calls Tryz.prog 63 #[.string s, .string ⟨#[9, 32]⟩] w fun e w' => e = .returned (.string (trimS s)) ∧ Below w.heap.size w w' :=
  Any.strings_Trim_laid Tryz.lays160 (by kernel_rfl) s ⟨#[9, 32]⟩ w hs (by decide) (ascii_of_all (by decide))
theorem clone_any (s : ByteArray) (w : World) (hs : s.size ≤ 281474976710656) :
    Calls Tryz.prog 92 #[.string s] w fun e w' => e = .returned (.string s) ∧ Below w.heap.size w w' := by
  go_enter Tryz.func92, Tryz.ntmps92
  go_wp2_with (go_at_call 112; refine (Tryz.stringslite_Clone _ _ hs).mono ?_; rintro e w' ⟨rfl, hb⟩)
  go_ret
  exact ⟨rfl, hb⟩
theorem value_end {s r : ByteArray} {k : Nat} (hk : s.size ≤ k) (h : (s.data.toList.take k).all valc = true) (hr : trimS s = r) : (s.toList == r.toList) = valueB s.data.toList := by
  rw [take_all s k hk] at h
  subst hr
  unfold valueB
  rw [h, Lib.toList_data, Lib.toList_data, beq_list]
  rfl

set_option maxHeartbeats 400000 in
theorem value_any (s : ByteArray) (w : World) (hs : s.size ≤ maxLen) :
    Calls Tryz.prog 44 #[.string s] w fun e w' => e = .returned (.bool (valueB s.data.toList)) ∧ Below w.heap.size w w' := by
  have hT := hide (fun w => strim_any s w hs)
  generalize hr : trimS s = r at hT
  have HR := hide hr
  clear hr
  unfold maxLen at hs
  go_enter Tryz.func44, Tryz.ntmps44
  go_wp2
  go_loop [6] (fun i => ∃ k : Nat, k ≤ s.size ∧ i = .int .i64 k ∧ Hid ((s.data.toList.take k).all valc = true)) (fun i => s.size - (intOf i).toNat)
  case atStart => exact ⟨0, Nat.zero_le _, rfl, by simp [Hid]⟩
  case round =>
    obtain ⟨k, hk, rfl, H⟩ := hrel
    by_cases hlt : k < s.size
    · cases ht : valc s[k] with
      | true =>
        go_wp2_with (go_at_call 62; refine (inValue_any _ _).mono ?_; rintro e w' ⟨rfl, rfl⟩)
        go_round
        case rel => exact ⟨k + 1, by omega, by go_num, by show _ = _; rw [all_snoc valc s k hlt, H.out, ht]; rfl⟩
        case measure => simp [intOf]; omega
      | false =>
        go_wp2_with (go_at_call 62; refine (inValue_any _ _).mono ?_; rintro e w' ⟨rfl, rfl⟩)
        go_ret
        exact ⟨ret_bool (by unfold valueB; rw [all_no valc s k hlt ht]; rfl), Below.refl _ _⟩
    · go_wp2_with (go_at_call 63; refine (hT.out _).mono ?_; rintro e w1 ⟨rfl, hb1⟩)
      go_ret
      exact ⟨ret_bool (value_end (by omega) H.out HR.out), hb1⟩

/-! ### Pieces of a text -/
theorem ltrim_blank {t : ByteArray} (h : 0 < t.size) (hb : blankc t[0] = true) : ltrim t.data.toList = ltrim (t.extract 1 t.size).data.toList := by
  rw [head_list t h, ltrim_cons, if_pos hb]
theorem ltrim_stop {t : ByteArray} (h : 0 < t.size) (hb : blankc t[0] = false) : ltrim t.data.toList = t.data.toList := by
  rw [head_list t h, ltrim_cons, if_neg (by rw [hb]; simp)]
theorem rtrim_blank {t : ByteArray} (h : 0 < t.size) (hb : blankc t[t.size - 1] = true) : rtrim t.data.toList = rtrim (t.extract 0 (t.size - 1)).data.toList := by
  rw [last_list t h, rtrim_snoc, if_pos hb]
theorem rtrim_stop {t : ByteArray} (h : 0 < t.size) (hb : blankc t[t.size - 1] = false) : rtrim t.data.toList = t.data.toList := by
  rw [last_list t h, rtrim_snoc, if_neg (by rw [hb]; simp)]
theorem trim_end {s t : ByteArray} (h : rtrim (ltrim s.data.toList) = rtrim t.data.toList) (h2 : rtrim t.data.toList = t.data.toList) : Ending.returned (.string t) = .returned (.string (trimS s)) := by
  have e : trimS s = t := by
    unfold trimS
    rw [trimB_eq, trim_comm, h, h2]
  rw [e]

theorem valc_ref (c : UInt8) : valc c = (decide (c.toNat = 9) || (decide (32 ≤ c.toNat) && decide (c.toNat ≤ 126)) || decide (128 ≤ c.toNat)) := by
  rw [Bool.eq_iff_iff]
  simp only [valc, Bool.or_eq_true, Bool.and_eq_true, Bool.not_eq_true', decide_eq_true_eq, decide_eq_false_iff_not]
  omega
theorem value_ends {s : ByteArray} {k : Nat} (hk : s.size ≤ k) (h : (s.data.toList.take k).all valc = true) (h0 : 0 < s.size) : (!blankc s[0] && !blankc s[s.size - 1]) = valueB s.data.toList := by
  rw [take_all s k hk] at h
  unfold valueB
  rw [h, Bool.true_and, Bool.eq_iff_iff]
  simp only [Bool.and_eq_true, Bool.not_eq_true', decide_eq_true_eq]
  rw [trim_id]
  have e1 : s.data.toList.head? = some s[0] := by rw [head_list s h0]; rfl
  have e2 : s.data.toList.getLast? = some s[s.size - 1] := by rw [last_list s h0]; simp
  rw [e1, e2]
  simp
theorem value_nil {s : ByteArray} (h0 : ¬ 0 < s.size) : true = valueB s.data.toList := by
  rw [nil_list s h0]; simp [valueB, trimB_eq, ltrim, rtrim]

set_option maxHeartbeats 400000 in
theorem rvalue_any (s : ByteArray) (w : World) (hs : s.size ≤ maxLen) :
    Calls Tryz.prog 53 #[.string s] w fun e w' => e = .returned (.bool (valueB s.data.toList)) ∧ w = w' := by
  unfold maxLen at hs
  go_enter Tryz.func53, Tryz.ntmps53
  go_wp2
  go_loop [4] (fun i => ∃ k : Nat, k ≤ s.size ∧ i = .int .i64 k ∧ Hid ((s.data.toList.take k).all valc = true)) (fun i => s.size - (intOf i).toNat)
  case atStart => exact ⟨0, Nat.zero_le _, rfl, by simp [Hid]⟩
  case round =>
    obtain ⟨k, hk, rfl, H⟩ := hrel
    by_cases hlt : k < s.size
    · have hl := byte_lt s[k]
      have hv := hide (valc_ref s[k])
      have H9 : s[k].toNat = 9 ∨ (s[k].toNat ≠ 9 ∧ 32 ≤ s[k].toNat ∧ s[k].toNat ≤ 126) ∨ (128 ≤ s[k].toNat) ∨ (s[k].toNat ≠ 9 ∧ s[k].toNat < 32) ∨ s[k].toNat = 127 := by omega
      rcases H9 with h | h | h | h | h
      · have t : (((s[k].toNat : Int)) == 9) = true := beq_iff_eq.2 (by omega)
        have ht : Hid (valc s[k] = true) := by show _ = _; rw [hv.out]; simp; omega
        clear h
        go_wp2
        all_goals
          go_round
          case rel => exact ⟨k + 1, by omega, by go_num, by show _ = _; rw [all_snoc valc s k hlt, H.out, ht.out]; rfl⟩
          case measure => simp [intOf]; omega
      · have t : (((s[k].toNat : Int)) == 9) = false := beq_eq_false_iff_ne.2 (by omega)
        have ht : Hid (valc s[k] = true) := by show _ = _; rw [hv.out]; simp; omega
        obtain ⟨_, h1, h2⟩ := h
        go_wp2
        all_goals
          go_round
          case rel => exact ⟨k + 1, by omega, by go_num, by show _ = _; rw [all_snoc valc s k hlt, H.out, ht.out]; rfl⟩
          case measure => simp [intOf]; omega
      · have t : (((s[k].toNat : Int)) == 9) = false := beq_eq_false_iff_ne.2 (by omega)
        have ht : Hid (valc s[k] = true) := by show _ = _; rw [hv.out]; simp; omega
        have d2 : decide ((s[k].toNat : Int) ≤ 126) = false := decide_eq_false (by omega)
        have d3 : decide (128 ≤ (s[k].toNat : Int)) = true := decide_eq_true (by omega)
        go_wp2
        all_goals
          go_round
          case rel => exact ⟨k + 1, by omega, by go_num, by show _ = _; rw [all_snoc valc s k hlt, H.out, ht.out]; rfl⟩
          case measure => simp [intOf]; omega
      all_goals
        have t : (((s[k].toNat : Int)) == 9) = false := beq_eq_false_iff_ne.2 (by omega)
        have ht : Hid (valc s[k] = false) := by
          show _ = _
          rw [hv.out, Bool.eq_false_iff]
          intro x
          simp only [Bool.or_eq_true, Bool.and_eq_true, decide_eq_true_eq] at x
          omega
        have hr : s[k].toNat < 32 ∨ (126 < s[k].toNat ∧ s[k].toNat < 128) := by omega
        have d3 : decide (128 ≤ (s[k].toNat : Int)) = false := decide_eq_false (by omega)
        have d4 : decide (32 ≤ (s[k].toNat : Int)) = false ∨ decide ((s[k].toNat : Int) ≤ 126) = false := hr.elim (fun hr => .inl (decide_eq_false (by omega))) (fun hr => .inr (decide_eq_false (by omega)))
        clear h hr
        rcases d4 with d4 | d4
        all_goals
          go_wp2
          all_goals
            go_ret
            exact ⟨ret_bool (by unfold valueB; rw [all_no valc s k hlt ht.out]; rfl), rfl⟩
    · by_cases h0 : 0 < s.size
      · have t : (((s.size : Int)) == 0) = false := beq_eq_false_iff_ne.2 (by omega)
        have HV := hide (value_ends (show s.size ≤ k by omega) H.out h0)
        cases hb : blankc s[0] with
        | true =>
          go_wp2_with (go_at_call 75; refine (blank_any _ _).mono ?_; rintro e w' ⟨rfl, rfl⟩)
          go_ret
          exact ⟨ret_bool (by rw [← HV.out, hb]; rfl), rfl⟩
        | false =>
          go_wp2_with (go_at_call 75; refine (blank_any _ _).mono ?_; rintro e w' ⟨rfl, rfl⟩)
          go_ret
          exact ⟨ret_bool (by rw [← HV.out, hb]; rfl), rfl⟩
      · have t : (((s.size : Int)) == 0) = true := beq_iff_eq.2 (by omega)
        go_wp2
        go_ret
        exact ⟨ret_bool (value_nil h0), rfl⟩
end Go.Proofs.YtekkhjlipijmcaaGreatDoor
/- Rows of the call's own, to which one element more is appended; texts made of bytes. -/
namespace Go.Proofs.YtekkhjlipijmcaaGreatDoor
open Go.ChangeShapes Go.WideShapes Go.ChangeAt Go.RowKit

theorem hp_new (W : World) (o : Obj) : (W.alloc o).heap[W.heap.size]? = some o := by
  show (W.heap.push o)[W.heap.size]? = some o
  simp
theorem hp_set {W : World} {b : Nat} {cur : Array Value} {t : TypeId} {fr : Nat × Nat} (h : W.heap[b]? = some (.cells cur t fr)) (i : Nat) (v : Value) : (W.setCell ⟨b, i, none⟩ v).heap[b]? = some (.cells (cur.setIfInBounds i v) t fr) := by
  rw [setCell_eq_setRow W b i cur t fr v h]; exact setRow_heap W b cur _ t fr h
theorem cell_at {w : World} {b : Nat} {c : Array Value} {t : TypeId} {fr : Nat × Nat} (h : w.heap[b]? = some (.cells c t fr)) (i : Nat) : w.cell? ⟨b, i, none⟩ = c[i]? := by
  simp [World.cell?, h]
theorem frozen_at {w : World} {b : Nat} {c : Array Value} {t : TypeId} {lo hi : Nat} (h : w.heap[b]? = some (.cells c t (lo, hi))) (i : Nat) : w.frozen? ⟨b, i, none⟩ = (decide (lo ≤ i) && decide (i < hi)) := by
  simp [World.frozen?, h]

/-- A row that the call itself has made, at a block from base on; its elements have one cell each. -/
def Row (W : World) (base : Nat) (e : TypeId) (v : Value) (xs : List Value) : Prop := W.ownsRow base e 1 v xs.length xs
theorem Row.nil (W : World) (base : Nat) (e : TypeId) : Row W base e (.slice none 0 0) [] := ⟨rfl, .inl ⟨rfl, rfl⟩⟩
theorem Row.frame {W W' : World} {base : Nat} {e : TypeId} {v : Value} {xs : List Value} (h : Row W base e v xs) (hb : ∀ g, v.ownBlock = some g → W'.heap[g]? = W.heap[g]?) : Row W' base e v xs := by
  refine ⟨h.1, ?_⟩
  rcases h.2 with x | ⟨g, cap, cur, rfl, h1, hg, hc, hm, hs, ht⟩
  · exact .inl x
  · exact .inr ⟨g, cap, cur, rfl, h1, (hb g rfl).trans hg, hc, hm, hs, ht⟩
theorem Row.lt {W : World} {base : Nat} {e : TypeId} {v : Value} {xs : List Value} (h : Row W base e v xs) {g : Nat} (hg : v.ownBlock = some g) : base ≤ g ∧ g < W.heap.size := World.ownsRow.lt h g hg
theorem Row.below {W W' : World} {base : Nat} {e : TypeId} {v : Value} {xs : List Value} (h : Row W base e v xs) (hb : Below W.heap.size W W') : Row W' base e v xs := h.frame fun g hg => hb.block g (h.lt hg).2
theorem Row.shape {W : World} {base : Nat} {e : TypeId} {v : Value} {xs : List Value} (h : Row W base e v xs) : ∃ a c, v = .slice a xs.length c ∧ xs.length ≤ c ∧ c ≤ maxLen := by
  rcases h.2 with ⟨rfl, h0⟩ | ⟨g, cap, cur, rfl, h1, hg, hc, hm, hs, ht⟩
  · exact ⟨none, 0, by rw [h0], by omega, Nat.zero_le _⟩
  · exact ⟨_, cap, rfl, hc, hm⟩
theorem Row.cell {W : World} {base : Nat} {e : TypeId} {a : Option Addr} {n c : Nat} {xs : List Value} (h : Row W base e (.slice a n c) xs) {j : Nat} (hj : j < xs.length) : ∃ g, a = some ⟨g, 0, none⟩ ∧ W.cell? ⟨g, j, none⟩ = xs[j]? := by
  rcases h.2 with ⟨_, h0⟩ | ⟨g, cap, cur, hv, h1, hg, hc, hm, hs, ht⟩
  · omega
  · simp only [Value.slice.injEq] at hv
    refine ⟨g, hv.1, ?_⟩
    rw [cell_at hg, ← ht, List.getElem?_take, if_pos (by omega)]
    simp

structure El (t e : TypeId) (z : Value) (bts : Nat) : Prop where
  u : Tryz.prog.underlying t = some (.slice e)
  i : ∃ i, Tryz.prog.info? e = some i ∧ i.zero = some z ∧ i.size = 1 ∧ i.bytes = bts
  z1 : z.cells.size = 1
theorem elB : El 99 5 (.int .u8 0) 1 := by
  refine ⟨Tryz.underlying99, ?_, rfl⟩
  have h : (Tryz.prog.info? 5).map (fun i => (i.zero, i.size, i.bytes)) = some (some (.int .u8 0), 1, 1) := by kernel_rfl
  obtain ⟨i, hi, hz⟩ := Option.map_eq_some_iff.1 h
  simp only [Prod.mk.injEq] at hz
  exact ⟨i, hi, hz.1, hz.2.1, hz.2.2⟩
theorem elS : El 35 9 (.string ByteArray.empty) 16 := by
  refine ⟨Tryz.underlying35, ?_, rfl⟩
  have h : (Tryz.prog.info? 9).map (fun i => (i.zero, i.size, i.bytes)) = some (some (.string ByteArray.empty), 1, 16) := by kernel_rfl
  obtain ⟨i, hi, hz⟩ := Option.map_eq_some_iff.1 h
  simp only [Prod.mk.injEq] at hz
  exact ⟨i, hi, hz.1, hz.2.1, hz.2.2⟩

theorem one_cell (w : World) (x : Value) (e : TypeId) (j : Nat) (u : Value) (h : [x][j]? = some u) : (w.alloc (.cells #[x] e)).cell? ((⟨w.heap.size, 0, none⟩ : Addr).add j) = some u := by
  match j, h with
  | 0, h =>
    simp at h
    subst h
    have e1 : ((⟨w.heap.size, 0, none⟩ : Addr).add 0) = ⟨w.heap.size, 0, none⟩ := by unfold Addr.add; simp
    rw [e1, cell_at (hp_new w _)]
    rfl

theorem append_one {t e : TypeId} {z : Value} {bts : Nat} (E : El t e z bts) (W : World) (base : Nat) (ty : TypeId) (v : Value) (xs : List Value) (y : Value) (hown : Row W base e v xs) (hy : y.oneCell' = true) (hn : (xs.length + 1) * bts ≤ 140737488355328) (hn2 : xs.length + 1 ≤ 140737488355328) (hbase : base ≤ W.heap.size) :
    ∃ v' W', (Builtin.append_ #[t, t] ty #[v, .slice (some ⟨W.heap.size, 0, none⟩) 1 1]).run Tryz.prog (W.alloc (.cells #[y] e)) = .ok v' W' ∧ Row W' base e v' (xs ++ [y]) ∧ Below base W W' := by
  obtain ⟨i, hi, hz, hs1, hb1⟩ := E.i
  have ho : Row (W.alloc (.cells #[y] e)) base e v xs := hown.frame fun g hg => Below.heap_alloc W _ g (hown.lt hg).2
  obtain ⟨v', W', hr, h1, hg, _⟩ := run_append_own (w := W.alloc (.cells #[y] e)) base t ty e i z 1 bts E.u hi hz hs1 hb1 E.z1 (by omega) v xs.length xs ho ⟨W.heap.size, 0, none⟩ 1 1 [y] rfl (one_cell W y e) (by intro u hu; simp at hu; subst hu; exact hy) (by unfold maxLen; omega) hn (by simp; omega)
  refine ⟨v', W', hr, ?_, ?_⟩
  · unfold Row
    rw [List.length_append]
    exact h1
  · exact ((Below.refl base W).alloc hbase _).grown hg (by simp; omega) (fun k hk => (hown.lt hk).1)

theorem wpList_append_one {t e : TypeId} {z : Value} {bts : Nat} (E : El t e z bts) {ops : Array Oper} {rest : List Oper} {o : Oper} {a : Act} {Q : Exit → Act → World → Prop} (hgd : o.guard = none) (s x : Operand)
    (ho : o.op = .call { callee := .builtin .append, args := #[s, x], argTypes := #[t, t] }) (W : World) (base : Nat) (v : Value) (xs : List Value) (y : Value) (hs : a.eval s = v) (hx : a.eval x = .slice (some ⟨W.heap.size, 0, none⟩) 1 1)
    (hown : Row W base e v xs) (hy : y.oneCell' = true) (hn : (xs.length + 1) * bts ≤ 140737488355328) (hn2 : xs.length + 1 ≤ 140737488355328) (hbase : base ≤ W.heap.size)
    (h : ∀ v' W', Row W' base e v' (xs ++ [y]) → Below base W W' → wpList Tryz.prog ops Q rest (a.put o.dst v') W') : wpList Tryz.prog ops Q (o :: rest) a (W.alloc (.cells #[y] e)) := by
  refine wpList_plain hgd fun K hK => ?_
  obtain ⟨v', W', hr, h2, h3⟩ := append_one E W base o.type v xs y hown hy hn hn2 hbase
  unfold Oper.wp execOp
  simp only [ho, resolve, invoke, builtin, Sem.run_bind, Sem.run_pure, Result.andThen_ok, List.map_toArray, List.map_cons, List.map_nil, hs, hx, hr]
  exact hK _ _ (h v' W' h2 h3)

/-! ### Bytes -/
def bc (l : List UInt8) : List Value := l.map fun b => Value.int .u8 (b.toNat : Int)
theorem bc_len (l : List UInt8) : (bc l).length = l.length := by simp [bc]
theorem bc_snoc (l : List UInt8) (c : UInt8) : bc (l ++ [c]) = bc l ++ [.int .u8 (c.toNat : Int)] := by simp [bc]
theorem Row.text {W : World} {base : Nat} {v : Value} {l : List UInt8} (h : Row W base 5 v (bc l)) : (convert 99 9 v).run Tryz.prog W = .ok (.string ⟨l.toArray⟩) W := by
  rcases h.2 with ⟨rfl, h0⟩ | ⟨g, cap, cur, rfl, h1, hg, hc, hm, hs, ht⟩
  · rw [bc_len] at h0
    have : l = [] := List.eq_nil_of_length_eq_zero h0
    subst this
    exact run_convert_bytes_nil W 99 5 Tryz.underlying99 Tryz.underlying5 0 0 9 Tryz.underlying9
  · rw [bc_len] at ht ⊢
    refine run_convert_bytes_back W 99 9 5 ⟨g, 0, none⟩ cap l Tryz.underlying99 Tryz.underlying5 Tryz.underlying9 (fun j hj => ?_)
    have e : (⟨g, 0, none⟩ : Addr).add j = ⟨g, j, none⟩ := by unfold Addr.add; split <;> simp_all
    rw [e, cell_at hg]
    have e2 : cur[j]? = (cur.toList.take (l.length * 1))[j]? := by rw [List.getElem?_take, if_pos (by omega)]; simp
    rw [e2, ht]
    simp [bc, hj]
end Go.Proofs.YtekkhjlipijmcaaGreatDoor
/- A list's elements as a plain function on bytes, in two ways, and that elements that are joined again are the same: no program in it. -/
namespace Go.Proofs.YtekkhjlipijmcaaGreatDoor

/-- q: within quotes; k: the byte at hand stands behind a byte 92. -/
def nx (q k : Bool) (c : UInt8) : Bool × Bool := if k = true then (q, false) else if c = 92 ∧ q = true then (q, true) else if c = 34 then (!q, false) else (q, false)
/-- Where the first part ends. -/
def pend : Bool → Bool → List UInt8 → Nat
  | _, _, [] => 0
  | q, k, c :: r => if c = 44 ∧ q = false then 0 else pend (nx q k c).1 (nx q k c).2 r + 1
def elem (p : List UInt8) : List (List UInt8) := if trimB p = [] then [] else [trimB p]

theorem pend_le : ∀ (l : List UInt8) (q k : Bool), pend q k l ≤ l.length
  | [], _, _ => Nat.le_refl _
  | c :: r, q, k => by
    rw [pend]
    split
    · exact Nat.zero_le _
    · exact Nat.succ_le_succ (pend_le r _ _)

def listB (l : List UInt8) : List (List UInt8) :=
  if _h : l = [] then [] else elem (l.take (pend false false l)) ++ listB (l.drop (pend false false l + 1))
termination_by l.length
decreasing_by
  rw [List.length_drop]
  have : 0 < l.length := List.length_pos_iff.2 _h
  omega

theorem listB_nil : listB [] = [] := by rw [listB]; rfl
theorem listB_cons {l : List UInt8} (h : l ≠ []) : listB l = elem (l.take (pend false false l)) ++ listB (l.drop (pend false false l + 1)) := by
  rw [listB, dif_neg h]
theorem elem_nil : elem [] = [] := by simp [elem, trimB_eq, ltrim, rtrim]
theorem listB_all (l : List UInt8) : listB l = elem (l.take (pend false false l)) ++ listB (l.drop (pend false false l + 1)) := by
  by_cases h : l = []
  · subst h; simp [listB_nil, elem_nil]
  · exact listB_cons h
theorem elem_len (p : List UInt8) : (elem p).length ≤ 1 := by unfold elem; split <;> simp
theorem elem_le (p : List UInt8) : (elem p).length ≤ p.length := by
  by_cases h : p = []
  · subst h; simp [elem_nil]
  · have := elem_len p
    have : 0 < p.length := List.length_pos_iff.2 h
    omega
theorem listB_len (l : List UInt8) : (listB l).length ≤ l.length := by
  induction h : l.length using Nat.strongRecOn generalizing l with
  | ind n ih =>
    by_cases h0 : l = []
    · subst h0; simp [listB_nil]
    · rw [listB_cons h0, List.length_append]
      have hp : 0 < l.length := List.length_pos_iff.2 h0
      have h1 := ih (l.drop (pend false false l + 1)).length (by rw [List.length_drop]; omega) _ rfl
      have h2 := elem_le (l.take (pend false false l))
      rw [List.length_drop] at h1
      rw [List.length_take] at h2
      have := elem_len (l.take (pend false false l))
      omega

/-- One pass, byte by byte. -/
def refL (part : List UInt8) (q k : Bool) : List UInt8 → List (List UInt8)
  | [] => elem part
  | c :: r => if c = 44 ∧ q = false then elem part ++ refL [] q k r else refL (part ++ [c]) (nx q k c).1 (nx q k c).2 r

theorem nx_inv (q k : Bool) (c : UInt8) (_ : k = true → q = true) : (nx q k c).2 = true → (nx q k c).1 = true := by
  unfold nx
  split
  · simp
  · split
    · rename_i h2; intro _; exact h2.2
    · split <;> simp

theorem refL_eq : ∀ (l part : List UInt8) (q k : Bool), (k = true → q = true) → refL part q k l = elem (part ++ l.take (pend q k l)) ++ listB (l.drop (pend q k l + 1))
  | [], part, q, k, _ => by simp [refL, pend, listB_nil]
  | c :: r, part, q, k, hk => by
    rw [refL, pend]
    by_cases h : c = 44 ∧ q = false
    · rw [if_pos h, if_pos h]
      have hk' : k = false := by cases k <;> simp_all
      rw [h.2, hk', refL_eq r [] false false (by simp)]
      simp only [List.nil_append, List.take_zero, List.append_nil, List.drop_succ_cons, List.drop_zero]
      rw [← listB_all]
    · rw [if_neg h, if_neg h, refL_eq r _ _ _ (nx_inv q k c hk)]
      simp
theorem refL_list (l : List UInt8) : refL [] false false l = listB l := by
  rw [refL_eq l [] false false (by simp), List.nil_append, ← listB_all]

/-! ### Joined -/
def scan : Bool → Bool → List UInt8 → Option (Bool × Bool)
  | q, k, [] => some (q, k)
  | q, k, c :: r => if c = 44 ∧ q = false then none else scan (nx q k c).1 (nx q k c).2 r

theorem scan_append : ∀ (a b : List UInt8) (q k : Bool), scan q k (a ++ b) = (scan q k a).bind fun s => scan s.1 s.2 b
  | [], b, q, k => by simp [scan]
  | c :: r, b, q, k => by
    rw [List.cons_append, scan, scan]
    split
    · rfl
    · exact scan_append r b _ _
theorem pend_scan : ∀ (p r : List UInt8) (q k : Bool) (s : Bool × Bool), scan q k p = some s → pend q k (p ++ r) = p.length + pend s.1 s.2 r
  | [], r, q, k, s, h => by
    simp only [scan, Option.some.injEq] at h
    subst h
    simp
  | c :: p, r, q, k, s, h => by
    rw [scan] at h
    rw [List.cons_append, pend]
    by_cases h1 : c = 44 ∧ q = false
    · rw [if_pos h1] at h; cases h
    · rw [if_neg h1] at h
      rw [if_neg h1, pend_scan p r _ _ s h, List.length_cons]
      omega
theorem scan_pend : ∀ (l : List UInt8) (q k : Bool), (k = true → q = true) → ∃ s, scan q k (l.take (pend q k l)) = some s ∧ (s.2 = true → s.1 = true) ∧ (pend q k l < l.length → s = (false, false) ∧ l.drop (pend q k l) = 44 :: l.drop (pend q k l + 1))
  | [], q, k, hk => ⟨(q, k), by simp [scan, pend], hk, by simp⟩
  | c :: r, q, k, hk => by
    rw [pend]
    by_cases h1 : c = 44 ∧ q = false
    · rw [if_pos h1]
      refine ⟨(q, k), by simp [scan], hk, fun _ => ?_⟩
      have hk' : k = false := by cases k <;> simp_all
      rw [h1.1, h1.2, hk']
      simp
    · rw [if_neg h1]
      obtain ⟨s, h2, h3, h4⟩ := scan_pend r _ _ (nx_inv q k c hk)
      refine ⟨s, ?_, h3, fun h => ?_⟩
      · rw [List.take_succ_cons, scan, if_neg h1, h2]
      · simp only [List.length_cons] at h
        have := h4 (by omega)
        simpa using this

theorem scan_inv : ∀ (l : List UInt8) (q k : Bool) (s : Bool × Bool), (k = true → q = true) → scan q k l = some s → s.2 = true → s.1 = true
  | [], q, k, s, hk, h => by
    simp only [scan, Option.some.injEq] at h
    subst h
    exact hk
  | c :: r, q, k, s, hk, h => by
    rw [scan] at h
    split at h
    · cases h
    · exact scan_inv r _ _ s (nx_inv q k c hk) h

theorem blank_ne {c : UInt8} (h : blankc c = true) : c ≠ 44 ∧ c ≠ 92 ∧ c ≠ 34 := by
  refine ⟨?_, ?_, ?_⟩ <;> (rintro rfl; simp [blankc] at h)
theorem nx_blank {c : UInt8} (h : blankc c = true) (q k : Bool) : nx q k c = (q, false) := by
  obtain ⟨_, h2, h3⟩ := blank_ne h
  unfold nx
  simp [h2, h3]
theorem scan_blank {c : UInt8} (h : blankc c = true) (q k : Bool) (r : List UInt8) : scan q k (c :: r) = scan q false r := by
  rw [scan, nx_blank h, if_neg (fun x => (blank_ne h).1 x.1)]
theorem scan_ltrim (p : List UInt8) : scan false false (ltrim p) = scan false false p := by
  induction p with
  | nil => rfl
  | cons c p ih =>
    rw [ltrim_cons]
    by_cases h : blankc c = true
    · rw [if_pos h, scan_blank h, ih]
    · rw [if_neg h]
theorem scan_rtrim (p : List UInt8) (s : Bool × Bool) (h : scan false false p = some s) : ∃ k, scan false false (rtrim p) = some (s.1, k) := by
  induction p using snoc_ind generalizing s with
  | h0 => simp [scan] at h; subst h; exact ⟨false, rfl⟩
  | h1 p c ih =>
    rw [rtrim_snoc]
    by_cases hb : blankc c = true
    · rw [if_pos hb]
      rw [scan_append] at h
      cases h2 : scan false false p with
      | none => rw [h2] at h; cases h
      | some s2 =>
        rw [h2] at h
        rw [Option.bind_some, scan_blank hb, scan, Option.some.injEq] at h
        obtain ⟨k, hk⟩ := ih s2 h2
        subst h
        exact ⟨k, hk⟩
    · rw [if_neg hb]
      exact ⟨s.2, h⟩
theorem scan_trim (p : List UInt8) (s : Bool × Bool) (h : scan false false p = some s) : ∃ k, scan false false (trimB p) = some (s.1, k) := by
  rw [trimB_eq, scan_ltrim]
  exact scan_rtrim p s h

theorem rtrim_idem (l : List UInt8) : rtrim (rtrim l) = rtrim l := by
  induction l using snoc_ind with
  | h0 => rfl
  | h1 l c ih =>
    rw [rtrim_snoc]
    by_cases h : blankc c = true
    · rw [if_pos h, ih]
    · rw [if_neg h, rtrim_snoc, if_neg h]
theorem ltrim_idem (l : List UInt8) : ltrim (ltrim l) = ltrim l := by
  induction l with
  | nil => rfl
  | cons c l ih =>
    rw [ltrim_cons]
    by_cases h : blankc c = true
    · rw [if_pos h, ih]
    · rw [if_neg h, ltrim_cons, if_neg h]
theorem trimB_idem (l : List UInt8) : trimB (trimB l) = trimB l := by
  rw [trimB_eq, trimB_eq, trim_comm (ltrim (rtrim l)), ltrim_idem, trim_comm l, rtrim_idem]

def Good : List (List UInt8) → Prop
  | [] => True
  | x :: r => (x ≠ [] ∧ trimB x = x) ∧ (scan false false x = some (false, false) ∨ (∃ s, scan false false x = some s) ∧ r = []) ∧ Good r

theorem elem_good (p : List UInt8) (s : Bool × Bool) (hs : scan false false p = some s) (r : List (List UInt8)) (hr : Good r) (h : s = (false, false) ∨ r = []) : Good (elem p ++ r) := by
  unfold elem
  by_cases h0 : trimB p = []
  · rw [if_pos h0]; exact hr
  · rw [if_neg h0]
    obtain ⟨k, hk⟩ := scan_trim p s hs
    refine ⟨⟨h0, trimB_idem p⟩, ?_, hr⟩
    rcases h with h | h
    · left
      have := scan_inv _ _ _ _ (by simp) hk
      subst h
      have k0 : k = false := by cases k <;> simp_all
      rw [hk, k0]
    · exact .inr ⟨⟨_, hk⟩, h⟩

theorem listB_good (l : List UInt8) : Good (listB l) := by
  induction h : l.length using Nat.strongRecOn generalizing l with
  | ind n ih =>
    by_cases h0 : l = []
    · subst h0; rw [listB_nil]; trivial
    · rw [listB_cons h0]
      have hp : 0 < l.length := List.length_pos_iff.2 h0
      obtain ⟨s, h1, h2, h3⟩ := scan_pend l false false (by simp)
      refine elem_good _ s h1 _ (ih _ (by rw [List.length_drop]; omega) _ rfl) ?_
      by_cases h4 : pend false false l < l.length
      · exact .inl (h3 h4).1
      · right
        rw [List.drop_eq_nil_of_le (by omega), listB_nil]

def joinB : List (List UInt8) → List UInt8
  | [] => []
  | [x] => x
  | x :: y :: r => x ++ [44, 32] ++ joinB (y :: r)
theorem joinB_snoc : ∀ (l : List (List UInt8)) (x : List UInt8), joinB (l ++ [x]) = if l = [] then x else joinB l ++ [44, 32] ++ x
  | [], x => by simp [joinB]
  | [a], x => by simp [joinB]
  | a :: b :: r, x => by
    have := joinB_snoc (b :: r) x
    rw [if_neg (by simp)] at this
    rw [if_neg (by simp), List.cons_append, List.cons_append, joinB, ← List.cons_append, this, joinB]
    simp

theorem elem_blank {c : UInt8} (h : blankc c = true) (p : List UInt8) : elem (c :: p) = elem p := by
  have : trimB (c :: p) = trimB p := by
    rw [trimB_eq, trimB_eq, trim_comm, trim_comm, ltrim_cons, if_pos h]
  unfold elem
  rw [this]
theorem listB_blank {c : UInt8} (h : blankc c = true) (l : List UInt8) : listB (c :: l) = listB l := by
  rw [listB_cons (by simp), pend, nx_blank h, if_neg (fun x => (blank_ne h).1 x.1), List.take_succ_cons, List.drop_succ_cons, elem_blank h, ← listB_all]

theorem listB_join : ∀ (ls : List (List UInt8)), Good ls → listB (joinB ls) = ls
  | [], _ => listB_nil
  | [x], h => by
    obtain ⟨⟨h0, h1⟩, h2, _⟩ := h
    have h3 : ∃ s, scan false false x = some s := by
      rcases h2 with h2 | h2
      · exact ⟨_, h2⟩
      · exact h2.1
    obtain ⟨s, hs⟩ := h3
    have := pend_scan x [] false false s hs
    rw [List.append_nil] at this
    rw [joinB, listB_cons h0, this]
    simp only [pend, Nat.add_zero, List.take_length]
    rw [List.drop_eq_nil_of_le (by omega), listB_nil, List.append_nil]
    unfold elem
    rw [h1, if_neg h0]
  | x :: y :: r, h => by
    obtain ⟨⟨h0, h1⟩, h2, h3⟩ := h
    have hs : scan false false x = some (false, false) := by
      rcases h2 with h2 | h2
      · exact h2
      · simp at h2
    have ih := listB_join (y :: r) h3
    have := pend_scan x (44 :: 32 :: joinB (y :: r)) false false _ hs
    rw [joinB, List.append_assoc, List.cons_append, List.cons_append, List.nil_append, listB_cons (by simp), this]
    have e : pend false false (44 :: 32 :: joinB (y :: r)) = 0 := by rw [pend, if_pos ⟨rfl, rfl⟩]
    simp only [e, Nat.add_zero, List.take_left']
    rw [show x.length + 1 = (x ++ [44]).length by simp, show x ++ 44 :: 32 :: joinB (y :: r) = (x ++ [44]) ++ 32 :: joinB (y :: r) by simp, List.drop_left, listB_blank (by decide), ih]
    unfold elem
    rw [h1, if_neg h0]
    rfl
theorem good_mem : ∀ (ls : List (List UInt8)), Good ls → ∀ x ∈ ls, x ≠ [] ∧ trimB x = x
  | x :: r, h, y, hy => by
    rcases List.mem_cons.1 hy with rfl | hy
    · exact h.1
    · exact good_mem r h.2.2 y hy
theorem listB_joined (l : List UInt8) : listB (joinB (listB l)) = listB l := listB_join _ (listB_good l)
end Go.Proofs.YtekkhjlipijmcaaGreatDoor
/- Where a list's first part ends; two lists of texts held against one another. -/
namespace Go.Proofs.YtekkhjlipijmcaaGreatDoor
open Go.ChangeShapes Go.WideShapes Go.ChangeAt Go.RowKit

theorem drop_cons (s : ByteArray) (k : Nat) (h : k < s.size) : s.data.toList.drop k = s[k] :: s.data.toList.drop (k + 1) := by
  rw [List.drop_eq_getElem_cons (by simpa using h)]; rfl
theorem drop_end (s : ByteArray) (k : Nat) (h : s.size ≤ k) : s.data.toList.drop k = [] := List.drop_eq_nil_of_le (by rw [size_len]; exact h)
def pd (s : ByteArray) (q : Bool) (k : Nat) : Nat := pend q false (s.data.toList.drop k)
theorem pd_end {s : ByteArray} {q : Bool} {k : Nat} (h : s.size ≤ k) : pd s q k = 0 := by unfold pd; rw [drop_end s k h]; rfl
theorem pd_quote {s : ByteArray} {q : Bool} {k : Nat} (h : k < s.size) (hc : s[k] = 34) : pd s q k = pd s (!q) (k + 1) + 1 := by
  unfold pd
  rw [drop_cons s k h, pend, hc, if_neg (by simp)]
  simp [nx]
theorem pd_comma {s : ByteArray} {k : Nat} (h : k < s.size) (hc : s[k] = 44) : pd s false k = 0 := by
  unfold pd
  rw [drop_cons s k h, pend, hc, if_pos ⟨rfl, rfl⟩]
theorem pd_other {s : ByteArray} {q : Bool} {k : Nat} (h : k < s.size) (h1 : s[k] ≠ 34) (h2 : s[k] ≠ 92 ∨ q = false) (h3 : s[k] ≠ 44 ∨ q = true) : pd s q k = pd s q (k + 1) + 1 := by
  unfold pd
  rw [drop_cons s k h, pend, if_neg (by rintro ⟨x, y⟩; rcases h3 with h3 | h3; · exact h3 x
                                        · rw [y] at h3; cases h3)]
  have : nx q false s[k] = (q, false) := by
    unfold nx
    rw [if_neg (by simp), if_neg (by rintro ⟨x, y⟩; rcases h2 with h2 | h2; · exact h2 x
                                     · rw [y] at h2; cases h2), if_neg h1]
  rw [this]
theorem pd_skip {s : ByteArray} {k : Nat} (h : k + 1 < s.size) (hc : s[k] = 92) : pd s true k = pd s true (k + 2) + 2 := by
  unfold pd
  rw [drop_cons s k (by omega), pend, hc, if_neg (by simp), drop_cons s (k + 1) h]
  simp [pend, nx]
theorem pd_skip_end {s : ByteArray} {k : Nat} (h : k < s.size) (h2 : s.size = k + 1) (hc : s[k] = 92) : pd s true k = 1 := by
  unfold pd
  rw [drop_cons s k h, pend, hc, if_neg (by simp), drop_end s (k + 1) (by omega)]
  simp [pend]
theorem byte_is {c : UInt8} {n : Nat} (h : c.toNat = n) (hn : n < 256) : c = UInt8.ofNat n := by
  apply UInt8.toNat_inj.1
  rw [h, UInt8.toNat_ofNat']
  omega
theorem byte_ne {c : UInt8} {n : Nat} (h : c.toNat ≠ n) (hn : n < 256) : c ≠ UInt8.ofNat n := by
  rintro rfl
  rw [UInt8.toNat_ofNat'] at h
  omega

end Go.Proofs.YtekkhjlipijmcaaGreatDoor
/- Rows of texts; two of them held against one another. -/
namespace Go.Proofs.YtekkhjlipijmcaaGreatDoor
open Go.ChangeShapes Go.WideShapes Go.ChangeAt Go.RowKit

/-- The slice v reads as the texts A. -/
def Strs (W : World) (v : Value) (A : List ByteArray) : Prop := ∃ (a : Option Addr) (c : Nat), v = .slice a A.length c ∧ ∀ j (h : j < A.length), ∃ g, a = some ⟨g, 0, none⟩ ∧ g < W.heap.size ∧ W.cell? ⟨g, j, none⟩ = some (.string A[j])
def sc (A : List ByteArray) : List Value := A.map Value.string
theorem sc_len (A : List ByteArray) : (sc A).length = A.length := by simp [sc]
theorem sc_snoc (A : List ByteArray) (x : ByteArray) : sc (A ++ [x]) = sc A ++ [.string x] := by simp [sc]
theorem Strs.of_row {W : World} {base : Nat} {v : Value} {A : List ByteArray} (h : Row W base 9 v (sc A)) : Strs W v A := by
  obtain ⟨a, c, rfl, _, _⟩ := h.shape
  rw [sc_len] at h
  refine ⟨a, c, by rw [sc_len], fun j hj => ?_⟩
  obtain ⟨g, rfl, hc⟩ := h.cell (j := j) (by rw [sc_len]; exact hj)
  refine ⟨g, rfl, (h.lt rfl).2, ?_⟩
  rw [hc]
  simp [sc, hj]
theorem Strs.below {W W' : World} {v : Value} {A : List ByteArray} (h : Strs W v A) (hb : Below W.heap.size W W') : Strs W' v A := by
  obtain ⟨a, c, rfl, hc⟩ := h
  refine ⟨a, c, rfl, fun j hj => ?_⟩
  obtain ⟨g, h1, h2, h3⟩ := hc j hj
  exact ⟨g, h1, Nat.lt_of_lt_of_le h2 hb.size, (hb.cell (p := ⟨g, j, none⟩) h2).trans h3⟩
theorem below_drewN (w : World) (n : Nat) : Below w.heap.size w (w.drewN n) := ⟨rfl, rfl, rfl, Nat.le_refl _, fun _ _ => rfl⟩

theorem bytes_eq (a b : ByteArray) : (a.toList == b.toList) = decide (a = b) := by
  rw [Lib.toList_data, Lib.toList_data, beq_list, Bool.eq_iff_iff]
  simp only [decide_eq_true_eq]
  constructor
  · intro h
    cases a; cases b
    simp only [ByteArray.mk.injEq]
    exact Array.toList_inj.1 h
  · rintro rfl; rfl
theorem take_snocA (A : List ByteArray) (k : Nat) (h : k < A.length) : A.take (k + 1) = A.take k ++ [A[k]] := List.take_succ_eq_append_getElem h

end Go.Proofs.YtekkhjlipijmcaaGreatDoor
/- The program's list of a text's elements. -/
namespace Go.Proofs.YtekkhjlipijmcaaGreatDoor
open Go.ChangeShapes Go.WideShapes Go.ChangeAt Go.RowKit

def sS (l : List UInt8) : ByteArray := ⟨l.toArray⟩
theorem sS_list (l : List UInt8) : (sS l).data.toList = l := by simp [sS]
theorem sS_size (l : List UInt8) : (sS l).size = l.length := by rw [← size_len, sS_list]
theorem sS_of (s : ByteArray) : sS s.data.toList = s := by cases s; simp [sS]
/-- The elements, as texts. -/
def listS (l : List UInt8) : List ByteArray := (listB l).map sS
theorem listS_len (l : List UInt8) : (listS l).length ≤ l.length := by unfold listS; rw [List.length_map]; exact listB_len l
theorem trimS_eq (s : ByteArray) : trimS s = sS (trimB s.data.toList) := rfl

theorem ext_take (t : ByteArray) (e : Nat) : (t.extract 0 e).data.toList = t.data.toList.take e := by rw [ext_list, List.drop_zero, Nat.sub_zero]
theorem ext_drop (t : ByteArray) (e : Nat) : (t.extract e t.size).data.toList = t.data.toList.drop e := by
  rw [ext_list]
  exact List.take_of_length_le (by rw [List.length_drop, size_len]; omega)
theorem drop_min (t : ByteArray) (e : Nat) : t.data.toList.drop (min (e + 1) t.size) = t.data.toList.drop (e + 1) := by
  by_cases h : e + 1 ≤ t.size
  · rw [Nat.min_eq_left h]
  · rw [Nat.min_eq_right (by omega), drop_end t _ (Nat.le_refl _), drop_end t _ (by omega)]

/-- One part more: the element that it adds, if it is not empty, and what is left. -/
theorem list_step (t : ByteArray) (h : 0 < t.size) (m : Nat) (hm : m = min (pend false false t.data.toList + 1) t.size) :
    listS t.data.toList = (if (trimS (t.extract 0 (pend false false t.data.toList))).size = 0 then [] else [trimS (t.extract 0 (pend false false t.data.toList))]) ++ listS (t.extract m t.size).data.toList := by
  have hn : t.data.toList ≠ [] := fun e => by have := size_len t; rw [e] at this; simp at this; omega
  unfold listS
  rw [listB_cons hn, List.map_append, ext_drop, hm, drop_min]
  congr 1
  rw [trimS_eq, ext_take, sS_size]
  unfold elem
  by_cases h0 : trimB (t.data.toList.take (pend false false t.data.toList)) = []
  · rw [if_pos h0, h0]; rfl
  · rw [if_neg h0, if_neg (by intro e; exact h0 (List.eq_nil_of_length_eq_zero e))]; rfl

end Go.Proofs.YtekkhjlipijmcaaGreatDoor
/- The document's list of a text's elements. -/
namespace Go.Proofs.YtekkhjlipijmcaaGreatDoor
open Go.ChangeShapes Go.WideShapes Go.ChangeAt Go.RowKit

theorem ext_one (s : ByteArray) (k : Nat) (h : k < s.size) : (s.extract k (k + 1)).data.toList = [s[k]] := by
  rw [ext_list, drop_cons s k h, show k + 1 - k = 1 by omega]
  rfl
theorem ext_one_size (s : ByteArray) (k : Nat) (h : k < s.size) : (s.extract k (k + 1)).size = 1 := by rw [ext_size]; omega
/-- What the pass still tells from the byte k on. -/
def rest (s : ByteArray) (t : ByteArray) (q sk : Bool) (k : Nat) : List ByteArray := (refL t.data.toList q sk (s.data.toList.drop k)).map sS
def elemS (t : ByteArray) : List ByteArray := if (trimS t).size = 0 then [] else [trimS t]
theorem elemS_eq (t : ByteArray) : (elem t.data.toList).map sS = elemS t := by
  unfold elemS elem
  rw [trimS_eq, sS_size]
  by_cases h0 : trimB t.data.toList = []
  · rw [if_pos h0, h0]; rfl
  · rw [if_neg h0, if_neg (by intro e; exact h0 (List.eq_nil_of_length_eq_zero e))]; rfl
theorem rest_end {s t : ByteArray} {q sk : Bool} {k : Nat} (h : s.size ≤ k) : rest s t q sk k = elemS t := by
  unfold rest
  rw [drop_end s k h, refL, elemS_eq]
theorem rest_cut {s t : ByteArray} {k : Nat} (h : k < s.size) (hc : s[k] = 44) : rest s t false false k = elemS t ++ rest s ⟨#[]⟩ false false (k + 1) := by
  unfold rest
  rw [drop_cons s k h, refL, if_pos ⟨hc, rfl⟩, List.map_append, elemS_eq]
theorem rest_next {s t : ByteArray} {q sk : Bool} {k : Nat} (h : k < s.size) (hc : ¬ (s[k] = 44 ∧ q = false)) {q' sk' : Bool} (hn : nx q sk s[k] = (q', sk')) : rest s t q sk k = rest s (t ++ s.extract k (k + 1)) q' sk' (k + 1) := by
  unfold rest
  rw [drop_cons s k h, refL, if_neg hc, hn, app_list, ext_one s k h]
theorem slice_one (s : ByteArray) (k : Nat) (h : k < s.size) (W : World) : (Instr.slice 9 (.string s) (some (.int .i64 (k : Int))) (some (.int .i64 ((k : Int) + 1))) none).run Tryz.prog W = .ok (.string (s.extract k (k + 1))) W := by
  rw [run_slice_string (P := Tryz.prog) W 9 s .i64 .i64 k (k + 1) Tryz.underlying9 (by omega) (by omega) (by omega)]
  rfl
theorem elemS_len (t : ByteArray) : (elemS t).length ≤ 1 := by unfold elemS; split <;> simp

end Go.Proofs.YtekkhjlipijmcaaGreatDoor
/- Numbers: what digits say, by the program and by the document. -/
namespace Go.Proofs.YtekkhjlipijmcaaGreatDoor
open Go.ChangeShapes Go.WideShapes Go.ChangeAt Go.RowKit

theorem digv_up {c : UInt8} (h : 65 ≤ c.toNat ∧ c.toNat ≤ 70) : (digv c : Int) = c.toNat - 55 := by unfold digv; rw [if_pos h]; omega
theorem digv_lo {c : UInt8} (h : 97 ≤ c.toNat ∧ c.toNat ≤ 102) : (digv c : Int) = c.toNat - 87 := by unfold digv; rw [if_neg (by omega), if_pos h]; omega
theorem digv_nu {c : UInt8} (h : 48 ≤ c.toNat ∧ c.toNat ≤ 57) : (digv c : Int) = c.toNat - 48 := by unfold digv; rw [if_neg (by omega), if_neg (by omega), if_pos h]; omega
theorem digv_none {c : UInt8} (h : ¬ (65 ≤ c.toNat ∧ c.toNat ≤ 70)) (h2 : ¬ (97 ≤ c.toNat ∧ c.toNat ≤ 102)) (h3 : ¬ (48 ≤ c.toNat ∧ c.toNat ≤ 57)) : digv c = 16 := by
  unfold digv; rw [if_neg h, if_neg h2, if_neg h3]
theorem ways (n : Nat) : (65 ≤ n ∧ n ≤ 70) ∨ (97 ≤ n ∧ n ≤ 102) ∨ (48 ≤ n ∧ n ≤ 57) ∨ n < 48 ∨ (57 < n ∧ n < 65) ∨ (70 < n ∧ n < 97) ∨ 102 < n := by omega

set_option maxHeartbeats 400000 in
theorem digit_any (c : UInt8) (w : World) : Calls Tryz.prog 120 #[.int .u8 (c.toNat : Int)] w fun e w' => e = .returned (.int .i64 (digv c : Int)) ∧ w = w' := by
  have hc := byte_lt c
  rcases ways c.toNat with h | h | h | h | h | h | h
  · have HD := hide (digv_up h)
    obtain ⟨h1, h2⟩ := h
    go_enter Tryz.func120, Tryz.ntmps120
    go_wp2
    all_goals go_ret
    all_goals exact ⟨ret_int (by rw [HD.out]; omega), rfl⟩
  · have HD := hide (digv_lo h)
    obtain ⟨h1, h2⟩ := h
    go_enter Tryz.func120, Tryz.ntmps120
    go_wp2
    all_goals go_ret
    all_goals exact ⟨ret_int (by rw [HD.out]; omega), rfl⟩
  · have HD := hide (digv_nu h)
    obtain ⟨h1, h2⟩ := h
    go_enter Tryz.func120, Tryz.ntmps120
    go_wp2
    all_goals go_ret
    all_goals exact ⟨ret_int (by rw [HD.out]), rfl⟩
  all_goals
    have HD := hide (digv_none (c := c) (by omega) (by omega) (by omega))
    try obtain ⟨h1, h2⟩ := h
    go_enter Tryz.func120, Tryz.ntmps120
    go_wp2
    all_goals go_ret
    all_goals exact ⟨ret_int (by rw [HD.out]; rfl), rfl⟩

/-- What the document's digit says: -1 where it is none. -/
def rdig (c : UInt8) (base : Nat) : Int := if digv c < base then (digv c : Int) else -1
theorem rdig_yes {c : UInt8} {base : Nat} (h : digv c < base) : rdig c base = digv c := by unfold rdig; rw [if_pos h]
theorem rdig_no {c : UInt8} {base : Nat} (h : ¬ digv c < base) : rdig c base = -1 := by unfold rdig; rw [if_neg h]
theorem rdig_val {c : UInt8} {base : Nat} {x : Int} (h : (digv c : Int) = x) (h2 : x < base) : rdig c base = x := by rw [rdig_yes (by omega), h]
theorem rdig_non {c : UInt8} {base : Nat} {x : Int} (h : (digv c : Int) = x) (h2 : ¬ x < base) : rdig c base = -1 := rdig_no (by omega)
theorem digv_nat {c : UInt8} {n : Nat} (h : digv c = n) : (digv c : Int) = n := by rw [h]

set_option maxHeartbeats 400000 in
theorem rdigit_10 (c : UInt8) (w : World) : Calls Tryz.prog 73 #[.int .u8 (c.toNat : Int), .int .i64 10] w fun e w' => e = .returned (.int .i64 (rdig c 10)) ∧ w = w' := by
  have hc := byte_lt c
  rcases ways c.toNat with h | h | h | h | h | h | h
  · have HD := hide (digv_up h)
    obtain ⟨h1, h2⟩ := h
    go_enter Tryz.func73, Tryz.ntmps73
    go_wp2
    all_goals go_ret
    all_goals exact ⟨ret_int (by first | (rw [rdig_val HD.out (by omega)]; omega) | rw [rdig_non HD.out (by omega)]), rfl⟩
  · have HD := hide (digv_lo h)
    obtain ⟨h1, h2⟩ := h
    go_enter Tryz.func73, Tryz.ntmps73
    go_wp2
    all_goals go_ret
    all_goals exact ⟨ret_int (by first | (rw [rdig_val HD.out (by omega)]; omega) | rw [rdig_non HD.out (by omega)]), rfl⟩
  · have HD := hide (digv_nu h)
    obtain ⟨h1, h2⟩ := h
    go_enter Tryz.func73, Tryz.ntmps73
    go_wp2
    all_goals go_ret
    all_goals exact ⟨ret_int (by rw [rdig_val HD.out (by omega)]), rfl⟩
  all_goals
    have HD := hide (digv_nat (digv_none (c := c) (by omega) (by omega) (by omega)))
    try obtain ⟨h1, h2⟩ := h
    go_enter Tryz.func73, Tryz.ntmps73
    go_wp2
    all_goals go_ret
    all_goals exact ⟨ret_int (by rw [rdig_non HD.out (by omega)]), rfl⟩

set_option maxHeartbeats 400000 in
theorem rdigit_16 (c : UInt8) (w : World) : Calls Tryz.prog 73 #[.int .u8 (c.toNat : Int), .int .i64 16] w fun e w' => e = .returned (.int .i64 (rdig c 16)) ∧ w = w' := by
  have hc := byte_lt c
  rcases ways c.toNat with h | h | h | h | h | h | h
  · have HD := hide (digv_up h)
    obtain ⟨h1, h2⟩ := h
    go_enter Tryz.func73, Tryz.ntmps73
    go_wp2
    all_goals go_ret
    all_goals exact ⟨ret_int (by first | (rw [rdig_val HD.out (by omega)]; omega) | rw [rdig_non HD.out (by omega)]), rfl⟩
  · have HD := hide (digv_lo h)
    obtain ⟨h1, h2⟩ := h
    go_enter Tryz.func73, Tryz.ntmps73
    go_wp2
    all_goals go_ret
    all_goals exact ⟨ret_int (by first | (rw [rdig_val HD.out (by omega)]; omega) | rw [rdig_non HD.out (by omega)]), rfl⟩
  · have HD := hide (digv_nu h)
    obtain ⟨h1, h2⟩ := h
    go_enter Tryz.func73, Tryz.ntmps73
    go_wp2
    all_goals go_ret
    all_goals exact ⟨ret_int (by rw [rdig_val HD.out (by omega)]), rfl⟩
  all_goals
    have HD := hide (digv_nat (digv_none (c := c) (by omega) (by omega) (by omega)))
    try obtain ⟨h1, h2⟩ := h
    go_enter Tryz.func73, Tryz.ntmps73
    go_wp2
    all_goals go_ret
    all_goals exact ⟨ret_int (by rw [rdig_non HD.out (by omega)]), rfl⟩

/-! ### Row by row -/
def dig (base : Nat) (c : UInt8) : Bool := decide (digv c < base)
theorem numE_empty {base : Nat} {l : List UInt8} (h : l = []) : numV base l = 0 ∧ numE base l = 50 := by subst h; simp [numV, numE]
theorem num_bad {base : Nat} {s : ByteArray} {k : Nat} (h : k < s.size) (hp : dig base s[k] = false) : numV base s.data.toList = 0 ∧ numE base s.data.toList = 50 := by
  have := all_no (dig base) s k h hp
  unfold dig at this
  unfold numV numE
  rw [this]
  simp
theorem num_big {base : Nat} {s : ByteArray} {k : Nat} {a : Int} (h0 : 0 < s.size) (hk : s.size ≤ k) (h : (s.data.toList.take k).all (dig base) = true) (ha : a = accu base (s.data.toList.take k)) (hb : 9007199254740992 < a) : numV base s.data.toList = 0 ∧ numE base s.data.toList = 51 := by
  rw [take_all s k hk] at h ha
  have hn : s.data.toList ≠ [] := fun e => by have := size_len s; rw [e] at this; simp at this; omega
  unfold dig at h
  have hb' : top < accu base s.data.toList := by unfold top; omega
  unfold numV numE
  rw [h]
  simp [hn, hb']
theorem num_fits {base : Nat} {s : ByteArray} {k : Nat} {a : Int} (h0 : 0 < s.size) (hk : s.size ≤ k) (h : (s.data.toList.take k).all (dig base) = true) (ha : a = accu base (s.data.toList.take k)) (hb : ¬ 9007199254740992 < a) : (numV base s.data.toList : Int) = a ∧ numE base s.data.toList = 0 := by
  rw [take_all s k hk] at h ha
  have hn : s.data.toList ≠ [] := fun e => by have := size_len s; rw [e] at this; simp at this; omega
  unfold dig at h
  have hb' : ¬ top < accu base s.data.toList := by unfold top; omega
  unfold numV numE
  rw [h]
  simp [hn, hb', ha]
theorem ret2 {a b : Int} {m n : Nat} (h : (m : Int) = a ∧ n = b) : Ending.returned (.tuple #[.int .i64 a, .int .i64 b]) = .returned (.tuple #[.int .i64 (m : Int), .int .i64 (n : Int)]) := by
  rw [← h.1, ← h.2]
theorem acc_next {base : Nat} {s : ByteArray} {k : Nat} {a : Int} (h : k < s.size) (ha : a = accu base (s.data.toList.take k)) : (a ≤ 9007199254740992 → a * base + digv s[k] = accu base (s.data.toList.take (k + 1))) ∧ (¬ a ≤ 9007199254740992 → a = accu base (s.data.toList.take (k + 1))) := by
  rw [take_snoc s k h, accu_snoc]
  unfold stp top
  constructor
  · intro hl
    rw [if_pos (by omega), ha]
    simp
  · intro hl
    rw [if_neg (by omega), ha]
theorem accI_le {base : Nat} (hb : base ≤ 16) {l : List UInt8} {a : Int} (ha : a = accu base l) : 0 ≤ a ∧ a ≤ 144115188075855888 := by
  have := accu_le base hb l
  unfold top at this
  omega

set_option maxHeartbeats 400000 in
theorem number_10 (s : ByteArray) (w : World) (hs : s.size ≤ maxLen) :
    Calls Tryz.prog 104 #[.string s, .int .i64 10] w fun e w' => e = .returned (.tuple #[.int .i64 (numV 10 s.data.toList : Int), .int .i64 (numE 10 s.data.toList : Int)]) ∧ w = w' := by
  unfold maxLen at hs
  by_cases h0 : 0 < s.size
  · have he : s.toList.isEmpty = false := by rw [Lib.toList_data, isEmpty_size]; exact decide_eq_false (by omega)
    have hz : ((s.size : Int) == 0) = false := beq_eq_false_iff_ne.2 (by omega)
    go_enter Tryz.func104, Tryz.ntmps104
    go_wp2
    go_loop [6, 13] (fun n i => ∃ (k : Nat) (a : Int), k ≤ s.size ∧ i = .int .i64 k ∧ n = .int .i64 a ∧ Hid (a = accu 10 (s.data.toList.take k)) ∧ Hid ((s.data.toList.take k).all (dig 10) = true)) (fun _ i => s.size - (intOf i).toNat)
    case atStart => exact ⟨0, 0, Nat.zero_le _, rfl, rfl, by simp [Hid, accu], by simp [Hid]⟩
    case round =>
      obtain ⟨k, a, hk, rfl, rfl, HA, H⟩ := hrel
      obtain ⟨ha0, ha1⟩ := accI_le (by omega) HA.out
      by_cases hlt : k < s.size
      · have hdl : (digv s[k] : Int) ≤ 16 := by have := digv_le s[k]; omega
        have HN := hide (acc_next hlt HA.out)
        cases hd : dig 10 s[k] with
        | true =>
          have HS : Hid ((s.data.toList.take (k + 1)).all (dig 10) = true) := by show _ = _; rw [all_snoc _ s k hlt, H.out, hd]; rfl
          replace hd : (digv s[k] : Int) < 10 := by simp [dig] at hd; omega
          by_cases hle : a ≤ 9007199254740992
          · have HM := hide (HN.out.1 hle)
            go_wp2_with (go_at_call 120; refine (digit_any _ _).mono ?_; rintro e w' ⟨rfl, rfl⟩)
            exact ⟨⟨k + 1, _, by omega, by go_num, rfl, HM, HS⟩, by simp [intOf]; omega⟩
          · have HM := hide (HN.out.2 hle)
            go_wp2_with (go_at_call 120; refine (digit_any _ _).mono ?_; rintro e w' ⟨rfl, rfl⟩)
            exact ⟨⟨k + 1, _, by omega, by go_num, rfl, HM, HS⟩, by simp [intOf]; omega⟩
        | false =>
          have HB := hide (num_bad hlt hd)
          replace hd : ¬ (digv s[k] : Int) < 10 := by simp [dig] at hd; omega
          go_wp2_with (go_at_call 120; refine (digit_any _ _).mono ?_; rintro e w' ⟨rfl, rfl⟩)
          go_ret2
          exact ⟨ret2 ⟨by rw [HB.out.1]; rfl, by rw [HB.out.2]; rfl⟩, rfl⟩
      · by_cases hbig : 9007199254740992 < a
        · have HB := hide (num_big h0 (show s.size ≤ k by omega) H.out HA.out hbig)
          go_wp2
          go_ret2
          exact ⟨ret2 ⟨by rw [HB.out.1]; rfl, by rw [HB.out.2]; rfl⟩, rfl⟩
        · have HB := hide (num_fits h0 (show s.size ≤ k by omega) H.out HA.out hbig)
          go_wp2
          go_ret2
          exact ⟨ret2 ⟨HB.out.1, by rw [HB.out.2]; rfl⟩, rfl⟩
  · have he : s.toList.isEmpty = true := by rw [Lib.toList_data, isEmpty_size]; exact decide_eq_true (by omega)
    have hz : ((s.size : Int) == 0) = true := beq_iff_eq.2 (by omega)
    have HB := hide (numE_empty (base := 10) (nil_list s h0))
    go_enter Tryz.func104, Tryz.ntmps104
    go_wp2
    go_ret2
    exact ⟨ret2 ⟨by rw [HB.out.1]; rfl, by rw [HB.out.2]; rfl⟩, rfl⟩

set_option maxHeartbeats 400000 in
theorem rnumber_10 (s : ByteArray) (w : World) (hs : s.size ≤ maxLen) :
    Calls Tryz.prog 50 #[.string s, .int .i64 10] w fun e w' => e = .returned (.tuple #[.int .i64 (numV 10 s.data.toList : Int), .int .i64 (numE 10 s.data.toList : Int)]) ∧ w = w' := by
  unfold maxLen at hs
  by_cases h0 : 0 < s.size
  · have he : s.toList.isEmpty = false := by rw [Lib.toList_data, isEmpty_size]; exact decide_eq_false (by omega)
    have hz : ((s.size : Int) == 0) = false := beq_eq_false_iff_ne.2 (by omega)
    go_enter Tryz.func50, Tryz.ntmps50
    go_wp2
    go_loop [6, 7] (fun n i => ∃ (k : Nat) (a : Int), k ≤ s.size ∧ i = .int .i64 k ∧ n = .int .i64 a ∧ Hid (a = accu 10 (s.data.toList.take k)) ∧ Hid ((s.data.toList.take k).all (dig 10) = true)) (fun _ i => s.size - (intOf i).toNat)
    case atStart => exact ⟨0, 0, Nat.zero_le _, rfl, rfl, by simp [Hid, accu], by simp [Hid]⟩
    case round =>
      obtain ⟨k, a, hk, rfl, rfl, HA, H⟩ := hrel
      obtain ⟨ha0, ha1⟩ := accI_le (by omega) HA.out
      by_cases hlt : k < s.size
      · have hdl : (digv s[k] : Int) ≤ 16 := by have := digv_le s[k]; omega
        have HN := hide (acc_next hlt HA.out)
        cases hd : dig 10 s[k] with
        | true =>
          have HS : Hid ((s.data.toList.take (k + 1)).all (dig 10) = true) := by show _ = _; rw [all_snoc _ s k hlt, H.out, hd]; rfl
          replace hd : (digv s[k] : Int) < 10 := by simp [dig] at hd; omega
          have hdr : rdig s[k] 10 = (digv s[k] : Int) := rdig_yes (by omega)
          by_cases hle : a ≤ 9007199254740992
          · have HM := hide (HN.out.1 hle)
            go_wp2_with (go_at_call 73; refine (rdigit_10 _ _).mono ?_; rintro e w' ⟨rfl, rfl⟩)
            exact ⟨⟨k + 1, _, by omega, by go_num, rfl, HM, HS⟩, by simp [intOf]; omega⟩
          · have HM := hide (HN.out.2 hle)
            go_wp2_with (go_at_call 73; refine (rdigit_10 _ _).mono ?_; rintro e w' ⟨rfl, rfl⟩)
            exact ⟨⟨k + 1, _, by omega, by go_num, rfl, HM, HS⟩, by simp [intOf]; omega⟩
        | false =>
          have HB := hide (num_bad hlt hd)
          replace hd : ¬ (digv s[k] : Int) < 10 := by simp [dig] at hd; omega
          have hdr : rdig s[k] 10 = -1 := rdig_no (by omega)
          go_wp2_with (go_at_call 73; refine (rdigit_10 _ _).mono ?_; rintro e w' ⟨rfl, rfl⟩)
          go_ret2
          exact ⟨ret2 ⟨by rw [HB.out.1]; rfl, by rw [HB.out.2]; rfl⟩, rfl⟩
      · by_cases hbig : 9007199254740992 < a
        · have HB := hide (num_big h0 (show s.size ≤ k by omega) H.out HA.out hbig)
          go_wp2
          go_ret2
          exact ⟨ret2 ⟨by rw [HB.out.1]; rfl, by rw [HB.out.2]; rfl⟩, rfl⟩
        · have HB := hide (num_fits h0 (show s.size ≤ k by omega) H.out HA.out hbig)
          go_wp2
          go_ret2
          exact ⟨ret2 ⟨HB.out.1, by rw [HB.out.2]; rfl⟩, rfl⟩
  · have he : s.toList.isEmpty = true := by rw [Lib.toList_data, isEmpty_size]; exact decide_eq_true (by omega)
    have hz : ((s.size : Int) == 0) = true := beq_iff_eq.2 (by omega)
    have HB := hide (numE_empty (base := 10) (nil_list s h0))
    go_enter Tryz.func50, Tryz.ntmps50
    go_wp2
    go_ret2
    exact ⟨ret2 ⟨by rw [HB.out.1]; rfl, by rw [HB.out.2]; rfl⟩, rfl⟩

set_option maxHeartbeats 400000 in
theorem number_16 (s : ByteArray) (w : World) (hs : s.size ≤ maxLen) :
    Calls Tryz.prog 104 #[.string s, .int .i64 16] w fun e w' => e = .returned (.tuple #[.int .i64 (numV 16 s.data.toList : Int), .int .i64 (numE 16 s.data.toList : Int)]) ∧ w = w' := by
  unfold maxLen at hs
  by_cases h0 : 0 < s.size
  · have he : s.toList.isEmpty = false := by rw [Lib.toList_data, isEmpty_size]; exact decide_eq_false (by omega)
    have hz : ((s.size : Int) == 0) = false := beq_eq_false_iff_ne.2 (by omega)
    go_enter Tryz.func104, Tryz.ntmps104
    go_wp2
    go_loop [6, 13] (fun n i => ∃ (k : Nat) (a : Int), k ≤ s.size ∧ i = .int .i64 k ∧ n = .int .i64 a ∧ Hid (a = accu 16 (s.data.toList.take k)) ∧ Hid ((s.data.toList.take k).all (dig 16) = true)) (fun _ i => s.size - (intOf i).toNat)
    case atStart => exact ⟨0, 0, Nat.zero_le _, rfl, rfl, by simp [Hid, accu], by simp [Hid]⟩
    case round =>
      obtain ⟨k, a, hk, rfl, rfl, HA, H⟩ := hrel
      obtain ⟨ha0, ha1⟩ := accI_le (by omega) HA.out
      by_cases hlt : k < s.size
      · have hdl : (digv s[k] : Int) ≤ 16 := by have := digv_le s[k]; omega
        have HN := hide (acc_next hlt HA.out)
        cases hd : dig 16 s[k] with
        | true =>
          have HS : Hid ((s.data.toList.take (k + 1)).all (dig 16) = true) := by show _ = _; rw [all_snoc _ s k hlt, H.out, hd]; rfl
          replace hd : (digv s[k] : Int) < 16 := by simp [dig] at hd; omega
          by_cases hle : a ≤ 9007199254740992
          · have HM := hide (HN.out.1 hle)
            go_wp2_with (go_at_call 120; refine (digit_any _ _).mono ?_; rintro e w' ⟨rfl, rfl⟩)
            exact ⟨⟨k + 1, _, by omega, by go_num, rfl, HM, HS⟩, by simp [intOf]; omega⟩
          · have HM := hide (HN.out.2 hle)
            go_wp2_with (go_at_call 120; refine (digit_any _ _).mono ?_; rintro e w' ⟨rfl, rfl⟩)
            exact ⟨⟨k + 1, _, by omega, by go_num, rfl, HM, HS⟩, by simp [intOf]; omega⟩
        | false =>
          have HB := hide (num_bad hlt hd)
          replace hd : ¬ (digv s[k] : Int) < 16 := by simp [dig] at hd; omega
          go_wp2_with (go_at_call 120; refine (digit_any _ _).mono ?_; rintro e w' ⟨rfl, rfl⟩)
          go_ret2
          exact ⟨ret2 ⟨by rw [HB.out.1]; rfl, by rw [HB.out.2]; rfl⟩, rfl⟩
      · by_cases hbig : 9007199254740992 < a
        · have HB := hide (num_big h0 (show s.size ≤ k by omega) H.out HA.out hbig)
          go_wp2
          go_ret2
          exact ⟨ret2 ⟨by rw [HB.out.1]; rfl, by rw [HB.out.2]; rfl⟩, rfl⟩
        · have HB := hide (num_fits h0 (show s.size ≤ k by omega) H.out HA.out hbig)
          go_wp2
          go_ret2
          exact ⟨ret2 ⟨HB.out.1, by rw [HB.out.2]; rfl⟩, rfl⟩
  · have he : s.toList.isEmpty = true := by rw [Lib.toList_data, isEmpty_size]; exact decide_eq_true (by omega)
    have hz : ((s.size : Int) == 0) = true := beq_iff_eq.2 (by omega)
    have HB := hide (numE_empty (base := 16) (nil_list s h0))
    go_enter Tryz.func104, Tryz.ntmps104
    go_wp2
    go_ret2
    exact ⟨ret2 ⟨by rw [HB.out.1]; rfl, by rw [HB.out.2]; rfl⟩, rfl⟩

set_option maxHeartbeats 400000 in
theorem rnumber_16 (s : ByteArray) (w : World) (hs : s.size ≤ maxLen) :
    Calls Tryz.prog 50 #[.string s, .int .i64 16] w fun e w' => e = .returned (.tuple #[.int .i64 (numV 16 s.data.toList : Int), .int .i64 (numE 16 s.data.toList : Int)]) ∧ w = w' := by
  unfold maxLen at hs
  by_cases h0 : 0 < s.size
  · have he : s.toList.isEmpty = false := by rw [Lib.toList_data, isEmpty_size]; exact decide_eq_false (by omega)
    have hz : ((s.size : Int) == 0) = false := beq_eq_false_iff_ne.2 (by omega)
    go_enter Tryz.func50, Tryz.ntmps50
    go_wp2
    go_loop [6, 7] (fun n i => ∃ (k : Nat) (a : Int), k ≤ s.size ∧ i = .int .i64 k ∧ n = .int .i64 a ∧ Hid (a = accu 16 (s.data.toList.take k)) ∧ Hid ((s.data.toList.take k).all (dig 16) = true)) (fun _ i => s.size - (intOf i).toNat)
    case atStart => exact ⟨0, 0, Nat.zero_le _, rfl, rfl, by simp [Hid, accu], by simp [Hid]⟩
    case round =>
      obtain ⟨k, a, hk, rfl, rfl, HA, H⟩ := hrel
      obtain ⟨ha0, ha1⟩ := accI_le (by omega) HA.out
      by_cases hlt : k < s.size
      · have hdl : (digv s[k] : Int) ≤ 16 := by have := digv_le s[k]; omega
        have HN := hide (acc_next hlt HA.out)
        cases hd : dig 16 s[k] with
        | true =>
          have HS : Hid ((s.data.toList.take (k + 1)).all (dig 16) = true) := by show _ = _; rw [all_snoc _ s k hlt, H.out, hd]; rfl
          replace hd : (digv s[k] : Int) < 16 := by simp [dig] at hd; omega
          have hdr : rdig s[k] 16 = (digv s[k] : Int) := rdig_yes (by omega)
          by_cases hle : a ≤ 9007199254740992
          · have HM := hide (HN.out.1 hle)
            go_wp2_with (go_at_call 73; refine (rdigit_16 _ _).mono ?_; rintro e w' ⟨rfl, rfl⟩)
            exact ⟨⟨k + 1, _, by omega, by go_num, rfl, HM, HS⟩, by simp [intOf]; omega⟩
          · have HM := hide (HN.out.2 hle)
            go_wp2_with (go_at_call 73; refine (rdigit_16 _ _).mono ?_; rintro e w' ⟨rfl, rfl⟩)
            exact ⟨⟨k + 1, _, by omega, by go_num, rfl, HM, HS⟩, by simp [intOf]; omega⟩
        | false =>
          have HB := hide (num_bad hlt hd)
          replace hd : ¬ (digv s[k] : Int) < 16 := by simp [dig] at hd; omega
          have hdr : rdig s[k] 16 = -1 := rdig_no (by omega)
          go_wp2_with (go_at_call 73; refine (rdigit_16 _ _).mono ?_; rintro e w' ⟨rfl, rfl⟩)
          go_ret2
          exact ⟨ret2 ⟨by rw [HB.out.1]; rfl, by rw [HB.out.2]; rfl⟩, rfl⟩
      · by_cases hbig : 9007199254740992 < a
        · have HB := hide (num_big h0 (show s.size ≤ k by omega) H.out HA.out hbig)
          go_wp2
          go_ret2
          exact ⟨ret2 ⟨by rw [HB.out.1]; rfl, by rw [HB.out.2]; rfl⟩, rfl⟩
        · have HB := hide (num_fits h0 (show s.size ≤ k by omega) H.out HA.out hbig)
          go_wp2
          go_ret2
          exact ⟨ret2 ⟨HB.out.1, by rw [HB.out.2]; rfl⟩, rfl⟩
  · have he : s.toList.isEmpty = true := by rw [Lib.toList_data, isEmpty_size]; exact decide_eq_true (by omega)
    have hz : ((s.size : Int) == 0) = true := beq_iff_eq.2 (by omega)
    have HB := hide (numE_empty (base := 16) (nil_list s h0))
    go_enter Tryz.func50, Tryz.ntmps50
    go_wp2
    go_ret2
    exact ⟨ret2 ⟨by rw [HB.out.1]; rfl, by rw [HB.out.2]; rfl⟩, rfl⟩

theorem Number_any (s : ByteArray) (w : World) (hs : s.size ≤ maxLen) :
    Calls Tryz.prog 78 #[.string s] w fun e w' => e = .returned (.tuple #[.int .i64 (numV 10 s.data.toList : Int), .int .i64 (numE 10 s.data.toList : Int)]) ∧ w = w' := by
  go_enter Tryz.func78, Tryz.ntmps78
  go_wp2_with (go_at_call 104; refine (number_10 _ _ hs).mono ?_; rintro e w' ⟨rfl, rfl⟩)
  go_ret2
  exact ⟨rfl, rfl⟩
theorem Hex_any (s : ByteArray) (w : World) (hs : s.size ≤ maxLen) :
    Calls Tryz.prog 119 #[.string s] w fun e w' => e = .returned (.tuple #[.int .i64 (numV 16 s.data.toList : Int), .int .i64 (numE 16 s.data.toList : Int)]) ∧ w = w' := by
  go_enter Tryz.func119, Tryz.ntmps119
  go_wp2_with (go_at_call 104; refine (number_16 _ _ hs).mono ?_; rintro e w' ⟨rfl, rfl⟩)
  go_ret2
  exact ⟨rfl, rfl⟩
end Go.Proofs.YtekkhjlipijmcaaGreatDoor
/- A text in small letters: the program's and the document's. -/
namespace Go.Proofs.YtekkhjlipijmcaaGreatDoor
open Go.ChangeShapes Go.WideShapes Go.ChangeAt Go.RowKit

def lowS (s : ByteArray) : ByteArray := ⟨(lowerB s.data.toList).toArray⟩
theorem lowS_size (s : ByteArray) : (lowS s).size = s.size := by
  show (lowerB s.data.toList).length = s.size
  simp [lowerB]
theorem lowS_list (s : ByteArray) : (lowS s).data.toList = lowerB s.data.toList := by simp [lowS]
theorem lowc_up {c : UInt8} (h : 65 ≤ c.toNat) (h2 : c.toNat ≤ 90) : ((lowc c).toNat : Int) = c.toNat + 32 := by
  unfold lowc
  rw [if_pos ⟨h, h2⟩, UInt8.toNat_ofNat']
  omega
theorem lowc_id {c : UInt8} (h : ¬ (65 ≤ c.toNat ∧ c.toNat ≤ 90)) : lowc c = c := by unfold lowc; rw [if_neg h]

/-- Behind k rounds: the first k bytes are small. -/
structure Low (w wr : World) (s : ByteArray) (k : Nat) : Prop where
  blk : ∃ C, wr.heap[w.heap.size]? = some (.cells C 5 (C.size, C.size + 1)) ∧ ∀ j (h : j < s.size), C[j]? = some (.int .u8 ((if j < k then lowc s[j] else s[j]).toNat : Int))
  below : Below w.heap.size w wr
theorem Low.start (w : World) (s : ByteArray) (cap : Nat) : Low w (w.drew.alloc (.cells (bytesRow s cap) 5 ((bytesRow s cap).size, (bytesRow s cap).size + 1))) s 0 := by
  refine ⟨⟨bytesRow s cap, hp_new w.drew _, fun j h => ?_⟩, ((Below.refl _ w).drew).alloc (Nat.le_refl _) _⟩
  rw [bytesRow_at s cap j h, if_neg (by omega)]
  rfl
theorem Low.cell {w wr : World} {s : ByteArray} {k : Nat} (h : Low w wr s k) (hk : k < s.size) : wr.cell? ⟨w.heap.size, k, none⟩ = some (.int .u8 (s[k].toNat : Int)) := by
  obtain ⟨C, h1, h2⟩ := h.blk
  rw [cell_at h1, h2 k hk, if_neg (by omega)]
theorem Low.frozen {w wr : World} {s : ByteArray} {k : Nat} (h : Low w wr s k) (hk : k < s.size) : wr.frozen? ⟨w.heap.size, k, none⟩ = false := by
  obtain ⟨C, h1, h2⟩ := h.blk
  have : k < C.size := by
    have := h2 k hk
    exact (Array.getElem?_eq_some_iff.1 this).1
  rw [frozen_at h1]
  simp; omega
theorem Low.skip {w wr : World} {s : ByteArray} {k : Nat} (h : Low w wr s k) (hk : k < s.size) (hi : lowc s[k] = s[k]) : Low w wr s (k + 1) := by
  obtain ⟨C, h1, h2⟩ := h.blk
  refine ⟨⟨C, h1, fun j hj => ?_⟩, h.below⟩
  rw [h2 j hj]
  by_cases e : j = k
  · subst e
    rw [if_neg (by omega), if_pos (by omega), hi]
  · by_cases e2 : j < k
    · rw [if_pos e2, if_pos (by omega)]
    · rw [if_neg e2, if_neg (by omega)]
theorem Low.step {w wr : World} {s : ByteArray} {k : Nat} (h : Low w wr s k) (hk : k < s.size) {x : Int} (hx : ((lowc s[k]).toNat : Int) = x) : Low w (wr.setCell ⟨w.heap.size, k, none⟩ (.int .u8 x)) s (k + 1) := by
  obtain ⟨C, h1, h2⟩ := h.blk
  have hC : k < C.size := (Array.getElem?_eq_some_iff.1 (h2 k hk)).1
  refine ⟨⟨C.setIfInBounds k (.int .u8 x), ?_, fun j hj => ?_⟩, h.below.setCell (Nat.le_refl _) _⟩
  · have := hp_set h1 k (.int .u8 x)
    rw [this]
    simp
  · rw [Array.getElem?_setIfInBounds]
    by_cases e : k = j
    · subst e
      rw [if_pos rfl, if_pos hC, if_pos (by omega), hx]
    · rw [if_neg e, h2 j hj]
      by_cases e2 : j < k
      · rw [if_pos e2, if_pos (by omega)]
      · rw [if_neg e2, if_neg (by omega)]
theorem Low.text {w wr : World} {s : ByteArray} {k : Nat} (h : Low w wr s k) (hk : s.size ≤ k) (cap : Nat) : (convert 99 9 (.slice (some ⟨w.heap.size, 0, none⟩) s.size cap)).run Tryz.prog wr = .ok (.string (lowS s)) wr := by
  obtain ⟨C, h1, h2⟩ := h.blk
  have hl : s.size = (lowerB s.data.toList).length := by simp [lowerB]
  rw [hl]
  refine run_convert_bytes_back wr 99 9 5 ⟨w.heap.size, 0, none⟩ cap (lowerB s.data.toList) Tryz.underlying99 Tryz.underlying5 Tryz.underlying9 (fun j hj => ?_)
  have e : (⟨w.heap.size, 0, none⟩ : Addr).add j = ⟨w.heap.size, j, none⟩ := by unfold Addr.add; split <;> simp_all
  rw [e, cell_at h1, h2 j (by omega), if_pos (by omega)]
  simp [lowerB]
  rfl

set_option maxHeartbeats 400000 in
theorem lower_any (s : ByteArray) (w : World) (hs : s.size ≤ maxLen) :
    Calls Tryz.prog 58 #[.string s] w fun e w' => e = .returned (.string (lowS s)) ∧ Below w.heap.size w w' := by
  unfold maxLen at hs
  have hconv := run_bytes_of_string (P := Tryz.prog) w 9 99 5 s Tryz.underlying9 Tryz.underlying99 Tryz.underlying5
  generalize grownCap w s.size 0 5 = cap at hconv
  have HS := hide (Low.start w s cap)
  go_enter Tryz.func58, Tryz.ntmps58
  go_wp2
  clear hconv
  go_loopw [10] (fun i wr => ∃ k : Nat, k ≤ s.size ∧ i = .int .i64 k ∧ Hid (Low w wr s k)) (fun i _ => s.size - (intOf i).toNat)
  case atStart => exact ⟨0, Nat.zero_le _, rfl, HS⟩
  case round =>
    clear HS
    obtain ⟨k, hk, rfl, H⟩ := hrel
    by_cases hlt : k < s.size
    · have hc := H.out.cell hlt
      have hf := H.out.frozen hlt
      have hb := byte_lt s[k]
      by_cases hu : 65 ≤ s[k].toNat ∧ s[k].toNat ≤ 90
      · obtain ⟨h1, h2⟩ := hu
        have HL := hide (lowc_up h1 h2)
        go_wp2
        exact ⟨⟨k + 1, by omega, by go_num, H.out.step hlt (by rw [HL.out]; omega)⟩, by simp [intOf]; omega⟩
      · have HL := hide (H.out.skip hlt (lowc_id hu))
        by_cases h1 : 65 ≤ s[k].toNat
        · have h2 : 90 < s[k].toNat := by omega
          clear hu
          go_wp2
          exact ⟨⟨k + 1, by omega, by go_num, HL⟩, by simp [intOf]; omega⟩
        · clear hu
          go_wp2
          exact ⟨⟨k + 1, by omega, by go_num, HL⟩, by simp [intOf]; omega⟩
    · have ht := H.out.text (show s.size ≤ k by omega) cap
      go_wp2
      go_ret
      exact ⟨rfl, H.out.below⟩

/-! ### The document's -/
theorem low_snoc (s : ByteArray) (k : Nat) (h : k < s.size) : lowerB (s.data.toList.take (k + 1)) = lowerB (s.data.toList.take k) ++ [lowc s[k]] := by
  rw [take_snoc s k h]; simp [lowerB]
theorem low_len (s : ByteArray) (k : Nat) (h : k ≤ s.size) : (bc (lowerB (s.data.toList.take k))).length = k := by
  simp [bc, lowerB]; omega
set_option maxHeartbeats 400000 in
theorem rlower_any (s : ByteArray) (w : World) (hs : s.size ≤ 140737488355328) :
    Calls Tryz.prog 51 #[.string s] w fun e w' => e = .returned (.string (lowS s)) ∧ Below w.heap.size w w' := by
  go_enter Tryz.func51, Tryz.ntmps51
  go_wp2
  go_loopw [3, 4] (fun o i wr => ∃ k : Nat, k ≤ s.size ∧ i = .int .i64 k ∧ Hid (Row wr w.heap.size 5 o (bc (lowerB (s.data.toList.take k)))) ∧ Hid (Below w.heap.size w wr)) (fun _ i _ => s.size - (intOf i).toNat)
  case atStart => exact ⟨0, Nat.zero_le _, rfl, hide (Row.nil _ _ _), hide (Below.refl _ _)⟩
  case round =>
    obtain ⟨k, hk, rfl, HR, HB⟩ := hrel
    have HN := hide (low_len s k hk)
    by_cases hlt : k < s.size
    · have hb := byte_lt s[k]
      have HS := hide (low_snoc s k hlt)
      obtain ⟨a, c, rfl, _, _⟩ := HR.out.shape
      have HR2 : ∀ (x : Int) (v : Value) (W : World), ((lowc s[k]).toNat : Int) = x → Row W w.heap.size 5 v (bc (lowerB (s.data.toList.take k)) ++ [.int .u8 x]) → Row W w.heap.size 5 v (bc (lowerB (s.data.toList.take (k + 1)))) := by
        intro x v W hx h
        rw [HS.out, bc_snoc, hx]
        exact h
      have HR3 := hide HR2
      clear HR2
      by_cases hu : 65 ≤ s[k].toNat ∧ s[k].toNat ≤ 90
      · have HL := hide (lowc_up hu.1 hu.2)
        obtain ⟨h1, h2⟩ := hu
        go_wp2_with (at_builtin; apply Hid.out)
        unfold Hid
        refine wpList_append_one elB rfl _ _ rfl wr w.heap.size (.slice a (bc (lowerB (s.data.toList.take k))).length c) (bc (lowerB (s.data.toList.take k))) (.int .u8 ((s[k].toNat : Int) - 65 + 97)) rfl rfl HR.out rfl (by rw [HN.out]; omega) (by rw [HN.out]; omega) HB.out.size ?_
        intro v' w' O' B'
        have O2 := hide O'
        have B2 := hide (HB.out.trans B')
        clear O' B'
        go_wp2
        exact ⟨⟨k + 1, by omega, by go_num, hide (HR3.out _ _ _ (by rw [HL.out]; omega) O2.out), B2⟩, by simp [intOf]; omega⟩
      · have HL := hide (lowc_id hu)
        by_cases h1 : 65 ≤ s[k].toNat
        · have h2 : 90 < s[k].toNat := by omega
          clear hu
          go_wp2_with (at_builtin; apply Hid.out)
          unfold Hid
          refine wpList_append_one elB rfl _ _ rfl wr w.heap.size (.slice a (bc (lowerB (s.data.toList.take k))).length c) (bc (lowerB (s.data.toList.take k))) (.int .u8 (s[k].toNat : Int)) rfl rfl HR.out rfl (by rw [HN.out]; omega) (by rw [HN.out]; omega) HB.out.size ?_
          intro v' w' O' B'
          have O2 := hide O'
          have B2 := hide (HB.out.trans B')
          clear O' B'
          go_wp2
          exact ⟨⟨k + 1, by omega, by go_num, hide (HR3.out _ _ _ (by rw [HL.out]) O2.out), B2⟩, by simp [intOf]; omega⟩
        · clear hu
          go_wp2_with (at_builtin; apply Hid.out)
          unfold Hid
          refine wpList_append_one elB rfl _ _ rfl wr w.heap.size (.slice a (bc (lowerB (s.data.toList.take k))).length c) (bc (lowerB (s.data.toList.take k))) (.int .u8 (s[k].toNat : Int)) rfl rfl HR.out rfl (by rw [HN.out]; omega) (by rw [HN.out]; omega) HB.out.size ?_
          intro v' w' O' B'
          have O2 := hide O'
          have B2 := hide (HB.out.trans B')
          clear O' B'
          go_wp2
          exact ⟨⟨k + 1, by omega, by go_num, hide (HR3.out _ _ _ (by rw [HL.out]) O2.out), B2⟩, by simp [intOf]; omega⟩
    · have ht := HR.out.text
      rw [take_all s k (by omega)] at ht
      go_wp2
      go_ret
      exact ⟨rfl, HB.out⟩

theorem str_beq (a b : ByteArray) : (a.toList == b.toList) = decide (a.data.toList = b.data.toList) := by rw [Lib.toList_data, Lib.toList_data, beq_list]
theorem same_eq (a b : ByteArray) : ((lowS a).toList == (lowS b).toList) = sameB a.data.toList b.data.toList := by rw [str_beq, lowS_list, lowS_list]; rfl
theorem same_any (a b : ByteArray) (w : World) (ha : a.size ≤ maxLen) (hb : b.size ≤ maxLen) :
    Calls Tryz.prog 93 #[.string a, .string b] w fun e w' => e = .returned (.bool (sameB a.data.toList b.data.toList)) ∧ Below w.heap.size w w' := by
  have hE := hide (same_eq a b)
  have hA := hide (fun w => lower_any a w ha)
  have hB := hide (fun w => lower_any b w hb)
  generalize lowS a = la at hE hA
  generalize lowS b = lb at hE hB
  go_enter Tryz.func93, Tryz.ntmps93
  go_wp2_with fail
  refine (hA.out _).mono ?_
  rintro e w1 ⟨rfl, b1⟩
  go_wp2_with fail
  refine (hB.out _).mono ?_
  rintro e w2 ⟨rfl, b2⟩
  go_wp2
  go_ret
  exact ⟨ret_bool hE.out, b1.trans (b2.mono b1.size)⟩
end Go.Proofs.YtekkhjlipijmcaaGreatDoor
/- Blocks of a call's own, each by what it holds. -/
namespace Go.Proofs.YtekkhjlipijmcaaGreatDoor
open Go.ChangeShapes Go.WideShapes Go.ChangeAt Go.RowKit

/-- The blocks behind those of w, as many as L has, hold what L says; those of w are as they were. -/
structure Bl (w x : World) (L : List (Array Value × TypeId)) : Prop where
  hp : ∀ i c t, L[i]? = some (c, t) → x.heap[w.heap.size + i]? = some (.cells c t)
  b : Below w.heap.size w x
theorem Bl.nil (w : World) : Bl w w [] := ⟨fun i c t h => by simp at h, Below.refl _ w⟩
theorem Bl.add {w x : World} {L : List (Array Value × TypeId)} (h : Bl w x L) (hs : x.heap.size = w.heap.size + L.length) (c : Array Value) (t : TypeId) : Bl w (x.alloc (.cells c t)) (L ++ [(c, t)]) := by
  refine ⟨fun i c' t' hi => ?_, h.b.alloc (by omega) _⟩
  by_cases hl : i < L.length
  · rw [List.getElem?_append_left hl] at hi
    rw [Below.heap_alloc _ _ _ (by omega)]
    exact h.hp i c' t' hi
  · have hi2 : i = L.length := by
      have := (List.getElem?_eq_some_iff.1 hi).1
      simp at this
      omega
    subst hi2
    simp at hi
    obtain ⟨rfl, rfl⟩ := hi
    rw [← hs]
    exact hp_new _ _
theorem Bl.one (w : World) (c : Array Value) (t : TypeId) : Bl w (w.alloc (.cells c t)) [(c, t)] := (Bl.nil w).add rfl c t
theorem Bl.two (w : World) (c : Array Value) (t : TypeId) (c1 : Array Value) (t1 : TypeId) : Bl w ((w.alloc (.cells c t)).alloc (.cells c1 t1)) [(c, t), (c1, t1)] := (Bl.one w c t).add (by simp) c1 t1
theorem Bl.three (w : World) (c : Array Value) (t : TypeId) (c1 : Array Value) (t1 : TypeId) (c2 : Array Value) (t2 : TypeId) : Bl w (((w.alloc (.cells c t)).alloc (.cells c1 t1)).alloc (.cells c2 t2)) [(c, t), (c1, t1), (c2, t2)] := (Bl.two w c t c1 t1).add (by simp) c2 t2
theorem blk_lt {x : World} {b : Nat} {o : Obj} (h : x.heap[b]? = some o) : b < x.heap.size := (Array.getElem?_eq_some_iff.1 h).1
theorem Bl.below {w x y : World} {L : List (Array Value × TypeId)} (h : Bl w x L) (hb : Below x.heap.size x y) : Bl w y L :=
  ⟨fun i c t hi => (hb.block _ (blk_lt (h.hp i c t hi))).trans (h.hp i c t hi), h.b.trans (hb.mono h.b.size)⟩
theorem Bl.drew {w x : World} {L : List (Array Value × TypeId)} (h : Bl w x L) : Bl w x.drew L := h.below (Below.refl _ x).drew
theorem Bl.cell {w x : World} {L : List (Array Value × TypeId)} (h : Bl w x L) (i : Nat) {c : Array Value} {t : TypeId} (hi : L[i]? = some (c, t)) (j : Nat) : x.cell? ⟨w.heap.size + i, j, none⟩ = c[j]? := cell_at (h.hp i c t hi) j
theorem Bl.fr {w x : World} {L : List (Array Value × TypeId)} (h : Bl w x L) (i : Nat) {c : Array Value} {t : TypeId} (hi : L[i]? = some (c, t)) (j : Nat) : x.frozen? ⟨w.heap.size + i, j, none⟩ = false := by
  rw [frozen_at (h.hp i c t hi)]; simp
theorem Bl.set {w x : World} {L : List (Array Value × TypeId)} (h : Bl w x L) (i : Nat) {c : Array Value} {t : TypeId} (hi : L[i]? = some (c, t)) (j : Nat) (v : Value) : Bl w (x.setCell ⟨w.heap.size + i, j, none⟩ v) (L.set i (c.setIfInBounds j v, t)) := by
  have hlen := (List.getElem?_eq_some_iff.1 hi).1
  refine ⟨fun k c' t' hk => ?_, h.b.setCell (by simp) _⟩
  by_cases hki : k = i
  · subst hki
    rw [List.getElem?_set_self hlen] at hk
    simp only [Option.some.injEq, Prod.mk.injEq] at hk
    obtain ⟨rfl, rfl⟩ := hk
    exact hp_set (h.hp k c t hi) j v
  · rw [List.getElem?_set_ne (fun e => hki e.symm)] at hk
    rw [Below.heap_setCell _ _ _ _ (by simp; omega)]
    exact h.hp k c' t' hk
end Go.Proofs.YtekkhjlipijmcaaGreatDoor
/- An append to a row of the call's own: which blocks stay as they were, and where the new row lies. -/
namespace Go.Proofs.YtekkhjlipijmcaaGreatDoor
open Go.ChangeShapes Go.WideShapes Go.ChangeAt Go.RowKit

/-- From W and the row v to W' and the row v': all blocks but v's own are as they were, and v' lies in none of them. -/
structure Kept (W W' : World) (v v' : Value) : Prop where
  size : W.heap.size ≤ W'.heap.size
  block : ∀ g, g < W.heap.size → v.ownBlock ≠ some g → W'.heap[g]? = W.heap[g]?
  apart : ∀ g, g < W.heap.size → v.ownBlock ≠ some g → v'.ownBlock ≠ some g
theorem Kept.refl (W : World) (v : Value) : Kept W W v v := ⟨Nat.le_refl _, fun _ _ _ => rfl, fun _ _ h => h⟩
theorem Kept.trans {A B C : World} {u v x : Value} (h : Kept A B u v) (k : Kept B C v x) : Kept A C u x :=
  ⟨Nat.le_trans h.size k.size, fun g hg hn => (k.block g (Nat.lt_of_lt_of_le hg h.size) (h.apart g hg hn)).trans (h.block g hg hn), fun g hg hn => k.apart g (Nat.lt_of_lt_of_le hg h.size) (h.apart g hg hn)⟩
theorem Kept.below {A B C : World} {u v : Value} (h : Kept A B u v) (hb : Below B.heap.size B C) : Kept A C u v :=
  ⟨Nat.le_trans h.size hb.size, fun g hg hn => (hb.block g (Nat.lt_of_lt_of_le hg h.size)).trans (h.block g hg hn), h.apart⟩
theorem Kept.cell {W W' : World} {v v' : Value} (h : Kept W W' v v') {g j : Nat} (hg : g < W.heap.size) (hn : v.ownBlock ≠ some g) : W'.cell? ⟨g, j, none⟩ = W.cell? ⟨g, j, none⟩ := by
  unfold World.cell?
  rw [h.block g hg hn]
theorem append_one_k {t e : TypeId} {z : Value} {bts : Nat} (E : El t e z bts) (W : World) (base : Nat) (ty : TypeId) (v : Value) (xs : List Value) (y : Value) (hown : Row W base e v xs) (hy : y.oneCell' = true) (hn : (xs.length + 1) * bts ≤ 140737488355328) (hn2 : xs.length + 1 ≤ 140737488355328) (hbase : base ≤ W.heap.size) :
    ∃ v' W', (Builtin.append_ #[t, t] ty #[v, .slice (some ⟨W.heap.size, 0, none⟩) 1 1]).run Tryz.prog (W.alloc (.cells #[y] e)) = .ok v' W' ∧ Row W' base e v' (xs ++ [y]) ∧ Below base W W' ∧ Kept W W' v v' := by
  obtain ⟨i, hi, hz, hs1, hb1⟩ := E.i
  have ho : Row (W.alloc (.cells #[y] e)) base e v xs := hown.frame fun g hg => Below.heap_alloc W _ g (hown.lt hg).2
  have hsz : (W.alloc (.cells #[y] e)).heap.size = W.heap.size + 1 := by show (W.heap.push _).size = _; simp
  obtain ⟨v', W', hr, h1, hg, _, hloc⟩ := run_append_own_at (w := W.alloc (.cells #[y] e)) base t ty e i z 1 bts E.u hi hz hs1 hb1 E.z1 (by omega) v xs.length xs ho ⟨W.heap.size, 0, none⟩ 1 1 [y] rfl (one_cell W y e) (by intro u hu; simp at hu; subst hu; exact hy) (by unfold maxLen; omega) hn (by rw [hsz]; omega)
  refine ⟨v', W', hr, ?_, ?_, ?_⟩
  · unfold Row
    rw [List.length_append]
    exact h1
  · exact ((Below.refl base W).alloc hbase _).grown hg (by rw [hsz]; omega) (fun k hk => (hown.lt hk).1)
  · have hs2 := hg.size
    refine ⟨by rw [hsz] at hs2; omega, fun g h2 h3 => ?_, fun g h2 h3 h4 => ?_⟩
    · rw [hg.block g (by rw [hsz]; omega) (fun h => h3 h.symm)]
      exact Below.heap_alloc W _ g h2
    · rcases hloc with h5 | h5
      · exact h3 (h5.symm.trans h4)
      · rw [h5, hsz] at h4
        simp only [Option.some.injEq] at h4
        omega
theorem wpList_append_one_k {t e : TypeId} {z : Value} {bts : Nat} (E : El t e z bts) {ops : Array Oper} {rest : List Oper} {o : Oper} {a : Act} {Q : Exit → Act → World → Prop} (hgd : o.guard = none) (s x : Operand)
    (ho : o.op = .call { callee := .builtin .append, args := #[s, x], argTypes := #[t, t] }) (W : World) (base : Nat) (v : Value) (xs : List Value) (y : Value) (hs : a.eval s = v) (hx : a.eval x = .slice (some ⟨W.heap.size, 0, none⟩) 1 1)
    (hown : Row W base e v xs) (hy : y.oneCell' = true) (hn : (xs.length + 1) * bts ≤ 140737488355328) (hn2 : xs.length + 1 ≤ 140737488355328) (hbase : base ≤ W.heap.size)
    (h : ∀ v' W', Row W' base e v' (xs ++ [y]) → Below base W W' → Kept W W' v v' → wpList Tryz.prog ops Q rest (a.put o.dst v') W') : wpList Tryz.prog ops Q (o :: rest) a (W.alloc (.cells #[y] e)) := by
  refine wpList_plain hgd fun K hK => ?_
  obtain ⟨v', W', hr, h2, h3, h4⟩ := append_one_k E W base o.type v xs y hown hy hn hn2 hbase
  unfold Oper.wp execOp
  simp only [ho, resolve, invoke, builtin, Sem.run_bind, Sem.run_pure, Result.andThen_ok, List.map_toArray, List.map_cons, List.map_nil, hs, hx, hr]
  exact hK _ _ (h v' W' h2 h3 h4)
end Go.Proofs.YtekkhjlipijmcaaGreatDoor
/- A drawn region whose callees make blocks: one walk in the order of the text, over the class of worlds that part in new blocks alone. -/
namespace Go.Proofs.YtekkhjlipijmcaaGreatDoor
open Go.ChangeShapes Go.WideShapes Go.ChangeAt Go.RowKit

/-- Worlds that part in new blocks alone. -/
def Cl (w W : World) : Prop := Below w.heap.size w W
theorem Cl.out {w W : World} (h : Cl w W) : Below w.heap.size w W := h
theorem Cl.cell {w W : World} (h : Cl w W) {a : Addr} {v : Value} (hc : w.cell? a = some v) : W.cell? a = some v :=
  (h.out.cell (World.block_lt_of_cell? w a hc)).trans hc
theorem call_cl {P : Program} {f : Nat} {args : Array Value} {w W : World} {r : Value} (h : Cl w W) (c : Calls P f args W fun e w' => e = .returned r ∧ Below W.heap.size W w') : Calls P f args W fun e w' => e = .returned r ∧ Cl w w' :=
  c.mono fun _ _ ⟨h1, h2⟩ => ⟨h1, h.out.trans (h2.mono h.out.size)⟩
theorem call_cl_same {P : Program} {f : Nat} {args : Array Value} {w W : World} {r : Value} (h : Cl w W) (c : Calls P f args W fun e w' => e = .returned r ∧ W = w') : Calls P f args W fun e w' => e = .returned r ∧ Cl w w' :=
  c.mono fun _ _ ⟨h1, h2⟩ => ⟨h1, h2 ▸ h⟩
theorem wp_region_cl {P : Program} {id : Nat} {Q : Exit → Act → World → Prop} {a : Act} {w : World} {l : List Oper} (hm : P.follows .mixedOrders = true) (hB : Region.lexB .any l.toArray = true)
    (h : wpQuiet P l.toArray (Cl w) (fun a' => ∀ w', Cl w w' → Q .normal a' w') l a) : (Code.region id l.toArray true).wp P Q a w :=
  wp_region_quiet (C := Cl w) hm hB ⟨rfl, rfl, rfl, Nat.le_refl _, fun _ _ => rfl⟩ (by simpa using h)
section
variable {P : Program} {ops : Array Oper} {C : World → Prop} {Q : Act → Prop} {a : Act} {o : Oper} {rest : List Oper}
theorem cl_val {v : Value} (hw : Region.wanted o (yielded ops a.tmps) = true) (h : ∀ W, C W → o.quietAt P a C W v) (hk : wpQuiet P ops C Q rest (a.put o.dst v)) : wpQuiet P ops C Q (o :: rest) a :=
  BigFrame.wpQuiet_want hw (fun _ hK => ⟨v, h, hK _ hk⟩)
theorem cl_move (x : Operand) (hw : Region.wanted o (yielded ops a.tmps) = true) (h : o.op = .move x) (hk : wpQuiet P ops C Q rest (a.put o.dst (a.eval x))) : wpQuiet P ops C Q (o :: rest) a :=
  BigFrame.wpQuiet_want hw (fun _ hK => BigFrame.quiet_move x h (hK _ hk))
theorem cl_assign (x : Operand) (hw : Region.wanted o (yielded ops a.tmps) = true) (h : o.op = .assign x) (hk : wpQuiet P ops C Q rest (a.put o.dst (a.eval x))) : wpQuiet P ops C Q (o :: rest) a :=
  BigFrame.wpQuiet_want hw (fun _ hK => BigFrame.quiet_assign x h (hK _ hk))
theorem cl_skip (hw : Region.wanted o (yielded ops a.tmps) = false) (hk : wpQuiet P ops C Q rest (a.put o.dst undef)) : wpQuiet P ops C Q (o :: rest) a :=
  BigFrame.wpQuiet_skip hw hk
end
end Go.Proofs.YtekkhjlipijmcaaGreatDoor
