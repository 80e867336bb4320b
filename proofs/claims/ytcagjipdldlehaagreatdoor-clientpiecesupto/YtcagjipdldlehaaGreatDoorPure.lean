/- Package lexis as plain functions on lists of bytes, and what follows of them: no program in it. -/
import Derived.Lib.SlTrimSet
import Derived.Lib.ItoaMem
namespace Go.Proofs.YtcagjipdldlehaaGreatDoor

theorem snoc_ind {α : Type} {P : List α → Prop} (h0 : P []) (h1 : ∀ l c, P l → P (l ++ [c])) (l : List α) : P l := by
  have : ∀ r : List α, P r.reverse := by
    intro r
    induction r with
    | nil => exact h0
    | cons a r ih => rw [List.reverse_cons]; exact h1 _ _ ih
  simpa using this l.reverse
theorem dropWhile_len {α : Type} (p : α → Bool) : ∀ l : List α, (l.dropWhile p).length ≤ l.length
  | [] => Nat.le_refl _
  | a :: r => by
    rw [List.dropWhile_cons]
    split
    · exact Nat.le_succ_of_le (dropWhile_len p r)
    · exact Nat.le_refl _

/-! ### Bytes -/
def tokMarks : List UInt8 := [33, 35, 36, 37, 38, 39, 42, 43, 45, 46, 94, 95, 96, 124, 126]
def alnum (c : UInt8) : Bool := (decide (65 ≤ c.toNat) && decide (c.toNat ≤ 90)) || (decide (97 ≤ c.toNat) && decide (c.toNat ≤ 122)) || (decide (48 ≤ c.toNat) && decide (c.toNat ≤ 57))
def tokc (c : UInt8) : Bool := alnum c || tokMarks.contains c
def tokenB (l : List UInt8) : Bool := l.all tokc && !l.isEmpty
def blankc (c : UInt8) : Bool := decide (c.toNat = 9) || decide (c.toNat = 32)
def valc (c : UInt8) : Bool := decide (c.toNat = 9) || (decide (32 ≤ c.toNat) && !decide (c.toNat = 127))
def trimB (l : List UInt8) : List UInt8 := Lib.trimS l [9, 32]
def valueB (l : List UInt8) : Bool := l.all valc && decide (l = trimB l)
def lowc (c : UInt8) : UInt8 := if 65 ≤ c.toNat ∧ c.toNat ≤ 90 then UInt8.ofNat (c.toNat + 32) else c
def lowerB (l : List UInt8) : List UInt8 := l.map lowc
def sameB (a b : List UInt8) : Bool := decide (lowerB a = lowerB b)

theorem blankc_contains (c : UInt8) : [9, 32].contains c = blankc c := by
  unfold blankc
  rw [Bool.eq_iff_iff]
  simp only [List.contains_cons, List.contains_nil, Bool.or_false, Bool.or_eq_true, beq_iff_eq, decide_eq_true_eq]
  constructor
  · rintro (rfl | rfl) <;> simp
  · rintro (h | h)
    · exact .inl (UInt8.toNat_inj.1 (by simpa using h))
    · exact .inr (UInt8.toNat_inj.1 (by simpa using h))

def ltrim (l : List UInt8) : List UInt8 := l.dropWhile blankc
def rtrim (l : List UInt8) : List UInt8 := (l.reverse.dropWhile blankc).reverse
theorem trimB_eq (l : List UInt8) : trimB l = ltrim (rtrim l) := by
  have e : (fun c : UInt8 => [9, 32].contains c) = blankc := funext blankc_contains
  unfold trimB Lib.trimS Lib.trimLeftS Lib.trimRightS ltrim rtrim
  rw [e]

theorem ltrim_cons (c : UInt8) (l : List UInt8) : ltrim (c :: l) = if blankc c then ltrim l else c :: l := by
  unfold ltrim; rw [List.dropWhile_cons]
theorem rtrim_snoc (l : List UInt8) (c : UInt8) : rtrim (l ++ [c]) = if blankc c then rtrim l else l ++ [c] := by
  unfold rtrim
  rw [List.reverse_append, List.reverse_singleton, List.singleton_append, List.dropWhile_cons]
  split <;> simp
theorem rtrim_nil : rtrim [] = [] := rfl
theorem ltrim_nil : ltrim [] = [] := rfl
theorem ltrim_snoc (l : List UInt8) (c : UInt8) (h : blankc c = true) : ltrim (l ++ [c]) = if ltrim l = [] then [] else ltrim l ++ [c] := by
  induction l with
  | nil => simp [ltrim, h]
  | cons a l ih =>
    rw [List.cons_append, ltrim_cons, ltrim_cons]
    split
    · exact ih
    · simp
theorem ltrim_last (l : List UInt8) (c : UInt8) (h : blankc c = false) : ltrim (l ++ [c]) = ltrim l ++ [c] := by
  induction l with
  | nil => simp [ltrim, h]
  | cons a l ih =>
    rw [List.cons_append, ltrim_cons, ltrim_cons]
    split
    · exact ih
    · simp
/-- Which end is trimmed first does not matter. -/
theorem trim_comm (l : List UInt8) : ltrim (rtrim l) = rtrim (ltrim l) := by
  induction l using snoc_ind with
  | h0 => rfl
  | h1 l c ih =>
    rw [rtrim_snoc]
    by_cases h : blankc c = true
    · rw [if_pos h, ih, ltrim_snoc l c h]
      by_cases e : ltrim l = []
      · rw [if_pos e, e]
      · rw [if_neg e, rtrim_snoc, if_pos h]
    · have h' : blankc c = false := by simpa using h
      rw [if_neg h, ltrim_last l c h', rtrim_snoc, if_neg h]

theorem ltrim_le (l : List UInt8) : (ltrim l).length ≤ l.length := by
  unfold ltrim; exact dropWhile_len _ _
theorem rtrim_le (l : List UInt8) : (rtrim l).length ≤ l.length := by
  unfold rtrim; rw [List.length_reverse]; exact Nat.le_trans (dropWhile_len _ _) (by simp)
theorem trimB_le (l : List UInt8) : (trimB l).length ≤ l.length := by
  rw [trimB_eq]; exact Nat.le_trans (ltrim_le _) (rtrim_le _)

theorem ltrim_id_iff (l : List UInt8) : ltrim l = l ↔ ∀ c, l.head? = some c → blankc c = false := by
  cases l with
  | nil => simp [ltrim]
  | cons a r =>
    rw [ltrim_cons]
    by_cases h : blankc a = true
    · rw [if_pos h]
      constructor
      · intro e; have := ltrim_le r; rw [e, List.length_cons] at this; omega
      · intro e; have := e a rfl; rw [h] at this; cases this
    · rw [if_neg h]; simp at h; simp [h]
theorem rtrim_id_iff (l : List UInt8) : rtrim l = l ↔ ∀ c, l.getLast? = some c → blankc c = false := by
  induction l using snoc_ind with
  | h0 => simp [rtrim]
  | h1 l a _ =>
    rw [rtrim_snoc]
    by_cases h : blankc a = true
    · rw [if_pos h]
      constructor
      · intro e; have := rtrim_le l; rw [e, List.length_append, List.length_singleton] at this; omega
      · intro e; have := e a (by simp); rw [h] at this; cases this
    · rw [if_neg h]; simp at h; simp [h]

/-- A text is its own trimming just where neither end is a blank. -/
theorem trim_id (l : List UInt8) : (l = trimB l) ↔ (∀ c, l.head? = some c → blankc c = false) ∧ (∀ c, l.getLast? = some c → blankc c = false) := by
  rw [trimB_eq]
  constructor
  · intro e
    have h1 : rtrim l = l := by
      have a := ltrim_le (rtrim l)
      have b := rtrim_le l
      rw [← e] at a
      refine List.Sublist.eq_of_length (l₁ := rtrim l) ?_ (by omega)
      unfold rtrim
      have := List.dropWhile_sublist blankc (l := l.reverse)
      simpa using this.reverse
    rw [h1] at e
    exact ⟨(ltrim_id_iff l).1 e.symm, (rtrim_id_iff l).1 h1⟩
  · rintro ⟨h1, h2⟩
    rw [(rtrim_id_iff l).2 h2, (ltrim_id_iff l).2 h1]

/-! ### Numbers -/
/-- What a digit says; 16: it is none. -/
def digv (c : UInt8) : Nat :=
  if 65 ≤ c.toNat ∧ c.toNat ≤ 70 then c.toNat - 55 else if 97 ≤ c.toNat ∧ c.toNat ≤ 102 then c.toNat - 87 else if 48 ≤ c.toNat ∧ c.toNat ≤ 57 then c.toNat - 48 else 16
def top : Nat := 9007199254740992
def stp (base n : Nat) (c : UInt8) : Nat := if n ≤ top then n * base + digv c else n
def accu (base : Nat) (l : List UInt8) : Nat := l.foldl (stp base) 0
def numV (base : Nat) (l : List UInt8) : Nat := if l = [] ∨ ¬ (l.all fun c => decide (digv c < base)) ∨ top < accu base l then 0 else accu base l
def numE (base : Nat) (l : List UInt8) : Nat := if l = [] ∨ ¬ (l.all fun c => decide (digv c < base)) then 50 else if top < accu base l then 51 else 0

theorem accu_snoc (base : Nat) (l : List UInt8) (c : UInt8) : accu base (l ++ [c]) = stp base (accu base l) c := by simp [accu]
theorem digv_le (c : UInt8) : digv c ≤ 16 := by unfold digv; split <;> (try split) <;> (try split) <;> omega
theorem stp_le (base n : Nat) (c : UInt8) (hb : base ≤ 16) (h : n ≤ top * 16 + 16) : stp base n c ≤ top * 16 + 16 := by
  unfold stp
  have := digv_le c
  split
  · have : n * base ≤ top * 16 := Nat.mul_le_mul ‹_› hb
    omega
  · exact h
theorem accu_le (base : Nat) (hb : base ≤ 16) (l : List UInt8) : accu base l ≤ top * 16 + 16 := by
  induction l using snoc_ind with
  | h0 => simp [accu]
  | h1 l c ih => rw [accu_snoc]; exact stp_le base _ c hb ih

/-- A number in hex digits. -/
def hexc (d : Nat) : UInt8 := if d < 10 then UInt8.ofNat (48 + d) else UInt8.ofNat (87 + d)
def hexD (u : Nat) : List UInt8 :=
  if _h : u < 16 then [hexc u] else hexD (u / 16) ++ [hexc (u % 16)]
termination_by u
decreasing_by omega
def hexV (n : Int) : List UInt8 := if 0 ≤ n ∧ n ≤ 9007199254740992 then hexD n.toNat else []
def hexE (n : Int) : Nat := if 0 ≤ n ∧ n ≤ 9007199254740992 then 0 else 1

theorem digv_hexc : ∀ d : Fin 16, digv (hexc d.val) = d.val := by decide
theorem digv_hex {d : Nat} (h : d < 16) : digv (hexc d) = d := digv_hexc ⟨d, h⟩
theorem digv_decc : ∀ d : Fin 10, digv (UInt8.ofNat (48 + d.val)) = d.val := by decide
theorem digv_dec {d : Nat} (h : d < 10) : digv (UInt8.ofNat (48 + d)) = d := digv_decc ⟨d, h⟩

theorem hexD_ne (u : Nat) : hexD u ≠ [] := by rw [hexD]; split <;> simp
theorem decD_ne (u : Nat) : Lib.decDigits u ≠ [] := by rw [Lib.decDigits]; split <;> simp

theorem hexD_back (u : Nat) : u ≤ top → (hexD u).all (fun c => decide (digv c < 16)) = true ∧ accu 16 (hexD u) = u := by
  induction u using Nat.strongRecOn with
  | ind u ih =>
    intro hu
    rw [hexD]
    by_cases h : u < 16
    · rw [dif_pos h]
      simp [digv_hex h, h, accu, stp, top]
    · rw [dif_neg h]
      obtain ⟨h1, h2⟩ := ih (u / 16) (by omega) (by omega)
      have h3 : u % 16 < 16 := Nat.mod_lt _ (by decide)
      rw [List.all_append, h1, accu_snoc, h2]
      refine ⟨by simp [digv_hex h3, h3], ?_⟩
      unfold stp
      rw [if_pos (by omega), digv_hex h3]
      omega
theorem decD_back (u : Nat) : u ≤ top → (Lib.decDigits u).all (fun c => decide (digv c < 10)) = true ∧ accu 10 (Lib.decDigits u) = u := by
  induction u using Nat.strongRecOn with
  | ind u ih =>
    intro hu
    rw [Lib.decDigits]
    by_cases h : u < 10
    · rw [dif_pos h]
      have e := digv_dec h
      generalize UInt8.ofNat (48 + u) = c at e ⊢
      simp [e, h, accu, stp, top]
    · rw [dif_neg h]
      obtain ⟨h1, h2⟩ := ih (u / 10) (by omega) (by omega)
      have h3 : u % 10 < 10 := Nat.mod_lt _ (by decide)
      rw [List.all_append, h1, accu_snoc, h2]
      have e := digv_dec h3
      generalize UInt8.ofNat (48 + u % 10) = c at e ⊢
      refine ⟨by simp [e, h3], ?_⟩
      unfold stp
      rw [if_pos (by omega), e]
      omega
theorem num_hex {u : Nat} (h : u ≤ top) : numV 16 (hexD u) = u ∧ numE 16 (hexD u) = 0 := by
  obtain ⟨h1, h2⟩ := hexD_back u h
  have h3 := hexD_ne u
  have h4 : ¬ top < u := by omega
  unfold numV numE
  rw [h1, h2]
  simp [h3, h4]
theorem num_dec {u : Nat} (h : u ≤ top) : numV 10 (Lib.decDigits u) = u ∧ numE 10 (Lib.decDigits u) = 0 := by
  obtain ⟨h1, h2⟩ := decD_back u h
  have h3 := decD_ne u
  have h4 : ¬ top < u := by omega
  unfold numV numE
  rw [h1, h2]
  simp [h3, h4]
end Go.Proofs.YtcagjipdldlehaaGreatDoor
