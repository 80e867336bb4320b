/- A list's elements as a plain function on bytes, in two ways, and that elements that are joined again are the same: no program in it. -/
import Derived.Test.YtcagjipdldlehaaGreatDoorPure
namespace Go.Proofs.YtcagjipdldlehaaGreatDoor

/-- q: within quotes; k: the byte at hand stands behind a byte 92. -/
def nx (q k : Bool) (c : UInt8) : Bool × Bool := if k = true then (q, false) else if c = 92 ∧ q = true then (q, true) else if c = 34 then (!q, false) else (q, false)
/-- Where the first part ends. -/
def pend : Bool → Bool → List UInt8 → Nat
  | _, _, [] => 0
  | q, k, c :: r => if c = 44 ∧ q = false then 0 else pend (nx q k c).1 (nx q k c).2 r + 1
def elem (p : List UInt8) : List (List UInt8) := if trimB p = [] then [] else [trimB p]

theorem pend_le : ∀ (l : List UInt8) (q k : Bool), pend q k l ≤ l.length
  | [], _, _ => Nat.le_refl _
  | c :: r, q, k => by
    rw [pend]
    split
    · exact Nat.zero_le _
    · exact Nat.succ_le_succ (pend_le r _ _)

def listB (l : List UInt8) : List (List UInt8) :=
  if _h : l = [] then [] else elem (l.take (pend false false l)) ++ listB (l.drop (pend false false l + 1))
termination_by l.length
decreasing_by
  rw [List.length_drop]
  have : 0 < l.length := List.length_pos_iff.2 _h
  omega

theorem listB_nil : listB [] = [] := by rw [listB]; rfl
theorem listB_cons {l : List UInt8} (h : l ≠ []) : listB l = elem (l.take (pend false false l)) ++ listB (l.drop (pend false false l + 1)) := by
  rw [listB, dif_neg h]
theorem elem_nil : elem [] = [] := by simp [elem, trimB_eq, ltrim, rtrim]
theorem listB_all (l : List UInt8) : listB l = elem (l.take (pend false false l)) ++ listB (l.drop (pend false false l + 1)) := by
  by_cases h : l = []
  · subst h; simp [listB_nil, elem_nil]
  · exact listB_cons h
theorem elem_len (p : List UInt8) : (elem p).length ≤ 1 := by unfold elem; split <;> simp
theorem elem_le (p : List UInt8) : (elem p).length ≤ p.length := by
  by_cases h : p = []
  · subst h; simp [elem_nil]
  · have := elem_len p
    have : 0 < p.length := List.length_pos_iff.2 h
    omega
theorem listB_len (l : List UInt8) : (listB l).length ≤ l.length := by
  induction h : l.length using Nat.strongRecOn generalizing l with
  | ind n ih =>
    by_cases h0 : l = []
    · subst h0; simp [listB_nil]
    · rw [listB_cons h0, List.length_append]
      have hp : 0 < l.length := List.length_pos_iff.2 h0
      have h1 := ih (l.drop (pend false false l + 1)).length (by rw [List.length_drop]; omega) _ rfl
      have h2 := elem_le (l.take (pend false false l))
      rw [List.length_drop] at h1
      rw [List.length_take] at h2
      have := elem_len (l.take (pend false false l))
      omega

/-- One pass, byte by byte. -/
def refL (part : List UInt8) (q k : Bool) : List UInt8 → List (List UInt8)
  | [] => elem part
  | c :: r => if c = 44 ∧ q = false then elem part ++ refL [] q k r else refL (part ++ [c]) (nx q k c).1 (nx q k c).2 r

theorem nx_inv (q k : Bool) (c : UInt8) (_ : k = true → q = true) : (nx q k c).2 = true → (nx q k c).1 = true := by
  unfold nx
  split
  · simp
  · split
    · rename_i h2; intro _; exact h2.2
    · split <;> simp

theorem refL_eq : ∀ (l part : List UInt8) (q k : Bool), (k = true → q = true) → refL part q k l = elem (part ++ l.take (pend q k l)) ++ listB (l.drop (pend q k l + 1))
  | [], part, q, k, _ => by simp [refL, pend, listB_nil]
  | c :: r, part, q, k, hk => by
    rw [refL, pend]
    by_cases h : c = 44 ∧ q = false
    · rw [if_pos h, if_pos h]
      have hk' : k = false := by cases k <;> simp_all
      rw [h.2, hk', refL_eq r [] false false (by simp)]
      simp only [List.nil_append, List.take_zero, List.append_nil, List.drop_succ_cons, List.drop_zero]
      rw [← listB_all]
    · rw [if_neg h, if_neg h, refL_eq r _ _ _ (nx_inv q k c hk)]
      simp
theorem refL_list (l : List UInt8) : refL [] false false l = listB l := by
  rw [refL_eq l [] false false (by simp), List.nil_append, ← listB_all]

/-! ### Joined -/
def scan : Bool → Bool → List UInt8 → Option (Bool × Bool)
  | q, k, [] => some (q, k)
  | q, k, c :: r => if c = 44 ∧ q = false then none else scan (nx q k c).1 (nx q k c).2 r

theorem scan_append : ∀ (a b : List UInt8) (q k : Bool), scan q k (a ++ b) = (scan q k a).bind fun s => scan s.1 s.2 b
  | [], b, q, k => by simp [scan]
  | c :: r, b, q, k => by
    rw [List.cons_append, scan, scan]
    split
    · rfl
    · exact scan_append r b _ _
theorem pend_scan : ∀ (p r : List UInt8) (q k : Bool) (s : Bool × Bool), scan q k p = some s → pend q k (p ++ r) = p.length + pend s.1 s.2 r
  | [], r, q, k, s, h => by
    simp only [scan, Option.some.injEq] at h
    subst h
    simp
  | c :: p, r, q, k, s, h => by
    rw [scan] at h
    rw [List.cons_append, pend]
    by_cases h1 : c = 44 ∧ q = false
    · rw [if_pos h1] at h; cases h
    · rw [if_neg h1] at h
      rw [if_neg h1, pend_scan p r _ _ s h, List.length_cons]
      omega
theorem scan_pend : ∀ (l : List UInt8) (q k : Bool), (k = true → q = true) → ∃ s, scan q k (l.take (pend q k l)) = some s ∧ (s.2 = true → s.1 = true) ∧ (pend q k l < l.length → s = (false, false) ∧ l.drop (pend q k l) = 44 :: l.drop (pend q k l + 1))
  | [], q, k, hk => ⟨(q, k), by simp [scan, pend], hk, by simp⟩
  | c :: r, q, k, hk => by
    rw [pend]
    by_cases h1 : c = 44 ∧ q = false
    · rw [if_pos h1]
      refine ⟨(q, k), by simp [scan], hk, fun _ => ?_⟩
      have hk' : k = false := by cases k <;> simp_all
      rw [h1.1, h1.2, hk']
      simp
    · rw [if_neg h1]
      obtain ⟨s, h2, h3, h4⟩ := scan_pend r _ _ (nx_inv q k c hk)
      refine ⟨s, ?_, h3, fun h => ?_⟩
      · rw [List.take_succ_cons, scan, if_neg h1, h2]
      · simp only [List.length_cons] at h
        have := h4 (by omega)
        simpa using this

theorem scan_inv : ∀ (l : List UInt8) (q k : Bool) (s : Bool × Bool), (k = true → q = true) → scan q k l = some s → s.2 = true → s.1 = true
  | [], q, k, s, hk, h => by
    simp only [scan, Option.some.injEq] at h
    subst h
    exact hk
  | c :: r, q, k, s, hk, h => by
    rw [scan] at h
    split at h
    · cases h
    · exact scan_inv r _ _ s (nx_inv q k c hk) h

theorem blank_ne {c : UInt8} (h : blankc c = true) : c ≠ 44 ∧ c ≠ 92 ∧ c ≠ 34 := by
  refine ⟨?_, ?_, ?_⟩ <;> (rintro rfl; simp [blankc] at h)
theorem nx_blank {c : UInt8} (h : blankc c = true) (q k : Bool) : nx q k c = (q, false) := by
  obtain ⟨_, h2, h3⟩ := blank_ne h
  unfold nx
  simp [h2, h3]
theorem scan_blank {c : UInt8} (h : blankc c = true) (q k : Bool) (r : List UInt8) : scan q k (c :: r) = scan q false r := by
  rw [scan, nx_blank h, if_neg (fun x => (blank_ne h).1 x.1)]
theorem scan_ltrim (p : List UInt8) : scan false false (ltrim p) = scan false false p := by
  induction p with
  | nil => rfl
  | cons c p ih =>
    rw [ltrim_cons]
    by_cases h : blankc c = true
    · rw [if_pos h, scan_blank h, ih]
    · rw [if_neg h]
theorem scan_rtrim (p : List UInt8) (s : Bool × Bool) (h : scan false false p = some s) : ∃ k, scan false false (rtrim p) = some (s.1, k) := by
  induction p using snoc_ind generalizing s with
  | h0 => simp [scan] at h; subst h; exact ⟨false, rfl⟩
  | h1 p c ih =>
    rw [rtrim_snoc]
    by_cases hb : blankc c = true
    · rw [if_pos hb]
      rw [scan_append] at h
      cases h2 : scan false false p with
      | none => rw [h2] at h; cases h
      | some s2 =>
        rw [h2] at h
        rw [Option.bind_some, scan_blank hb, scan, Option.some.injEq] at h
        obtain ⟨k, hk⟩ := ih s2 h2
        subst h
        exact ⟨k, hk⟩
    · rw [if_neg hb]
      exact ⟨s.2, h⟩
theorem scan_trim (p : List UInt8) (s : Bool × Bool) (h : scan false false p = some s) : ∃ k, scan false false (trimB p) = some (s.1, k) := by
  rw [trimB_eq, scan_ltrim]
  exact scan_rtrim p s h

theorem rtrim_idem (l : List UInt8) : rtrim (rtrim l) = rtrim l := by
  induction l using snoc_ind with
  | h0 => rfl
  | h1 l c ih =>
    rw [rtrim_snoc]
    by_cases h : blankc c = true
    · rw [if_pos h, ih]
    · rw [if_neg h, rtrim_snoc, if_neg h]
theorem ltrim_idem (l : List UInt8) : ltrim (ltrim l) = ltrim l := by
  induction l with
  | nil => rfl
  | cons c l ih =>
    rw [ltrim_cons]
    by_cases h : blankc c = true
    · rw [if_pos h, ih]
    · rw [if_neg h, ltrim_cons, if_neg h]
theorem trimB_idem (l : List UInt8) : trimB (trimB l) = trimB l := by
  rw [trimB_eq, trimB_eq, trim_comm (ltrim (rtrim l)), ltrim_idem, trim_comm l, rtrim_idem]

def Good : List (List UInt8) → Prop
  | [] => True
  | x :: r => (x ≠ [] ∧ trimB x = x) ∧ (scan false false x = some (false, false) ∨ (∃ s, scan false false x = some s) ∧ r = []) ∧ Good r

theorem elem_good (p : List UInt8) (s : Bool × Bool) (hs : scan false false p = some s) (r : List (List UInt8)) (hr : Good r) (h : s = (false, false) ∨ r = []) : Good (elem p ++ r) := by
  unfold elem
  by_cases h0 : trimB p = []
  · rw [if_pos h0]; exact hr
  · rw [if_neg h0]
    obtain ⟨k, hk⟩ := scan_trim p s hs
    refine ⟨⟨h0, trimB_idem p⟩, ?_, hr⟩
    rcases h with h | h
    · left
      have := scan_inv _ _ _ _ (by simp) hk
      subst h
      have k0 : k = false := by cases k <;> simp_all
      rw [hk, k0]
    · exact .inr ⟨⟨_, hk⟩, h⟩

theorem listB_good (l : List UInt8) : Good (listB l) := by
  induction h : l.length using Nat.strongRecOn generalizing l with
  | ind n ih =>
    by_cases h0 : l = []
    · subst h0; rw [listB_nil]; trivial
    · rw [listB_cons h0]
      have hp : 0 < l.length := List.length_pos_iff.2 h0
      obtain ⟨s, h1, h2, h3⟩ := scan_pend l false false (by simp)
      refine elem_good _ s h1 _ (ih _ (by rw [List.length_drop]; omega) _ rfl) ?_
      by_cases h4 : pend false false l < l.length
      · exact .inl (h3 h4).1
      · right
        rw [List.drop_eq_nil_of_le (by omega), listB_nil]

def joinB : List (List UInt8) → List UInt8
  | [] => []
  | [x] => x
  | x :: y :: r => x ++ [44, 32] ++ joinB (y :: r)
theorem joinB_snoc : ∀ (l : List (List UInt8)) (x : List UInt8), joinB (l ++ [x]) = if l = [] then x else joinB l ++ [44, 32] ++ x
  | [], x => by simp [joinB]
  | [a], x => by simp [joinB]
  | a :: b :: r, x => by
    have := joinB_snoc (b :: r) x
    rw [if_neg (by simp)] at this
    rw [if_neg (by simp), List.cons_append, List.cons_append, joinB, ← List.cons_append, this, joinB]
    simp

theorem elem_blank {c : UInt8} (h : blankc c = true) (p : List UInt8) : elem (c :: p) = elem p := by
  have : trimB (c :: p) = trimB p := by
    rw [trimB_eq, trimB_eq, trim_comm, trim_comm, ltrim_cons, if_pos h]
  unfold elem
  rw [this]
theorem listB_blank {c : UInt8} (h : blankc c = true) (l : List UInt8) : listB (c :: l) = listB l := by
  rw [listB_cons (by simp), pend, nx_blank h, if_neg (fun x => (blank_ne h).1 x.1), List.take_succ_cons, List.drop_succ_cons, elem_blank h, ← listB_all]

theorem listB_join : ∀ (ls : List (List UInt8)), Good ls → listB (joinB ls) = ls
  | [], _ => listB_nil
  | [x], h => by
    obtain ⟨⟨h0, h1⟩, h2, _⟩ := h
    have h3 : ∃ s, scan false false x = some s := by
      rcases h2 with h2 | h2
      · exact ⟨_, h2⟩
      · exact h2.1
    obtain ⟨s, hs⟩ := h3
    have := pend_scan x [] false false s hs
    rw [List.append_nil] at this
    rw [joinB, listB_cons h0, this]
    simp only [pend, Nat.add_zero, List.take_length]
    rw [List.drop_eq_nil_of_le (by omega), listB_nil, List.append_nil]
    unfold elem
    rw [h1, if_neg h0]
  | x :: y :: r, h => by
    obtain ⟨⟨h0, h1⟩, h2, h3⟩ := h
    have hs : scan false false x = some (false, false) := by
      rcases h2 with h2 | h2
      · exact h2
      · simp at h2
    have ih := listB_join (y :: r) h3
    have := pend_scan x (44 :: 32 :: joinB (y :: r)) false false _ hs
    rw [joinB, List.append_assoc, List.cons_append, List.cons_append, List.nil_append, listB_cons (by simp), this]
    have e : pend false false (44 :: 32 :: joinB (y :: r)) = 0 := by rw [pend, if_pos ⟨rfl, rfl⟩]
    simp only [e, Nat.add_zero, List.take_left']
    rw [show x.length + 1 = (x ++ [44]).length by simp, show x ++ 44 :: 32 :: joinB (y :: r) = (x ++ [44]) ++ 32 :: joinB (y :: r) by simp, List.drop_left, listB_blank (by decide), ih]
    unfold elem
    rw [h1, if_neg h0]
    rfl
theorem good_mem : ∀ (ls : List (List UInt8)), Good ls → ∀ x ∈ ls, x ≠ [] ∧ trimB x = x
  | x :: r, h, y, hy => by
    rcases List.mem_cons.1 hy with rfl | hy
    · exact h.1
    · exact good_mem r h.2.2 y hy
theorem listB_joined (l : List UInt8) : listB (joinB (listB l)) = listB l := listB_join _ (listB_good l)
end Go.Proofs.YtcagjipdldlehaaGreatDoor
