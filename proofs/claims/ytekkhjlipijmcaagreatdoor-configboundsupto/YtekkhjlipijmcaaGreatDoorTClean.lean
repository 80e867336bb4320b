/- A path without dots as a plain function on bytes, and what follows of it: no program in it. -/
import Derived.Test.YtekkhjlipijmcaaGreatDoorQZ1
import Derived.Lib.SplitLaws
import Derived.Lib.IndexBytes
import Derived.Lib.Join
namespace Go.Proofs.YtekkhjlipijmcaaGreatDoor

def segs : List UInt8 → List (List UInt8)
  | [] => [[]]
  | c :: r => if c = 47 then [] :: segs r else match segs r with
    | h :: t => (c :: h) :: t
    | [] => [[c]]
theorem segs_ne : ∀ l : List UInt8, segs l ≠ []
  | [] => by simp [segs]
  | c :: r => by
    rw [segs]
    split
    · simp
    · split <;> simp
/-- What is begun, and the segments behind it. -/
def segsFrom (P : List UInt8) (l : List UInt8) : List (List UInt8) := match segs l with
  | h :: t => (P ++ h) :: t
  | [] => [P]
theorem segsFrom_nil (P : List UInt8) : segsFrom P [] = [P] := by simp [segsFrom, segs]
theorem segsFrom_cut (P r : List UInt8) : segsFrom P (47 :: r) = P :: segs r := by simp [segsFrom, segs]
theorem segsFrom_next (P r : List UInt8) (c : UInt8) (h : c ≠ 47) : segsFrom P (c :: r) = segsFrom (P ++ [c]) r := by
  unfold segsFrom
  rw [segs, if_neg h]
  cases e : segs r with
  | nil => exact absurd e (segs_ne r)
  | cons a t => simp
theorem segsFrom_empty (l : List UInt8) : segsFrom [] l = segs l := by
  unfold segsFrom
  cases e : segs l with
  | nil => exact absurd e (segs_ne l)
  | cons a t => simp
theorem segs_no : ∀ l : List UInt8, ∀ x ∈ segs l, (47 : UInt8) ∉ x
  | [], x, hx => by simp [segs] at hx; subst hx; simp
  | c :: r, x, hx => by
    rw [segs] at hx
    split at hx
    · rcases List.mem_cons.1 hx with rfl | hx
      · simp
      · exact segs_no r x hx
    · rename_i hc
      have ih := segs_no r
      cases e : segs r with
      | nil => exact absurd e (segs_ne r)
      | cons a t =>
        rw [e] at hx ih
        simp only [List.mem_cons] at hx
        rcases hx with rfl | hx
        · intro hm
          rcases List.mem_cons.1 hm with h1 | h1
          · exact hc h1.symm
          · exact ih a (by simp) h1
        · exact ih x (by simp [hx])

/-! ### As the library parts it -/
theorem segs_none (l : List UInt8) (h : Lib.indexByte l 47 = -1) : segs l = [l] := by
  induction l with
  | nil => rfl
  | cons c r ih =>
    unfold Lib.indexByte at h
    have hg := Lib.indexByte_ge r 47
    split at h
    · omega
    · rename_i hc
      split at h
      · rename_i h2
        rw [segs, if_neg (by simpa using hc), ih (by simpa using h2)]
      · omega
theorem segs_hit (l : List UInt8) (i : Nat) (h : Lib.indexByte l 47 = i) : segs l = l.take i :: segs (l.drop (i + 1)) := by
  induction l generalizing i with
  | nil => simp [Lib.indexByte] at h
  | cons c r ih =>
    unfold Lib.indexByte at h
    have hg := Lib.indexByte_ge r 47
    split at h
    · rename_i hc
      have e : i = 0 := by omega
      subst e
      rw [segs, if_pos (by simpa using hc)]
      rfl
    · rename_i hc
      split at h
      · omega
      · rename_i h2
        obtain ⟨j, hj⟩ : ∃ j : Nat, Lib.indexByte r 47 = j := ⟨(Lib.indexByte r 47).toNat, by simp at h2; omega⟩
        have e : i = j + 1 := by omega
        subst e
        rw [segs, if_neg (by simpa using hc), ih j hj]
        simp
theorem split_segs (k : Nat) : ∀ l : List UInt8, Lib.count l [47] = k → Lib.splitK [47] 0 k l = segs l := by
  induction k with
  | zero =>
    intro l h
    rw [Lib.splitK]
    by_cases hi : Lib.index l [47] = -1
    · rw [Lib.index_one] at hi
      rw [segs_none l hi]
    · have hg := Lib.index_ge l [47]
      obtain ⟨j, hj⟩ : ∃ j : Nat, Lib.index l [47] = j := ⟨(Lib.index l [47]).toNat, by omega⟩
      rw [Lib.count_hit (by simp) hj] at h
      omega
  | succ k ih =>
    intro l h
    by_cases hi : Lib.index l [47] = -1
    · rw [Lib.count_miss hi] at h
      omega
    · have hg := Lib.index_ge l [47]
      obtain ⟨j, hj⟩ : ∃ j : Nat, Lib.index l [47] = j := ⟨(Lib.index l [47]).toNat, by omega⟩
      rw [Lib.count_hit (by simp) hj] at h
      rw [Lib.splitK, if_neg (fun e => hi (beq_iff_eq.1 e)), hj]
      have hj2 := hj
      rw [Lib.index_one] at hj2
      rw [segs_hit l j hj2]
      simp only [Int.toNat_natCast, Nat.add_zero, List.length_singleton]
      rw [ih (l.drop (j + 1)) (by simp only [List.length_singleton] at h; omega)]

/-! ### Without dots -/
def dot : List UInt8 := [46]
def dots : List UInt8 := [46, 46]
def kstep (S : List (List UInt8)) (x : List UInt8) (last : Bool) : List (List UInt8) :=
  if x = dots then (if last then S.dropLast ++ [[]] else S.dropLast) else if x = dot then (if last then S ++ [[]] else S) else S ++ [x]
def keep (S : List (List UInt8)) : List (List UInt8) → List (List UInt8)
  | [] => S
  | x :: r => keep (kstep S x r.isEmpty) r
/-- In one pass. -/
def refK (S : List (List UInt8)) (P : List UInt8) : List UInt8 → List (List UInt8)
  | [] => kstep S P true
  | c :: r => if c = 47 then refK (kstep S P false) [] r else refK S (P ++ [c]) r
theorem refK_eq : ∀ (l : List UInt8) (S : List (List UInt8)) (P : List UInt8), refK S P l = keep S (segsFrom P l)
  | [], S, P => by rw [refK, segsFrom_nil]; rfl
  | c :: r, S, P => by
    rw [refK]
    by_cases h : c = 47
    · subst h
      rw [if_pos rfl, refK_eq r, segsFrom_empty, segsFrom_cut, keep]
      have : (segs r).isEmpty = false := by
        cases e : segs r with
        | nil => exact absurd e (segs_ne r)
        | cons _ _ => rfl
      rw [this]
    · rw [if_neg h, refK_eq r, segsFrom_next P r c h]

theorem kstep_last_ne (S : List (List UInt8)) (x : List UInt8) : kstep S x true ≠ [] := by
  unfold kstep
  split
  · simp
  · split <;> simp
theorem keep_ne : ∀ (A S : List (List UInt8)), A ≠ [] → keep S A ≠ []
  | [x], S, _ => by rw [keep]; exact kstep_last_ne S x
  | x :: y :: r, S, _ => by rw [keep]; exact keep_ne (y :: r) _ (by simp)
theorem kstep_mem {S : List (List UInt8)} {x y : List UInt8} {b : Bool} (h : y ∈ kstep S x b) : y ∈ S ∨ y = [] ∨ (y = x ∧ x ≠ dots ∧ x ≠ dot) := by
  unfold kstep at h
  split at h
  · split at h
    · rcases List.mem_append.1 h with h | h
      · exact .inl (List.dropLast_subset _ h)
      · exact .inr (.inl (by simpa using h))
    · exact .inl (List.dropLast_subset _ h)
  · split at h
    · split at h
      · rcases List.mem_append.1 h with h | h
        · exact .inl h
        · exact .inr (.inl (by simpa using h))
      · exact .inl h
    · rcases List.mem_append.1 h with h | h
      · exact .inl h
      · exact .inr (.inr ⟨by simpa using h, by assumption, by assumption⟩)
theorem keep_mem : ∀ (A S : List (List UInt8)) (y : List UInt8), y ∈ keep S A → y ∈ S ∨ y = [] ∨ (y ∈ A ∧ y ≠ dots ∧ y ≠ dot)
  | [], S, y, h => .inl h
  | x :: r, S, y, h => by
    rw [keep] at h
    rcases keep_mem r _ y h with h1 | h1 | ⟨h1, h2⟩
    · rcases kstep_mem h1 with h3 | h3 | ⟨h3, h4⟩
      · exact .inl h3
      · exact .inr (.inl h3)
      · subst h3; exact .inr (.inr ⟨by simp, h4⟩)
    · exact .inr (.inl h1)
    · exact .inr (.inr ⟨by simp [h1], h2⟩)
theorem keep_plain : ∀ (A S : List (List UInt8)), (∀ y ∈ A, y ≠ dots ∧ y ≠ dot) → keep S A = S ++ A
  | [], S, _ => by simp [keep]
  | x :: r, S, h => by
    have hx := h x (by simp)
    rw [keep, keep_plain r _ (fun y hy => h y (by simp [hy]))]
    unfold kstep
    rw [if_neg hx.1, if_neg hx.2]
    simp

def jn : List (List UInt8) → List UInt8
  | [] => []
  | [x] => x
  | x :: y :: r => x ++ 47 :: jn (y :: r)
theorem jn_snoc : ∀ (l : List (List UInt8)) (x : List UInt8), jn (l ++ [x]) = if l = [] then x else jn l ++ 47 :: x
  | [], x => by simp [jn]
  | [a], x => by simp [jn]
  | a :: b :: r, x => by
    have := jn_snoc (b :: r) x
    rw [if_neg (by simp)] at this
    rw [if_neg (by simp), List.cons_append, List.cons_append, jn, ← List.cons_append, this, jn]
    simp
theorem join_jn : ∀ l : List (List UInt8), Lib.join l [47] = jn l
  | [] => rfl
  | [x] => Lib.join_one x [47]
  | x :: y :: r => by
    have ih := join_jn (y :: r)
    rw [Lib.join_cons] at ih
    rw [Lib.join_cons, jn, ← ih]
    simp [Lib.joinTail]
theorem segs_app (x r : List UInt8) (h : (47 : UInt8) ∉ x) : segs (x ++ 47 :: r) = x :: segs r := by
  induction x with
  | nil => simp [segs]
  | cons c x ih =>
    simp only [List.mem_cons, not_or] at h
    rw [List.cons_append, segs, if_neg (Ne.symm h.1), ih h.2]
theorem segs_plain (x : List UInt8) (h : (47 : UInt8) ∉ x) : segs x = [x] := by
  induction x with
  | nil => rfl
  | cons c x ih =>
    simp only [List.mem_cons, not_or] at h
    rw [segs, if_neg (Ne.symm h.1), ih h.2]
theorem segs_jn : ∀ l : List (List UInt8), l ≠ [] → (∀ x ∈ l, (47 : UInt8) ∉ x) → segs (jn l) = l
  | [x], _, h => by rw [jn, segs_plain x (h x (by simp))]
  | x :: y :: r, _, h => by rw [jn, segs_app x _ (h x (by simp)), segs_jn (y :: r) (by simp) (fun z hz => h z (by simp [hz]))]

/-- What is kept of a path behind its first byte. -/
def kept (m : List UInt8) : List (List UInt8) := keep [] (segs m)
theorem kept_ne (m : List UInt8) : kept m ≠ [] := keep_ne _ _ (segs_ne m)
theorem kept_mem (m : List UInt8) : ∀ x ∈ kept m, (47 : UInt8) ∉ x ∧ x ≠ dots ∧ x ≠ dot := by
  intro x hx
  rcases keep_mem _ _ x hx with h | h | ⟨h, h2⟩
  · cases h
  · subst h; exact ⟨by simp, by simp [dots], by simp [dot]⟩
  · exact ⟨segs_no m x h, h2⟩
theorem segs_kept (m : List UInt8) : segs (jn (kept m)) = kept m := segs_jn _ (kept_ne m) (fun x hx => (kept_mem m x hx).1)
theorem kept_twice (m : List UInt8) : kept (jn (kept m)) = kept m := by
  have e : kept (jn (kept m)) = keep [] (segs (jn (kept m))) := rfl
  rw [e, segs_kept, keep_plain _ _ (fun y hy => (kept_mem m y hy).2), List.nil_append]

def tl : List (List UInt8) → Nat
  | [] => 0
  | x :: r => x.length + 1 + tl r
theorem tl_app : ∀ A B : List (List UInt8), tl (A ++ B) = tl A + tl B
  | [], B => by simp [tl]
  | x :: r, B => by simp only [List.cons_append, tl, tl_app r B]; omega
theorem tl_dropLast (A : List (List UInt8)) : tl A.dropLast ≤ tl A := by
  induction A using snoc_ind with
  | h0 => simp
  | h1 l c _ => rw [List.dropLast_concat, tl_app]; omega
theorem tl_kstep (S : List (List UInt8)) (x : List UInt8) (b : Bool) : tl (kstep S x b) ≤ tl S + (x.length + 1) := by
  have hd := tl_dropLast S
  unfold kstep
  split
  · rename_i h
    split
    · rw [tl_app]; simp [tl]; omega
    · omega
  · split
    · split
      · rw [tl_app]; simp [tl]
      · omega
    · rw [tl_app]; simp [tl]
theorem tl_keep : ∀ (A S : List (List UInt8)), tl (keep S A) ≤ tl S + tl A
  | [], S => by simp [keep, tl]
  | x :: r, S => by
    have h1 := tl_keep r (kstep S x r.isEmpty)
    have h2 := tl_kstep S x r.isEmpty
    rw [keep]
    simp only [tl]
    omega
theorem jn_len : ∀ l : List (List UInt8), l ≠ [] → (jn l).length + 1 = tl l
  | [x], _ => by simp [jn, tl]
  | x :: y :: r, _ => by
    have := jn_len (y :: r) (by simp)
    simp only [jn, tl, List.length_append, List.length_cons] at this ⊢
    omega
theorem tl_segs (m : List UInt8) : tl (segs m) = m.length + 1 := by
  induction m with
  | nil => simp [segs, tl]
  | cons c r ih =>
    rw [segs]
    split
    · simp [tl, ih]; omega
    · cases e : segs r with
      | nil => exact absurd e (segs_ne r)
      | cons a t => rw [e] at ih; simp only [tl, List.length_cons] at ih ⊢; omega
theorem kept_len (m : List UInt8) : (jn (kept m)).length ≤ m.length := by
  have h1 := jn_len (kept m) (kept_ne m)
  have h2 := tl_keep (segs m) []
  rw [tl_segs] at h2
  unfold kept at *
  simp only [tl] at h2
  omega
theorem tl_count (A : List (List UInt8)) : A.length ≤ tl A := by
  induction A with
  | nil => simp
  | cons x r ih => simp only [tl, List.length_cons]; omega
end Go.Proofs.YtekkhjlipijmcaaGreatDoor
