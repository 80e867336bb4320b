/- What the smallest functions of package lexis, and of the document's answer for it, tell of a byte. -/
import Derived.Test.YthbhkgdijoiceaaDoorLib
import Derived.Test.YthbhkgdijoiceaaDoorCom
namespace Go.Proofs.YthbhkgdijoiceaaDoor
open Go.ChangeShapes Go.WideShapes Go.ChangeAt Go.RowKit

theorem indexByte_neg : ∀ (l : List UInt8) (c : UInt8), Lib.indexByte l c = -1 ∨ 0 ≤ Lib.indexByte l c
  | [], c => .inl rfl
  | b :: l, c => by
    unfold Lib.indexByte
    rcases indexByte_neg l c with h | h
    · split
      · right; omega
      · left; simp [h]
    · split
      · right; omega
      · split
        · left; rfl
        · right; omega
theorem indexByte_mem : ∀ (l : List UInt8) (c : UInt8), decide (0 ≤ Lib.indexByte l c) = l.contains c
  | [], c => rfl
  | b :: l, c => by
    have ih := indexByte_mem l c
    have hn := indexByte_neg l c
    unfold Lib.indexByte
    rw [List.contains_cons, ← ih]
    by_cases h : b = c
    · subst h; simp
    · have h1 : (b == c) = false := by simpa using h
      have h2 : (c == b) = false := by simpa using Ne.symm h
      rw [h1, h2]
      simp only [Bool.false_or]
      rcases hn with hn | hn
      · rw [hn]; simp
      · have h3 : (Lib.indexByte l c == -1) = false := by rw [beq_eq_false_iff_ne]; omega
        simp only [h3, Bool.false_eq_true, ↓reduceIte]
        congr 1
        rw [eq_iff_iff]
        omega

theorem alnum_yes {c : UInt8} (h : (65 ≤ c.toNat ∧ c.toNat ≤ 90) ∨ (97 ≤ c.toNat ∧ c.toNat ≤ 122) ∨ (48 ≤ c.toNat ∧ c.toNat ≤ 57)) : alnum c = true := by
  simp only [alnum, Bool.or_eq_true, Bool.and_eq_true, decide_eq_true_eq]; omega
theorem alnum_no {c : UInt8} (h : ¬ ((65 ≤ c.toNat ∧ c.toNat ≤ 90) ∨ (97 ≤ c.toNat ∧ c.toNat ≤ 122) ∨ (48 ≤ c.toNat ∧ c.toNat ≤ 57))) : alnum c = false := by
  cases e : alnum c with
  | false => rfl
  | true => simp only [alnum, Bool.or_eq_true, Bool.and_eq_true, decide_eq_true_eq] at e; omega
theorem tok_yes {c : UInt8} (h : alnum c = true) : true = tokc c := by unfold tokc; rw [h]; rfl
theorem tok_no {c : UInt8} (h : alnum c = false) : decide (0 ≤ Lib.indexByte [33, 35, 36, 37, 38, 39, 42, 43, 45, 46, 94, 95, 96, 124, 126] c) = tokc c := by
  rw [indexByte_mem]; unfold tokc; rw [h]; rfl

end Go.Proofs.YthbhkgdijoiceaaDoor
