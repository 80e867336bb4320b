/- What a decoded rune passes over: no program in it. -/
import Derived.Lib.DecodeN
import Derived.Lib.IndexAny
import Derived.Laws.RangeAny
import Derived.Laws.Runes
import Derived.Test.YtekkhjlipijmcaaGreatDoorQZ1
namespace Go.Proofs.YtekkhjlipijmcaaGreatDoor
open Go.ChangeShapes Go.WideShapes Go.ChangeAt Go.RowKit

theorem decodeN_high (n b0 b1 b2 b3 : Nat) (h0 : 128 ≤ b0) (hn : 1 ≤ n) :
    1 ≤ (Lib.decodeN n b0 b1 b2 b3).2 ∧ (Lib.decodeN n b0 b1 b2 b3).2 ≤ n ∧ (1 < (Lib.decodeN n b0 b1 b2 b3).2 → 128 ≤ b1) ∧ (2 < (Lib.decodeN n b0 b1 b2 b3).2 → 128 ≤ b2) ∧ (3 < (Lib.decodeN n b0 b1 b2 b3).2 → 128 ≤ b3) ∧ (Lib.decodeN n b0 b1 b2 b3).2 ≤ 4 ∧ 128 ≤ (Lib.decodeN n b0 b1 b2 b3).1 ∧
    ((Lib.decodeN n b0 b1 b2 b3).1 < 55296 ∨ (57343 < (Lib.decodeN n b0 b1 b2 b3).1 ∧ (Lib.decodeN n b0 b1 b2 b3).1 ≤ 1114111)) := by
  unfold Lib.decodeN
  rw [if_neg (by omega)]
  repeat' split
  all_goals (refine ⟨?_, ?_, ?_, ?_, ?_, ?_, ?_, ?_⟩ <;> simp only <;> omega)
theorem get_nth (s : ByteArray) (j : Nat) (h : j < s.size) : s.get! j = s[j] := by
  simp [ByteArray.get!, getElem!_pos, h]
  rfl
/-- Behind a byte from 128 on: a rune from 128 on; what it passes over lies there too. -/
theorem decode_over (s : ByteArray) (i : Nat) (h : i < s.size) (h0 : 128 ≤ s[i].toNat) :
    1 ≤ (Utf8.decode s i).2 ∧ i + (Utf8.decode s i).2 ≤ s.size ∧ (128 ≤ (Utf8.decode s i).1 ∧ ((Utf8.decode s i).1 < 55296 ∨ (57343 < (Utf8.decode s i).1 ∧ (Utf8.decode s i).1 ≤ 1114111))) ∧
    ∀ j (hj : j < s.size), i ≤ j → j < i + (Utf8.decode s i).2 → 128 ≤ s[j].toNat := by
  have hd := Lib.decode_at s i
  have hg : (s.get! i).toNat = s[i].toNat := by rw [get_nth s i h]
  have H := decodeN_high (s.size - i) (s.get! i).toNat (s.get! (i + 1)).toNat (s.get! (i + 2)).toNat (s.get! (i + 3)).toNat (by omega) (by omega)
  rw [← hd] at H
  obtain ⟨h1, h2, h3, h4, h5, h6, h7, h8⟩ := H
  refine ⟨h1, by omega, ⟨h7, h8⟩, fun j hj hij hjk => ?_⟩
  rcases Nat.lt_or_ge j (i + 1) with e | e
  · have : j = i := by omega
    subst this; exact h0
  · rcases Nat.lt_or_ge j (i + 2) with e2 | e2
    · have : j = i + 1 := by omega
      subst this
      rw [← get_nth s _ hj]; exact h3 (by omega)
    · rcases Nat.lt_or_ge j (i + 3) with e3 | e3
      · have : j = i + 2 := by omega
        subst this
        rw [← get_nth s _ hj]; exact h4 (by omega)
      · have : j = i + 3 := by omega
        subst this
        rw [← get_nth s _ hj]; exact h5 (by omega)
def mk2 : List UInt8 := [47, 63]
theorem mk2_no {b : UInt8} (h : 128 ≤ b.toNat) : mk2.contains b = false := by
  simp only [mk2, List.contains_cons, List.contains_nil, Bool.or_false]
  rw [Bool.or_eq_false_iff]
  constructor <;> exact beq_eq_false_iff_ne.2 fun e => by subst e; revert h; decide
theorem noAny_over {s : ByteArray} {i : Nat} (h : i < s.size) (h0 : 128 ≤ s[i].toNat) (hn : Lib.NoAny s.data.toList mk2 i) : Lib.NoAny s.data.toList mk2 (i + (Utf8.decode s i).2) := by
  intro j b hj hb
  by_cases hij : j < i
  · exact hn j b hij hb
  · have hjs : j < s.size := by
      have := (List.getElem?_eq_some_iff.1 hb).1
      rw [size_len] at this; exact this
    have hb2 : s[j] = b := by
      obtain ⟨_, h2⟩ := List.getElem?_eq_some_iff.1 hb
      rw [← h2]; rfl
    rw [← hb2]
    exact mk2_no ((decode_over s i h h0).2.2.2 j hjs (by omega) hj)
end Go.Proofs.YtekkhjlipijmcaaGreatDoor
