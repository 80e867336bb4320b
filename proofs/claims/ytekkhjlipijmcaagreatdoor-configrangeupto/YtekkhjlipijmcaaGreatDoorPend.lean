/- Where a list's first part ends; two lists of texts held against one another. -/
import Derived.Test.YtekkhjlipijmcaaGreatDoorVal
import Derived.Test.YtekkhjlipijmcaaGreatDoorApp
import Derived.Test.YtekkhjlipijmcaaGreatDoorLists
import Derived.Deep.QuietTactic
import Derived.BigQuiet
namespace Go.Proofs.YtekkhjlipijmcaaGreatDoor
open Go.ChangeShapes Go.WideShapes Go.ChangeAt Go.RowKit

theorem drop_cons (s : ByteArray) (k : Nat) (h : k < s.size) : s.data.toList.drop k = s[k] :: s.data.toList.drop (k + 1) := by
  rw [List.drop_eq_getElem_cons (by simpa using h)]; rfl
theorem drop_end (s : ByteArray) (k : Nat) (h : s.size ≤ k) : s.data.toList.drop k = [] := List.drop_eq_nil_of_le (by rw [size_len]; exact h)
def pd (s : ByteArray) (q : Bool) (k : Nat) : Nat := pend q false (s.data.toList.drop k)
theorem pd_end {s : ByteArray} {q : Bool} {k : Nat} (h : s.size ≤ k) : pd s q k = 0 := by unfold pd; rw [drop_end s k h]; rfl
theorem pd_quote {s : ByteArray} {q : Bool} {k : Nat} (h : k < s.size) (hc : s[k] = 34) : pd s q k = pd s (!q) (k + 1) + 1 := by
  unfold pd
  rw [drop_cons s k h, pend, hc, if_neg (by simp)]
  simp [nx]
theorem pd_comma {s : ByteArray} {k : Nat} (h : k < s.size) (hc : s[k] = 44) : pd s false k = 0 := by
  unfold pd
  rw [drop_cons s k h, pend, hc, if_pos ⟨rfl, rfl⟩]
theorem pd_other {s : ByteArray} {q : Bool} {k : Nat} (h : k < s.size) (h1 : s[k] ≠ 34) (h2 : s[k] ≠ 92 ∨ q = false) (h3 : s[k] ≠ 44 ∨ q = true) : pd s q k = pd s q (k + 1) + 1 := by
  unfold pd
  rw [drop_cons s k h, pend, if_neg (by rintro ⟨x, y⟩; rcases h3 with h3 | h3; · exact h3 x
                                        · rw [y] at h3; cases h3)]
  have : nx q false s[k] = (q, false) := by
    unfold nx
    rw [if_neg (by simp), if_neg (by rintro ⟨x, y⟩; rcases h2 with h2 | h2; · exact h2 x
                                     · rw [y] at h2; cases h2), if_neg h1]
  rw [this]
theorem pd_skip {s : ByteArray} {k : Nat} (h : k + 1 < s.size) (hc : s[k] = 92) : pd s true k = pd s true (k + 2) + 2 := by
  unfold pd
  rw [drop_cons s k (by omega), pend, hc, if_neg (by simp), drop_cons s (k + 1) h]
  simp [pend, nx]
theorem pd_skip_end {s : ByteArray} {k : Nat} (h : k < s.size) (h2 : s.size = k + 1) (hc : s[k] = 92) : pd s true k = 1 := by
  unfold pd
  rw [drop_cons s k h, pend, hc, if_neg (by simp), drop_end s (k + 1) (by omega)]
  simp [pend]
theorem byte_is {c : UInt8} {n : Nat} (h : c.toNat = n) (hn : n < 256) : c = UInt8.ofNat n := by
  apply UInt8.toNat_inj.1
  rw [h, UInt8.toNat_ofNat']
  omega
theorem byte_ne {c : UInt8} {n : Nat} (h : c.toNat ≠ n) (hn : n < 256) : c ≠ UInt8.ofNat n := by
  rintro rfl
  rw [UInt8.toNat_ofNat'] at h
  omega

end Go.Proofs.YtekkhjlipijmcaaGreatDoor
