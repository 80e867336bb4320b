/- FramingOne, walked: what it asks. -/
import Derived.Test.YtalihfohdejalaaDoorGText
namespace Go.Proofs.YtalihfohdejalaaDoor
open Go.ChangeShapes Go.WideShapes Go.ChangeAt Go.RowKit

theorem req_zero (A : List (ByteArray × ByteArray)) (r : Bool) (m : Int) (h : (reqO A r m).e ≠ 0) : (reqO A r m).k = 0 ∧ (reqO A r m).n = 0 ∧ (reqO A r m).b = false := by
  unfold reqO toldO at h ⊢
  cases r
  · exact ⟨rfl, rfl, rfl⟩
  · simp only [if_true] at h ⊢
    split at h <;> rename_i h1
    · rw [if_pos h1]; exact ⟨rfl, rfl, rfl⟩
    · rw [if_neg h1]
      split at h <;> rename_i h2
      · rw [if_pos h2]; exact ⟨rfl, rfl, rfl⟩
      · rw [if_neg h2]
        split at h <;> rename_i h3
        · rw [if_pos h3]; exact ⟨rfl, rfl, rfl⟩
        · split at h
          · exact absurd rfl h
          · split at h <;> exact absurd rfl h
theorem sm_with {A : List (ByteArray × ByteArray)} (h : Sm A) (hl : A.length + 1 ≤ 1048576) (n : Nat) (hn : n ≤ 9007199254740992) (fr : Bool) : Sm (withN A n fr) := by
  have hd : (decS n).size ≤ 1048576 := by
    unfold decS
    rw [sS_size]
    have := decD_len21 hn
    omega
  have hm : moreN.size ≤ 1048576 := by decide
  unfold withN
  cases fr
  · refine ⟨by simp; omega, fun f hf => ?_⟩
    simp only [Bool.false_eq_true, if_false, List.mem_append, List.mem_singleton] at hf
    rcases hf with hf | rfl
    · exact h.2 f hf
    · exact ⟨hm, hd⟩
  · refine ⟨by simp; omega, fun f hf => ?_⟩
    simp only [if_true, List.mem_cons] at hf
    rcases hf with rfl | hf
    · exact ⟨hm, hd⟩
    · exact h.2 f hf
theorem row_setOld {W : World} {base : Nat} {v : Value} {A : List (ByteArray × ByteArray)} (h : FRow W base v A) {g : Nat} (hg : g < base) (i : Nat) (u : Value) : Flds (W.setCell ⟨g, i, none⟩ u) v A :=
  Flds.of_row (h.frame fun k hk => Below.heap_setCell W ⟨g, i, none⟩ u k (by have := (h.lt hk).1; simp; omega))
end Go.Proofs.YtalihfohdejalaaDoor
