/- Plain facts on a ring of bytes: what lies in it behind a copy in two parts. -/
import Derived.Test.YtglhoihiaflmgabGrow
namespace Go.Proofs.Ytglhoihiaflmgab

theorem ringL_get (R : List Int) (st n i : Nat) (hs : st < R.length) (hn : n ≤ R.length) (hi : i < n) : (ringL R st n)[i]? = R[if st + i < R.length then st + i else st + i - R.length]? := by
  unfold ringL
  rw [List.getElem?_take, if_pos hi, List.getElem?_append]
  simp only [List.length_drop]
  by_cases h : st + i < R.length
  · rw [if_pos (by omega), if_pos h, List.getElem?_drop]
  · rw [if_neg (by omega), if_neg h, List.getElem?_take, if_pos (by omega)]
    congr 1; omega

theorem splice_get (D : List Int) (o : Nat) (A : List Int) (h : o + A.length ≤ D.length) (j : Nat) : (splice D o A)[j]? = if j < o then D[j]? else if j < o + A.length then A[j - o]? else D[j]? := by
  unfold splice
  have e1 : (D.take o).length = o := by simp; omega
  rw [List.append_assoc, List.getElem?_append, e1]
  by_cases h1 : j < o
  · rw [if_pos h1, if_pos h1, List.getElem?_take, if_pos h1]
  · rw [if_neg h1, if_neg h1, List.getElem?_append]
    by_cases h2 : j < o + A.length
    · rw [if_pos (by omega), if_pos h2]
    · rw [if_neg (by omega), if_neg h2, List.getElem?_drop]
      congr 1; omega

theorem ring_put (R X : List Int) (st sz k f s : Nat) (hs : st < R.length) (hk : sz + k ≤ R.length) (hX : k ≤ X.length) (hf : f = (st + sz) % R.length) (hss : s = min k (R.length - f)) :
    ringL (splice (splice R f (X.take s)) 0 ((X.drop s).take (k - s))) st (sz + k) = ringL R st sz ++ X.take k := by
  have hN : 0 < R.length := by omega
  have hf' : f = if st + sz < R.length then st + sz else st + sz - R.length := by
    rw [hf]
    by_cases h : st + sz < R.length
    · rw [if_pos h, Nat.mod_eq_of_lt h]
    · rw [if_neg h, Nat.mod_eq_sub_mod (by omega), Nat.mod_eq_of_lt (by omega)]
  clear hf
  have hfl : f < R.length := by rw [hf']; by_cases h : st + sz < R.length <;> simp only [h, if_true, if_false] <;> omega
  have l1 : (X.take s).length = s := by simp; omega
  have l2 : ((X.drop s).take (k - s)).length = k - s := by simp; omega
  have l3 : (splice R f (X.take s)).length = R.length := splice_length _ _ _ (by rw [l1]; omega)
  have l4 : (splice (splice R f (X.take s)) 0 ((X.drop s).take (k - s))).length = R.length := by rw [splice_length _ _ _ (by rw [l2, l3]; omega), l3]
  have lr : (ringL R st sz).length = sz := ringL_length R st sz (by omega) (by omega)
  apply List.ext_getElem?
  intro i
  by_cases hi : i < sz + k
  · rw [ringL_get _ _ _ _ (by rw [l4]; exact hs) (by rw [l4]; exact hk) hi, l4]
    rw [splice_get _ _ _ (by rw [l2, l3]; omega), l2, splice_get _ _ _ (by rw [l1]; omega), l1]
    rw [List.getElem?_append, lr]
    have e0 : ¬ (if st + i < R.length then st + i else st + i - R.length) < 0 := by omega
    rw [if_neg e0]
    clear l1 l2 l3 l4 e0 lr
    by_cases hz : i < sz
    · rw [if_pos hz, ringL_get _ _ _ _ hs (by omega) hz]
      simp only [List.getElem?_take, List.getElem?_drop, Nat.zero_add, Nat.sub_zero]
      by_cases c2 : st + sz < R.length
      · simp only [c2, if_true] at hf'
        by_cases c1 : st + i < R.length
        · simp only [c1, if_true]
          repeat' split
          all_goals first | (exfalso; omega) | rfl
        · omega
      · simp only [c2, if_false] at hf'
        by_cases c1 : st + i < R.length
        · simp only [c1, if_true]
          repeat' split
          all_goals first | (exfalso; omega) | rfl
        · simp only [c1, if_false]
          repeat' split
          all_goals first | (exfalso; omega) | rfl
    · rw [if_neg hz]
      simp only [List.getElem?_take, List.getElem?_drop, Nat.zero_add, Nat.sub_zero]
      by_cases c2 : st + sz < R.length
      · simp only [c2, if_true] at hf'
        by_cases c1 : st + i < R.length
        · simp only [c1, if_true]
          repeat' split
          all_goals first | (exfalso; omega) | (congr 1; omega)
        · simp only [c1, if_false]
          repeat' split
          all_goals first | (exfalso; omega) | (congr 1; omega)
      · simp only [c2, if_false] at hf'
        by_cases c1 : st + i < R.length
        · omega
        · simp only [c1, if_false]
          repeat' split
          all_goals first | (exfalso; omega) | (congr 1; omega)
  · rw [List.getElem?_eq_none (by rw [ringL_length _ _ _ (by rw [l4]; omega) (by rw [l4]; omega)]; omega), List.getElem?_eq_none (by simp [lr]; omega)]

theorem ring_drop (R : List Int) (st sz k : Nat) (hs : st < R.length) (hz : sz ≤ R.length) (hk : k ≤ sz) : ringL R ((st + k) % R.length) (sz - k) = (ringL R st sz).drop k := by
  have hm : (st + k) % R.length = if st + k < R.length then st + k else st + k - R.length := by
    by_cases h : st + k < R.length
    · rw [if_pos h, Nat.mod_eq_of_lt h]
    · rw [if_neg h, Nat.mod_eq_sub_mod (by omega), Nat.mod_eq_of_lt (by omega)]
  have hlt : (st + k) % R.length < R.length := Nat.mod_lt _ (by omega)
  apply List.ext_getElem?
  intro i
  by_cases hi : i < sz - k
  · rw [ringL_get _ _ _ _ hlt (by omega) hi, List.getElem?_drop, ringL_get _ _ _ _ hs hz (by omega), hm]
    congr 1
    by_cases h : st + k < R.length
    · simp only [h, if_true]
      by_cases h2 : st + k + i < R.length
      · rw [if_pos h2, if_pos (by omega)]; omega
      · rw [if_neg h2, if_neg (by omega)]; omega
    · simp only [h, if_false]
      rw [if_pos (by omega), if_neg (by omega)]; omega
  · rw [List.getElem?_eq_none (by rw [ringL_length _ _ _ (by omega) (by omega)]; omega), List.getElem?_eq_none (by rw [List.length_drop, ringL_length _ _ _ (by omega) hz]; omega)]

theorem ring_new (L : List Int) (n : Nat) : ringL (L ++ List.replicate n 0) 0 L.length = L := by
  simp [ringL]
end Go.Proofs.Ytglhoihiaflmgab
