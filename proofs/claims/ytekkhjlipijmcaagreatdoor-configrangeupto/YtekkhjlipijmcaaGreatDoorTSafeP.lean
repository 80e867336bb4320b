/- Nothing in what is taken is below 33 or above 126: no program in it. -/
import Derived.Test.YtekkhjlipijmcaaGreatDoorTPure
import Derived.Test.YtekkhjlipijmcaaGreatDoorTClean
import Derived.Lib.IndexMore
namespace Go.Proofs.YtekkhjlipijmcaaGreatDoor

def safe (c : UInt8) : Prop := 33 ≤ c.toNat ∧ c.toNat ≤ 126
def allSafe (l : List UInt8) : Prop := ∀ c ∈ l, safe c
theorem allSafe_app {a b : List UInt8} (h1 : allSafe a) (h2 : allSafe b) : allSafe (a ++ b) := fun c hc => (List.mem_append.1 hc).elim (h1 c) (h2 c)
theorem allSafe_cons {c : UInt8} {b : List UInt8} (h1 : safe c) (h2 : allSafe b) : allSafe (c :: b) := fun x hx => by
  rcases List.mem_cons.1 hx with rfl | hx
  · exact h1
  · exact h2 x hx
theorem allSafe_nil : allSafe [] := fun _ h => by cases h
theorem allSafe_of_app {a b : List UInt8} (h : allSafe (a ++ b)) : allSafe b := fun c hc => h c (List.mem_append.2 (.inr hc))
theorem allSafe_tail {c : UInt8} {b : List UInt8} (h : allSafe (c :: b)) : allSafe b := fun x hx => h x (List.mem_cons.2 (.inr hx))
theorem alnum_safe {c : UInt8} (h : alnum c = true) : safe c := by
  simp only [alnum, Bool.or_eq_true, Bool.and_eq_true, decide_eq_true_eq] at h
  unfold safe
  omega
theorem marks_safe {m : List UInt8} (hm : (m.all fun c => decide (33 ≤ c.toNat) && decide (c.toNat ≤ 126)) = true) {c : UInt8} (h : m.contains c = true) : safe c := by
  have := List.all_eq_true.1 hm c (by simpa using h)
  simp only [Bool.and_eq_true, decide_eq_true_eq] at this
  exact this
theorem plain_safe {m : List UInt8} (hm : (m.all fun c => decide (33 ≤ c.toNat) && decide (c.toNat ≤ 126)) = true) {c : UInt8} (h : plainc m c = true) : safe c := by
  unfold plainc at h
  rcases Bool.or_eq_true_iff.1 h with h | h
  · exact alnum_safe h
  · exact marks_safe hm h
theorem esc_pct : ∀ {l : List UInt8} {c : UInt8}, esc (c :: l) = true → c = 37
  | [], _, h => by simp [esc] at h
  | [_], _, h => by simp [esc] at h
  | _ :: _ :: _, c, h => by
    simp only [esc, Bool.and_eq_true, decide_eq_true_eq] at h
    exact h.1
theorem holds_safe {m : List UInt8} (hm : (m.all fun c => decide (33 ≤ c.toNat) && decide (c.toNat ≤ 126)) = true) : ∀ {l : List UInt8}, holdsB m l = true → allSafe l
  | [], _ => allSafe_nil
  | c :: r, h => by
    simp only [holdsB, Bool.and_eq_true, Bool.or_eq_true] at h
    refine allSafe_cons ?_ (holds_safe hm h.2)
    rcases h.1 with h1 | h1
    · exact plain_safe hm h1
    · rw [esc_pct h1]; exact ⟨by decide, by decide⟩
theorem digv_safe {c : UInt8} (h : digv c < 16) : safe c := by
  unfold digv at h
  unfold safe
  split at h
  · omega
  · split at h
    · omega
    · split at h
      · omega
      · omega
theorem brc_safe {c : UInt8} (h : brc c = true) : safe c := by
  unfold brc at h
  simp only [Bool.or_eq_true, decide_eq_true_eq] at h
  rcases h with (rfl | rfl) | h
  · exact ⟨by decide, by decide⟩
  · exact ⟨by decide, by decide⟩
  · exact digv_safe (of_decide_eq_true h)
theorem suffix_split {d : List UInt8} (h : Lib.hasSuffix d [93] = true) : d = Lib.trimSuffix d [93] ++ [93] := by
  unfold Lib.trimSuffix
  rw [h]
  obtain ⟨t, ht⟩ : [93] <:+ d := by
    unfold Lib.hasSuffix at h
    exact List.isSuffixOf_iff_suffix.1 h
  subst ht
  simp
theorem brac_safe {l : List UInt8} (h0 : Lib.hasPrefix l [91] = true) (h : bracB l = true) : allSafe l := by
  rw [prefix_head] at h0
  have h0 := of_decide_eq_true h0
  unfold bracB at h
  simp only [Bool.and_eq_true] at h
  obtain ⟨h1, h2, _⟩ := h
  cases l with
  | nil => cases h0
  | cons c d =>
    simp only [List.head?_cons, Option.some.injEq] at h0
    subst h0
    rw [List.drop_succ_cons, List.drop_zero] at h1 h2
    rw [suffix_split h1]
    refine allSafe_cons ⟨by decide, by decide⟩ (allSafe_app (fun c hc => brc_safe (List.all_eq_true.1 h2 c hc)) (allSafe_cons ⟨by decide, by decide⟩ allSafe_nil))
theorem hostB_safe {l : List UInt8} (h : hostB l = true) : allSafe l := by
  unfold hostB at h
  split at h
  · exact brac_safe (by assumption) h
  · simp only [Bool.and_eq_true] at h
    exact holds_safe (by decide) h.2.2
theorem port_safe {d : List UInt8} (h : portE d = 0) : allSafe d := by
  unfold portE at h
  split at h
  · rename_i e; subst e; exact allSafe_nil
  · split at h
    · omega
    · rename_i hb
      simp only [portBad, Bool.or_eq_true, not_or, Bool.not_eq_true', decide_eq_false_iff_not, Classical.not_not, decide_eq_true_eq] at hb
      have hn := hb.1
      unfold numE at hn
      split at hn
      · omega
      · rename_i hd
        simp only [not_or, Classical.not_not] at hd
        intro c hc
        have := List.all_eq_true.1 hd.2 c hc
        simp only [decide_eq_true_eq] at this
        exact digv_safe (by omega)
theorem pstate_colon (l : List UInt8) : (∀ k : Nat, (pstate l).1 = k → l[k]? = some 58) ∧ (∀ k : Nat, (pstate l).2.1 = k → l[k]? = some 58) := by
  induction l using snoc_ind with
  | h0 => constructor <;> intro k h <;> simp [pstate, pfold] at h <;> omega
  | h1 l c ih =>
    have hle := pstate_le l
    have old : ∀ k : Nat, (k : Int) < l.length → l[k]? = some 58 → (l ++ [c])[k]? = some 58 := fun k hk h => by
      rw [List.getElem?_append_left (by omega)]; exact h
    have o1 : ∀ k : Nat, (pstate l).1 = k → (l ++ [c])[k]? = some 58 := fun k h => old k (by omega) (ih.1 k h)
    have o2 : ∀ k : Nat, (pstate l).2.1 = k → (l ++ [c])[k]? = some 58 := fun k h => old k (by omega) (ih.2 k h)
    rw [pstate_snoc]
    unfold pstep
    by_cases h58 : c = 58
    · rw [if_pos h58]
      refine ⟨fun k h => ?_, o2⟩
      have : k = l.length := by simp only at h; omega
      subst this
      subst h58
      simp
    · rw [if_neg h58]
      by_cases h91 : c = 91
      · rw [if_pos h91]
        split
        · exact ⟨o1, o2⟩
        · exact ⟨o1, o1⟩
      · rw [if_neg h91]
        by_cases h93 : c = 93
        · rw [if_pos h93]
          split
          · exact ⟨o2, o2⟩
          · exact ⟨o1, o2⟩
        · rw [if_neg h93]
          exact ⟨o1, o2⟩
theorem split_at_k {l : List UInt8} {k : Nat} {c : UInt8} (h : l[k]? = some c) : l = l.take k ++ c :: l.drop (k + 1) := by
  obtain ⟨hlt, hc⟩ := List.getElem?_eq_some_iff.1 h
  conv => lhs; rw [← List.take_append_drop k l, List.drop_eq_getElem_cons hlt, hc]
theorem host_safe {l : List UInt8} (h : hostE l = 0) : allSafe l := by
  unfold hostE at h
  split at h
  · rename_i hb
    have h1 := hostB_safe hb
    have h2 := port_safe h
    by_cases hn : (pstate l).1 < 0
    · unfold nameOf at h1
      rw [if_pos hn] at h1
      exact h1
    · unfold nameOf at h1
      unfold digsOf at h2
      rw [if_neg hn] at h1 h2
      have hk := (pstate_colon l).1 (pstate l).1.toNat (by omega)
      rw [split_at_k hk]
      exact allSafe_app h1 (allSafe_cons ⟨by decide, by decide⟩ h2)
  · omega
theorem indexByte_at : ∀ {l : List UInt8} {c : UInt8} {i : Nat}, Lib.indexByte l c = i → l[i]? = some c
  | [], c, i, h => by simp [Lib.indexByte] at h
  | a :: r, c, i, h => by
    unfold Lib.indexByte at h
    have hg := Lib.indexByte_ge r c
    split at h
    · rename_i hc
      have e : i = 0 := by omega
      subst e
      simp at hc
      simp [hc]
    · split at h
      · omega
      · rename_i h2
        obtain ⟨j, hj⟩ : ∃ j : Nat, Lib.indexByte r c = j := ⟨(Lib.indexByte r c).toNat, by simp at h2; omega⟩
        have e : i = j + 1 := by omega
        subst e
        simp [indexByte_at hj]
theorem cut_safe {l : List UInt8} (h1 : allSafe (Lib.cut l [63]).1) (h2 : allSafe (Lib.cut l [63]).2.1) : allSafe l := by
  unfold Lib.cut at h1 h2
  by_cases h : 0 ≤ Lib.index l [63]
  · rw [if_pos h] at h1 h2
    have hi : Lib.indexByte l 63 = ((Lib.index l [63]).toNat : Int) := by rw [← Lib.index_one]; omega
    rw [split_at_k (indexByte_at hi)]
    exact allSafe_app h1 (allSafe_cons ⟨by decide, by decide⟩ h2)
  · rw [if_neg h] at h1
    exact h1
theorem low_safe {c : UInt8} (h : safe (lowc c)) : safe c := by
  unfold lowc at h
  split at h
  · rename_i h2
    unfold safe; omega
  · exact h
theorem lower_safe {l m : List UInt8} (h : lowerB l = m) (hm : allSafe m) : allSafe l := fun c hc => low_safe (hm _ (by rw [← h]; exact List.mem_map_of_mem hc))
end Go.Proofs.YtekkhjlipijmcaaGreatDoor
