/- The program's Host and the document's take the same hosts, as the same: no program in it. -/
import Derived.Test.YtekkhjlipijmcaaGreatDoorTRef3
namespace Go.Proofs.YtekkhjlipijmcaaGreatDoor

def nosp (c : UInt8) : Prop := c ≠ 58 ∧ c ≠ 91 ∧ c ≠ 93
theorem alnum_nosp {c : UInt8} (h : alnum c = true) : nosp c := by
  refine ⟨?_, ?_, ?_⟩ <;> (intro e; subst e; revert h; decide)
theorem marks_nosp {c : UInt8} (h : hostMarks.contains c = true) : nosp c := by
  refine ⟨?_, ?_, ?_⟩ <;> (intro e; subst e; revert h; decide)
theorem holds_nosp : ∀ {l : List UInt8}, holdsB hostMarks l = true → ∀ c ∈ l, nosp c
  | [], _, _, h => by cases h
  | a :: r, h, c, hc => by
    simp only [holdsB, Bool.and_eq_true, Bool.or_eq_true] at h
    rcases List.mem_cons.1 hc with rfl | hc
    · rcases h.1 with h1 | h1
      · unfold plainc at h1
        rcases Bool.or_eq_true_iff.1 h1 with h1 | h1
        · exact alnum_nosp h1
        · exact marks_nosp h1
      · rw [esc_pct h1]; exact ⟨by decide, by decide, by decide⟩
    · exact holds_nosp h.2 c hc
theorem hx_nosp {c : UInt8} (h : hx c = true) : nosp c := alnum_nosp (hx_alnum h)
theorem port_nosp {d : List UInt8} (h : portE d = 0) : ∀ c ∈ d, nosp c := by
  unfold portE at h
  split at h
  · rename_i e; subst e; intro c hc; cases hc
  · split at h
    · omega
    · rename_i hb
      simp only [portBad, Bool.or_eq_true, not_or, Bool.not_eq_true', decide_eq_false_iff_not, Classical.not_not, decide_eq_true_eq] at hb
      have hn := hb.1
      unfold numE at hn
      split at hn
      · omega
      · rename_i hd
        simp only [not_or, Classical.not_not] at hd
        intro c hc
        have := List.all_eq_true.1 hd.2 c hc
        simp only [decide_eq_true_eq] at this
        exact hx_nosp (decide_eq_true (by omega))
theorem pstep_nosp {i : Int} {a : Int × Int × Bool} {c : UInt8} (h : nosp c) : pstep i a c = a := by
  unfold pstep
  rw [if_neg h.1, if_neg h.2.1, if_neg h.2.2]
theorem pstate_app (x d : List UInt8) (h : ∀ c ∈ d, nosp c) : pstate (x ++ d) = pstate x := by
  induction d using snoc_ind with
  | h0 => simp
  | h1 d c ih =>
    rw [← List.append_assoc, pstate_snoc, pstep_nosp (h c (by simp)), ih (fun b hb => h b (by simp [hb]))]
theorem lastI_app (x d : List UInt8) (c : UInt8) (h : c ∉ d) : lastI (x ++ d) c = lastI x c := by
  induction d using snoc_ind with
  | h0 => simp
  | h1 d b ih =>
    rw [← List.append_assoc, lastI_snoc, if_neg (fun e => h (by simp [e])), ih (fun hb => h (by simp [hb]))]
theorem lastI_none (x : List UInt8) (c : UInt8) (h : c ∉ x) : lastI x c = -1 := by
  have := lastI_app [] x c h
  rw [List.nil_append] at this
  rw [this, lastI_nil]
theorem lastI_at (l : List UInt8) (c : UInt8) (k : Nat) (h : lastI l c = k) : l[k]? = some c := by
  induction l using snoc_ind generalizing k with
  | h0 => rw [lastI_nil] at h; omega
  | h1 l b ih =>
    rw [lastI_snoc] at h
    split at h
    · rename_i e
      have : k = l.length := by omega
      subst this
      simp [e]
    · have hlt := (lastI_lt l c).2
      rw [List.getElem?_append_left (by omega)]
      exact ih k h
/-- Within brackets a colon is not outside. -/
theorem pstate_in (I : List UInt8) (h : ∀ c ∈ I, c ≠ 91 ∧ c ≠ 93) : (pstate (91 :: I)).2 = (-1, true) := by
  induction I using snoc_ind with
  | h0 => decide
  | h1 d c ih =>
    have hc := h c (by simp)
    have e := ih (fun b hb => h b (by simp [hb]))
    rw [← List.cons_append, pstate_snoc]
    unfold pstep
    split
    · exact e
    · rw [if_neg hc.1, if_neg hc.2]; exact e
theorem name_form {nm : List UInt8} (h : hostB nm = true) : (∀ c ∈ nm, nosp c) ∨ (∃ I, nm = 91 :: (I ++ [93]) ∧ ∀ c ∈ I, c ≠ 91 ∧ c ≠ 93) := by
  unfold hostB at h
  split at h
  · rename_i h0
    rw [prefix_head] at h0
    have h0 := of_decide_eq_true h0
    unfold bracB at h
    simp only [Bool.and_eq_true] at h
    obtain ⟨h1, h2, _⟩ := h
    right
    cases nm with
    | nil => cases h0
    | cons c d =>
      simp only [List.head?_cons, Option.some.injEq] at h0
      subst h0
      rw [List.drop_succ_cons, List.drop_zero] at h1 h2
      refine ⟨Lib.trimSuffix d [93], by rw [← suffix_split h1], fun c hc => ?_⟩
      have := List.all_eq_true.1 h2 c hc
      constructor <;> (intro e; subst e; revert this; decide)
  · simp only [Bool.and_eq_true] at h
    left
    exact holds_nosp h.2.2
theorem pstate_name {nm : List UInt8} (h : hostB nm = true) : pstate nm = (-1, -1, false) := by
  rcases name_form h with h1 | ⟨I, rfl, h1⟩
  · have := pstate_app [] nm h1
    rw [List.nil_append] at this
    rw [this]; rfl
  · have e := pstate_in I h1
    rw [← List.cons_append, pstate_snoc]
    unfold pstep
    rw [if_neg (by decide), if_neg (by decide), if_pos rfl]
    have e1 : (pstate (91 :: I)).2.1 = -1 := by rw [e]
    have e2 : (pstate (91 :: I)).2.2 = true := by rw [e]
    rw [e2, e1]
    rfl
theorem parts_bare {nm : List UInt8} (h : hostB nm = true) : nameOf nm = nm ∧ digsOf nm = [] := by
  unfold nameOf digsOf
  rw [pstate_name h]
  exact ⟨rfl, rfl⟩
theorem parts_port {nm d : List UInt8} (hd : ∀ c ∈ d, nosp c) : nameOf (nm ++ 58 :: d) = nm ∧ digsOf (nm ++ 58 :: d) = d := by
  have e : (pstate (nm ++ 58 :: d)).1 = nm.length := by
    rw [show nm ++ 58 :: d = (nm ++ [58]) ++ d by simp, pstate_app _ _ hd, pstate_snoc]
    unfold pstep
    rw [if_pos rfl]
  unfold nameOf digsOf
  rw [e, if_neg (by omega), if_neg (by omega)]
  constructor
  · simp
  · simp
theorem rparts_bare {nm : List UInt8} (h : hostB nm = true) : rnameOf nm = nm ∧ rdigsOf nm = [] := by
  have hn : ¬ lastI nm 93 < lastI nm 58 := by
    rcases name_form h with h1 | ⟨I, rfl, h1⟩
    · rw [lastI_none nm 58 (fun hm => (h1 58 hm).1 rfl)]
      have := lastI_lt nm 93
      omega
    · have h2 := lastI_lt (91 :: (I ++ [93])) 58
      have h3 : lastI (91 :: (I ++ [93])) 93 = ((91 :: I).length : Int) := by rw [← List.cons_append, lastI_snoc, if_pos rfl]
      rw [h3]
      simp only [List.length_cons, List.length_append, List.length_nil] at h2 ⊢
      omega
  unfold rnameOf rdigsOf
  rw [if_neg hn, if_neg hn]
  exact ⟨rfl, rfl⟩
theorem rparts_port {nm d : List UInt8} (hd : ∀ c ∈ d, nosp c) : rnameOf (nm ++ 58 :: d) = nm ∧ rdigsOf (nm ++ 58 :: d) = d := by
  have e1 : lastI (nm ++ 58 :: d) 58 = nm.length := by
    rw [show nm ++ 58 :: d = (nm ++ [58]) ++ d by simp, lastI_app _ _ _ (fun hm => (hd 58 hm).1 rfl), lastI_snoc, if_pos rfl]
  have e2 : lastI (nm ++ 58 :: d) 93 = lastI nm 93 := by
    rw [show nm ++ 58 :: d = (nm ++ [58]) ++ d by simp, lastI_app _ _ _ (fun hm => (hd 93 hm).2.2 rfl), lastI_snoc, if_neg (by decide)]
  have h3 := (lastI_lt nm 93).2
  unfold rnameOf rdigsOf
  rw [e1, e2, if_pos h3, if_pos h3]
  constructor
  · simp
  · simp
theorem host_same (l : List UInt8) (h : hostE l = 0 ∨ rhostE l = 0) : nameOf l = rnameOf l ∧ digsOf l = rdigsOf l := by
  rcases h with h | h
  · unfold hostE at h
    split at h
    · rename_i hb
      have hd := port_nosp h
      by_cases hn : (pstate l).1 < 0
      · have e1 : nameOf l = l := by unfold nameOf; rw [if_pos hn]
        have e2 : digsOf l = [] := by unfold digsOf; rw [if_pos hn]
        rw [e1] at hb
        have r := rparts_bare hb
        rw [e1, e2, r.1, r.2]
        exact ⟨rfl, rfl⟩
      · have hk := (pstate_colon l).1 (pstate l).1.toNat (by omega)
        have e := split_at_k hk
        have e1 : nameOf l = l.take (pstate l).1.toNat := by unfold nameOf; rw [if_neg hn]
        have e2 : digsOf l = l.drop ((pstate l).1.toNat + 1) := by unfold digsOf; rw [if_neg hn]
        rw [← e1, ← e2] at e
        have r := rparts_port (nm := nameOf l) hd
        rw [← e] at r
        exact ⟨r.1.symm, r.2.symm⟩
    · omega
  · unfold rhostE at h
    split at h
    · rename_i hb
      have hd := port_nosp h
      by_cases hn : lastI l 93 < lastI l 58
      · have hge := (lastI_lt l 93).1
        have hk := lastI_at l 58 (lastI l 58).toNat (by omega)
        have e := split_at_k hk
        have e1 : rnameOf l = l.take (lastI l 58).toNat := by unfold rnameOf; rw [if_pos hn]
        have e2 : rdigsOf l = l.drop ((lastI l 58).toNat + 1) := by unfold rdigsOf; rw [if_pos hn]
        rw [← e1, ← e2] at e
        have r := parts_port (nm := rnameOf l) hd
        rw [← e] at r
        exact r
      · have e1 : rnameOf l = l := by unfold rnameOf; rw [if_neg hn]
        have e2 : rdigsOf l = [] := by unfold rdigsOf; rw [if_neg hn]
        rw [e1] at hb
        have r := parts_bare hb
        rw [e1, e2, r.1, r.2]
        exact ⟨rfl, rfl⟩
    · omega
theorem host_same2 (l : List UInt8) : (hostE l = 0 ↔ rhostE l = 0) ∧ (hostE l = 0 → hostH l = rhostH l ∧ hostP l = rhostP l) := by
  have key : hostE l = 0 ∨ rhostE l = 0 → hostE l = rhostE l ∧ hostH l = rhostH l ∧ hostP l = rhostP l := fun h => by
    obtain ⟨e1, e2⟩ := host_same l h
    unfold hostE rhostE hostH rhostH hostP rhostP hostOk rhostOk
    rw [e1, e2]
    exact ⟨rfl, rfl, rfl⟩
  refine ⟨⟨fun h => ?_, fun h => ?_⟩, fun h => (key (.inl h)).2⟩
  · rw [← (key (.inl h)).1]; exact h
  · rw [(key (.inr h)).1]; exact h
end Go.Proofs.YtekkhjlipijmcaaGreatDoor
