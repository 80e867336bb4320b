/- The pool and the document's pool: who is found, who is taken again. -/
import Derived.Test.YtgeneknaekoinaaURl
namespace Go.Proofs.Ytgeneknaekoinaa
open Go.ChangeShapes Go.WideShapes Go.ChangeAt Go.RowKit
set_option linter.unusedVariables false

theorem idx_same {α β : Type} {f : α → Bool} {g : β → Bool} {L : List α} {M : List β} (hl : M.length = L.length) (h : ∀ (i : Nat) r s, L[i]? = some r → M[i]? = some s → f r = g s) : idx f L = idx g M := by
  rcases idx_cases f L with ⟨e, ha⟩ | ⟨i, r, e, hr, hf, hb⟩
  · rcases idx_cases g M with ⟨e', hc⟩ | ⟨j, s, e', hs, hg, hd⟩
    · rw [e, e']
    · have hj : j < L.length := by rw [← hl]; exact (List.getElem?_eq_some_iff.1 hs).1
      have h1 := h j _ s (get_ok hj) hs
      rw [ha _ (List.getElem_mem hj), hg] at h1
      simp at h1
  · have hi : i < M.length := by rw [hl]; exact (List.getElem?_eq_some_iff.1 hr).1
    have h1 := h i r _ hr (get_ok hi)
    rw [hf] at h1
    rcases idx_cases g M with ⟨e', hc⟩ | ⟨j, s, e', hs, hg, hd⟩
    · rw [hc _ (List.getElem_mem hi)] at h1
      simp at h1
    · have hj : j < L.length := by rw [← hl]; exact (List.getElem?_eq_some_iff.1 hs).1
      have h2 := h j _ s (get_ok hj) hs
      rw [hg] at h2
      rcases Nat.lt_trichotomy i j with x | x | x
      · rw [hd i _ x (get_ok hi)] at h1; simp at h1
      · rw [e, e', x]
      · rw [hb j _ x (get_ok hj)] at h2; simp at h2
section
variable {p : Pm} {q : Rm}
theorem Rel.place (h : Rel p q) (c : Int) : idx (isC c) p.R = idx (isD c) q.L :=
  idx_same h.len (fun i r s hr hs => by unfold isC isD; rw [(h.row i r s hr hs).1])
theorem Rel.whose (h : Rel p q) (x : Int) : idx (isW x) p.R = idx (isO x) q.L :=
  idx_same h.len (fun i r s hr hs => by
    obtain ⟨-, h2, -, h4, -⟩ := h.row i r s hr hs
    unfold isW isO
    rw [h2]
    by_cases e : r.st = 2
    · rw [e]; simp
    · rw [h4 e]
      have e2 : ¬ r.st + 1 = 3 := by omega
      rw [show (r.st != 2) = true from bne_iff_ne.2 e, show (r.st + 1 != 3) = true from bne_iff_ne.2 e2])
theorem nod_at {R : List Rk} (hn : (R.map (·.c)).Nodup) {i j : Nat} {r s : Rk} (hr : R[i]? = some r) (hs : R[j]? = some s) (hc : r.c = s.c) : i = j := by
  obtain ⟨hi, ei⟩ := List.getElem?_eq_some_iff.1 hr
  obtain ⟨hj, ej⟩ := List.getElem?_eq_some_iff.1 hs
  have hi' : i < (R.map (fun r : Rk => r.c)).length := by rw [List.length_map]; exact hi
  have hj' : j < (R.map (fun r : Rk => r.c)).length := by rw [List.length_map]; exact hj
  exact (List.getElem_inj (h₀ := hi') (h₁ := hj') hn).1 (by simp [ei, ej, hc])
theorem nod_idx {R : List Rk} (hn : (R.map (·.c)).Nodup) {i : Nat} {r : Rk} (hr : R[i]? = some r) : idx (isC r.c) R = (i : Int) := by
  rcases idx_cases (isC r.c) R with ⟨e, ha⟩ | ⟨j, s, e, hs, hf, hb⟩
  · have := ha r (List.mem_of_getElem? hr)
    unfold isC at this
    simp at this
  · have hc : s.c = r.c := by unfold isC at hf; simpa using hf
    rw [e, nod_at hn hr hs hc.symm]
theorem Rel.con (h : Rel p q) {i : Nat} {r : Rk} {s : Cn} (hr : p.R[i]? = some r) (hs : q.L[i]? = some s) : conC q r.c = s ∧ idx (isD r.c) q.L = (i : Int) := by
  have e : idx (isD r.c) q.L = (i : Int) := by rw [← h.place]; exact nod_idx h.nod hr
  exact ⟨conC_of e hs, e⟩
theorem Rel.ends (h : Rel p q) {i : Nat} {r : Rk} {s : Cn} (hr : p.R[i]? = some r) (hs : q.L[i]? = some s) (h2 : r.st = 2) : rendI q s = endsI p r := by
  obtain ⟨-, -, e3, -, e5⟩ := h.row i r s hr hs
  unfold rendI endsI diesI
  rw [h.idle, h.life, e3, (e5 h2).1]
theorem Rel.good (h : Rel p q) {i : Nat} {r : Rk} (hr : p.R[i]? = some r) (h2 : r.st = 2) (now : Int) : gdS q now r.c = goodB p r now := by
  obtain ⟨s, hs, -⟩ := h.at hr
  unfold gdS goodB
  rw [(h.con hr hs).1, h.ends hr hs h2]
/-- The one that is taken again. -/
theorem Rel.lat (h : Rel p q) (now : Int) : (lat p now = -1 ∧ rl q now = -1) ∨ ∃ (i k : Nat) (r : Rk) (s : Cn), lat p now = (i : Int) ∧ rl q now = (k : Int) ∧ k < q.S.length ∧ p.R[i]? = some r ∧ q.L[i]? = some s ∧ r.st = 2 ∧ q.S.getD k 0 = r.c ∧ idx (isD r.c) q.L = (i : Int) := by
  have hS : ∀ k, k < q.S.length → ∃ (j : Nat) (r : Rk), p.R[j]? = some r ∧ r.st = 2 ∧ q.S.getD k 0 = r.c := fun k hk => by
    have hm : q.S.getD k 0 ∈ q.S := by rw [List.getD_eq_getElem?_getD, List.getElem?_eq_getElem hk]; exact List.getElem_mem hk
    obtain ⟨r, hr, h2, hc⟩ := (h.mem _).1 hm
    obtain ⟨j, hj, e⟩ := List.getElem_of_mem hr
    exact ⟨j, r, by rw [← e]; exact get_ok hj, h2, hc.symm⟩
  have hR : ∀ r ∈ p.R, r.st = 2 → ∃ k, k < q.S.length ∧ q.S.getD k 0 = r.c := fun r hr h2 => by
    obtain ⟨k, hk, e⟩ := List.getElem_of_mem ((h.mem r.c).2 ⟨r, hr, h2, rfl⟩)
    exact ⟨k, hk, by rw [List.getD_eq_getElem?_getD, List.getElem?_eq_getElem hk]; exact e⟩
  unfold Go.Proofs.Ytgeneknaekoinaa.lat rl
  rcases bst_spec p now p.R p.R.length (Nat.le_refl _) with ⟨e, ha⟩ | ⟨i, r, e, hi, hr, h1, h2, h3⟩
  · rcases rgS_spec q now q.S.length with ⟨e', hc⟩ | ⟨k, e', hk, g1, g2⟩
    · exact .inl ⟨e, e'⟩
    · obtain ⟨j, r, hr, h2, hc⟩ := hS k hk
      rw [hc, h.good hr h2] at g1
      rw [ha j r (List.getElem?_eq_some_iff.1 hr).1 hr h2] at g1
      simp at g1
  · obtain ⟨s, hs, -⟩ := h.at hr
    rcases rgS_spec q now q.S.length with ⟨e', hc⟩ | ⟨k, e', hk, g1, g2⟩
    · obtain ⟨k, hk, ek⟩ := hR r (List.mem_of_getElem? hr) h1
      have := hc k hk
      rw [ek, h.good hr h1, h2] at this
      simp at this
    · obtain ⟨j, u, hu, u2, uc⟩ := hS k hk
      obtain ⟨k2, hk2, ek2⟩ := hR r (List.mem_of_getElem? hr) h1
      have gu : goodB p u now = true := by rw [← h.good hu u2, ← uc]; exact g1
      have hle := h3 j u (List.getElem?_eq_some_iff.1 hu).1 hu u2 gu
      have hkk : k2 ≤ k := by
        apply Classical.byContradiction
        intro x
        have := g2 k2 (by omega) hk2
        rw [ek2, h.good hr h1, h2] at this
        simp at this
      have hkk2 : k2 = k := by
        apply Classical.byContradiction
        intro x
        have hlt : k2 < k := by omega
        have ho := List.pairwise_iff_getElem.1 h.ord k2 k hk2 hk hlt
        have a1 : q.S[k2] = r.c := by rw [← ek2, List.getD_eq_getElem?_getD, List.getElem?_eq_getElem hk2]; rfl
        have a2 : q.S[k] = u.c := by rw [← uc, List.getD_eq_getElem?_getD, List.getElem?_eq_getElem hk]; rfl
        have := ho r (List.mem_of_getElem? hr) u (List.mem_of_getElem? hu) a1.symm a2.symm
        omega
      subst hkk2
      exact .inr ⟨i, k2, r, s, e, e', hk, hr, hs, h1, ek2, (h.con hr hs).2⟩
end
end Go.Proofs.Ytgeneknaekoinaa
