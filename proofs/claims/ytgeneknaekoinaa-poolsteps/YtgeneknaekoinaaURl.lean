/- The pool and the document's pool: what they have in common. -/
import Derived.Test.YtgeneknaekoinaaUNe
namespace Go.Proofs.Ytgeneknaekoinaa
open Go.ChangeShapes Go.WideShapes Go.ChangeAt Go.RowKit
set_option linter.unusedVariables false

/-- The latest: of those that rest and are good, the one whose turn is greatest. -/
theorem bst_spec (p : Pm) (now : Int) (L : List Rk) : ∀ k, k ≤ L.length → (bst p now L k = -1 ∧ ∀ j s, j < k → L[j]? = some s → s.st = 2 → goodB p s now = false) ∨ ∃ (i : Nat) (r : Rk), bst p now L k = (i : Int) ∧ i < k ∧ L[i]? = some r ∧ r.st = 2 ∧ goodB p r now = true ∧ ∀ j s, j < k → L[j]? = some s → s.st = 2 → goodB p s now = true → s.tu ≤ r.tu
  | 0, _ => .inl ⟨rfl, fun j s h => by omega⟩
  | k + 1, h => by
    have hk : k < L.length := h
    have hr := get_ok hk
    generalize L[k] = r at hr
    rw [bst_succ hr]
    rcases bst_spec p now L k (by omega) with ⟨e, ha⟩ | ⟨i, s, e, hi, hs, h1, h2, h3⟩
    · rw [e]
      by_cases hq : r.st = 2 ∧ goodB p r now = true
      · have ht : tkB p now L (-1) r = true := by unfold tkB; rw [hq.1, hq.2]; rfl
        rw [ht]
        refine .inr ⟨k, r, rfl, by omega, hr, hq.1, hq.2, fun j s hj hs h4 h5 => ?_⟩
        by_cases ej : j = k
        · subst ej
          rw [hr] at hs
          cases hs
          exact Int.le_refl _
        · have := ha j s (by omega) hs h4
          rw [this] at h5
          simp at h5
      · have ht : tkB p now L (-1) r = false := by
          unfold tkB
          by_cases q1 : r.st = 2
          · have q2 : goodB p r now = false := by
              cases x : goodB p r now with
              | false => rfl
              | true => exact absurd ⟨q1, x⟩ hq
            rw [q2]; simp
          · simp [q1]
        rw [ht]
        refine .inl ⟨rfl, fun j s hj hs h4 => ?_⟩
        by_cases ej : j = k
        · subst ej
          rw [hr] at hs
          cases hs
          cases x : goodB p r now with
          | false => rfl
          | true => exact absurd ⟨h4, x⟩ hq
        · exact ha j s (by omega) hs h4
    · rw [e]
      have ei : ((i : Int) == -1) = false := by simp
      by_cases hq : r.st = 2 ∧ goodB p r now = true ∧ s.tu < r.tu
      · have ht : tkB p now L (i : Int) r = true := by unfold tkB; rw [hq.1, hq.2.1, Int.toNat_natCast, hs, ei]; simp [hq.2.2]
        rw [ht]
        refine .inr ⟨k, r, rfl, by omega, hr, hq.1, hq.2.1, fun j u hj hu h4 h5 => ?_⟩
        by_cases ej : j = k
        · subst ej
          rw [hr] at hu
          cases hu
          exact Int.le_refl _
        · have := h3 j u (by omega) hu h4 h5
          omega
      · have ht : tkB p now L (i : Int) r = false := by
          cases x : tkB p now L (i : Int) r with
          | false => rfl
          | true =>
            unfold tkB at x
            rw [Int.toNat_natCast, hs, ei] at x
            simp at x
            exact absurd ⟨x.1.1, x.1.2, x.2⟩ hq
        rw [ht]
        refine .inr ⟨i, s, rfl, by omega, hs, h1, h2, fun j u hj hu h4 h5 => ?_⟩
        by_cases ej : j = k
        · subst ej
          rw [hr] at hu
          cases hu
          apply Classical.byContradiction
          intro x
          exact hq ⟨h4, h5, by omega⟩
        · exact h3 j u (by omega) hu h4 h5
/-- The last good of those that rest. -/
theorem rgS_spec (p : Rm) (now : Int) : ∀ k, (rgS p now k = -1 ∧ ∀ j, j < k → gdS p now (p.S.getD j 0) = false) ∨ ∃ i : Nat, rgS p now k = (i : Int) ∧ i < k ∧ gdS p now (p.S.getD i 0) = true ∧ ∀ j, i < j → j < k → gdS p now (p.S.getD j 0) = false
  | 0 => .inl ⟨rfl, fun j h => by omega⟩
  | k + 1 => by
    unfold rgS
    cases hg : gdS p now (p.S.getD k 0) with
    | true => exact .inr ⟨k, rfl, by omega, hg, fun j h1 h2 => by omega⟩
    | false =>
      rcases rgS_spec p now k with ⟨e, h⟩ | ⟨i, e, hi, h1, h2⟩
      · refine .inl ⟨e, fun j hj => ?_⟩
        by_cases x : j = k
        · subst x; exact hg
        · exact h j (by omega)
      · refine .inr ⟨i, e, by omega, h1, fun j hj hj2 => ?_⟩
        by_cases x : j = k
        · subst x; exact hg
        · exact h2 j hj (by omega)
/-- The two pools tell the same. -/
structure Rel (p : Pm) (q : Rm) : Prop where
  cap : q.cap = p.cap
  pend : q.pend = p.pend
  idle : q.idle = p.idle
  life : q.life = p.life
  nx : q.nx = p.asked
  Q : q.Q = p.Q
  len : q.L.length = p.R.length
  row : ∀ (i : Nat) r s, p.R[i]? = some r → q.L[i]? = some s → s.n = r.c ∧ s.st = r.st + 1 ∧ s.bo = r.bo ∧ (r.st ≠ 2 → s.wh = r.wh) ∧ (r.st = 2 → s.si = r.si ∧ r.wh = -1)
  nod : (p.R.map (·.c)).Nodup
  fresh : ∀ r ∈ p.R, r.c < p.asked
  mem : ∀ x, x ∈ q.S ↔ ∃ r ∈ p.R, r.st = 2 ∧ r.c = x
  ord : q.S.Pairwise (fun x y => ∀ r ∈ p.R, ∀ s ∈ p.R, r.c = x → s.c = y → r.tu < s.tu)
  tub : ∀ r ∈ p.R, r.st = 2 → r.tu < p.rested
theorem Rel.new (c pe id li : Int) : Rel (p0 c pe id li) (r0 c pe id li) := by
  unfold p0 r0
  exact ⟨rfl, rfl, rfl, rfl, rfl, rfl, rfl, fun i r s h => by simp at h, by simp, fun r h => by simp at h, fun x => by simp, by simp, fun r h => by simp at h⟩
theorem Rel.nodS {p : Pm} {q : Rm} (h : Rel p q) : q.S.Nodup := by
  refine List.Pairwise.imp_of_mem (fun {x y} hx hy hxy e => ?_) h.ord
  subst e
  obtain ⟨r, hr, -, hc⟩ := (h.mem x).1 hx
  have := hxy r hr r hr hc hc
  omega
/-- A row of the one, a row of the other. -/
theorem Rel.at {p : Pm} {q : Rm} (h : Rel p q) {i : Nat} {r : Rk} (hr : p.R[i]? = some r) : ∃ s, q.L[i]? = some s ∧ s.n = r.c ∧ s.st = r.st + 1 ∧ s.bo = r.bo ∧ (r.st ≠ 2 → s.wh = r.wh) ∧ (r.st = 2 → s.si = r.si ∧ r.wh = -1) := by
  have hi : i < q.L.length := by rw [h.len]; exact (List.getElem?_eq_some_iff.1 hr).1
  exact ⟨q.L[i], get_ok hi, h.row i r _ hr (get_ok hi)⟩
end Go.Proofs.Ytgeneknaekoinaa
