/- The pool and the document's pool: both serve the same, both cut the same. -/
import Derived.Test.YtgeneknaekoinaaURl3
namespace Go.Proofs.Ytgeneknaekoinaa
open Go.ChangeShapes Go.WideShapes Go.ChangeAt Go.RowKit
set_option linter.unusedVariables false

section
variable {p : Pm} {q : Rm}
theorem Rel.q' (h : Rel p q) (Q : List Int) : Rel { p with Q := Q } { q with Q := Q } := { h with Q := rfl }
end
theorem Rel.serve : ∀ (n : Nat) {p : Pm} {q : Rm} {now : Int}, p.Q.length = n → Rel p q → svA p now = rvA q now ∧ Rel (svP p now) (rvP q now)
  | 0, p, q, now, hn, h => by
    have hp := List.eq_nil_of_length_eq_zero hn
    have hq : q.Q = [] := by rw [h.Q]; exact hp
    rw [(sv_nil hp).1, (sv_nil hp).2, (rv_nil hq).1, (rv_nil hq).2]
    exact ⟨rfl, h⟩
  | n + 1, p, q, now, hn, h => by
    obtain ⟨x, Q, hp⟩ := List.exists_cons_of_length_eq_add_one hn
    have hq : q.Q = x :: Q := by rw [h.Q]; exact hp
    obtain ⟨eA, eB, hR⟩ := h.give now x
    cases hg : gvB p now with
    | false =>
      have hg2 : rgB q now = false := by rw [← eB]; exact hg
      rw [(sv_stop hg).1, (sv_stop hg).2, (rv_stop hg2).1, (rv_stop hg2).2]
      exact ⟨rfl, h⟩
    | true =>
      have hg2 : rgB q now = true := by rw [← eB]; exact hg
      rw [(sv_go hg hp).1, (sv_go hg hp).2, (rv_go hg2 hq).1, (rv_go hg2 hq).2, eA]
      obtain ⟨a, b⟩ := Rel.serve n (now := now) (by rw [hp] at hn; simpa using hn) (hR.q' Q)
      rw [a]
      exact ⟨rfl, b⟩
theorem Rel.names {p : Pm} {q : Rm} (h : Rel p q) : q.L.map (·.n) = p.R.map (·.c) := by
  apply List.ext_getElem (by rw [List.length_map, List.length_map, h.len])
  intro i h1 h2
  rw [List.length_map] at h1 h2
  rw [List.getElem_map, List.getElem_map]
  exact (h.row i _ _ (get_ok h2) (get_ok h1)).1
theorem filt_erase : ∀ (L : List Cn) (i : Nat) {s : Cn}, (L.map (·.n)).Nodup → L[i]? = some s → L.filter (fun r => r.n != s.n) = L.eraseIdx i
  | [], i, s, hn, hs => by simp at hs
  | a :: L, 0, s, hn, hs => by
    simp at hs
    subst hs
    rw [List.map_cons, List.nodup_cons] at hn
    rw [List.filter_cons_of_neg (by simp), List.eraseIdx_cons_zero]
    refine List.filter_eq_self.2 fun r hr => ?_
    have : r.n ≠ a.n := fun x => hn.1 (by rw [← x]; exact List.mem_map.2 ⟨r, hr, rfl⟩)
    simpa using this
  | a :: L, i + 1, s, hn, hs => by
    rw [List.getElem?_cons_succ] at hs
    rw [List.map_cons, List.nodup_cons] at hn
    have : a.n ≠ s.n := fun x => hn.1 (by rw [x]; exact List.mem_map.2 ⟨s, List.mem_of_getElem? hs, rfl⟩)
    rw [List.filter_cons_of_pos (by simpa using this), List.eraseIdx_cons_succ, filt_erase L i hn.2 hs]
theorem mem_erase_at {R : List Rk} {i : Nat} {u : Rk} (h : u ∈ R.eraseIdx i) : ∃ j, j ≠ i ∧ R[j]? = some u := by
  rw [List.mem_eraseIdx_iff_getElem] at h
  obtain ⟨j, hj, hne, e⟩ := h
  exact ⟨j, hne, by rw [← e]; exact get_ok hj⟩
theorem erase_mem_at {R : List Rk} {i j : Nat} {u : Rk} (hj : j ≠ i) (h : R[j]? = some u) : u ∈ R.eraseIdx i := by
  rw [List.mem_eraseIdx_iff_getElem]
  obtain ⟨h1, h2⟩ := List.getElem?_eq_some_iff.1 h
  exact ⟨j, h1, hj, h2⟩
/-- Both let a connection go. -/
theorem Rel.cut {p : Pm} {q : Rm} (h : Rel p q) {i : Nat} {r : Rk} (hr : p.R[i]? = some r) : Rel (rmP p i) (cutP q r.c) := by
  obtain ⟨s, hs, hsn, -⟩ := h.at hr
  have hil := (List.getElem?_eq_some_iff.1 hr).1
  have eL : q.L.filter (fun u => u.n != r.c) = q.L.eraseIdx i := by rw [← hsn]; exact filt_erase q.L i (by rw [h.names]; exact h.nod) hs
  unfold rmP cutP
  rw [eL]
  have hlow : ∀ u ∈ p.R.eraseIdx i, u ∈ p.R := fun u hu => List.mem_of_mem_eraseIdx hu
  refine ⟨h.cap, h.pend, h.idle, h.life, h.nx, h.Q, ?_, fun j u v hu hv => ?_, ?_, fun u hu => h.fresh u (hlow u hu), fun x => ?_, ?_, fun u hu h2 => h.tub u (hlow u hu) h2⟩
  · dsimp only
    rw [List.length_eraseIdx_of_lt hil, List.length_eraseIdx_of_lt (by rw [h.len]; exact hil), h.len]
  · dsimp only at hu hv
    rw [List.getElem?_eraseIdx] at hu hv
    split at hu
    · rename_i x
      rw [if_pos x] at hv
      exact h.row j u v hu hv
    · rename_i x
      rw [if_neg x] at hv
      exact h.row (j + 1) u v hu hv
  · dsimp only
    exact h.nod.sublist ((List.eraseIdx_sublist p.R i).map _)
  · dsimp only
    constructor
    · intro hx
      have hne := erI_ne h.nodS hx
      obtain ⟨u, hu, a, b⟩ := (h.mem x).1 (erI_sub hx)
      obtain ⟨j, hj, ej⟩ := List.getElem_of_mem hu
      have hu2 : p.R[j]? = some u := by rw [← ej]; exact get_ok hj
      refine ⟨u, erase_mem_at (fun y => ?_) hu2, a, b⟩
      subst y
      rw [hr] at hu2
      cases hu2
      exact hne b.symm
    · rintro ⟨u, hu, a, b⟩
      obtain ⟨j, hj, y⟩ := mem_erase_at hu
      refine mem_erI ((h.mem x).2 ⟨u, hlow u hu, a, b⟩) (fun z => hj ?_)
      exact nod_at h.nod y hr (by rw [b, z])
  · dsimp only
    refine List.Pairwise.imp (fun {x y} hxy u hu v hv a b => ?_) (h.ord.sublist (erI_sublist r.c q.S))
    exact hxy u (hlow u hu) v (hlow v hv) a b
end Go.Proofs.Ytgeneknaekoinaa
