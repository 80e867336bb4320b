/- The pool and the document's pool: both give the same. -/
import Derived.Test.YtgeneknaekoinaaURl2
namespace Go.Proofs.Ytgeneknaekoinaa
open Go.ChangeShapes Go.WideShapes Go.ChangeAt Go.RowKit
set_option linter.unusedVariables false

theorem mem_setR {R : List Rk} {i : Nat} {r' u : Rk} (h : u ∈ R.set i r') : u = r' ∨ ∃ j, j ≠ i ∧ R[j]? = some u := by
  obtain ⟨j, hj, e⟩ := List.getElem_of_mem h
  have h1 : (R.set i r')[j]? = some u := by rw [← e]; exact get_ok hj
  rw [List.getElem?_set] at h1
  by_cases x : i = j
  · rw [if_pos x] at h1
    split at h1
    · exact .inl (by simpa using h1.symm)
    · simp at h1
  · rw [if_neg x] at h1
    exact .inr ⟨j, fun y => x y.symm, h1⟩
theorem setR_mem {R : List Rk} {i j : Nat} {r' u : Rk} (hj : j ≠ i) (h : R[j]? = some u) : u ∈ R.set i r' := by
  refine List.mem_of_getElem? (i := j) ?_
  rw [List.getElem?_set, if_neg (fun x => hj x.symm)]
  exact h
theorem mem_erI {c x : Int} {S : List Int} (h : x ∈ S) (hn : x ≠ c) : x ∈ erI c S := by
  unfold erI
  rcases idx_cases (isN c) S with ⟨e, hq⟩ | ⟨i, r, e, hr, hq, -⟩
  · rw [e, if_neg (by omega)]; exact h
  · have hx : c = r := by unfold isN at hq; simpa using hq
    rw [e, if_pos (by omega), Int.toNat_natCast, List.mem_eraseIdx_iff_getElem]
    obtain ⟨j, hj, ej⟩ := List.getElem_of_mem h
    refine ⟨j, hj, ?_, ej⟩
    rintro rfl
    rw [List.getElem?_eq_getElem hj, ej] at hr
    cases hr
    exact hn hx.symm
theorem map_set_c {L : List Rk} {i : Nat} {r s : Rk} (hr : L[i]? = some r) (hs : s.c = r.c) : (L.set i s).map (·.c) = L.map (·.c) := by
  rw [List.map_set, hs]
  apply List.ext_getElem?
  intro j
  rw [List.getElem?_set]
  split
  · rename_i e
    subst e
    rw [List.getElem?_map, hr]
    have := (List.getElem?_eq_some_iff.1 hr).1
    simp [this]
  · rfl
section
variable {p : Pm} {q : Rm}
theorem erI_sublist (c : Int) (S : List Int) : (erI c S).Sublist S := by
  unfold erI
  split
  · exact List.eraseIdx_sublist _ _
  · exact List.Sublist.refl _
/-- Both give the same. -/
theorem Rel.give (h : Rel p q) (now who : Int) : gvA p now who = rgA q now who ∧ gvB p now = rgB q now ∧ Rel (gvP p now who) (rgP q now who) := by
  rcases h.lat now with ⟨e1, e2⟩ | ⟨i, k, r, s, e1, e2, hk, hr, hs, hst, hc, hi⟩
  · have eB : gvB p now = rgB q now := by unfold gvB rgB; rw [e1, e2, h.len, h.cap]
    by_cases hf : p.cap ≤ (p.R.length : Int)
    · have f2 : q.cap ≤ (q.L.length : Int) := by rw [h.cap, h.len]; exact hf
      refine ⟨?_, eB, ?_⟩
      · unfold gvA rgA; rw [if_pos e1, if_pos e2, if_pos hf, if_pos f2]
      · unfold gvP rgP; rw [if_pos e1, if_pos e2, if_pos hf, if_pos f2]; exact h
    · have f2 : ¬ q.cap ≤ (q.L.length : Int) := by rw [h.cap, h.len]; exact hf
      refine ⟨?_, eB, ?_⟩
      · unfold gvA rgA; rw [if_pos e1, if_pos e2, if_neg hf, if_neg f2, h.nx]
      · unfold gvP rgP; rw [if_pos e1, if_pos e2, if_neg hf, if_neg f2]
        have lo : ∀ u ∈ p.R ++ [⟨p.asked, 0, who, now, 0, 0⟩], ∀ x ∈ q.S, u.c = x → u ∈ p.R := fun u hu x hx hcx => by
          rcases List.mem_append.1 hu with y | y
          · exact y
          · simp at y
            subst y
            obtain ⟨r, hr, -, hrc⟩ := (h.mem x).1 hx
            have := h.fresh r hr
            dsimp only at hcx
            omega
        refine ⟨h.cap, h.pend, h.idle, h.life, by dsimp only; rw [h.nx], h.Q, by dsimp only; rw [List.length_append, List.length_append, h.len]; rfl, fun i r s hr hs => ?_, ?_, fun r hr => ?_, fun x => ?_, ?_, fun r hr h2 => ?_⟩
        · dsimp only at hr hs
          by_cases x : i < p.R.length
          · rw [List.getElem?_append_left x] at hr
            rw [List.getElem?_append_left (by rw [h.len]; exact x)] at hs
            exact h.row i r s hr hs
          · rw [List.getElem?_append_right (by omega)] at hr
            rw [List.getElem?_append_right (by rw [h.len]; omega), h.len] at hs
            have hz : i - p.R.length = 0 := by
              apply Classical.byContradiction
              intro y
              rw [List.getElem?_eq_none (by simp; omega)] at hr
              simp at hr
            rw [hz] at hr hs
            simp at hr hs
            subst hr hs
            refine ⟨h.nx, rfl, rfl, fun _ => rfl, fun x => ?_⟩
            simp at x
        · dsimp only
          rw [List.map_append]
          refine List.nodup_append.2 ⟨h.nod, by simp, fun a ha b hb => ?_⟩
          obtain ⟨r, hr, rfl⟩ := List.mem_map.1 ha
          simp at hb
          have := h.fresh r hr
          omega
        · dsimp only at hr ⊢
          rcases List.mem_append.1 hr with x | x
          · have := h.fresh r x; omega
          · simp at x; subst x; dsimp only; omega
        · dsimp only
          rw [h.mem x]
          constructor
          · rintro ⟨r, hr, a, b⟩; exact ⟨r, List.mem_append_left _ hr, a, b⟩
          · rintro ⟨r, hr, a, b⟩
            rcases List.mem_append.1 hr with y | y
            · exact ⟨r, y, a, b⟩
            · simp at y; subst y; simp at a
        · dsimp only
          refine List.Pairwise.imp_of_mem (fun {x y} hx hy hxy r hr s hs a b => ?_) h.ord
          exact hxy r (lo r hr x hx a) s (lo s hs y hy b) a b
        · dsimp only at hr ⊢
          rcases List.mem_append.1 hr with y | y
          · exact h.tub r y h2
          · simp at y; subst y; simp at h2
  · have hn1 : ¬ Go.Proofs.Ytgeneknaekoinaa.lat p now = -1 := by rw [e1]; omega
    have hn2 : ¬ rl q now = -1 := by rw [e2]; omega
    have hg : p.R.getD (Go.Proofs.Ytgeneknaekoinaa.lat p now).toNat ⟨0, 0, 0, 0, 0, 0⟩ = r := by rw [e1, Int.toNat_natCast, List.getD_eq_getElem?_getD, hr]; rfl
    obtain ⟨g1, g2⟩ := rg_rest (who := who) e2 hc hi hs
    have gp : gvP p now who = { p with R := p.R.set i (reR r who) } := by unfold gvP; rw [if_neg hn1, hg, e1, Int.toNat_natCast]
    refine ⟨?_, ?_, ?_⟩
    · rw [g2]; unfold gvA; rw [if_neg hn1, hg]
    · unfold gvB rgB; rw [decide_eq_true (.inl hn1), decide_eq_true (.inl hn2)]
    · rw [gp, g1]
      have hil := (List.getElem?_eq_some_iff.1 hr).1
      have hlow : ∀ u ∈ p.R.set i (reR r who), u.c ≠ r.c → ∃ j, j ≠ i ∧ p.R[j]? = some u := fun u hu hc => by
        rcases mem_setR hu with y | y
        · subst y; exact absurd rfl hc
        · exact y
      refine ⟨h.cap, h.pend, h.idle, h.life, h.nx, h.Q, by dsimp only; rw [List.length_set, List.length_set, h.len], fun j u v hu hv => ?_, ?_, fun u hu => ?_, fun x => ?_, ?_, fun u hu h2 => ?_⟩
      · dsimp only at hu hv
        rw [List.getElem?_set] at hu hv
        by_cases x : i = j
        · subst x
          rw [if_pos rfl, if_pos hil] at hu
          rw [if_pos rfl, if_pos (by rw [h.len]; exact hil)] at hv
          cases hu
          cases hv
          obtain ⟨a1, -, a3, -⟩ := h.row i r s hr hs
          refine ⟨a1, rfl, a3, fun _ => rfl, fun y => ?_⟩
          unfold reR at y
          simp at y
        · rw [if_neg x] at hu hv
          exact h.row j u v hu hv
      · dsimp only
        rw [show (p.R.set i (reR r who)).map (·.c) = p.R.map (·.c) from map_set_c hr rfl]
        exact h.nod
      · dsimp only at hu ⊢
        rcases mem_setR hu with y | ⟨j, -, y⟩
        · rw [y]; exact h.fresh r (List.mem_of_getElem? hr)
        · exact h.fresh u (List.mem_of_getElem? y)
      · dsimp only
        constructor
        · intro hx
          have hne := erI_ne h.nodS hx
          obtain ⟨u, hu, a, b⟩ := (h.mem x).1 (erI_sub hx)
          obtain ⟨j, hj, ej⟩ := List.getElem_of_mem hu
          have hu2 : p.R[j]? = some u := by rw [← ej]; exact get_ok hj
          refine ⟨u, setR_mem (fun y => ?_) hu2, a, b⟩
          subst y
          rw [hr] at hu2
          cases hu2
          exact hne b.symm
        · rintro ⟨u, hu, a, b⟩
          rcases mem_setR hu with y | ⟨j, hj, y⟩
          · subst y; unfold reR at a; simp at a
          · refine mem_erI ((h.mem x).2 ⟨u, List.mem_of_getElem? y, a, b⟩) (fun z => hj ?_)
            exact nod_at h.nod y hr (by rw [b, z])
      · dsimp only
        refine List.Pairwise.imp_of_mem (fun {x y} hx hy hxy u hu v hv a b => ?_) (h.ord.sublist (erI_sublist r.c q.S))
        obtain ⟨j, -, hj⟩ := hlow u hu (by rw [a]; exact erI_ne h.nodS hx)
        obtain ⟨m, -, hm⟩ := hlow v hv (by rw [b]; exact erI_ne h.nodS hy)
        exact hxy u (List.mem_of_getElem? hj) v (List.mem_of_getElem? hm) a b
      · dsimp only at hu ⊢
        rcases mem_setR hu with y | ⟨j, -, y⟩
        · subst y; unfold reR at h2; simp at h2
        · exact h.tub u (List.mem_of_getElem? y) h2
end
end Go.Proofs.Ytgeneknaekoinaa
