/- The pool and the document's pool: done; what is next; how many. -/
import Derived.Test.YtgeneknaekoinaaURl7
namespace Go.Proofs.Ytgeneknaekoinaa
open Go.ChangeShapes Go.WideShapes Go.ChangeAt Go.RowKit
set_option linter.unusedVariables false

section
variable {p : Pm} {q : Rm}
/-- A row whose number rests is a row that rests. -/
theorem Rel.rests (h : Rel p q) {u : Rk} (hu : u ∈ p.R) (hx : u.c ∈ q.S) : u.st = 2 := by
  obtain ⟨v, hv, v2, vc⟩ := (h.mem _).1 hx
  obtain ⟨j, hj, ej⟩ := List.getElem_of_mem hv
  obtain ⟨k, hk, ek⟩ := List.getElem_of_mem hu
  have hv2 : p.R[j]? = some v := by rw [← ej]; exact get_ok hj
  have hu2 : p.R[k]? = some u := by rw [← ek]; exact get_ok hk
  have := nod_at h.nod hv2 hu2 vc
  subst this
  rw [hu2] at hv2
  cases hv2
  exact v2
/-- A row begins to rest, on both sides. -/
theorem Rel.rest (h : Rel p q) {i : Nat} {r : Rk} {s : Cn} (now : Int) (hr : p.R[i]? = some r) (hs : q.L[i]? = some s) (h0 : r.st ≠ 2) : Rel (rsP p i r now) (rsQ q i s now r.c) := by
  have hil := (List.getElem?_eq_some_iff.1 hr).1
  have hrm := List.mem_of_getElem? hr
  have hcS : r.c ∉ q.S := fun x => h0 (h.rests hrm x)
  have lo : ∀ u ∈ p.R.set i (rsR r now p.rested), u.c ∈ q.S → u ∈ p.R := fun u hu hx => by
    rcases mem_setR hu with y | ⟨j, -, y⟩
    · subst y; exact absurd hx hcS
    · exact List.mem_of_getElem? y
  have hi : ∀ u ∈ p.R.set i (rsR r now p.rested), u.c = r.c → u.tu = p.rested := fun u hu hx => by
    rcases mem_setR hu with y | ⟨j, hj, y⟩
    · subst y; rfl
    · exact absurd (nod_at h.nod y hr hx) hj
  unfold rsP rsQ
  refine ⟨h.cap, h.pend, h.idle, h.life, h.nx, h.Q, by dsimp only; rw [List.length_set, List.length_set, h.len], fun j u v hu hv => ?_, ?_, fun u hu => ?_, fun x => ?_, ?_, fun u hu h2 => ?_⟩
  · dsimp only at hu hv
    rw [List.getElem?_set] at hu hv
    by_cases x : i = j
    · subst x
      rw [if_pos rfl, if_pos hil] at hu
      rw [if_pos rfl, if_pos (by rw [h.len]; exact hil)] at hv
      cases hu
      cases hv
      obtain ⟨a1, a2, a3, -⟩ := h.row i r s hr hs
      exact ⟨a1, rfl, a3, fun y => absurd rfl y, fun _ => ⟨rfl, rfl⟩⟩
    · rw [if_neg x] at hu hv
      exact h.row j u v hu hv
  · dsimp only
    rw [show (p.R.set i (rsR r now p.rested)).map (·.c) = p.R.map (·.c) from map_set_c hr rfl]
    exact h.nod
  · dsimp only at hu ⊢
    rcases mem_setR hu with y | ⟨j, -, y⟩
    · rw [y]; exact h.fresh r hrm
    · exact h.fresh u (List.mem_of_getElem? y)
  · dsimp only
    rw [List.mem_append, List.mem_singleton, h.mem x]
    constructor
    · rintro (⟨u, hu, a, b⟩ | e)
      · obtain ⟨j, hj, ej⟩ := List.getElem_of_mem hu
        have hu2 : p.R[j]? = some u := by rw [← ej]; exact get_ok hj
        refine ⟨u, setR_mem (fun y => ?_) hu2, a, b⟩
        subst y
        rw [hr] at hu2
        cases hu2
        exact h0 a
      · exact ⟨rsR r now p.rested, List.mem_of_getElem? (i := i) (by rw [List.getElem?_set, if_pos rfl, if_pos hil]), rfl, e.symm⟩
    · rintro ⟨u, hu, a, b⟩
      rcases mem_setR hu with y | ⟨j, -, y⟩
      · subst y; exact .inr b.symm
      · exact .inl ⟨u, List.mem_of_getElem? y, a, b⟩
  · dsimp only
    rw [List.pairwise_append]
    refine ⟨List.Pairwise.imp_of_mem (fun {x y} hx hy hxy u hu v hv a b => ?_) h.ord, List.pairwise_singleton _ _, fun x hx y hy u hu v hv a b => ?_⟩
    · exact hxy u (lo u hu (by rw [a]; exact hx)) v (lo v hv (by rw [b]; exact hy)) a b
    · rw [List.mem_singleton] at hy
      have hu2 := lo u hu (by rw [a]; exact hx)
      have := h.tub u hu2 (h.rests hu2 (by rw [a]; exact hx))
      rw [hi v hv (by rw [b, hy])]
      exact this
  · dsimp only at hu ⊢
    rcases mem_setR hu with y | ⟨j, -, y⟩
    · subst y
      show p.rested < p.rested + 1
      omega
    · have := h.tub u (List.mem_of_getElem? y) h2
      omega
theorem dnE_zero {now c : Int} (h : dnE p now c = 0) : mom now = true ∧ idx (isC c) p.R ≠ -1 ∧ (rowC p c).st = 1 := by
  unfold dnE at h
  cases hm : mom now with
  | false => rw [hm] at h; simp at h
  | true =>
    rw [hm, if_pos rfl] at h
    by_cases x : idx (isC c) p.R ≠ -1 ∧ (rowC p c).st = 1
    · exact ⟨rfl, x⟩
    · rw [if_neg x] at h; omega
theorem Rel.done (h : Rel p q) (now c : Int) (keep : Bool) : dnE p now c = roE q now c ∧ dnA p now c keep = roA q now c keep ∧ Rel (dnP p now c keep) (roP q now c keep) := by
  rcases idx_cases (isC c) p.R with ⟨e, -⟩ | ⟨i, r, e, hr, hf, -⟩
  · have e1 : dnE p now c = if mom now then 6 else 1 := by
      unfold dnE
      cases mom now with
      | false => rfl
      | true => rw [if_pos rfl, if_pos rfl]; exact if_neg (fun x => x.1 e)
    have e2 : roE q now c = if mom now then 6 else 1 := by
      unfold roE
      cases mom now with
      | false => rfl
      | true => rw [if_pos rfl, if_pos rfl]; exact if_neg (fun x => x.1 (by rw [← h.place]; exact e))
    have n1 : ¬ dnE p now c = 0 := by rw [e1]; split <;> omega
    have n2 : ¬ roE q now c = 0 := by rw [e2]; split <;> omega
    unfold dnA roA dnP roP
    rw [if_neg n1, if_neg n1, if_neg n2, if_neg n2, e1, e2]
    exact ⟨rfl, rfl, h⟩
  · have hc : r.c = c := by unfold isC at hf; simpa using hf
    obtain ⟨s, hs, a1, a2, a3, a4, a5⟩ := h.at hr
    have ec := (h.con hr hs).1
    rw [hc] at ec
    have er := rowC_of e hr
    have e' : idx (isD c) q.L = (i : Int) := by rw [← h.place]; exact e
    have eE : dnE p now c = roE q now c := by
      unfold dnE roE
      rw [e, e', er, ec, a2]
      have : (((i : Int) ≠ -1 ∧ r.st = 1) ↔ ((i : Int) ≠ -1 ∧ r.st + 1 = 2)) := by constructor <;> rintro ⟨x, y⟩ <;> exact ⟨x, by omega⟩
      simp only [this]
    by_cases e0 : dnE p now c = 0
    · have h1 : r.st = 1 := by
        have := (dnE_zero e0).2.2
        rw [er] at this
        exact this
      have eK : dnK p now c keep = roK q now c keep := by
        unfold dnK roK diesI
        rw [er, ec, a3, h.life]
      have e00 : roE q now c = 0 := by rw [← eE]; exact e0
      unfold dnA roA dnP roP
      rw [if_pos e0, if_pos e0, if_pos e00, if_pos e00]
      refine ⟨eE, ?_⟩
      cases hK : dnK p now c keep with
      | true =>
        have hK2 : roK q now c keep = true := by rw [← eK]; exact hK
        have hR := h.rest now hr hs (by omega)
        rw [hc] at hR
        have d1 : dn1 p now c keep = rsP p i r now := by unfold dn1; rw [hK, e, er]; rfl
        have d0 : dn0 p now c keep = [] := by unfold dn0; rw [hK]; rfl
        have f1 : ro1 q now c keep = rsQ q i s now c := by unfold ro1; rw [hK2, e', ec]; rfl
        have f0 : ro0 q now c keep = [] := by unfold ro0; rw [hK2]; rfl
        obtain ⟨sA, sR⟩ := Rel.serve _ (now := now) rfl hR
        rw [d1, d0, f1, f0, sA]
        exact ⟨rfl, sR⟩
      | false =>
        have hK2 : roK q now c keep = false := by rw [← eK]; exact hK
        have hR := h.cut hr
        rw [hc] at hR
        have d1 : dn1 p now c keep = rmP p i := by unfold dn1; rw [hK, e]; rfl
        have d0 : dn0 p now c keep = [⟨5, c, -1⟩] := by unfold dn0; rw [hK]; rfl
        have f1 : ro1 q now c keep = cutP q c := by unfold ro1; rw [hK2]; rfl
        have f0 : ro0 q now c keep = [⟨5, c, -1⟩] := by unfold ro0; rw [hK2]; rfl
        obtain ⟨sA, sR⟩ := Rel.serve _ (now := now) rfl hR
        rw [d1, d0, f1, f0, sA]
        exact ⟨rfl, sR⟩
    · have e00 : ¬ roE q now c = 0 := by rw [← eE]; exact e0
      unfold dnA roA dnP roP
      rw [if_neg e0, if_neg e0, if_neg e00, if_neg e00]
      exact ⟨eE, rfl, h⟩
end
end Go.Proofs.Ytgeneknaekoinaa
