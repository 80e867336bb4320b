/- The pool and the document's pool: a connection is there. -/
import Derived.Test.YtgeneknaekoinaaURl6
namespace Go.Proofs.Ytgeneknaekoinaa
open Go.ChangeShapes Go.WideShapes Go.ChangeAt Go.RowKit
set_option linter.unusedVariables false

section
variable {p : Pm} {q : Rm}
/-- A row that does not rest, changed on both sides. -/
theorem Rel.setN (h : Rel p q) {i : Nat} {r r' : Rk} {s s' : Cn} (hr : p.R[i]? = some r) (hs : q.L[i]? = some s) (hc : r'.c = r.c) (hn : s'.n = s.n) (ht : s'.st = r'.st + 1) (hb : s'.bo = r'.bo) (hw : s'.wh = r'.wh) (h0 : r.st ≠ 2) (h1 : r'.st ≠ 2) : Rel { p with R := p.R.set i r' } { q with L := q.L.set i s' } := by
  have hil := (List.getElem?_eq_some_iff.1 hr).1
  have lo : ∀ u ∈ p.R.set i r', ∀ x ∈ q.S, u.c = x → u ∈ p.R := fun u hu x hx hcx => by
    rcases mem_setR hu with y | ⟨j, -, y⟩
    · subst y
      obtain ⟨v, hv, v2, vc⟩ := (h.mem x).1 hx
      obtain ⟨j, hj, ej⟩ := List.getElem_of_mem hv
      have hv2 : p.R[j]? = some v := by rw [← ej]; exact get_ok hj
      have := nod_at h.nod hv2 hr (by rw [vc, ← hcx, hc])
      subst this
      rw [hr] at hv2
      cases hv2
      exact absurd v2 h0
    · exact List.mem_of_getElem? y
  refine ⟨h.cap, h.pend, h.idle, h.life, h.nx, h.Q, by dsimp only; rw [List.length_set, List.length_set, h.len], fun j u v hu hv => ?_, ?_, fun u hu => ?_, fun x => ?_, ?_, fun u hu h2 => ?_⟩
  · dsimp only at hu hv
    rw [List.getElem?_set] at hu hv
    by_cases x : i = j
    · subst x
      rw [if_pos rfl, if_pos hil] at hu
      rw [if_pos rfl, if_pos (by rw [h.len]; exact hil)] at hv
      cases hu
      cases hv
      exact ⟨by rw [hn, hc]; exact (h.row i r s hr hs).1, ht, hb, fun _ => hw, fun y => absurd y h1⟩
    · rw [if_neg x] at hu hv
      exact h.row j u v hu hv
  · dsimp only
    rw [show (p.R.set i r').map (·.c) = p.R.map (·.c) from map_set_c hr hc]
    exact h.nod
  · dsimp only at hu ⊢
    rcases mem_setR hu with y | ⟨j, -, y⟩
    · rw [y, hc]; exact h.fresh r (List.mem_of_getElem? hr)
    · exact h.fresh u (List.mem_of_getElem? y)
  · dsimp only
    rw [h.mem x]
    constructor
    · rintro ⟨u, hu, a, b⟩
      obtain ⟨j, hj, ej⟩ := List.getElem_of_mem hu
      have hu2 : p.R[j]? = some u := by rw [← ej]; exact get_ok hj
      refine ⟨u, setR_mem (fun y => ?_) hu2, a, b⟩
      subst y
      rw [hr] at hu2
      cases hu2
      exact h0 a
    · rintro ⟨u, hu, a, b⟩
      rcases mem_setR hu with y | ⟨j, -, y⟩
      · subst y; exact absurd a h1
      · exact ⟨u, List.mem_of_getElem? y, a, b⟩
  · dsimp only
    refine List.Pairwise.imp_of_mem (fun {x y} hx hy hxy u hu v hv a b => ?_) h.ord
    exact hxy u (lo u hu x hx a) v (lo v hv y hy b) a b
  · dsimp only at hu ⊢
    rcases mem_setR hu with y | ⟨j, -, y⟩
    · subst y; exact absurd h2 h1
    · exact h.tub u (List.mem_of_getElem? y) h2
theorem Rel.up (h : Rel p q) (c : Int) : upE p c = ruE q c ∧ upW p c = ruW q c ∧ Rel (upP p c) (ruP q c) := by
  rcases idx_cases (isC c) p.R with ⟨e, -⟩ | ⟨i, r, e, hr, hf, -⟩
  · have b1 : upB p c = false := by unfold upB; rw [e]; rfl
    have b2 : ruB q c = false := by unfold ruB; rw [← h.place, e]; rfl
    unfold upE ruE upW ruW upP ruP
    rw [b1, b2]
    exact ⟨rfl, rfl, h⟩
  · have hc : r.c = c := by unfold isC at hf; simpa using hf
    obtain ⟨s, hs, a1, a2, a3, a4, a5⟩ := h.at hr
    have ec := (h.con hr hs).1
    rw [hc] at ec
    have er := rowC_of e hr
    have e' : idx (isD c) q.L = (i : Int) := by rw [← h.place]; exact e
    by_cases h0 : r.st = 0
    · have b1 : upB p c = true := by unfold upB; rw [e, er, h0]; simp
      have b2 : ruB q c = true := by unfold ruB; rw [e', ec, a2, h0]; simp
      unfold upE ruE upW ruW upP ruP
      rw [b1, b2, er, ec, e, e', Int.toNat_natCast]
      refine ⟨rfl, (a4 (by omega)).symm, ?_⟩
      exact h.setN hr hs rfl rfl rfl a3 (a4 (by omega)) (by omega) (by unfold upR; simp)
    · have b1 : upB p c = false := by unfold upB; rw [e, er]; simp [h0]
      have b2 : ruB q c = false := by
        have : ¬ s.st = 1 := by omega
        unfold ruB; rw [e', ec]; simp [this]
      unfold upE ruE upW ruW upP ruP
      rw [b1, b2]
      exact ⟨rfl, rfl, h⟩
end
end Go.Proofs.Ytgeneknaekoinaa
