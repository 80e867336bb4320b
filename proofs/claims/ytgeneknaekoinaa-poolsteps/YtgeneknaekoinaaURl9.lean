/- The pool and the document's pool: what rests too long; what is next; how many. -/
import Derived.Test.YtgeneknaekoinaaURl8
namespace Go.Proofs.Ytgeneknaekoinaa
open Go.ChangeShapes Go.WideShapes Go.ChangeAt Go.RowKit
set_option linter.unusedVariables false

theorem both_filt {α β γ : Type} {f : α → Bool} {g : β → Bool} {F : α → γ} {G : β → γ} : ∀ (L : List α) (M : List β), M.length = L.length → (∀ (i : Nat) r s, L[i]? = some r → M[i]? = some s → f r = g s ∧ (f r = true → F r = G s)) → (L.filter f).map F = (M.filter g).map G
  | [], M, hl, h => by
    have : M = [] := List.eq_nil_of_length_eq_zero hl
    subst this; rfl
  | a :: L, [], hl, h => by simp at hl
  | a :: L, b :: M, hl, h => by
    have ih := both_filt (F := F) (G := G) L M (by simpa using hl) (fun i r s hr hs => h (i + 1) r s (by simpa using hr) (by simpa using hs))
    obtain ⟨h1, h2⟩ := h 0 a b rfl rfl
    cases hf : f a with
    | true =>
      rw [List.filter_cons_of_pos hf, List.filter_cons_of_pos (by rw [← h1]; exact hf), List.map_cons, List.map_cons, h2 hf, ih]
    | false =>
      rw [List.filter_cons_of_neg (by rw [hf]; simp), List.filter_cons_of_neg (by rw [← h1, hf]; simp), ih]
theorem filt_eraseR : ∀ (L : List Rk) (i : Nat) {s : Rk}, (L.map (·.c)).Nodup → L[i]? = some s → L.filter (fun r => r.c != s.c) = L.eraseIdx i
  | [], i, s, hn, hs => by simp at hs
  | a :: L, 0, s, hn, hs => by
    simp at hs
    subst hs
    rw [List.map_cons, List.nodup_cons] at hn
    rw [List.filter_cons_of_neg (by simp), List.eraseIdx_cons_zero]
    refine List.filter_eq_self.2 fun r hr => ?_
    have : r.c ≠ a.c := fun x => hn.1 (by rw [← x]; exact List.mem_map.2 ⟨r, hr, rfl⟩)
    simpa using this
  | a :: L, i + 1, s, hn, hs => by
    rw [List.getElem?_cons_succ] at hs
    rw [List.map_cons, List.nodup_cons] at hn
    have : a.c ≠ s.c := fun x => hn.1 (by rw [x]; exact List.mem_map.2 ⟨s, List.mem_of_getElem? hs, rfl⟩)
    rw [List.filter_cons_of_pos (by simpa using this), List.eraseIdx_cons_succ, filt_eraseR L i hn.2 hs]
/-- One number let go, on both sides. -/
theorem Rel.cutF {p : Pm} {q : Rm} (h : Rel p q) (c : Int) : Rel { p with R := p.R.filter (fun r => r.c != c) } (cutP q c) := by
  rcases idx_cases (isC c) p.R with ⟨e, ha⟩ | ⟨i, r, e, hr, hf, -⟩
  · have e1 : p.R.filter (fun r => r.c != c) = p.R := List.filter_eq_self.2 fun r hr => by
      have := ha r hr
      unfold isC at this
      simpa using this
    have e2 : q.L.filter (fun r => r.n != c) = q.L := List.filter_eq_self.2 fun s hs => by
      have : s.n ∈ p.R.map (·.c) := by rw [← h.names]; exact List.mem_map.2 ⟨s, hs, rfl⟩
      obtain ⟨r, hr, er⟩ := List.mem_map.1 this
      have := ha r hr
      unfold isC at this
      rw [← er]
      simpa using this
    have e3 : erI c q.S = q.S := by
      unfold erI
      rcases idx_cases (isN c) q.S with ⟨x, -⟩ | ⟨j, y, x, hy, hg, -⟩
      · rw [x, if_neg (by omega)]
      · have hcy : c = y := by unfold isN at hg; simpa using hg
        obtain ⟨r, hr, -, er⟩ := (h.mem y).1 (List.mem_of_getElem? hy)
        have := ha r hr
        unfold isC at this
        rw [er, ← hcy] at this
        simp at this
    unfold cutP
    rw [e1, e2, e3]
    exact h
  · have hc : r.c = c := by unfold isC at hf; simpa using hf
    have := h.cut hr
    rw [hc] at this
    unfold rmP at this
    rw [← filt_eraseR p.R i h.nod hr, hc] at this
    exact this
theorem Rel.cuts : ∀ (A : List Ac) {p : Pm} {q : Rm}, Rel p q → Rel { p with R := p.R.filter (fun r => !(A.map (·.c)).contains r.c) } (cuts q A)
  | [], p, q, h => by
    have : p.R.filter (fun r => !(([] : List Ac).map (·.c)).contains r.c) = p.R := List.filter_eq_self.2 fun r hr => by simp
    rw [this]
    exact h
  | a :: A, p, q, h => by
    have := Rel.cuts A (h.cutF a.c)
    have e : (p.R.filter (fun r => r.c != a.c)).filter (fun r => !(A.map (·.c)).contains r.c) = p.R.filter (fun r => !((a :: A).map (·.c)).contains r.c) := by
      rw [List.filter_filter]
      congr 1
      funext r
      rw [List.map_cons, List.contains_cons, Bool.not_or, Bool.and_comm]
      rfl
    rw [← e]
    exact this
section
variable {p : Pm} {q : Rm}
theorem Rel.exB (h : Rel p q) (now : Int) {i : Nat} {r : Rk} {s : Cn} (hr : p.R[i]? = some r) (hs : q.L[i]? = some s) : exB p now r = rxB q now s := by
  obtain ⟨-, a2, -, -, -⟩ := h.row i r s hr hs
  unfold Go.Proofs.Ytgeneknaekoinaa.exB rxB
  rw [a2]
  by_cases h2 : r.st = 2
  · rw [h2, h.ends hr hs h2]
    unfold goodB
    have : (!decide (now < endsI p r)) = decide (endsI p r ≤ now) := by
      rw [← decide_not]
      exact decide_eq_decide.2 (by omega)
    rw [this]
    rfl
  · have : (r.st == 2) = false := by simpa using h2
    have h3 : (r.st + 1 == 3) = false := by
      have : ¬ r.st + 1 = 3 := by omega
      simpa using this
    rw [this, h3]
    rfl
theorem Rel.expire (h : Rel p q) (now : Int) : exA p now = rxA q now ∧ Rel (exP p now) (rxP q now) := by
  have eC : exC p now p.R = rxC q now q.L := both_filt p.R q.L h.len (fun i r s hr hs => ⟨h.exB now hr hs, fun _ => by
    unfold clA rxO
    rw [(h.row i r s hr hs).1]⟩)
  have hR : Rel (ex1 p now) (rx1 q now) := by
    have := Rel.cuts (rxC q now q.L) h
    have e : p.R.filter (fun r => !((rxC q now q.L).map (·.c)).contains r.c) = exL p now p.R := by
      unfold exL
      rw [← eC]
      refine List.filter_congr fun r hr => ?_
      congr 1
      apply Bool.eq_iff_iff.2
      rw [List.contains_iff_mem]
      unfold exC
      rw [List.map_map]
      constructor
      · intro hx
        obtain ⟨u, hu, eu⟩ := List.mem_map.1 hx
        rw [List.mem_filter] at hu
        obtain ⟨j, hj, ej⟩ := List.getElem_of_mem hu.1
        obtain ⟨k, hk, ek⟩ := List.getElem_of_mem hr
        have hu2 : p.R[j]? = some u := by rw [← ej]; exact get_ok hj
        have hr2 : p.R[k]? = some r := by rw [← ek]; exact get_ok hk
        have := nod_at h.nod hu2 hr2 eu
        subst this
        rw [hu2] at hr2
        cases hr2
        exact hu.2
      · intro hx
        exact List.mem_map.2 ⟨r, List.mem_filter.2 ⟨hr, hx⟩, rfl⟩
    rw [e] at this
    exact this
  unfold exA rxA exP rxP
  cases hm : mom now with
  | false => exact ⟨rfl, h⟩
  | true =>
    obtain ⟨sA, sR⟩ := Rel.serve _ (now := now) rfl hR
    rw [if_pos rfl, if_pos rfl, if_pos rfl, if_pos rfl, eC, sA]
    exact ⟨rfl, sR⟩
theorem Rel.soon (h : Rel p q) : neL p p.R = soL q q.L := both_filt p.R q.L h.len (fun i r s hr hs => by
  obtain ⟨-, a2, -, -, -⟩ := h.row i r s hr hs
  unfold neB soB
  refine ⟨?_, fun x => (h.ends hr hs (by simpa using x)).symm⟩
  rw [a2]
  apply Bool.eq_iff_iff.2
  simp
  omega)
theorem Rel.count (h : Rel p q) : nR p.R = q.S.length := by
  have hn : ((p.R.filter (fun r => r.st == 2)).map (·.c)).Nodup := h.nod.sublist (List.Sublist.map _ List.filter_sublist)
  have hp : List.Perm ((p.R.filter (fun r => r.st == 2)).map (·.c)) q.S := by
    rw [List.perm_ext_iff_of_nodup hn h.nodS]
    intro x
    rw [h.mem x]
    constructor
    · intro hx
      obtain ⟨r, hr, e⟩ := List.mem_map.1 hx
      rw [List.mem_filter] at hr
      exact ⟨r, hr.1, by simpa using hr.2, e⟩
    · rintro ⟨r, hr, h2, e⟩
      exact List.mem_map.2 ⟨r, List.mem_filter.2 ⟨hr, by simpa using h2⟩, e⟩
  have := hp.length_eq
  rw [List.length_map] at this
  unfold nR
  rw [List.countP_eq_length_filter]
  exact this
/-- Where a work may be done, fewer rest than there are. -/
theorem Rel.spare (h : Rel p q) {now c : Int} (h0 : roE q now c = 0) : q.S.length + 1 ≤ p.R.length := by
  have hd := (h.done now c true).1
  have e0 : dnE p now c = 0 := by rw [hd]; exact h0
  rcases idx_cases (isC c) p.R with ⟨e, -⟩ | ⟨i, r, e, hr, hf, -⟩
  · exact absurd e (dnE_zero e0).2.1
  · have er := rowC_of e hr
    have h1 : r.st = 1 := by
      have := (dnE_zero e0).2.2
      rw [er] at this
      exact this
    have hne : nR p.R ≠ p.R.length := fun x => by
      have := (List.countP_eq_length.1 x) r (List.mem_of_getElem? hr)
      rw [h1] at this
      simp at this
    have := nR_le p.R
    rw [← h.count]
    omega
end
end Go.Proofs.Ytgeneknaekoinaa
