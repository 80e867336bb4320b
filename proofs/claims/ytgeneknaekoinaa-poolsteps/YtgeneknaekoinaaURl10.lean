/- The pool and the document's pool: what a step does with both. -/
import Derived.Test.YtgeneknaekoinaaURl9
namespace Go.Proofs.Ytgeneknaekoinaa
open Go.ChangeShapes Go.WideShapes Go.ChangeAt Go.RowKit
set_option linter.unusedVariables false

/-- What a step makes of the document's pool. -/
def dqP (q : Rm) (kd now who : Int) : Rm := if kd = 0 then rkP q now who else if kd = 1 then ruP q who else if kd = 2 then rnP q now who else if kd = 3 then roP q now who true else if kd = 4 then roP q now who false else if kd = 5 then rdP q now who else rxP q now
def SiOk (q : Rm) : Prop := ∀ s ∈ q.L, 0 ≤ s.si ∧ s.si ≤ 4611686018427387904
section
variable {p : Pm} {q : Rm}
theorem Rel.does (h : Rel p q) (kd now who : Int) : Rel (dsP p kd now who) (dqP q kd now who) := by
  unfold dsP dqP
  split
  · exact (h.ask now who).2.2
  split
  · exact (h.up who).2.2
  split
  · exact (h.gone now who).2.2.2
  split
  · exact (h.done now who true).2.2
  split
  · exact (h.done now who false).2.2
  split
  · exact (h.drop now who).2.2
  · exact (h.expire now).2
theorem Rel.qok (h : Rel p q) {K : Int} (k : POk p K) (hs : SiOk q) : QOk q (K - q.Q.length) := by
  have hl : q.L.length ≤ 64 := by rw [h.len]; exact k.r64
  refine ⟨by rw [h.idle]; exact k.idle0, by rw [h.idle]; exact k.idle1, by rw [h.life]; exact k.life0, by rw [h.life]; exact k.life1, by rw [h.nx]; exact k.ask0, ?_, hl, ?_, by rw [h.Q]; exact k.q64, fun s hm => ?_, fun x hx => ?_⟩
  · have := k.ask1
    rw [h.nx, h.Q]
    omega
  · rw [← h.count]
    have := nR_le p.R
    have := k.r64
    omega
  · obtain ⟨i, hi, e⟩ := List.getElem_of_mem hm
    have hs2 : q.L[i]? = some s := by rw [← e]; exact get_ok hi
    have hr : i < p.R.length := by rw [← h.len]; exact hi
    have a := h.row i _ s (get_ok hr) hs2
    have b := k.rows _ (List.getElem_mem hr)
    refine ⟨?_, hs s hm⟩
    rw [a.2.2.1]
    exact b.1
  · obtain ⟨r, hr, -, hc⟩ := (h.mem x).1 hx
    rw [← h.place]
    intro e
    rcases idx_cases (isC x) p.R with ⟨-, ha⟩ | ⟨i, r, e', -⟩
    · have := ha r hr
      unfold isC at this
      rw [hc] at this
      simp at this
    · omega
theorem QOk.si {K : Int} (h : QOk q K) : SiOk q := fun s hs => (h.rows s hs).2
theorem Rel.si (h : Rel p q) {K : Int} (k : POk p K) (hs : SiOk q) (kd now who : Int) : SiOk (dqP q kd now who) := by
  have hq := h.qok k hs
  have hc : q.cap ≤ 64 := by rw [h.cap]; exact k.cap1
  have sv : ∀ {q1 : Rm} {K1 : Int}, QOk q1 K1 → q1.cap = q.cap → mom now = true → SiOk (rvP q1 now) := fun {q1 K1} x e hm => (QOk.serve _ rfl x hm (by rw [e]; exact hc)).1.si
  have dn : ∀ keep, SiOk (roP q now who keep) := fun keep => by
    unfold roP
    split
    · rename_i he
      have hsp := h.spare he
      have hm : mom now = true := by
        cases hm : mom now with
        | true => rfl
        | false => unfold roE at he; rw [hm] at he; simp at he
      unfold ro1
      split
      · rcases idx_cases (isD who) q.L with ⟨x, -⟩ | ⟨i, r, x, hr, -⟩
        · unfold roE at he
          rw [hm, if_pos rfl, if_neg (fun y => y.1 x)] at he
          omega
        · have hS : q.S.length ≤ 63 := by have := k.r64; omega
          rw [conC_of x hr, x, Int.toNat_natCast]
          exact sv (hq.rs x hr hm hS) rfl hm
      · exact sv (hq.cut h.nodS who) rfl hm
    · exact hs
  unfold dqP
  split
  · unfold rkP
    split
    · exact hs
    rename_i he
    have hm : mom now = true := by
      cases hm : mom now with
      | true => rfl
      | false => unfold rkE at he; rw [hm] at he; simp at he
    split
    · exact (hq.give hm hc).si
    split
    · exact hs
    · exact hs
  split
  · unfold ruP
    split
    · rename_i hb
      rcases idx_cases (isD who) q.L with ⟨x, -⟩ | ⟨i, r, x, hr, -⟩
      · unfold ruB at hb; rw [x] at hb; simp at hb
      · rw [x, conC_of x hr, Int.toNat_natCast]
        intro s hs2
        obtain ⟨j, hj, e⟩ := List.getElem_of_mem hs2
        have h1 : (q.L.set i (ruR r))[j]? = some s := by rw [← e]; exact get_ok hj
        rw [List.getElem?_set] at h1
        split at h1
        · split at h1
          · cases h1
            exact hs r (List.mem_of_getElem? hr)
          · simp at h1
        · exact hs s (List.mem_of_getElem? h1)
    · exact hs
  split
  · unfold rnP
    split
    · rename_i he
      have hm : mom now = true := by
        cases hm : mom now with
        | true => rfl
        | false => unfold rnE at he; rw [hm] at he; simp at he
      exact sv (hq.cut h.nodS who) rfl hm
    · exact hs
  split
  · exact dn true
  split
  · exact dn false
  split
  · unfold rdP
    split
    · rename_i he
      have hm : mom now = true := by
        cases hm : mom now with
        | true => rfl
        | false => unfold rdE at he; rw [hm] at he; simp at he
      unfold rd1
      split
      · exact sv (hq.cut h.nodS _) rfl hm
      · refine sv (hq.q _ ?_) rfl hm
        have := hq.wait
        have := List.length_eraseIdx_le q.Q (idx (isN who) q.Q).toNat
        omega
    · exact hs
  · unfold rxP
    split
    · rename_i hm
      have := cuts_ok (rxC q now q.L) hq h.nodS
      exact sv this.1 this.2.2.1 hm
    · exact hs
end
end Go.Proofs.Ytgeneknaekoinaa
