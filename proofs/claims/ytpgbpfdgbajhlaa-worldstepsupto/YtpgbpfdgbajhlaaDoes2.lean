/- A world's calls: what is read and written, opened and closed, sent and drawn. -/
import Derived.Test.YtpgbpfdgbajhlaaDoes
namespace Go.Proofs.Ytpgbpfdgbajhlaa
open Go.ChangeShapes Go.WideShapes Go.ChangeAt Go.RowKit

section
variable {W : World} {c : Nat} {S : List Cn} {dr : List Int} {own : Nat → Option Tag} {i : Nat} {x : Cn} {k : Int}

/-- How many are read of n that are asked for. -/
def clip (n : Int) (l : List Int) : Nat := (max (min n (l.length : Int)) 0).toNat
theorem clip_le (n : Int) (l : List Int) : clip n l ≤ l.length := by unfold clip; omega

theorem Sl.take {W : World} {q : IntKind} {a : Option Addr} {l : List Int} {cap : Nat} (h : Sl W q (.slice a l.length cap) l) {m : Nat} (hm : m ≤ l.length) : Sl W q (.slice a m cap) (l.take m) := by
  obtain ⟨a', cap', e, h1, h2, h3⟩ := h
  cases e
  have hl : (l.take m).length = m := by simp; omega
  refine ⟨a, cap, by rw [hl], by omega, h2, fun j hj => ?_⟩
  rw [hl] at hj
  obtain ⟨b, off, e, hc⟩ := h3 j (by omega)
  refine ⟨b, off, e, ?_⟩
  rw [hc]
  simp [List.getD, hj]

theorem Row.drop {W : World} {q : IntKind} {a : Option Addr} {l : List Int} {cap : Nat} {go : Option Nat} (h : Row W q (.slice a l.length cap) l go) {m : Nat} (hm : m ≤ l.length) : Row W q (.slice (if cap = m then a else a.map (·.add m)) (l.length - m) (cap - m)) (l.drop m) go := by
  rcases h with ⟨h1, h2, h3⟩ | ⟨g, off, cap', h1, h2, h3, h4, h5, h6⟩
  · subst h3
    have : m = 0 := by simpa using hm
    subst this
    cases h2
    exact .inl ⟨h1, rfl, rfl⟩
  · cases h2
    by_cases hc : cap = m
    · subst hc
      have e : l.drop cap = [] := List.drop_eq_nil_of_le h3
      have e2 : l.length - cap = 0 := by omega
      rw [e, if_pos rfl, e2, Nat.sub_self]
      exact .inr ⟨g, off, 0, h1, rfl, Nat.le_refl _, h4, fun j hj => absurd hj (Nat.not_lt_zero _), fun j hj => absurd hj (Nat.not_lt_zero _)⟩
    · rw [if_neg hc]
      refine .inr ⟨g, off + m, cap - m, h1, ?_, by simp; omega, h4, fun j hj => ?_, fun j hj => ?_⟩
      · have : (⟨g, off, none⟩ : Addr).add m = ⟨g, off + m, none⟩ := by unfold Addr.add; split <;> simp_all
        simp [this]
      · have := h5 (m + j) (by omega)
        rw [Nat.add_assoc]; exact this
      · simp only [List.length_drop] at hj
        have := h6 (m + j) (by omega)
        rw [Nat.add_assoc, this]
        simp [List.getD]

theorem does_read (h : Wd W c S dr own) (hx : S[i]? = some x) (hop : x.isOpen = true) (n : Int) :
    Calls Try.prog 20 #[ptr c, .int .i64 x.num, .int .i64 n] W fun e W' => ∃ v' go own', e = .returned (.tuple #[v', .int .i64 0]) ∧ Row W' .u8 v' (x.waits.take (clip n x.waits)) go ∧ (∀ g, go = some g → W.heap.size ≤ g ∧ own' g = none) ∧
      Wd W' c (S.set i { x with waits := x.waits.drop (clip n x.waits) }) dr own' ∧ Kp own own' W W' := by
  obtain ⟨hS, ph, mo, mc, fo, fc, dv, dg, h⟩ := h
  have hE := (h.ent i x hx).op hop
  have hm := List.mem_of_getElem? hx
  have hwl := hS.wlen x hm
  obtain ⟨a, cap, hv, hcap, _⟩ := hE.row.sl
  have hrow : Row W .u8 (.slice a x.waits.length cap) x.waits (ph i).wg := by rw [← hv]; exact hE.row
  have hne : ∀ g t, own g = some t → t ≠ .cn i → g ≠ (ph i).blk := fun g t e ht eg => by rw [eg, hE.tag] at e; cases e; exact ht rfl
  have hbk : ∀ W', Fr (fun _ => False) W W' → W'.heap[(ph i).blk]? = some (.cells #[(ph i).wv, .bool x.ended, .int .i64 x.room, (ph i).sv] 72 (0, 0)) := fun W' hg => (hg.block _ (lt_of hE.blk) (fun e => e)).trans hE.blk
  refine (read_x W c (ph i).blk x.num n a x.waits cap (hide (find_at h hS hx hop)) (by rw [cell_of hE.blk, ← hv]; rfl) hcap (hide ?_)).mono ?_
  · intro m hm
    have hlen : (x.waits.take m).length = m := by simp; omega
    have hcl := clone_any W (.slice a m cap) (x.waits.take m) (hrow.sl.take hm) (by omega)
    refine hcl.mono ?_
    rintro e W' ⟨v', go, rfl, h1, h2, h3⟩
    exact ⟨v', go, rfl, hide ⟨h1, h2, h3⟩, by rw [cell_of (hbk W' h2), ← hv]; rfl, frozen_of (hbk W' h2) 0⟩
  rintro e W' ⟨v', go, W1, m, hmm, rfl, h1, h2, h3, rfl⟩
  have em : m = clip n x.waits := hmm
  have hml : m ≤ x.waits.length := by rw [em]; exact clip_le _ _
  rw [← em]
  have hfr : Fr (fun b => b = (ph i).blk) W (W1.setCell ⟨(ph i).blk, 0, none⟩ (.slice (if cap = m then a else a.map (·.add m)) (x.waits.length - m) (cap - m))) := (h2.mono (fun _ _ e => e.elim)).trans (Fr.set W1 (ph i).blk 0 _) (fun _ _ e => e)
  have hgo : ∀ g, go = some g → W.heap.size ≤ g ∧ own g = none := fun g e => ⟨h3 g e, by
    cases ho : own g with
    | none => rfl
    | some t =>
      have h7 := h.low g t ho
      have h8 := h3 g e
      omega⟩
  refine ⟨v', go, own, rfl, h1.frame (by simp) (fun g e => hp_set_other _ _ _ _ _ (fun e2 => ?_)), hgo, ?_⟩
  · have h7 := h3 g e
    have h8 := lt_of hE.blk
    omega
  refine Wd.turn h hx hop (p' := { ph i with wv := .slice (if cap = m then a else a.map (·.add m)) (x.waits.length - m) (cap - m) }) (hS.set hx rfl rfl (by simp; omega) (hS.rm x hm) (hS.slen x hm)) hop rfl rfl (hfr.mono (fun b _ e => by rw [e]; exact .inl hE.tag)) (fun _ _ e => e) (fun b t e => Nat.lt_of_lt_of_le (h.low b t e) hfr.size) (fun _ _ e => e) ?_
  refine ⟨(h.ent i x hx).row.frame hfr.size (fun g hg => hfr.block g ((h.low _ _ ((h.ent i x hx).stag g hg))) (hne g _ ((h.ent i x hx).stag g hg) nofun)), (h.ent i x hx).stag, fun _ => ⟨?_, hE.tag, (hrow.drop hml).frame hfr.size (fun g hg => hfr.block g (h.low _ _ (hE.wtag g hg)) (hne g _ (hE.wtag g hg) nofun)), hE.wtag⟩⟩
  rw [hp_set (hbk W1 h2)]; rfl

theorem does_write (h : Wd W c S dr own) (hx : S[i]? = some x) (hop : x.isOpen = true) {src : Value} {X : List Int} (hX : Sl W .u8 src X) (hl : x.sent.length + (min (X.length : Int) x.room).toNat ≤ 70368744177664) :
    Calls Try.prog 22 #[ptr c, .int .i64 x.num, src] W fun e W' => e = .returned (.tuple #[.int .i64 (min (X.length : Int) x.room), .int .i64 0]) ∧ ∃ own', Wd W' c (S.set i { x with sent := x.sent ++ X.take (min (X.length : Int) x.room).toNat, room := x.room - min (X.length : Int) x.room }) dr own' ∧ Kp own own' W W' := by
  obtain ⟨hS, ph, mo, mc, fo, fc, dv, dg, h⟩ := h
  have hE := (h.ent i x hx).op hop
  have hF := h.ent i x hx
  have hm := List.mem_of_getElem? hx
  have hr := hS.rm x hm
  obtain ⟨a, cap, hv, _⟩ := hF.row.sl
  obtain ⟨a', cap', rfl, hcap', hn'⟩ := id hX
  obtain ⟨m, hmm⟩ : ∃ m, m = (min (X.length : Int) x.room).toNat := ⟨_, rfl⟩
  have hml : m ≤ X.length := by omega
  have hlen : (X.take m).length = m := by simp; omega
  obtain ⟨ti, hi, hz, h1s, hb⟩ := info5
  have hrd : Row W.drew .u8 (.slice a x.sent.length cap) x.sent (ph i).sg := by rw [← hv]; exact hF.row.frame (Nat.le_refl _) (fun _ _ => rfl)
  have hXd : Sl W.drew .u8 (.slice a' m cap') (X.take m) := (hX.take hml).keep (fun _ _ _ => rfl)
  obtain ⟨v1, W1, go', hrun, hR, hg, hgo⟩ := append_row W.drew 30 30 5 .u8 _ ti Try.underlying30 hi hz h1s rfl _ _ _ _ _ hrd hXd (by rw [hb]; omega) (by omega)
  obtain ⟨a1, n1, d1, rfl⟩ := hR.shape
  have hne : ∀ g t, own g = some t → t ≠ .cn i → g ≠ (ph i).blk := fun g t e ht eg => by rw [eg, hE.tag] at e; cases e; exact ht rfl
  have hb1 : W1.heap[(ph i).blk]? = some (.cells #[(ph i).wv, .bool x.ended, .int .i64 x.room, (ph i).sv] 72 (0, 0)) := (hg.block _ (lt_of hE.blk) (fun e => hne _ _ (hF.stag _ e.symm) nofun rfl)).trans hE.blk
  refine (write_x W W1 c (ph i).blk n1 d1 x.num x.room (min (X.length : Int) x.room) a a' a1 x.sent X cap cap' (hide (find_at h hS hx hop)) (by rw [cell_of hE.blk]; rfl) (by rw [cell_of hE.blk, ← hv]; rfl) hr.1 hr.2 hcap' rfl (hide (by rw [← hmm]; exact hrun)) (by rw [cell_of hb1, ← hv]; rfl) (frozen_of hb1 3) (by rw [cell_of hb1]; rfl) (frozen_of hb1 2)).mono ?_
  rintro e W' ⟨rfl, rfl⟩
  rw [← hmm]
  refine ⟨rfl, more own W.heap.size go' (.st i), ?_⟩
  have hgo' : ∀ g, go' = some g → g ≠ (ph i).blk := by
    intro g e
    rcases hgo with h1 | ⟨g', h1, h2⟩
    · exact hne g _ (hF.stag g (by rw [← h1]; exact e)) nofun
    · rw [h1] at e; cases e
      have h3 := lt_of hE.blk
      have h4 : W.heap.size ≤ g := h2
      omega
  have hfr : Fr (fun b => (ph i).sg = some b ∨ b = (ph i).blk) W ((W1.setCell ⟨(ph i).blk, 3, none⟩ (.slice a1 n1 d1)).setCell ⟨(ph i).blk, 2, none⟩ (.int .i64 (x.room - min (X.length : Int) x.room))) :=
    ((((Fr.drew (fun _ => False) W).mono (fun _ _ e => e.elim)).trans (Fr.grown hg) (fun _ _ e => .inl e)).trans (Fr.set W1 (ph i).blk 3 _) (fun _ _ e => .inr e)).trans (Fr.set _ (ph i).blk 2 _) (fun _ _ e => .inr e)
  refine Wd.turn h hx hop (p' := { ph i with sv := .slice a1 n1 d1, sg := go' }) (hS.set hx rfl rfl (hS.wlen x hm) ⟨by simp only; omega, by simp only; omega⟩ (by simp only [List.length_append, hlen]; omega)) hop rfl rfl (hfr.mono (fun b _ e => ?_)) (more_old h.low _ _) (more_low h.low hfr.size (fun g e => ?_)) (more_no _ _) ?_
  · rcases e with e | e
    · exact .inr (.inr (hF.stag b e))
    · rw [e]; exact .inl hE.tag
  · subst e; simpa using hR.lt
  · refine ⟨hR.frame (by simp) (fun g e => ?_), more_new h.low hgo hF.stag, fun _ => ⟨?_, more_old h.low _ _ _ _ hE.tag, hE.row.frame hfr.size (fun g e => hfr.block g (h.low _ _ (hE.wtag g e)) (fun e2 => ?_)), fun g e => more_old h.low _ _ _ _ (hE.wtag g e)⟩⟩
    · rw [hp_set_other _ _ _ _ _ (hgo' g e), hp_set_other _ _ _ _ _ (hgo' g e)]
    · rw [hp_set (hp_set hb1 3 _) 2]; rfl
    · rcases e2 with e2 | e2
      · have h1 := hF.stag g e2
        rw [hE.wtag g e] at h1; cases h1
      · exact hne g _ (hE.wtag g e) nofun e2
end
end Go.Proofs.Ytpgbpfdgbajhlaa
