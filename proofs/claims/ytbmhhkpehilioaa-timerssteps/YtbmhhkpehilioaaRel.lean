/- The timers and the document's timers, told by slots, are the same. -/
import Derived.Test.YtbmhhkpehilioaaRefSet
namespace Go.Proofs.Ytbmhhkpehilioaa
open Go.ChangeShapes Go.WideShapes Go.ChangeAt Go.RowKit

/-- A slot's timer as the document has it. -/
def tmr (S : List Slot) (i : Nat) : Tmr := ⟨(sg S i).when, (sg S i).key, (sg S i).gen * 4096 + (i : Int)⟩
theorem tmr_inj {S : List Slot} {i j : Nat} (hi : i < 4096) (hj : j < 4096) (h : (tmr S i).handle = (tmr S j).handle) : i = j := by
  simp only [tmr] at h
  omega
structure Rel (S : List Slot) (D : List Nat) (L : List Tmr) (G : List Int) (P : List Nat) : Prop where
  gens : G = S.map Slot.gen
  perm : P.Perm D
  turns : P.Pairwise (fun x y => (sg S x).turn < (sg S y).turn)
  row : L = P.map (tmr S)
section
variable {most : Nat} {turns : Int} {S : List Slot} {D F P : List Nat} {L : List Tmr} {G : List Int}
theorem Rel.len (h : Rel S D L G P) : L.length = D.length := by rw [h.row, List.length_map, h.perm.length_eq]
theorem Rel.lenG (h : Rel S D L G P) : G.length = S.length := by rw [h.gens, List.length_map]
theorem Rel.has (h : Rel S D L G P) (n : Int) : (∃ t, t ∈ L ∧ t.handle = n) ↔ Hs S D n := by
  rw [h.row]
  constructor
  · rintro ⟨t, ht, rfl⟩
    obtain ⟨i, hi, rfl⟩ := List.mem_map.1 ht
    exact ⟨i, h.perm.subset hi, rfl⟩
  · rintro ⟨i, hi, rfl⟩
    exact ⟨tmr S i, List.mem_map_of_mem (h.perm.symm.subset hi), rfl⟩
theorem Rel.keep_no (h : Rel S D L G P) {n : Int} (hn : ¬ Hs S D n) : keep n L = L := by
  unfold keep
  rw [List.filter_eq_self]
  intro t ht
  rw [decide_eq_true_eq]
  intro e
  exact hn ((h.has n).1 ⟨t, ht, e⟩)
theorem keep_map (P : List Nat) (x : Nat) (hP : ∀ y, y ∈ P → y < 4096) (hx : x < 4096) : keep (tmr S x).handle (P.map (tmr S)) = (P.filter (fun y => decide (y ≠ x))).map (tmr S) := by
  unfold keep
  rw [List.filter_map]
  congr 1
  apply List.filter_congr
  intro y hy
  simp only [Function.comp]
  by_cases e : y = x
  · subst e; simp
  · have : (tmr S y).handle ≠ (tmr S x).handle := fun k => e (tmr_inj (hP y hy) hx k)
    simp [e, this]
theorem filter_perm {P D' : List Nat} {x : Nat} (hn : P.Nodup) (hp : P.Perm (x :: D')) : (P.filter (fun y => decide (y ≠ x))).Perm D' := by
  have e : P.filter (fun y => decide (y ≠ x)) = P.erase x := by
    rw [hn.erase_eq_filter]
    apply List.filter_congr
    intro y _
    by_cases e : y = x <;> simp [e]
  rw [e]
  have := hp.erase x
  simpa using this
theorem Rel.nodup (h : Rel S D L G P) (hI : Inv most turns S D F) : P.Nodup := by
  have := hI.nodup
  rw [List.nodup_append] at this
  exact h.perm.nodup_iff.2 this.1
theorem Rel.lt (h : Rel S D L G P) (hI : Inv most turns S D F) {y : Nat} (hy : y ∈ P) : y < S.length ∧ y < 4096 := by
  have := hI.memD (h.perm.subset hy)
  have := hI.len
  have := hI.m2
  omega
theorem Rel.keep_yes (h : Rel S D L G P) (hI : Inv most turns S D F) {i : Nat} {D' : List Nat} {n : Int} (hn : n = (sg S i).gen * 4096 + i) (hp : (i :: D').Perm D) : Rel S D' (keep n L) G (P.filter (fun y => decide (y ≠ i))) ∧ (keep n L).length < L.length := by
  have hi : i ∈ P := h.perm.symm.subset (hp.subset List.mem_cons_self)
  have e : keep n L = (P.filter (fun y => decide (y ≠ i))).map (tmr S) := by
    rw [h.row, hn]
    exact keep_map P i (fun y hy => (h.lt hI hy).2) (h.lt hI hi).2
  have hp' := filter_perm (h.nodup hI) (h.perm.trans hp.symm)
  refine ⟨⟨h.gens, hp', h.turns.filter _, e⟩, ?_⟩
  rw [e, List.length_map, hp'.length_eq, h.len, ← hp.length_eq]
  simp

theorem first_of (S : List Slot) (P : List Nat) (o : Nat) (ht : ∀ y, y ∈ o :: P → 0 ≤ (sg S y).turn ∧ (sg S y).turn < 1152921504606846976)
    (ho : ∀ y, y ∈ P → (sg S o).turn ≤ (sg S y).turn) (hP : P.Pairwise (fun x y => (sg S x).turn < (sg S y).turn)) :
    ∃ x, x ∈ o :: P ∧ (P.map (tmr S)).foldl least (tmr S o) = tmr S x ∧ rk S x ≤ rk S o ∧ ∀ y, y ∈ P → rk S x ≤ rk S y := by
  induction P generalizing o with
  | nil => exact ⟨o, by simp, rfl, Int.le_refl _, fun y hy => by simp at hy⟩
  | cons z P ih =>
    rw [List.map_cons, List.foldl_cons]
    have hz := List.pairwise_cons.1 hP
    have t1 := ht o List.mem_cons_self
    have t2 := ht z (List.mem_cons_of_mem _ List.mem_cons_self)
    by_cases hlt : (sg S z).when < (sg S o).when
    · have e : least (tmr S o) (tmr S z) = tmr S z := if_pos hlt
      rw [e]
      obtain ⟨x, hx, h1, h2, h3⟩ := ih z (fun y hy => ht y (List.mem_cons_of_mem _ hy)) (fun y hy => Int.le_of_lt (hz.1 y hy)) hz.2
      have h4 : rk S z ≤ rk S o := by unfold rk; omega
      refine ⟨x, List.mem_cons_of_mem _ hx, h1, Int.le_trans h2 h4, fun y hy => ?_⟩
      rcases List.mem_cons.1 hy with rfl | hy
      · exact h2
      · exact h3 y hy
    · have e : least (tmr S o) (tmr S z) = tmr S o := if_neg hlt
      rw [e]
      obtain ⟨x, hx, h1, h2, h3⟩ := ih o (fun y hy => by
        rcases List.mem_cons.1 hy with rfl | hy
        · exact t1
        · exact ht y (List.mem_cons_of_mem _ (List.mem_cons_of_mem _ hy))) (fun y hy => ho y (List.mem_cons_of_mem _ hy)) hz.2
      have h4 : rk S o ≤ rk S z := by have := ho z List.mem_cons_self; unfold rk; omega
      refine ⟨x, ?_, h1, h2, fun y hy => ?_⟩
      · rcases List.mem_cons.1 hx with rfl | hx
        · exact List.mem_cons_self
        · exact List.mem_cons_of_mem _ (List.mem_cons_of_mem _ hx)
      · rcases List.mem_cons.1 hy with rfl | hy
        · exact Int.le_trans h2 h4
        · exact h3 y hy
theorem fst1_of (S : List Slot) (P : List Nat) (h0 : 0 < P.length) (ht : ∀ y, y ∈ P → 0 ≤ (sg S y).turn ∧ (sg S y).turn < 1152921504606846976) (hP : P.Pairwise (fun x y => (sg S x).turn < (sg S y).turn)) :
    ∃ x, x ∈ P ∧ fst1 (P.map (tmr S)) = tmr S x ∧ ∀ y, y ∈ P → rk S x ≤ rk S y := by
  cases P with
  | nil => simp at h0
  | cons o P =>
    have hz := List.pairwise_cons.1 hP
    obtain ⟨x, hx, h1, h2, h3⟩ := first_of S P o ht (fun y hy => Int.le_of_lt (hz.1 y hy)) hz.2
    refine ⟨x, hx, ?_, fun y hy => ?_⟩
    · unfold fst1
      rw [List.map_cons, List.foldl_cons]
      have e : least (tg (tmr S o :: P.map (tmr S)) 0) (tmr S o) = tmr S o := by
        unfold least tg
        simp
      rw [e]
      exact h1
    · rcases List.mem_cons.1 hy with rfl | hy
      · exact h2
      · exact h3 y hy
theorem rk_when {S : List Slot} {x y : Nat} (hx : 0 ≤ (sg S x).turn ∧ (sg S x).turn < 1152921504606846976) (hy : 0 ≤ (sg S y).turn ∧ (sg S y).turn < 1152921504606846976) (h : rk S x ≤ rk S y) : (sg S x).when ≤ (sg S y).when := by
  unfold rk at h
  omega
theorem Rel.turn (h : Rel S D L G P) (hI : Inv most turns S D F) (ht : turns ≤ 1125899906842624) (y : Nat) (hy : y ∈ P) : 0 ≤ (sg S y).turn ∧ (sg S y).turn < 1152921504606846976 := by
  have := hI.sl y (h.lt hI hy).1
  omega
theorem Rel.next (h : Rel S D L G P) (hI : Inv most turns S D F) (ht : turns ≤ 1125899906842624) (h0 : 0 < D.length) : (fst1 L).when = (sg S (gt D 0)).when := by
  have hl : 0 < P.length := by rw [h.perm.length_eq]; exact h0
  obtain ⟨x, hx, h1, h2⟩ := fst1_of S P hl (h.turn hI ht) h.turns
  have hg : gt D 0 ∈ P := h.perm.symm.subset (gt_mem D 0 h0)
  have h3 := h2 _ hg
  have h4 := hI.hD.least_mem (h.perm.subset hx)
  have h5 := rk_when (h.turn hI ht _ hx) (h.turn hI ht _ hg) h3
  have h6 := rk_when (h.turn hI ht _ hg) (h.turn hI ht _ hx) h4
  rw [h.row, h1]
  show (sg S x).when = _
  omega

/-- What has been fired, told by slots. -/
structure Told2 (S : List Slot) (P : List Nat) (now : Int) (ks : List Int) (X : List Tmr) (q P' : List Nat) : Prop where
  perm : (q ++ P').Perm P
  turns : P'.Pairwise (fun x y => (sg S x).turn < (sg S y).turn)
  sorted : q.Pairwise (fun x y => rk S x < rk S y)
  cross : ∀ x, x ∈ q → ∀ y, y ∈ P' → rk S x < rk S y
  due : ∀ x, x ∈ q → (sg S x).when ≤ now
  keys : ks = q.map (fun i => (sg S i).key)
  row : X = P'.map (tmr S)
theorem Shot.told {now : Int} {ks : List Int} {X : List Tmr} (hs : Shot now L ks X) (h : Rel S D L G P) (hI : Inv most turns S D F) (ht : turns ≤ 1125899906842624) : ∃ q P', Told2 S P now ks X q P' := by
  induction hs with
  | none => exact ⟨[], P, by simp, h.turns, .nil, fun x hx => by simp at hx, fun x hx => by simp at hx, rfl, h.row⟩
  | more _ h0 hn ih =>
    obtain ⟨q, P', t⟩ := ih
    have hsub : ∀ y, y ∈ P' → y ∈ P := fun y hy => t.perm.subset (List.mem_append.2 (.inr hy))
    have hnd := t.perm.nodup_iff.2 (h.nodup hI)
    rw [List.nodup_append] at hnd
    have hl : 0 < P'.length := by rw [t.row, List.length_map] at h0; exact h0
    obtain ⟨x, hx, h1, h2⟩ := fst1_of S P' hl (fun y hy => h.turn hI ht y (hsub y hy)) t.turns
    have e : fst1 _ = tmr S x := (congrArg fst1 t.row).trans h1
    rw [e] at hn ⊢
    have hp : P'.Perm (x :: P'.erase x) := List.perm_cons_erase hx
    have hf := filter_perm hnd.2.1 hp
    have hkeep := keep_map (S := S) P' x (fun y hy => (h.lt hI (hsub y hy)).2) (h.lt hI (hsub x hx)).2
    refine ⟨q ++ [x], P'.filter (fun y => decide (y ≠ x)), ?_, t.turns.filter _, ?_, ?_, ?_, ?_, ?_⟩
    · have e1 : (q ++ [x] ++ P'.filter (fun y => decide (y ≠ x))).Perm (q ++ [x] ++ P'.erase x) := List.Perm.append_left _ hf
      have e2 : (q ++ [x] ++ P'.erase x).Perm (q ++ P') := by
        rw [List.append_assoc]
        exact List.Perm.append_left _ hp.symm
      exact (e1.trans e2).trans t.perm
    · rw [List.pairwise_append]
      refine ⟨t.sorted, by simp, fun a ha b hb => ?_⟩
      rw [List.mem_singleton.1 hb]
      exact t.cross a ha x hx
    · intro a ha y hy
      have hy' := List.mem_filter.1 hy
      have hyx : y ≠ x := by simpa using hy'.2
      rcases List.mem_append.1 ha with ha | ha
      · exact t.cross a ha y hy'.1
      · rw [List.mem_singleton.1 ha]
        have h3 := h2 y hy'.1
        have h4 := hI.dis x y (h.lt hI (hsub x hx)).1 (h.lt hI (hsub y hy'.1)).1 (fun e => hyx e.symm)
        have h5 := h.turn hI ht x (hsub x hx)
        have h6 := h.turn hI ht y (hsub y hy'.1)
        unfold rk at h3 ⊢
        omega
    · intro a ha
      rcases List.mem_append.1 ha with ha | ha
      · exact t.due a ha
      · rw [List.mem_singleton.1 ha]; exact hn
    · rw [t.keys, List.map_append]; rfl
    · rw [t.row]; exact hkeep
theorem sorted_eq {S : List Slot} {a b : List Nat} (ha : a.Pairwise (fun x y => rk S x < rk S y)) (hb : b.Pairwise (fun x y => rk S x < rk S y)) (hp : a.Perm b) : a = b :=
  List.Perm.eq_of_pairwise (fun x y _ _ h1 h2 => by omega) ha hb hp
/-- What is fired is what the document fires. -/
theorem Rel.fire {now : Int} {ks : List Int} {X : List Tmr} {fired D' : List Nat} (h : Rel S D L G P) (hI : Inv most turns S D F) (ht : turns ≤ 1125899906842624) (hs : Shot now L ks X) (hend : X = [] ∨ now < (fst1 X).when)
    (hperm : (fired ++ D').Perm D) (hsort : fired.Pairwise (fun x y => rk S x < rk S y)) (hdue : ∀ x, x ∈ fired → (sg S x).when ≤ now) (hlate : ∀ y, y ∈ D' → now < (sg S y).when) :
    ks = fired.map (fun i => (sg S i).key) ∧ ∃ P', Rel S D' X G P' := by
  obtain ⟨q, P', t⟩ := hs.told h hI ht
  have hsub : ∀ y, y ∈ P' → y ∈ P := fun y hy => t.perm.subset (List.mem_append.2 (.inr hy))
  have hl : ∀ y, y ∈ P' → now < (sg S y).when := by
    intro y hy
    have hl : 0 < P'.length := List.length_pos_of_mem hy
    obtain ⟨x, hx, h1, h2⟩ := fst1_of S P' hl (fun y hy => h.turn hI ht y (hsub y hy)) t.turns
    have e : fst1 X = tmr S x := (congrArg fst1 t.row).trans h1
    rcases hend with he | he
    · rw [t.row] at he
      simp only [List.map_eq_nil_iff] at he
      rw [he] at hy
      simp at hy
    · rw [e] at he
      have he : now < (sg S x).when := he
      have := rk_when (h.turn hI ht x (hsub x hx)) (h.turn hI ht y (hsub y hy)) (h2 y hy)
      omega
  have hpp : (q ++ P').Perm (fired ++ D') := (t.perm.trans h.perm).trans hperm.symm
  have f1 : ∀ (a b : List Nat), (∀ x, x ∈ a → (sg S x).when ≤ now) → (∀ x, x ∈ b → now < (sg S x).when) → (a ++ b).filter (fun x => decide ((sg S x).when ≤ now)) = a := by
    intro a b ha hb
    rw [List.filter_append, List.filter_eq_self.2 (fun x hx => decide_eq_true (ha x hx)), List.filter_eq_nil_iff.2 (fun x hx => by simp; exact hb x hx), List.append_nil]
  have hq : q.Perm fired := by
    have := hpp.filter (fun x => decide ((sg S x).when ≤ now))
    rw [f1 q P' t.due hl, f1 fired D' hdue hlate] at this
    exact this
  have e := sorted_eq t.sorted hsort hq
  subst e
  exact ⟨t.keys, P', h.gens, (List.perm_append_left_iff _).1 hpp, t.turns, t.row⟩

theorem tmod_handle (g : Int) (i : Nat) (hg : 0 ≤ g) (hi : i < 4096) : Int.tmod (g * 4096 + i) 4096 = (i : Int) := by
  rw [Int.tmod_eq_emod_of_nonneg (by omega)]
  omega
theorem Rel.free (h : Rel S D L G P) (hI : Inv most turns S D F) (j : Nat) : freeAt L j ↔ j ∉ D := by
  unfold freeAt
  rw [h.row]
  constructor
  · intro hf hj
    have hjP := h.perm.symm.subset hj
    have h1 := (h.lt hI hjP).2
    have h2 := hI.sl j (h.lt hI hjP).1
    exact hf (tmr S j) (List.mem_map_of_mem hjP) (tmod_handle _ j (by omega) h1)
  · intro hn t ht e
    obtain ⟨i, hi, rfl⟩ := List.mem_map.1 ht
    have h1 := (h.lt hI hi).2
    have h2 := hI.sl i (h.lt hI hi).1
    have h3 : Int.tmod (tmr S i).handle 4096 = (i : Int) := tmod_handle _ i (by omega) h1
    rw [h3] at e
    have : i = j := by omega
    subst this
    exact hn (h.perm.subset hi)
/-- The slot that is taken is the document's. -/
theorem Rel.slot (h : Rel S D L G P) (hI : Inv most turns S D F) {i i' : Nat} {S1 : List Slot} {F' : List Nat} (hp : Place S F i S1 F') (hl : ∀ j, j < i' → ¬ freeAt L j) (hf : (i' < G.length ∧ freeAt L i') ∨ i' = G.length) : i' = i := by
  have hG := h.lenG
  have key : ∀ j, j < i' → j ∈ D := fun j hj => Classical.byContradiction fun hn => hl j hj ((h.free hI j).2 hn)
  cases hp with
  | fresh e =>
    rcases hf with ⟨h1, h2⟩ | h1
    · have := (h.free hI i').1 h2
      rcases hI.cover (by omega : i' < S.length) with h3 | h3
      · exact absurd h3 this
      · rw [e] at h3; simp at h3
    · omega
  | old h0 hp =>
    have hm := gt_mem F 0 h0
    have hmS := hI.memF hm
    have hnD : gt F 0 ∉ D := fun hd => hI.apart hd hm
    have hle : i' ≤ gt F 0 := Classical.byContradiction fun hn => hnD (key _ (by omega))
    rcases hf with ⟨h1, h2⟩ | h1
    · have h3 := (h.free hI i').1 h2
      rcases hI.cover (by omega : i' < S.length) with h4 | h4
      · exact absurd h4 h3
      · have := hI.hF.least_mem h4
        omega
    · omega
theorem tmr_other {S1 : List Slot} {i : Nat} {s : Slot} {y : Nat} (hi : i < S1.length) (hy : y ≠ i) (hs : sg S1 y = sg S y) : tmr (S1.set i s) y = tmr S y := by
  unfold tmr
  rw [sg_set S1 i s y hi, if_neg hy, hs]
/-- A timer has been set. -/
theorem Rel.put (h : Rel S D L G P) (hI : Inv most turns S D F) {i : Nat} {S1 : List Slot} {F' D' : List Nat} (hp : Place S F i S1 F') (time key : Int) (hD : D'.Perm (D ++ [i])) (G1 : List Int) (hG1 : G1 = S1.map Slot.gen) :
    Rel (S1.set i ⟨time, key, turns, (sg S1 i).gen + 1⟩) D' (L ++ [⟨time, key, ((sg S1 i).gen + 1) * 4096 + i⟩]) (G1.set i ((sg S1 i).gen + 1)) (P ++ [i]) := by
  obtain ⟨hi, hle, hsame, hni⟩ := hp.lt hI
  have hne : ∀ y, y ∈ P → y ≠ i ∧ y < S.length := fun y hy => ⟨fun e => hni (e ▸ h.perm.subset hy), (h.lt hI hy).1⟩
  have hs : ∀ y, y ∈ P → sg (S1.set i ⟨time, key, turns, (sg S1 i).gen + 1⟩) y = sg S y := fun y hy => by
    rw [sg_set S1 i _ y hi, if_neg (hne y hy).1, hsame y (hne y hy).2]
  refine ⟨?_, (List.Perm.append_right _ h.perm).trans hD.symm, ?_, ?_⟩
  · rw [hG1, List.map_set]
  · rw [List.pairwise_append]
    refine ⟨?_, by simp, fun a ha b hb => ?_⟩
    · refine h.turns.imp_of_mem ?_
      intro a b ha hb hab
      rw [hs a ha, hs b hb]
      exact hab
    · rw [List.mem_singleton.1 hb, hs a ha, sg_set S1 i _ i hi, if_pos rfl]
      have := hI.sl a (hne a ha).2
      dsimp only
      omega
  · rw [List.map_append, h.row]
    congr 1
    · apply List.map_congr_left
      intro y hy
      exact (tmr_other hi (hne y hy).1 (hsame y (hne y hy).2)).symm
    · simp only [List.map_cons, List.map_nil, tmr]
      rw [sg_set S1 i _ i hi, if_pos rfl]
theorem Place.gens {i : Nat} {S1 : List Slot} {F' : List Nat} (hp : Place S F i S1 F') (h : G = S.map Slot.gen) : (i < G.length ∧ S1.map Slot.gen = G) ∨ (i = G.length ∧ S1.map Slot.gen = G ++ [0]) ∨ ¬ (i < S1.length) := by
  cases hp with
  | fresh e => exact .inr (.inl ⟨by rw [h]; simp, by rw [h]; simp [z0]⟩)
  | old h0 hp =>
    by_cases hl : gt F 0 < S.length
    · exact .inl ⟨by rw [h]; simpa using hl, h.symm⟩
    · exact .inr (.inr hl)
end
section
variable {most : Nat} {turns : Int} {S : List Slot} {D F P : List Nat} {L : List Tmr} {G : List Int}
/-- Both take the same slot, and count the same generation. -/
theorem Rel.set (h : Rel S D L G P) (hI : Inv most turns S D F) {i i' : Nat} {S1 : List Slot} {F' : List Nat} {G1 : List Int} (hp : Place S F i S1 F') (hl : ∀ j, j < i' → ¬ freeAt L j) (hf : (i' < G.length ∧ freeAt L i' ∧ G1 = G) ∨ (i' = G.length ∧ G1 = G ++ [0])) :
    i' = i ∧ G1 = S1.map Slot.gen ∧ G1.getD i 0 = (sg S1 i).gen := by
  have e : i' = i := h.slot hI hp hl (by rcases hf with ⟨h1, h2, _⟩ | ⟨h1, _⟩; exact .inl ⟨h1, h2⟩; exact .inr h1)
  subst e
  have hlt := (hp.lt hI).1
  have eG : G1 = S1.map Slot.gen := by
    rcases hp.gens h.gens with ⟨h1, h2⟩ | ⟨h1, h2⟩ | h1
    · rcases hf with ⟨_, _, h3⟩ | ⟨h3, _⟩
      · rw [h3, h2]
      · omega
    · rcases hf with ⟨h3, _, _⟩ | ⟨_, h3⟩
      · omega
      · rw [h3, h2]
    · exact absurd hlt h1
  refine ⟨rfl, eG, ?_⟩
  rw [eG]
  simp [sg, List.getD, hlt]
theorem Rel.gen_lt (h : Rel S D L G P) (hI : Inv most turns S D F) (ht : turns < 1125899906842624) (i : Nat) (hi : i < G.length) : 0 ≤ G.getD i 0 ∧ G.getD i 0 < 1125899906842624 := by
  have hl := h.lenG
  have := hI.sl i (by omega)
  have e : G.getD i 0 = (sg S i).gen := by
    rw [h.gens]
    have : i < S.length := by omega
    simp [sg, List.getD, this]
  omega
end
end Go.Proofs.Ytbmhhkpehilioaa
