/- A world's calls: a new one, all that are open, one that is opened or closed, what was sent, what is given and drawn. -/
import Derived.Test.YtpgbpfdgbajhlaaIter
namespace Go.Proofs.Ytpgbpfdgbajhlaa
open Go.ChangeShapes Go.WideShapes Go.ChangeAt Go.RowKit

/-- In their order. -/
def sorted (l : List Int) : List Int := l.mergeSort leI

theorem Row.ofOwns {W : World} {base : Nat} {v : Value} {l : List Int} (h : W.ownsRow base 3 1 v l.length (l.map encZ)) : ∃ go, Row W .i64 v l go ∧ ∀ g, go = some g → base ≤ g := by
  rcases h.2 with ⟨rfl, h0⟩ | ⟨g, cap, cur, rfl, hbase, hg, hc, _, hs, ht⟩
  · have e : l = [] := List.eq_nil_of_length_eq_zero h0
    subst e
    exact ⟨none, Row.nil _ _, nofun⟩
  · refine ⟨some g, .inr ⟨g, 0, cap, rfl, rfl, hc, lt_of hg, fun i hi => ⟨?_, frozen_of hg _⟩, fun i hi => ?_⟩, fun g' e => by cases e; exact hbase⟩
    · rw [cell_of hg, Nat.zero_add, Array.getElem?_eq_getElem (by omega)]; rfl
    · rw [cell_of hg, Nat.zero_add]
      rw [Nat.mul_one] at ht
      have e : (cur.toList.take l.length)[i]? = cur[i]? := by rw [List.getElem?_take, if_pos hi]; simp
      rw [← e, ht]
      simp [List.getD, hi, encZ]

section
variable {W : World} {c : Nat} {S : List Cn} {dr : List Int} {own : Nat → Option Tag} {i : Nat} {x : Cn} {k : Int}

theorem Wd.apart (h : Wd W c S dr own) {W' : World} (hb : Below W.heap.size W W') : Wd W' c S dr own ∧ Kp own own W W' :=
  ⟨h.frame hb.size (fun b t e => hb.block b (h.low b t e)), (Fr.ofBelow hb _), fun _ _ e => e⟩
theorem Wd.apartF (h : Wd W c S dr own) {W' : World} (hb : Fr (fun _ => False) W W') : Wd W' c S dr own ∧ Kp own own W W' :=
  ⟨h.frame hb.size (fun b t e => hb.block b (h.low b t e) (fun e => e)), hb.mono (fun _ _ e => e.elim), fun _ _ e => e⟩
theorem Wd.fresh (h : Wd W c S dr own) {g : Nat} (hg : W.heap.size ≤ g) : own g = none := by
  cases ho : own g with
  | none => rfl
  | some t => have := h.low g t ho; omega

theorem does_all (h : Wd W c S dr own) : Calls Try.prog 15 #[ptr c] W fun e W' => ∃ v go, e = .returned v ∧ Row W' .i64 v (sorted (opens S)) go ∧ (∀ g, go = some g → W.heap.size ≤ g ∧ own g = none) ∧ Wd W' c S dr own ∧ Kp own own W W' := by
  have h0 := h
  obtain ⟨hS, ph, mo, mc, fo, fc, dv, dg, h⟩ := h
  rcases h.maps with ⟨rfl, _, rfl⟩ | ⟨bo, bc, rfl, rfl, t1, t2, p1, p2⟩
  · refine (all_none c W h.c0).mono ?_
    rintro e W' ⟨rfl, hb⟩
    have e : sorted (opens []) = [] := by simp [sorted, opens]
    exact ⟨_, none, rfl, by rw [e]; exact Row.nil _ _, nofun, h0.apart hb⟩
  · obtain ⟨D, hD, hf⟩ := p1
    have hsz := own_size hD (fun k => (hf k).1) (opens_nodup hS) h.opens
    have hle : (opens S).length ≤ 1024 := by simpa [opens] using hS.cnt
    have hmx : Maps.size D ≤ maxLen := by rw [hsz]; unfold maxLen; omega
    refine (all_some c bo 1024 D Rv W h.c0 hD hmx (by omega)).mono ?_
    rintro e W' ⟨v, ss, rfl, hp, hrow, hb⟩
    have hpp : ss.Perm (opens S) := hp.trans (own_keys hD (fun k => (hf k).1) (opens_nodup hS) h.opens).symm
    have e1 : ss.mergeSort (fun x y => decide (x ≤ y)) = sorted (opens S) := mergeSort_of_perm_i hpp
    have e2 : ss.length = (sorted (opens S)).length := by unfold sorted; rw [List.length_mergeSort]; exact hpp.length_eq
    rw [e1, e2] at hrow
    obtain ⟨go, hr, hg⟩ := Row.ofOwns hrow
    exact ⟨v, go, rfl, hr, fun g e => ⟨hg g e, h0.fresh (hg g e)⟩, h0.apart hb⟩

theorem does_new (W : World) : Calls Try.prog 8 #[] W fun e W' => e = .returned (ptr W.heap.size) ∧ W' = W.alloc (.cells #[.map none, .map none, .slice none 0 0] 61) := by
  go_enter Try.func8, Try.ntmps8
  go_wp2
  go_ret
  exact ⟨rfl, rfl⟩
def ownOne (c : Nat) : Nat → Option Tag := fun b => if b = c then some .ob else none
theorem Wd.begin (W : World) : Wd (W.alloc (.cells #[.map none, .map none, .slice none 0 0] 61)) W.heap.size [] [] (ownOne W.heap.size) := by
  refine ⟨⟨List.nodup_nil, nofun, nofun, nofun, by simp, nofun, by simp, by simp, nofun⟩, fun _ => ⟨0, undef, undef, none, none⟩, none, none, fun _ => none, fun _ => none, _, none, (MapKept.heap_alloc W _).1, by simp [ownOne], ?_, Row.nil _ _, nofun, .inl ⟨rfl, rfl, rfl⟩, nofun, nofun, fun _ _ => ⟨rfl, rfl⟩⟩
  intro b t e
  unfold ownOne at e
  split at e
  · rename_i hb; rw [hb]; simp
  · cases e
theorem Kp.begin (W : World) : Kp (fun _ => none) (ownOne W.heap.size) W (W.alloc (.cells #[.map none, .map none, .slice none 0 0] 61)) :=
  ⟨Fr.alloc _ _ _, fun b hb _ => by unfold ownOne; rw [if_neg (by omega)]⟩

theorem Told.out {l : List Int} {e : Ending} {W' : World} (h : Told W l e W') (hw : Wd W c S dr own) : ∃ v go, e = .returned v ∧ Row W' .u8 v l go ∧ (∀ g, go = some g → W.heap.size ≤ g ∧ own g = none) ∧ Wd W' c S dr own ∧ Kp own own W W' := by
  obtain ⟨v, go, rfl, h1, h2, h3⟩ := h
  exact ⟨v, go, rfl, h1, fun g e => ⟨h3 g e, hw.fresh (h3 g e)⟩, hw.apartF h2⟩

/-- What was sent over the connection of this number. -/
theorem does_sent (h : Wd W c S dr own) (hx : S[i]? = some x) : Calls Try.prog 12 #[ptr c, .int .i64 x.num] W fun e W' => ∃ v go, e = .returned v ∧ Row W' .u8 v x.sent go ∧ (∀ g, go = some g → W.heap.size ≤ g ∧ own g = none) ∧ Wd W' c S dr own ∧ Kp own own W W' := by
  have h0 := h
  obtain ⟨hS, ph, mo, mc, fo, fc, dv, dg, h⟩ := h
  have hF := h.ent i x hx
  have hl := hS.slen x (List.mem_of_getElem? hx)
  have hcl := clone_any W (ph i).sv x.sent hF.row.sl (by omega)
  cases hop : x.isOpen with
  | true => exact (sent_x W c (ph i).blk x.num (ph i).sv x.sent (hide (find_at h hS hx hop)) (by rw [cell_of (hF.op hop).blk]; rfl) (hide hcl)).mono (fun e W' ht => Told.out ht h0)
  | false =>
    have hlk := h.lookC (hS.wf hx)
    rw [((h.fs i x hx).2 hop).2] at hlk
    have hno : ∀ y ∈ S, y.num = x.num → y.isOpen = false := by
      intro y hy e
      obtain ⟨j, hj, rfl⟩ := List.getElem_of_mem hy
      have hil := (List.getElem?_eq_some_iff.1 hx).1
      have e1 : (S.map Cn.num)[j]? = (S.map Cn.num)[i]? := by rw [List.getElem?_map, List.getElem?_map, hx, List.getElem?_eq_getElem hj]; simp [e]
      have e2 := (List.getElem?_inj (by simpa using hj) hS.nums).1 e1
      subst e2
      have ex : S[j] = x := by
        have := List.getElem?_eq_getElem hj
        rw [hx] at this
        exact (Option.some.inj this).symm
      rw [ex]; exact hop
    exact (sent_shut W c x.num mc (ph i).sv x.sent (hide (find_no h (hS.wf hx) hno)) h.c1 hlk (hide hcl)).mono (fun e W' ht => Told.out ht h0)
theorem does_sent_no (h : Wd W c S dr own) (hk : (Lit.int .i64 k).wf = true) (hno : ∀ x ∈ S, x.num ≠ k) : Calls Try.prog 12 #[ptr c, .int .i64 k] W fun e W' => ∃ v go, e = .returned v ∧ Row W' .u8 v [] go ∧ (∀ g, go = some g → W.heap.size ≤ g ∧ own g = none) ∧ Wd W' c S dr own ∧ Kp own own W W' := by
  have h0 := h
  obtain ⟨hS, ph, mo, mc, fo, fc, dv, dg, h⟩ := h
  have hcl := clone_any W (.slice none 0 0) [] (Sl.nil W .u8) (Nat.zero_le _)
  have hlk := h.lookC hk
  rw [(h.fn k hno).2] at hlk
  exact (sent_shut W c k mc (.slice none 0 0) [] (hide (find_no h hk (fun y hy e => absurd e (hno y hy)))) h.c1 hlk (hide hcl)).mono (fun e W' ht => Told.out ht h0)

theorem SOk.draw (hS : SOk S dr) {dr' : List Int} (h1 : dr'.length ≤ 4096) (h2 : ∀ v ∈ dr', 0 ≤ v ∧ v ≤ 4294967295) : SOk S dr' :=
  ⟨hS.nums, hS.low, hS.wlen, hS.rm, hS.cnt, hS.slen, hS.size, h1, h2⟩

theorem WObj.setDraw {ph : Nat → Ph} {mo mc : Option Nat} {fo fc : Int → Option Value} {dv dv' : Value} {dg dg' : Option Nat} (h : WObj W c S dr own ph mo mc fo fc dv dg) {W' : World} {own' : Nat → Option Tag} {dr' : List Int}
    (hfr : Fr (fun b => own b = some .ob ∨ own b = some .dr) W W') (ho : ∀ b t, own b = some t → own' b = some t) (hlow : ∀ b t, own' b = some t → b < W'.heap.size) (hblk : W'.heap[c]? = some (.cells #[.map mo, .map mc, dv'] 61 (0, 0))) (hR : Row W' .i64 dv' dr' dg') (ht : ∀ g, dg' = some g → own' g = some .dr) :
    WObj W' c S dr' own' ph mo mc fo fc dv' dg' := by
  have keep : ∀ b t, own b = some t → t ≠ .ob → t ≠ .dr → W'.heap[b]? = W.heap[b]? := by
    intro b t e h1 h2
    refine hfr.block b (h.low b t e) ?_
    rw [e]
    rintro (e | e) <;> cases e <;> contradiction
  exact ⟨hblk, ho _ _ h.tag, hlow, hR, ht, h.maps.imp id (fun ⟨bo, bc, e1, e2, t1, t2, p1, p2⟩ => ⟨bo, bc, e1, e2, ho _ _ t1, ho _ _ t2, p1.frame (keep _ _ t1 nofun nofun), p2.frame (keep _ _ t2 nofun nofun)⟩),
    fun i x hx => (h.ent i x hx).frame hfr.size ho (fun _ e => keep _ _ e nofun nofun) (fun _ e => keep _ _ e nofun nofun) (fun _ e => keep _ _ e nofun nofun), h.fs, h.fn⟩

theorem does_give_full (h : Wd W c S dr own) {v : Int} (h0 : 0 ≤ v) (h1 : v ≤ 4294967295) (hn : 4096 ≤ dr.length) : Calls Try.prog 24 #[ptr c, .int .i64 v] W fun e W' => e = .returned (.int .i64 5) ∧ W = W' := by
  obtain ⟨hS, ph, mo, mc, fo, fc, dv, dg, h⟩ := h
  obtain ⟨a, cap, hv, _⟩ := h.drw.sl
  exact give_full W c v a dr.length cap h0 h1 (by rw [h.c2, hv]) hn
theorem does_give (h : Wd W c S dr own) {v : Int} (h0 : 0 ≤ v) (h1 : v ≤ 4294967295) (hn : dr.length < 4096) : Calls Try.prog 24 #[ptr c, .int .i64 v] W fun e W' => e = .returned (.int .i64 0) ∧ ∃ own', Wd W' c S (dr ++ [v]) own' ∧ Kp own own' W W' := by
  obtain ⟨hS, ph, mo, mc, fo, fc, dv, dg, h⟩ := h
  obtain ⟨a, cap, hv, _⟩ := h.drw.sl
  have hA := Fr.alloc (fun _ => False) W (.cells #[.int .i64 v] 3)
  have hne : ∀ g t, own g = some t → t ≠ .ob → g ≠ c := fun g t e ht eg => by rw [eg, h.tag] at e; cases e; exact ht rfl
  have hbk : ∀ W', (W.alloc (.cells #[.int .i64 v] 3)).grownBy W' dg → W'.heap[c]? = some (.cells #[.map mo, .map mc, dv] 61 (0, 0)) := fun W' hg =>
    (hg.block c (Nat.lt_of_lt_of_le (lt_of h.blk) hA.size) (fun e => hne _ _ (h.dtag _ e.symm) nofun rfl)).trans (hA.hd (fun e => e) h.blk)
  refine (give_x W c v a dr cap dg h0 h1 (by rw [h.c2, hv]) hn (hide (by rw [← hv]; exact h.drw.frame hA.size (fun g e => hA.block g (h.low _ _ (h.dtag g e)) (fun e => e)))) (hide fun W' hg => ⟨by rw [cell_of (hbk W' hg)]; rfl, frozen_of (hbk W' hg) 2⟩)).mono ?_
  rintro e W' ⟨rfl, v', W1, go', hR, hg, hgo, rfl⟩
  have hgo2 : go' = dg ∨ ∃ g, go' = some g ∧ W.heap.size ≤ g := hgo.imp id (fun ⟨g, e1, e2⟩ => ⟨g, e1, Nat.le_trans hA.size e2⟩)
  have hgo' : ∀ g, go' = some g → g ≠ c := by
    intro g e
    rcases hgo2 with h1 | ⟨g', h1, h2⟩
    · exact hne g _ (h.dtag g (by rw [← h1]; exact e)) nofun
    · rw [h1] at e; cases e
      have := lt_of h.blk
      omega
  have hfr : Fr (fun b => dg = some b ∨ b = c) W (W1.setCell ⟨c, 2, none⟩ v') := ((hA.mono (fun _ _ e => e.elim)).trans (Fr.grown hg) (fun _ _ e => .inl e)).trans (Fr.set W1 c 2 v') (fun _ _ e => .inr e)
  have hfr2 : Fr (fun b => own b = some .ob ∨ own b = some .dr) W (W1.setCell ⟨c, 2, none⟩ v') := hfr.mono (fun b _ e => by
    rcases e with e | e
    · exact .inr (h.dtag b e)
    · rw [e]; exact .inl h.tag)
  refine ⟨rfl, more own W.heap.size go' .dr, ⟨hS.draw (by simp; omega) (fun u hu => ?_), ph, mo, mc, fo, fc, v', go', h.setDraw hfr2 (more_old h.low _ _) (more_low h.low hfr.size (fun g e => ?_)) ?_ (hR.frame (by simp) (fun g e => hp_set_other _ _ _ _ _ (hgo' g e))) (more_new h.low hgo2 h.dtag)⟩, hfr2.mono (fun b _ e => by rcases e with e | e <;> rw [e] <;> nofun), more_no _ _⟩
  · rcases List.mem_append.1 hu with hu | hu
    · exact hS.dlow u hu
    · rw [List.mem_singleton.1 hu]; exact ⟨h0, h1⟩
  · subst e; simpa using hR.lt
  · rw [hp_set (hbk W1 hg)]; rfl

theorem does_draw_none (h : Wd W c S [] own) {n : Int} (hn : 1 ≤ n) : Calls Try.prog 23 #[ptr c, .int .i64 n] W fun e W' => e = .returned (.tuple #[.int .i64 0, .int .i64 0]) ∧ W = W' := by
  obtain ⟨hS, ph, mo, mc, fo, fc, dv, dg, h⟩ := h
  obtain ⟨a, cap, hv, _⟩ := h.drw.sl
  exact draw_none W c n hn a cap (by rw [h.c2, hv]; rfl)
theorem does_draw {v : Int} (h : Wd W c S (v :: dr) own) {n : Int} (hn : 1 ≤ n) : Calls Try.prog 23 #[ptr c, .int .i64 n] W fun e W' => e = .returned (.tuple #[.int .i64 (v % n), .int .i64 0]) ∧ Wd W' c S dr own ∧ Kp own own W W' := by
  obtain ⟨hS, ph, mo, mc, fo, fc, dv, dg, h⟩ := h
  have hvv := hS.dlow v (by simp)
  have hrow := h.drw
  rcases hrow with ⟨_, _, e⟩ | ⟨g, off, cap, e1, e2, h3, h4, h5, h6⟩
  · cases e
  have hrow := h.drw
  rw [e2] at hrow
  have cv : W.cell? ⟨g, off, none⟩ = some (.int .i64 v) := by simpa using h6 0 (by simp)
  refine (draw_x W c g off (v :: dr).length cap n v hn hvv.1 hvv.2 (by simp) (by rw [h.c2, e2]) (h.fz 2) cv).mono ?_
  rintro e W' ⟨rfl, rfl⟩
  have hd := hrow.drop (m := 1) (by simp)
  have e5 : (if cap = 1 then some (⟨g, off, none⟩ : Addr) else (some (⟨g, off, none⟩ : Addr)).map (·.add 1)) = (if cap = 1 then some ⟨g, off, none⟩ else some ⟨g, off + 1, none⟩) := by
    have : (⟨g, off, none⟩ : Addr).add 1 = ⟨g, off + 1, none⟩ := by unfold Addr.add; split <;> simp_all
    simp [this]
  rw [e5] at hd
  have hne : ∀ g t, own g = some t → t ≠ .ob → g ≠ c := fun g t e ht eg => by rw [eg, h.tag] at e; cases e; exact ht rfl
  have hfr := Fr.set W c 2 (.slice (if cap = 1 then some ⟨g, off, none⟩ else some ⟨g, off + 1, none⟩) ((v :: dr).length - 1) (cap - 1))
  have hfr2 := hfr.mono (T := fun b => own b = some .ob ∨ own b = some .dr) (fun b _ e => by rw [e]; exact .inl h.tag)
  refine ⟨rfl, ⟨hS.draw (by have := hS.draws; simp at this; omega) (fun u hu => hS.dlow u (by simp [hu])), ph, mo, mc, fo, fc, _, dg, h.setDraw hfr2 (fun _ _ e => e) (fun b t e => Nat.lt_of_lt_of_le (h.low b t e) hfr.size) ?_ (hd.frame hfr.size (fun g e => hp_set_other _ _ _ _ _ (hne g _ (h.dtag g e) nofun))) h.dtag⟩, hfr2.mono (fun b _ e => by rcases e with e | e <;> rw [e] <;> nofun), fun _ _ e => e⟩
  rw [hp_set h.blk]; rfl
end
end Go.Proofs.Ytpgbpfdgbajhlaa
