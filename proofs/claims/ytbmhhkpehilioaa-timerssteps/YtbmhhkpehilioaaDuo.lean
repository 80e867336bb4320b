/- Timers, the document's timers and a row of handles, side by side in memory. -/
import Derived.Test.YtbmhhkpehilioaaRel
namespace Go.Proofs.Ytbmhhkpehilioaa
open Go.ChangeShapes Go.WideShapes Go.ChangeAt Go.RowKit

section
variable {W W' : World} {base c : Nat} {most : Int} {L : List Tmr} {G : List Int} {R : Nat → Prop}
theorem rset2 (h : Rm W base c most L G R) (time key : Int) (hm : 0 ≤ time ∧ time ≤ 4611686018427387904) (hroom : (L.length : Int) < most) (hl : L.length ≤ 8192) (hG : G.length ≤ 8192) (hg : ∀ i, i < G.length → 0 ≤ G.getD i 0 ∧ G.getD i 0 < 1125899906842624) :
    Calls Try.prog 13 #[.pointer (some ⟨c, 0, none⟩), .int .i64 time, .int .i64 key] W fun e w' => ∃ (i : Nat) (G1 : List Int) (R' : Nat → Prop), e = .returned (.tuple #[.int .i64 ((G1.getD i 0 + 1) * 4096 + i), .int .i64 0]) ∧ (∀ j, j < i → ¬ freeAt L j) ∧ ((i < G.length ∧ freeAt L i ∧ G1 = G) ∨ (i = G.length ∧ G1 = G ++ [0])) ∧
      Rm w' base c most (L ++ [⟨time, key, (G1.getD i 0 + 1) * 4096 + i⟩]) (G1.set i (G1.getD i 0 + 1)) R' ∧ Kept W w' R R' := by
  obtain ⟨vl, vg, ho, hr⟩ := h.obj
  refine (rset_any ho time key hm hroom hl hG hg).mono ?_
  rintro e w' ⟨i, G1, vl', vg', rfl, h1, h2, h3, h4⟩
  exact ⟨i, G1, _, rfl, h1, h2, ⟨_, _, h3, fun _ x => x⟩, h4.mono hr⟩
theorem rset_full2 (h : Rm W base c most L G R) (time key : Int) (hm : 0 ≤ time ∧ time ≤ 4611686018427387904) (hroom : most ≤ L.length) :
    Calls Try.prog 13 #[.pointer (some ⟨c, 0, none⟩), .int .i64 time, .int .i64 key] W fun e w' => e = .returned (.tuple #[.int .i64 0, .int .i64 5]) ∧ Cl W w' := by
  obtain ⟨vl, vg, ho, hr⟩ := h.obj
  exact rset_full ho time key hm hroom
theorem rhas2 (h : Rm W base c most L G R) (hl : L.length ≤ 8192) (n : Int) :
    Calls Try.prog 15 #[.pointer (some ⟨c, 0, none⟩), .int .i64 n] W fun e w' => ∃ r : Bool, e = .returned (.bool r) ∧ Cl W w' ∧ (r = true ↔ ∃ t, t ∈ L ∧ t.handle = n) := by
  obtain ⟨vl, vg, ho, hr⟩ := h.obj
  exact rhas_any ho hl n
theorem rcancel2 (h : Rm W base c most L G R) (hl : L.length ≤ 8192) (n : Int) :
    Calls Try.prog 17 #[.pointer (some ⟨c, 0, none⟩), .int .i64 n] W fun e w' => e = .returned (.bool (decide ((keep n L).length < L.length))) ∧ ∃ R', Rm w' base c most (keep n L) G R' ∧ Kept W w' R R' := by
  obtain ⟨vl, vg, ho, hr⟩ := h.obj
  refine (rcancel_any ho hl n).mono ?_
  rintro e w' ⟨rfl, h1, v', h2, h3⟩
  refine ⟨rfl, _, ⟨_, _, h2, fun _ x => x⟩, h1.mono (fun k _ e => hr k (.inl e)), fun k hk => ?_⟩
  rcases hk with hk | hk | hk
  · exact .inl (hr k (.inl hk))
  · exact .inr (h3 k hk)
  · exact .inl (hr k (.inr (.inr hk)))
theorem rfire2 (h : Rm W base c most L G R) (hl : L.length ≤ 8192) (now : Int) :
    Calls Try.prog 20 #[.pointer (some ⟨c, 0, none⟩), .int .i64 now] W fun e w' => ∃ u ks X R', e = .returned u ∧ Shot now L ks X ∧ (X = [] ∨ now < (fst1 X).when) ∧ Rm w' base c most X G R' ∧ Kept W w' R R' ∧ w'.ownsRow W.heap.size 3 1 u ks.length (ks.map fun x => Value.int .i64 x) := by
  obtain ⟨vl, vg, ho, hr⟩ := h.obj
  refine (rfire_any ho hl now).mono ?_
  rintro e w' ⟨u, ks, X, v, rfl, h1, h2⟩
  refine ⟨u, ks, X, _, rfl, h1.shot, h2, ⟨_, _, h1.obj, fun _ x => x⟩, ⟨h1.fr.mono (fun k hk e => ?_), fun k hk => ?_⟩, h1.row⟩
  · rcases e with e | e
    · exact hr k (.inl e)
    · omega
  · rcases hk with hk | hk | hk
    · exact .inl (hr k (.inl hk))
    · rcases h1.place k hk with h | h
      · exact .inl (hr k (.inr (.inl h)))
      · exact .inr h
    · exact .inl (hr k (.inr (.inr hk)))
end

structure Duo (W0 wr : World) (b c most : Nat) (turns : Int) (S : List Slot) (D F : List Nat) (L : List Tmr) (G : List Int) (M R : Nat → Prop) (hv : Value) (hs : List Int) (ko : Option (Nat × Go.Obj)) : Prop where
  tm : Tm wr W0.heap.size b most turns S D F M
  rm : Rm wr W0.heap.size c most L G R
  dis : ∀ k, M k → ¬ R k
  loM : ∀ k, M k → W0.heap.size ≤ k ∧ k < wr.heap.size
  loR : ∀ k, R k → W0.heap.size ≤ k ∧ k < wr.heap.size
  hrow : wr.ownsRow W0.heap.size 3 1 hv hs.length (hs.map fun x => Value.int .i64 x)
  hM : ∀ g, hv.ownBlock = some g → ¬ M g ∧ ¬ R g
  old : Fr (fun k => W0.heap.size ≤ k) W0 wr
  kz : ∀ p, ko = some p → wr.heap[p.1]? = some p.2 ∧ W0.heap.size ≤ p.1 ∧ ¬ M p.1 ∧ ¬ R p.1 ∧ hv.ownBlock ≠ some p.1
section
variable {W0 wr w' : World} {b c most : Nat} {turns turns' : Int} {S S' : List Slot} {D D' F F' : List Nat} {L L' : List Tmr} {G G' : List Int} {M M' R R' : Nat → Prop} {hv hv' : Value} {hs hs' : List Int} {ko : Option (Nat × Go.Obj)}
theorem Tm.within (h : Tm w' W0.heap.size b most turns S D F M) : Tm w' W0.heap.size b most turns S D F (fun k => M k ∧ W0.heap.size ≤ k ∧ k < w'.heap.size) := by
  obtain ⟨vs, vd, vf, ho, hm⟩ := h.obj
  exact ⟨⟨vs, vd, vf, ho, fun k hk => ⟨hm k hk, ho.mine_lt hk⟩⟩, h.inv⟩
theorem Rm.within {most : Int} (h : Rm w' W0.heap.size c most L G R) : Rm w' W0.heap.size c most L G (fun k => R k ∧ W0.heap.size ≤ k ∧ k < w'.heap.size) := by
  obtain ⟨vl, vg, ho, hm⟩ := h.obj
  exact ⟨vl, vg, ho, fun k hk => ⟨hm k hk, ho.mine_lt hk⟩⟩
theorem Duo.t (h : Duo W0 wr b c most turns S D F L G M R hv hs ko) (T : Tm w' W0.heap.size b most turns' S' D' F' M') (K : Kept wr w' M M') :
    Duo W0 w' b c most turns' S' D' F' L G (fun k => M' k ∧ W0.heap.size ≤ k ∧ k < w'.heap.size) R hv hs ko := by
  have hsz := K.fr.size
  refine ⟨T.within, h.rm.frame K.fr (fun k _ hR hM => h.dis k hM hR), fun k hk hR => ?_, fun k hk => hk.2, fun k hk => ⟨(h.loR k hk).1, by have := (h.loR k hk).2; omega⟩, owns_frame h.hrow K.fr (fun g hg => (h.hM g hg).1), fun g hg => ⟨fun hk => ?_, (h.hM g hg).2⟩, h.old.trans K.fr (fun k _ hk => (h.loM k hk).1), fun p hp => ?_⟩
  · rcases K.more k hk.1 with h1 | h1
    · exact h.dis k h1 hR
    · have := (h.loR k hR).2; omega
  · rcases K.more g hk.1 with h1 | h1
    · exact (h.hM g hg).1 h1
    · have := (owns_block h.hrow hg).2; omega
  · obtain ⟨h1, h2, h3, h4, h5⟩ := h.kz p hp
    refine ⟨K.fr.hd h3 h1, h2, fun hk => ?_, h4, h5⟩
    rcases K.more p.1 hk.1 with h6 | h6
    · exact h3 h6
    · have := hp_lt h1; omega
theorem Duo.r (h : Duo W0 wr b c most turns S D F L G M R hv hs ko) (T : Rm w' W0.heap.size c most L' G' R') (K : Kept wr w' R R') :
    Duo W0 w' b c most turns S D F L' G' M (fun k => R' k ∧ W0.heap.size ≤ k ∧ k < w'.heap.size) hv hs ko := by
  have hsz := K.fr.size
  refine ⟨h.tm.frame K.fr (fun k _ hM hR => h.dis k hM hR), T.within, fun k hM hk => ?_, fun k hk => ⟨(h.loM k hk).1, by have := (h.loM k hk).2; omega⟩, fun k hk => hk.2, owns_frame h.hrow K.fr (fun g hg => (h.hM g hg).2), fun g hg => ⟨(h.hM g hg).1, fun hk => ?_⟩, h.old.trans K.fr (fun k _ hk => (h.loR k hk).1), fun p hp => ?_⟩
  · rcases K.more k hk.1 with h1 | h1
    · exact h.dis k hM h1
    · have := (h.loM k hM).2; omega
  · rcases K.more g hk.1 with h1 | h1
    · exact (h.hM g hg).2 h1
    · have := (owns_block h.hrow hg).2; omega
  · obtain ⟨h1, h2, h3, h4, h5⟩ := h.kz p hp
    refine ⟨K.fr.hd h4 h1, h2, h3, fun hk => ?_, h5⟩
    rcases K.more p.1 hk.1 with h6 | h6
    · exact h4 h6
    · have := hp_lt h1; omega
theorem Duo.cl (h : Duo W0 wr b c most turns S D F L G M R hv hs ko) (hF : Cl wr w') : Duo W0 w' b c most turns S D F L G M R hv hs ko :=
  ⟨h.tm.cl hF, h.rm.cl hF, h.dis, fun k hk => ⟨(h.loM k hk).1, Nat.lt_of_lt_of_le (h.loM k hk).2 hF.out.size⟩, fun k hk => ⟨(h.loR k hk).1, Nat.lt_of_lt_of_le (h.loR k hk).2 hF.out.size⟩, owns_frame h.hrow hF.out (fun _ _ x => x), h.hM, h.old.trans hF.out (fun _ _ x => x.elim), fun p hp => ⟨hF.out.hd (fun x => x) (h.kz p hp).1, (h.kz p hp).2⟩⟩
theorem Duo.h (h : Duo W0 wr b c most turns S D F L G M R hv hs ko) (hF : Fr (fun k => some k = hv.ownBlock) wr w') (ho : w'.ownsRow W0.heap.size 3 1 hv' hs'.length (hs'.map fun x => Value.int .i64 x)) (hl : hv'.ownBlock = hv.ownBlock ∨ ∃ g, hv'.ownBlock = some g ∧ wr.heap.size ≤ g) :
    Duo W0 w' b c most turns S D F L G M R hv' hs' ko := by
  have hsz := hF.size
  refine ⟨h.tm.frame hF (fun k _ hM e => (h.hM k e.symm).1 hM), h.rm.frame hF (fun k _ hR e => (h.hM k e.symm).2 hR), h.dis, fun k hk => ⟨(h.loM k hk).1, by have := (h.loM k hk).2; omega⟩, fun k hk => ⟨(h.loR k hk).1, by have := (h.loR k hk).2; omega⟩, ho, fun g hg => ?_, h.old.trans hF (fun k _ e => (owns_block h.hrow e.symm).1), fun p hp => ?_⟩
  · rcases hl with hl | ⟨g', hl, hg'⟩
    · exact h.hM g (hl ▸ hg)
    · rw [hg] at hl
      simp at hl
      exact ⟨fun hk => by have := (h.loM g hk).2; omega, fun hk => by have := (h.loR g hk).2; omega⟩
  · obtain ⟨h1, h2, h3, h4, h5⟩ := h.kz p hp
    refine ⟨hF.hd (fun e => h5 e.symm) h1, h2, h3, h4, fun e => ?_⟩
    rcases hl with hl | ⟨g', hl, hg'⟩
    · exact h5 (hl ▸ e)
    · rw [e] at hl; simp at hl; have := hp_lt h1; omega
theorem Duo.drop (h : Duo W0 wr b c most turns S D F L G M R hv hs ko) : Duo W0 wr b c most turns S D F L G M R hv hs none :=
  ⟨h.tm, h.rm, h.dis, h.loM, h.loR, h.hrow, h.hM, h.old, nofun⟩
theorem Duo.take (h : Duo W0 wr b c most turns S D F L G M R hv hs none) (o : Go.Obj) : Duo W0 (wr.alloc o) b c most turns S D F L G M R hv hs (some (wr.heap.size, o)) := by
  have h2 := h.cl (w' := wr.alloc o) (Fr.alloc _ _ _)
  refine ⟨h2.tm, h2.rm, h2.dis, h2.loM, h2.loR, h2.hrow, h2.hM, h2.old, fun p hp => ?_⟩
  cases hp
  exact ⟨hp_new wr o, h.old.size, fun hk => by have := (h.loM _ hk).2; omega, fun hk => by have := (h.loR _ hk).2; omega, fun e => by have := (owns_block h.hrow e).2; omega⟩

/-- What Next tells. -/
def nxt (S : List Slot) (D : List Nat) : Int := if D.length = 0 then 0 else (sg S (gt D 0)).when
theorem next2 (h : Tm wr W0.heap.size b most turns S D F M) : Calls Try.prog 21 #[.pointer (some ⟨b, 0, none⟩)] wr fun e w' => e = .returned (.tuple #[.int .i64 (nxt S D), .bool (decide (0 < D.length))]) ∧ Cl wr w' := by
  by_cases h0 : D.length = 0
  · refine (next_none h h0).mono ?_
    rintro e w' ⟨rfl, rfl⟩
    exact ⟨by simp [nxt, h0], Cl.refl _⟩
  · refine (next_some h (by omega)).mono ?_
    rintro e w' ⟨rfl, hc⟩
    exact ⟨by rw [nxt, if_neg h0, decide_eq_true (by omega)], hc⟩
theorem rnext2 {P : List Nat} (h : Rm wr W0.heap.size c most L G R) (hI : Inv most turns S D F) (ht : turns ≤ 1125899906842624) (hr : Rel S D L G P) : Calls Try.prog 22 #[.pointer (some ⟨c, 0, none⟩)] wr fun e w' => e = .returned (.tuple #[.int .i64 (nxt S D), .bool (decide (0 < D.length))]) ∧ Cl wr w' := by
  obtain ⟨vl, vg, ho, _⟩ := h.obj
  have hl := hr.len
  have h1 := hI.lens
  have h2 := hI.len
  have h3 := hI.m2
  by_cases h0 : D.length = 0
  · refine (rnext_none ho (by omega)).mono ?_
    rintro e w' ⟨rfl, rfl⟩
    exact ⟨by simp [nxt, h0], Cl.refl _⟩
  · refine (rnext_some ho (by omega) (by omega)).mono ?_
    rintro e w' ⟨rfl, hc⟩
    exact ⟨by rw [nxt, if_neg h0, decide_eq_true (by omega), hr.next hI ht (by omega)], hc⟩
theorem len2 (h : Tm wr W0.heap.size b most turns S D F M) (q : Nat) : Calls Try.prog 23 #[.pointer (some ⟨b, 0, none⟩)] (wr.drewN q) fun e w' => e = .returned (.int .i64 (D.length : Int)) ∧ w' = wr.drewN q := by
  obtain ⟨vs, vd, vf, ho, _⟩ := h.obj
  refine (len_any (ho.cl (W' := wr.drewN q) (Fr.drewN (fun _ => False) _ _))).mono ?_
  rintro e w' ⟨rfl, rfl⟩
  exact ⟨rfl, rfl⟩
end
end Go.Proofs.Ytbmhhkpehilioaa
