/- A world's calls: what each tells, and what the world is behind it. -/
import Derived.Test.YtpgbpfdgbajhlaaRest
namespace Go.Proofs.Ytpgbpfdgbajhlaa
open Go.ChangeShapes Go.WideShapes Go.ChangeAt Go.RowKit

section
variable {W : World} {c : Nat} {S : List Cn} {dr : List Int} {own : Nat → Option Tag} {i : Nat} {x : Cn} {k : Int}

/-- No open connection has this number. -/
def Shut (S : List Cn) (k : Int) : Prop := ∀ x ∈ S, x.num = k → x.isOpen = false

theorem Wd.findNo (h : Wd W c S dr own) (hk : (Lit.int .i64 k).wf = true) (hno : Shut S k) : Hid (Calls Try.prog 36 #[.pointer (some ⟨c, 0, none⟩), .int .i64 k] W fun e W' => e = .returned (.pointer none) ∧ W = W') := by
  obtain ⟨hS, ph, mo, mc, fo, fc, dv, dg, h⟩ := h
  exact hide (find_no h hk hno)
theorem does_close_no (h : Wd W c S dr own) (hk : (Lit.int .i64 k).wf = true) (hno : Shut S k) : Calls Try.prog 25 #[ptr c, .int .i64 k] W fun e W' => e = .returned (.int .i64 6) ∧ W = W' := close_none _ _ _ (h.findNo hk hno)
theorem does_arrive_no (h : Wd W c S dr own) (hk : (Lit.int .i64 k).wf = true) (hno : Shut S k) (src : Value) : Calls Try.prog 19 #[ptr c, .int .i64 k, src] W fun e W' => e = .returned (.int .i64 6) ∧ W = W' := arrive_none _ _ _ _ (h.findNo hk hno)
theorem does_end_no (h : Wd W c S dr own) (hk : (Lit.int .i64 k).wf = true) (hno : Shut S k) : Calls Try.prog 29 #[ptr c, .int .i64 k] W fun e W' => e = .returned (.int .i64 6) ∧ W = W' := end_none _ _ _ (h.findNo hk hno)
theorem does_read_no (h : Wd W c S dr own) (hk : (Lit.int .i64 k).wf = true) (hno : Shut S k) (n : Int) : Calls Try.prog 20 #[ptr c, .int .i64 k, .int .i64 n] W fun e W' => e = .returned (.tuple #[.slice none 0 0, .int .i64 6]) ∧ W = W' := read_none _ _ _ _ (h.findNo hk hno)
theorem does_room_no (h : Wd W c S dr own) (hk : (Lit.int .i64 k).wf = true) (hno : Shut S k) (n : Int) : Calls Try.prog 21 #[ptr c, .int .i64 k, .int .i64 n] W fun e W' => e = .returned (.int .i64 6) ∧ W = W' := room_none _ _ _ _ (h.findNo hk hno)
theorem does_write_no (h : Wd W c S dr own) (hk : (Lit.int .i64 k).wf = true) (hno : Shut S k) (src : Value) : Calls Try.prog 22 #[ptr c, .int .i64 k, src] W fun e W' => e = .returned (.tuple #[.int .i64 0, .int .i64 6]) ∧ W = W' := write_none _ _ _ _ (h.findNo hk hno)
theorem does_waits_no (h : Wd W c S dr own) (hk : (Lit.int .i64 k).wf = true) (hno : Shut S k) : Calls Try.prog 10 #[ptr c, .int .i64 k] W fun e W' => e = .returned (.tuple #[.int .i64 0, .bool false]) ∧ W = W' := waits_none _ _ _ (h.findNo hk hno)

theorem does_waits (h : Wd W c S dr own) (hx : S[i]? = some x) (hop : x.isOpen = true) :
    Calls Try.prog 10 #[ptr c, .int .i64 x.num] W fun e W' => e = .returned (.tuple #[.int .i64 x.waits.length, .bool x.ended]) ∧ Wd W' c S dr own ∧ Kp own own W W' := by
  have h0 := h
  obtain ⟨hS, ph, mo, mc, fo, fc, dv, dg, h⟩ := h
  have hE := (h.ent i x hx).op hop
  obtain ⟨a, cap, hv, _⟩ := hE.row.sl
  refine (waits_x W c (ph i).blk x.num a x.waits.length cap x.ended (hide (find_at h hS hx hop)) (by rw [cell_of hE.blk, ← hv]; rfl) (by rw [cell_of hE.blk]; rfl)).mono ?_
  rintro e W' ⟨rfl, n, rfl⟩
  exact ⟨rfl, h0.frame (Nat.le_refl _) (fun _ _ _ => rfl), Fr.drewN _ _ _, fun _ _ e => e⟩

/-- A connection's block changes, and a row of its own. -/
theorem Wd.turn {ph : Nat → Ph} {mo mc : Option Nat} {fo fc : Int → Option Value} {dv : Value} {dg : Option Nat} (h : WObj W c S dr own ph mo mc fo fc dv dg) (hx : S[i]? = some x) (hop : x.isOpen = true) {W' : World} {own' : Nat → Option Tag} {x' : Cn} {p' : Ph} (hS' : SOk (S.set i x') dr) (hop' : x'.isOpen = true) (hnum : x'.num = x.num) (hblk : p'.blk = (ph i).blk)
    (hfr : Fr (fun b => own b = some (.cn i) ∨ own b = some (.wt i) ∨ own b = some (.st i)) W W') (ho : ∀ b t, own b = some t → own' b = some t) (hlow : ∀ b t, own' b = some t → b < W'.heap.size) (hno : ∀ b, b < W.heap.size → own b = none → own' b = none) (he : EntOk W' own' i x' p') :
    Wd W' c (S.set i x') dr own' ∧ Kp own own' W W' :=
  ⟨⟨hS', _, mo, mc, fo, fc, dv, dg, h.setEnt hx hop hop' hnum hblk hfr ho hlow he⟩, hfr.mono (fun b _ e => by rcases e with e | e | e <;> rw [e] <;> nofun), hno⟩

theorem does_end (h : Wd W c S dr own) (hx : S[i]? = some x) (hop : x.isOpen = true) :
    Calls Try.prog 29 #[ptr c, .int .i64 x.num] W fun e W' => e = .returned (.int .i64 0) ∧ Wd W' c (S.set i { x with ended := true }) dr own ∧ Kp own own W W' := end_at h hx hop

theorem does_room_bad (h : Wd W c S dr own) (hx : S[i]? = some x) (hop : x.isOpen = true) {n : Int} (hn : n < 0) :
    Calls Try.prog 21 #[ptr c, .int .i64 x.num, .int .i64 n] W fun e W' => e = .returned (.int .i64 1) ∧ W = W' := by
  obtain ⟨hS, ph, mo, mc, fo, fc, dv, dg, h⟩ := h
  exact room_bad W c (ph i).blk x.num n (hide (find_at h hS hx hop)) hn

theorem does_room (h : Wd W c S dr own) (hx : S[i]? = some x) (hop : x.isOpen = true) {n : Int} (hn : 0 ≤ n) :
    Calls Try.prog 21 #[ptr c, .int .i64 x.num, .int .i64 n] W fun e W' => e = .returned (.int .i64 0) ∧ Wd W' c (S.set i { x with room := min 1048576 (x.room + n) }) dr own ∧ Kp own own W W' := by
  obtain ⟨hS, ph, mo, mc, fo, fc, dv, dg, h⟩ := h
  have hE := (h.ent i x hx).op hop
  have hm := List.mem_of_getElem? hx
  have hr := hS.rm x hm
  refine (room_x W c (ph i).blk x.num n x.room (hide (find_at h hS hx hop)) (by rw [cell_of hE.blk]; rfl) (frozen_of hE.blk 2) hr.1 hr.2 hn).mono ?_
  rintro e W' ⟨rfl, rfl⟩
  refine ⟨rfl, ?_⟩
  have hfr : Fr (fun b => b = (ph i).blk) W (W.setCell ⟨(ph i).blk, 2, none⟩ (.int .i64 (min 1048576 (x.room + n)))).drew := (Fr.set W (ph i).blk 2 _).trans (Fr.drew (fun _ => False) _) (fun _ _ e => e.elim)
  have hne : ∀ g t, own g = some t → t ≠ .cn i → g ≠ (ph i).blk := fun g t e ht eg => by rw [eg, hE.tag] at e; cases e; exact ht rfl
  refine Wd.turn h hx hop (p' := ph i) (hS.set hx rfl rfl (hS.wlen x hm) ⟨by simp only; omega, by simp only; omega⟩ (hS.slen x hm)) hop rfl rfl (hfr.mono (fun b _ e => by rw [e]; exact .inl hE.tag)) (fun _ _ e => e) (fun b t e => Nat.lt_of_lt_of_le (h.low b t e) hfr.size) (fun _ _ e => e) ?_
  refine ⟨(h.ent i x hx).row.frame hfr.size (fun g hg => hfr.block g ((h.low _ _ ((h.ent i x hx).stag g hg))) (hne g _ ((h.ent i x hx).stag g hg) nofun)), (h.ent i x hx).stag, fun _ => ⟨?_, hE.tag, hE.row.frame hfr.size (fun g hg => hfr.block g (h.low _ _ (hE.wtag g hg)) (hne g _ (hE.wtag g hg) nofun)), hE.wtag⟩⟩
  show (W.setCell ⟨(ph i).blk, 2, none⟩ _).heap[(ph i).blk]? = _
  rw [hp_set hE.blk]; rfl

/-- What belongs to the world, and a new row besides. -/
def more (own : Nat → Option Tag) (B : Nat) (go : Option Nat) (t : Tag) : Nat → Option Tag := fun b => if B ≤ b ∧ go = some b then some t else own b
theorem more_old {own : Nat → Option Tag} {B : Nat} (hl : ∀ b t, own b = some t → b < B) (go : Option Nat) (t : Tag) : ∀ b u, own b = some u → more own B go t b = some u := by
  intro b u e
  have := hl b u e
  unfold more
  rw [if_neg (by omega)]; exact e
theorem more_no {own : Nat → Option Tag} {B : Nat} (go : Option Nat) (t : Tag) : ∀ b, b < B → own b = none → more own B go t b = none := by
  intro b hb e
  unfold more
  rw [if_neg (by omega)]; exact e
theorem more_new {own : Nat → Option Tag} {B : Nat} {go go' : Option Nat} {t : Tag} (hl : ∀ b t, own b = some t → b < B) (h : go' = go ∨ ∃ g, go' = some g ∧ B ≤ g) (ht : ∀ g, go = some g → own g = some t) : ∀ g, go' = some g → more own B go' t g = some t := by
  intro g e
  rcases h with h | ⟨g', h, hb⟩
  · rw [h] at e
    exact more_old hl _ _ g t (ht g e)
  · rw [h] at e
    cases e
    unfold more
    rw [if_pos ⟨hb, h⟩]
theorem more_low {own : Nat → Option Tag} {B N : Nat} {go : Option Nat} {t : Tag} (hl : ∀ b t, own b = some t → b < B) (hBN : B ≤ N) (hg : ∀ g, go = some g → g < N) : ∀ b u, more own B go t b = some u → b < N := by
  intro b u e
  unfold more at e
  split at e
  · rename_i h; exact hg b h.2
  · exact Nat.lt_of_lt_of_le (hl b u e) hBN

theorem does_arrive_ended (h : Wd W c S dr own) (hx : S[i]? = some x) (hop : x.isOpen = true) (he : x.ended = true) (src : Value) :
    Calls Try.prog 19 #[ptr c, .int .i64 x.num, src] W fun e W' => e = .returned (.int .i64 7) ∧ W = W' := by
  obtain ⟨hS, ph, mo, mc, fo, fc, dv, dg, h⟩ := h
  have hE := (h.ent i x hx).op hop
  exact arrive_ended W c (ph i).blk x.num src (hide (find_at h hS hx hop)) (by rw [cell_of hE.blk, ← he]; rfl)
theorem does_arrive_long (h : Wd W c S dr own) (hx : S[i]? = some x) (hop : x.isOpen = true) (he : x.ended = false) {src : Value} {X : List Int} (hX : Sl W .u8 src X) (hl : X.length ≤ 140737488355328) (hlong : 1048576 < x.waits.length + X.length) :
    Calls Try.prog 19 #[ptr c, .int .i64 x.num, src] W fun e W' => e = .returned (.int .i64 2) ∧ W = W' := by
  obtain ⟨hS, ph, mo, mc, fo, fc, dv, dg, h⟩ := h
  have hE := (h.ent i x hx).op hop
  obtain ⟨a, cap, hv, _⟩ := hE.row.sl
  obtain ⟨a', cap', rfl, _⟩ := hX
  exact arrive_long W c (ph i).blk x.num a a' x.waits.length cap X.length cap' (hide (find_at h hS hx hop)) (by rw [cell_of hE.blk, ← hv]; rfl) (by rw [cell_of hE.blk, ← he]; rfl) (hS.wlen x (List.mem_of_getElem? hx)) hl hlong

theorem does_arrive (h : Wd W c S dr own) (hx : S[i]? = some x) (hop : x.isOpen = true) (he : x.ended = false) {src : Value} {X : List Int} (hX : Sl W .u8 src X) (hl : x.waits.length + X.length ≤ 1048576) :
    Calls Try.prog 19 #[ptr c, .int .i64 x.num, src] W fun e W' => e = .returned (.int .i64 0) ∧ ∃ own', Wd W' c (S.set i { x with waits := x.waits ++ X }) dr own' ∧ Kp own own' W W' := by
  obtain ⟨hS, ph, mo, mc, fo, fc, dv, dg, h⟩ := h
  have hE := (h.ent i x hx).op hop
  have hm := List.mem_of_getElem? hx
  obtain ⟨a, cap, hv, _⟩ := hE.row.sl
  have hX0 := hX
  obtain ⟨a', cap', rfl, _⟩ := hX
  have hne : ∀ g t, own g = some t → t ≠ .cn i → g ≠ (ph i).blk := fun g t e ht eg => by rw [eg, hE.tag] at e; cases e; exact ht rfl
  have hbk : ∀ W', W.grownBy W' (ph i).wg → W'.heap[(ph i).blk]? = some (.cells #[(ph i).wv, .bool x.ended, .int .i64 x.room, (ph i).sv] 72 (0, 0)) := fun W' hg => (hg.block _ (lt_of hE.blk) (fun e => hne _ _ (hE.wtag _ e.symm) nofun rfl)).trans hE.blk
  refine (arrive_x W c (ph i).blk x.num a a' x.waits X cap cap' (ph i).wg (hide (find_at h hS hx hop)) (by rw [cell_of hE.blk, ← hv]; rfl) (by rw [cell_of hE.blk, ← he]; rfl) hl (hide (by rw [← hv]; exact hE.row)) (hide hX0) (hide fun W' hg => ⟨by rw [cell_of (hbk W' hg)]; rfl, frozen_of (hbk W' hg) 0⟩)).mono ?_
  rintro e W' ⟨rfl, v', W1, go', hR, hg, hgo, rfl⟩
  have hb1 := hbk W1 hg
  have hs1 : (W1.setCell ⟨(ph i).blk, 0, none⟩ v').heap.size = W1.heap.size := by simp
  have hgo' : ∀ g, go' = some g → g ≠ (ph i).blk := by
    intro g e
    rcases hgo with h1 | ⟨g', h1, h2⟩
    · exact hne g _ (hE.wtag g (by rw [← h1]; exact e)) nofun
    · rw [h1] at e; cases e
      have := lt_of hE.blk
      omega
  have hfr : Fr (fun b => (ph i).wg = some b ∨ b = (ph i).blk) W (W1.setCell ⟨(ph i).blk, 0, none⟩ v') := ((Fr.grown hg).mono (fun _ _ e => .inl e)).trans (Fr.set W1 (ph i).blk 0 v') (fun _ _ e => .inr e)
  refine ⟨rfl, more own W.heap.size go' (.wt i), ?_⟩
  refine Wd.turn h hx hop (p' := { ph i with wv := v', wg := go' }) (hS.set hx rfl rfl (by simpa using hl) (hS.rm x hm) (hS.slen x hm)) hop rfl rfl (hfr.mono (fun b _ e => ?_)) (more_old h.low _ _) (more_low h.low (Nat.le_trans hg.size (by simp)) (fun g e => ?_)) (more_no _ _) ?_
  · rcases e with e | e
    · exact .inr (.inl (hE.wtag b e))
    · rw [e]; exact .inl hE.tag
  · subst e; rw [hs1]; exact hR.lt
  · refine ⟨(h.ent i x hx).row.frame hfr.size (fun g e => hfr.block g (h.low _ _ ((h.ent i x hx).stag g e)) (fun e2 => ?_)), fun g e => more_old h.low _ _ _ _ ((h.ent i x hx).stag g e), fun _ => ⟨?_, more_old h.low _ _ _ _ hE.tag, hR.frame (by simp) (fun g e => hp_set_other _ _ _ _ _ (hgo' g e)), more_new h.low hgo hE.wtag⟩⟩
    · rcases e2 with e2 | e2
      · have h1 := (h.ent i x hx).stag g e
        rw [hE.wtag g e2] at h1; cases h1
      · exact hne g _ ((h.ent i x hx).stag g e) nofun e2
    · rw [hp_set hb1]; rfl
end
end Go.Proofs.Ytpgbpfdgbajhlaa
