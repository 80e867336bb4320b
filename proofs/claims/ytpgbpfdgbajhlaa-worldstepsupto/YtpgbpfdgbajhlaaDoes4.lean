/- A world's calls: a connection is opened, or closed. -/
import Derived.Test.YtpgbpfdgbajhlaaDoes3
namespace Go.Proofs.Ytpgbpfdgbajhlaa
open Go.ChangeShapes Go.WideShapes Go.ChangeAt Go.RowKit

section
variable {W : World} {c : Nat} {S : List Cn} {dr : List Int} {own : Nat → Option Tag} {i : Nat} {x : Cn} {k : Int}

theorem does_open_low (W : World) (c : Nat) (hk : k < 0) : Calls Try.prog 18 #[ptr c, .int .i64 k] W fun e W' => e = .returned (.int .i64 1) ∧ W = W' := open_low W _ k hk
theorem does_open_was (h : Wd W c S dr own) (hx : S[i]? = some x) : Calls Try.prog 18 #[ptr c, .int .i64 x.num] W fun e W' => e = .returned (.int .i64 7) ∧ W = W' := by
  obtain ⟨hS, ph, mo, mc, fo, fc, dv, dg, h⟩ := h
  refine open_was W _ x.num (hS.low x (List.mem_of_getElem? hx)).1 (hide ?_)
  have hck := h.lookCk (hS.wf hx)
  have hok := h.lookO (hS.wf hx)
  cases hop : x.isOpen with
  | true =>
    rw [((h.fs i x hx).1 hop).2] at hck
    rw [((h.fs i x hx).1 hop).1] at hok
    exact was_open W c (ph i).blk x.num mo mc _ h.c1 h.c0 hck hok
  | false =>
    rw [((h.fs i x hx).2 hop).2] at hck
    exact was_shut W c x.num mc _ h.c1 hck
theorem Wd.wasNo (h : Wd W c S dr own) (hk : (Lit.int .i64 k).wf = true) (hno : ∀ x ∈ S, x.num ≠ k) : Hid (Calls Try.prog 41 #[.pointer (some ⟨c, 0, none⟩), .int .i64 k] W fun e W' => e = .returned (.bool false) ∧ W = W') := by
  obtain ⟨hS, ph, mo, mc, fo, fc, dv, dg, h⟩ := h
  have hck := h.lookCk hk
  have hok := h.lookO hk
  rw [(h.fn k hno).2] at hck
  rw [(h.fn k hno).1] at hok
  exact hide (was_none W c k mo mc _ h.c1 h.c0 hck hok)
theorem lenNone (W : World) : (Builtin.len_ #[58] 3 #[.map none]).run Try.prog W = .ok (.int .i64 0) W := Maps.len_nil Try.underlying58 3
theorem does_open_full (h : Wd W c S dr own) (hk : 0 ≤ k) (hk2 : k ≤ 9223372036854775807) (hno : ∀ x ∈ S, x.num ≠ k) (hf : 1024 ≤ (S.filter Cn.isOpen).length) : Calls Try.prog 18 #[ptr c, .int .i64 k] W fun e W' => e = .returned (.int .i64 5) ∧ W = W' := by
  have hw := h.wasNo (wf_of (by omega) hk2) hno
  obtain ⟨hS, ph, mo, mc, fo, fc, dv, dg, h⟩ := h
  rcases h.maps with ⟨rfl, _, rfl⟩ | ⟨bo, bc, rfl, rfl, t1, t2, p1, p2⟩
  · simp at hf
  · exact open_full W c (opens S).length k (some bo) hk hw h.c0 (p1.len Try.underlying58 3 (opens_nodup hS) h.opens) (by simpa [opens] using hf)
theorem upd_isSome {f : Int → Option Value} {k : Int} {v : Value} {ks : List Int} (h : ∀ j, j ∈ ks ↔ (f j).isSome = true) (hk : f k = none) : (∀ j, j ∈ k :: ks ↔ (upd f k (some v) j).isSome = true) ∧ k ∉ ks := by
  refine ⟨fun j => ?_, fun e => by rw [h k, hk] at e; cases e⟩
  unfold upd
  by_cases e : j = k
  · subst e; simp
  · simp [e, h j]
theorem does_open (h : Wd W c S dr own) (hk : 0 ≤ k) (hk2 : k ≤ 9223372036854775807) (hno : ∀ x ∈ S, x.num ≠ k) (hf : (S.filter Cn.isOpen).length < 1024) (hs : S.length < 70368744177664) :
    Calls Try.prog 18 #[ptr c, .int .i64 k] W fun e W' => e = .returned (.int .i64 0) ∧ ∃ own', Wd W' c (S ++ [fresh k]) dr own' ∧ Kp own own' W W' := by
  have hkw : (Lit.int .i64 k).wf = true := wf_of (by omega) hk2
  have hw := h.wasNo hkw hno
  obtain ⟨hS, ph, mo, mc, fo, fc, dv, dg, h⟩ := h
  have hS' := hS.push hno hk hk2 hf hs
  have hcl := lt_of h.blk
  rcases h.maps with ⟨rfl, rfl, rfl⟩ | ⟨bo, bc, rfl, rfl, t1, t2, p1, p2⟩
  · refine (open_first W c k hk hkw hw h.c0 h.c1 (h.fz 0) (h.fz 1) (lenNone W) hcl).mono ?_
    rintro e W' ⟨rfl, hP, ht⟩
    have hfr := Fr.turned ht
    have hold : ∀ b, b < W.heap.size → b ≠ c → W'.heap[b]? = W.heap[b]? := fun b hb hne => (hfr.block b (by rw [First.size]; omega) (by omega)).trans (First.old W c b hb hne)
    have hsz : W.heap.size + 3 ≤ W'.heap.size := by have := hfr.size; rw [First.size] at this; exact this
    have hfoc : ∀ j, fo j = none ∧ fc j = none := fun j => h.fn j nofun
    have hfo : fo = fun _ => none := funext fun j => (hfoc j).1
    have hfc : fc = fun _ => none := funext fun j => (hfoc j).2
    let own' : Nat → Option Tag := fun b => if b = W.heap.size then some .om else if b = W.heap.size + 1 then some .cm else if b = W.heap.size + 2 then some (.cn 0) else own b
    have ho : ∀ b t, own b = some t → own' b = some t := by
      intro b t e
      have := h.low b t e
      show (if b = W.heap.size then _ else if b = W.heap.size + 1 then _ else if b = W.heap.size + 2 then _ else own b) = some t
      rw [if_neg (by omega), if_neg (by omega), if_neg (by omega)]; exact e
    have hl' : ∀ b t, own' b = some t → b < W'.heap.size := by
      intro b t e
      have e : (if b = W.heap.size then some Tag.om else if b = W.heap.size + 1 then some .cm else if b = W.heap.size + 2 then some (.cn 0) else own b) = some t := e
      split at e
      · omega
      · split at e
        · omega
        · split at e
          · omega
          · have := h.low b t e; omega
    refine ⟨rfl, own', ⟨hS', _, _, _, _, fc, dv, dg, h.push (W' := W') (own' := own') (bo := W.heap.size) (bc := W.heap.size + 1) (nb := W.heap.size + 2) hno (by omega) ho hl' (fun b t e h1 _ _ => hold b (h.low b t e) (fun eb => ?_)) ?_ ?_ ?_ ?_ ?_ ?_ ?_⟩, ⟨?_, ?_⟩⟩
    · rw [eb, h.tag] at e; cases e; exact h1 rfl
    · exact (hfr.block c (by rw [First.size]; omega) (by omega)).trans (First.ob W c _ _ dv h.blk)
    · simp [own']
    · simp [own']
    · rw [hfo]; exact hP.mono (by omega)
    · rw [hfc]; exact ((First.pm2 W c).frame (hfr.block _ (by rw [First.size]; omega) (by omega))).mono (Nat.zero_le _)
    · simp [own']
    · exact (hfr.block _ (by rw [First.size]; omega) (by omega)).trans (First.new W c)
    · refine ⟨ht.grown.os.trans (First.os W c).1, ht.grown.tape.trans (First.os W c).2.1, ht.grown.output.trans (First.os W c).2.2, by omega, fun b hb hne => hold b hb (fun e => hne (by rw [e, h.tag]; nofun))⟩
    · intro b hb e
      show (if b = W.heap.size then _ else if b = W.heap.size + 1 then _ else if b = W.heap.size + 2 then _ else own b) = none
      rw [if_neg (by omega), if_neg (by omega), if_neg (by omega)]; exact e
  · have hle : (opens S).length < 1024 := by simpa [opens] using hf
    have p1' := p1.tight (opens_nodup hS) h.opens
    refine (open_x W c (opens S).length bo k fo hk hkw hw h.c0 (p1.len Try.underlying58 3 (opens_nodup hS) h.opens) hle (hide p1')).mono ?_
    rintro e W' ⟨rfl, hP, ht⟩
    have hA := Fr.alloc (fun _ => False) W (.cells Fresh 72)
    have hfr : Fr (fun b => b = bo) W W' := (hA.mono (fun _ _ e => e.elim)).trans (Fr.turned ht) (fun _ _ e => e)
    have hsz : W.heap.size + 1 ≤ W'.heap.size := by have := (Fr.turned ht).size; simpa using this
    have hbol := p1.lt
    let own' : Nat → Option Tag := fun b => if b = W.heap.size then some (.cn S.length) else own b
    have ho : ∀ b t, own b = some t → own' b = some t := by
      intro b t e
      have := h.low b t e
      show (if b = W.heap.size then _ else own b) = some t
      rw [if_neg (by omega)]; exact e
    have hl' : ∀ b t, own' b = some t → b < W'.heap.size := by
      intro b t e
      have e : (if b = W.heap.size then some (Tag.cn S.length) else own b) = some t := e
      split at e
      · omega
      · have := h.low b t e; omega
    have hne : ∀ g t, own g = some t → t ≠ .om → g ≠ bo := fun g t e ht eg => by rw [eg, t1] at e; cases e; exact ht rfl
    refine ⟨rfl, own', ⟨hS', _, _, _, _, fc, dv, dg, h.push (W' := W') (own' := own') (bo := bo) (bc := bc) (nb := W.heap.size) hno hfr.size ho hl' (fun b t e _ h2 _ => hfr.block b (h.low b t e) (hne b t e h2)) (hfr.hd (hne c _ h.tag nofun) h.blk) (ho _ _ t1) (ho _ _ t2) (hP.mono (by omega)) ((p2.frame (hfr.block bc p2.lt (hne bc _ t2 nofun))).mono (Nat.le_succ _)) ?_ ?_⟩, ⟨hfr.mono (fun b _ e => by rw [e, t1]; nofun), ?_⟩⟩
    · simp [own']
    · exact ((Fr.turned ht).block W.heap.size (by simp) (by omega)).trans (MapKept.heap_alloc W _).1
    · intro b hb e
      show (if b = W.heap.size then _ else own b) = none
      rw [if_neg (by omega)]; exact e

theorem does_close (h : Wd W c S dr own) (hx : S[i]? = some x) (hop : x.isOpen = true) :
    Calls Try.prog 25 #[ptr c, .int .i64 x.num] W fun e W' => e = .returned (.int .i64 0) ∧ Wd W' c (S.set i { x with isOpen := false }) dr own ∧ Kp own own W W' := by
  obtain ⟨hS, ph, mo, mc, fo, fc, dv, dg, h⟩ := h
  have hE := (h.ent i x hx).op hop
  have hF := h.ent i x hx
  rcases h.maps with ⟨rfl, rfl, rfl⟩ | ⟨bo, bc, rfl, rfl, t1, t2, p1, p2⟩
  · simp at hx
  have hkw := hS.wf hx
  obtain ⟨a, cap, hv, _⟩ := hF.row.sl
  have hne : bo ≠ bc := fun e => by rw [e, t2] at t1; cases t1
  have hneo : ∀ g t, own g = some t → t ≠ .om → g ≠ bo := fun g t e ht eg => by rw [eg, t1] at e; cases e; exact ht rfl
  have hnec : ∀ g t, own g = some t → t ≠ .cm → g ≠ bc := fun g t e ht eg => by rw [eg, t2] at e; cases e; exact ht rfl
  have hcnt : (shuts S).length ≤ S.length := by simp only [shuts, List.length_map]; exact List.length_filter_le _ _
  have p2' := (p2.tight (shuts_nodup hS) h.shuts).frame (W' := W.drew) rfl
  obtain ⟨W1, hup, q2, ht2⟩ := p2'.store Try.underlying59 (by have := hS.size; unfold maxLen; omega) hkw (ph i).sv
  have hf1 : Fr (fun b => b = bc) W W1 := ((Fr.drew (fun _ => False) W).mono (fun _ _ e => e.elim)).trans (Fr.turned ht2) (fun _ _ e => e)
  have q1 := p1.frame (hf1.block bo p1.lt hne)
  obtain ⟨W2, hdel, q3, ht1⟩ := q1.drop Try.underlying58 hkw 0
  have hf2 := Fr.turned ht1
  have hfr : Fr (fun b => b = bc ∨ b = bo) W W2 := (hf1.mono (fun _ _ e => .inl e)).trans hf2 (fun _ _ e => .inr e)
  have hb1 := hf1.hd (hnec c _ h.tag nofun) h.blk
  rw [hv] at hup
  refine (close_x W W1 W2 c (ph i).blk bo bc x.num a x.sent.length cap (hide (find_at h hS hx hop)) h.c1 (by rw [cell_of hE.blk, ← hv]; rfl) hup (by rw [cell_of hb1]; rfl) hdel).mono ?_
  rintro e W' ⟨rfl, rfl⟩
  have hfc : fc x.num = none := ((h.fs i x hx).1 hop).2
  have q2' := (q2.frame (hf2.block bc q2.lt (fun e => hne e.symm))).mono (Nat.le_of_eq rfl)
  have htight := q2'.tight (ks := x.num :: shuts S) (by
    refine List.nodup_cons.2 ⟨(upd_isSome (v := (ph i).sv) h.shuts hfc).2, shuts_nodup hS⟩) (upd_isSome h.shuts hfc).1
  have hlen : (x.num :: shuts S).length ≤ S.length := by
    have hil := (List.getElem?_eq_some_iff.1 hx).1
    have h1 : (S.filter fun y => !y.isOpen).length < S.length := by
      refine Nat.lt_of_le_of_ne (List.length_filter_le _ _) (fun e => ?_)
      have := List.length_filter_eq_length_iff.1 e x (List.mem_of_getElem? hx)
      rw [hop] at this; cases this
    simp only [List.length_cons, shuts, List.length_map]; omega
  refine ⟨rfl, ⟨hS.shut hx, ph, some bo, some bc, _, _, dv, dg, h.shut hS hx hfr.size (fun b t e h1 h2 => hfr.block b (h.low b t e) (fun e2 => ?_)) t1 t2 q3 (htight.mono hlen)⟩, hfr.mono (fun b _ e => ?_), fun _ _ e => e⟩
  · rcases e2 with e2 | e2
    · exact hnec b t e h2 e2
    · exact hneo b t e h1 e2
  · rcases e with e | e <;> rw [e]
    · rw [t2]; nofun
    · rw [t1]; nofun
end
end Go.Proofs.Ytpgbpfdgbajhlaa
