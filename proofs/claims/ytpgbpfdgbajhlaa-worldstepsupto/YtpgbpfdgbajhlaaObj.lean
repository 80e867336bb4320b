/- A world in memory: its connections, open and closed, each with its own rows; the smallest calls. -/
import Derived.Test.YtpgbpfdgbajhlaaMap
namespace Go.Proofs.Ytpgbpfdgbajhlaa
open Go.ChangeShapes Go.WideShapes Go.ChangeAt Go.RowKit

/-- What a block is for. -/
inductive Tag where
  | ob | om | cm | dr
  | cn (i : Nat) | wt (i : Nat) | st (i : Nat)

/-- A connection that was opened. -/
structure Cn where
  num : Int
  isOpen : Bool
  ended : Bool
  waits : List Int
  sent : List Int
  room : Int

/-- Where it lies. -/
structure Ph where
  blk : Nat
  wv : Value
  sv : Value
  wg : Option Nat
  sg : Option Nat

def ptr (b : Nat) : Value := .pointer (some ⟨b, 0, none⟩)

structure EntOpen (W : World) (own : Nat → Option Tag) (i : Nat) (x : Cn) (p : Ph) : Prop where
  blk : W.heap[p.blk]? = some (.cells #[p.wv, .bool x.ended, .int .i64 x.room, p.sv] 72 (0, 0))
  tag : own p.blk = some (.cn i)
  row : Row W .u8 p.wv x.waits p.wg
  wtag : ∀ g, p.wg = some g → own g = some (.wt i)

structure EntOk (W : World) (own : Nat → Option Tag) (i : Nat) (x : Cn) (p : Ph) : Prop where
  row : Row W .u8 p.sv x.sent p.sg
  stag : ∀ g, p.sg = some g → own g = some (.st i)
  op : x.isOpen = true → EntOpen W own i x p

structure SOk (S : List Cn) (dr : List Int) : Prop where
  nums : (S.map Cn.num).Nodup
  low : ∀ x ∈ S, 0 ≤ x.num ∧ x.num ≤ 9223372036854775807
  wlen : ∀ x ∈ S, x.waits.length ≤ 1048576
  rm : ∀ x ∈ S, 0 ≤ x.room ∧ x.room ≤ 1048576
  cnt : (S.filter Cn.isOpen).length ≤ 1024
  slen : ∀ x ∈ S, x.sent.length ≤ 70368744177664
  size : S.length ≤ 70368744177664
  draws : dr.length ≤ 4096
  dlow : ∀ v ∈ dr, 0 ≤ v ∧ v ≤ 4294967295

structure WObj (W : World) (c : Nat) (S : List Cn) (dr : List Int) (own : Nat → Option Tag) (ph : Nat → Ph) (mo mc : Option Nat) (fo fc : Int → Option Value) (dv : Value) (dg : Option Nat) : Prop where
  blk : W.heap[c]? = some (.cells #[.map mo, .map mc, dv] 61 (0, 0))
  tag : own c = some .ob
  low : ∀ b t, own b = some t → b < W.heap.size
  drw : Row W .i64 dv dr dg
  dtag : ∀ g, dg = some g → own g = some .dr
  maps : (mo = none ∧ mc = none ∧ S = []) ∨ ∃ bo bc, mo = some bo ∧ mc = some bc ∧ own bo = some .om ∧ own bc = some .cm ∧ PM W bo fo 1024 ∧ PM W bc fc S.length
  ent : ∀ i x, S[i]? = some x → EntOk W own i x (ph i)
  fs : ∀ i x, S[i]? = some x → (x.isOpen = true → fo x.num = some (ptr (ph i).blk) ∧ fc x.num = none) ∧ (x.isOpen = false → fo x.num = none ∧ fc x.num = some (ph i).sv)
  fn : ∀ k, (∀ x ∈ S, x.num ≠ k) → fo k = none ∧ fc k = none

theorem EntOpen.frame {W W' : World} {own own' : Nat → Option Tag} {i : Nat} {x : Cn} {p : Ph} (h : EntOpen W own i x p) (hs : W.heap.size ≤ W'.heap.size) (ho : ∀ b t, own b = some t → own' b = some t)
    (hc : ∀ b, own b = some (.cn i) → W'.heap[b]? = W.heap[b]?) (hw : ∀ b, own b = some (.wt i) → W'.heap[b]? = W.heap[b]?) : EntOpen W' own' i x p :=
  ⟨(hc _ h.tag).trans h.blk, ho _ _ h.tag, h.row.frame hs (fun g hg => hw g (h.wtag g hg)), fun g hg => ho _ _ (h.wtag g hg)⟩
theorem EntOk.frame {W W' : World} {own own' : Nat → Option Tag} {i : Nat} {x : Cn} {p : Ph} (h : EntOk W own i x p) (hs : W.heap.size ≤ W'.heap.size) (ho : ∀ b t, own b = some t → own' b = some t)
    (hc : ∀ b, own b = some (.cn i) → W'.heap[b]? = W.heap[b]?) (hw : ∀ b, own b = some (.wt i) → W'.heap[b]? = W.heap[b]?) (hst : ∀ b, own b = some (.st i) → W'.heap[b]? = W.heap[b]?) : EntOk W' own' i x p :=
  ⟨h.row.frame hs (fun g hg => hst g (h.stag g hg)), fun g hg => ho _ _ (h.stag g hg), fun e => (h.op e).frame hs ho hc hw⟩

section
variable {W : World} {c : Nat} {S : List Cn} {dr : List Int} {own : Nat → Option Tag} {ph : Nat → Ph} {mo mc : Option Nat} {fo fc : Int → Option Value} {dv : Value} {dg : Option Nat}

/-- The numbers that are open. -/
def opens (S : List Cn) : List Int := (S.filter Cn.isOpen).map Cn.num
def shuts (S : List Cn) : List Int := (S.filter fun x => !x.isOpen).map Cn.num

theorem opens_nodup (hS : SOk S dr) : (opens S).Nodup := (List.filter_sublist.map Cn.num).nodup hS.nums
theorem shuts_nodup (hS : SOk S dr) : (shuts S).Nodup := (List.filter_sublist.map Cn.num).nodup hS.nums

theorem WObj.opens (h : WObj W c S dr own ph mo mc fo fc dv dg) (k : Int) : k ∈ opens S ↔ (fo k).isSome = true := by
  unfold Ytpgbpfdgbajhlaa.opens
  simp only [List.mem_map, List.mem_filter]
  constructor
  · rintro ⟨x, ⟨hx, ho⟩, rfl⟩
    obtain ⟨i, hi, rfl⟩ := List.getElem_of_mem hx
    rw [((h.fs i _ (List.getElem?_eq_getElem hi)).1 ho).1]; rfl
  · intro hk
    by_cases hn : ∀ x ∈ S, x.num ≠ k
    · rw [(h.fn k hn).1] at hk; cases hk
    · have : ∃ x, x ∈ S ∧ x.num = k := by
        refine Classical.byContradiction fun hc => hn fun x hx e => hc ⟨x, hx, e⟩
      obtain ⟨x, hx, rfl⟩ := this
      refine ⟨x, ⟨hx, ?_⟩, rfl⟩
      obtain ⟨i, hi, rfl⟩ := List.getElem_of_mem hx
      cases ho : S[i].isOpen with
      | true => rfl
      | false => rw [((h.fs i _ (List.getElem?_eq_getElem hi)).2 ho).1] at hk; cases hk
theorem WObj.shuts (h : WObj W c S dr own ph mo mc fo fc dv dg) (k : Int) : k ∈ shuts S ↔ (fc k).isSome = true := by
  unfold Ytpgbpfdgbajhlaa.shuts
  simp only [List.mem_map, List.mem_filter]
  constructor
  · rintro ⟨x, ⟨hx, ho⟩, rfl⟩
    obtain ⟨i, hi, rfl⟩ := List.getElem_of_mem hx
    rw [((h.fs i _ (List.getElem?_eq_getElem hi)).2 (by simpa using ho)).2]; rfl
  · intro hk
    by_cases hn : ∀ x ∈ S, x.num ≠ k
    · rw [(h.fn k hn).2] at hk; cases hk
    · have : ∃ x, x ∈ S ∧ x.num = k := by
        refine Classical.byContradiction fun hc => hn fun x hx e => hc ⟨x, hx, e⟩
      obtain ⟨x, hx, rfl⟩ := this
      refine ⟨x, ⟨hx, ?_⟩, rfl⟩
      obtain ⟨i, hi, rfl⟩ := List.getElem_of_mem hx
      cases ho : S[i].isOpen with
      | false => rfl
      | true => rw [((h.fs i _ (List.getElem?_eq_getElem hi)).1 ho).2] at hk; cases hk

theorem WObj.frame (h : WObj W c S dr own ph mo mc fo fc dv dg) {W' : World} (hs : W.heap.size ≤ W'.heap.size) (hb : ∀ b t, own b = some t → W'.heap[b]? = W.heap[b]?) : WObj W' c S dr own ph mo mc fo fc dv dg :=
  ⟨(hb _ _ h.tag).trans h.blk, h.tag, fun b t e => Nat.lt_of_lt_of_le (h.low b t e) hs, h.drw.frame hs (fun g hg => hb _ _ (h.dtag g hg)), h.dtag,
    h.maps.imp id (fun ⟨bo, bc, e1, e2, t1, t2, p1, p2⟩ => ⟨bo, bc, e1, e2, t1, t2, p1.frame (hb _ _ t1), p2.frame (hb _ _ t2)⟩),
    fun i x hx => (h.ent i x hx).frame hs (fun _ _ e => e) (fun _ e => hb _ _ e) (fun _ e => hb _ _ e) (fun _ e => hb _ _ e), h.fs, h.fn⟩

/-- What a call may have changed: nothing that is not the world's. -/
structure Kp (own own' : Nat → Option Tag) (W W' : World) : Prop where
  fr : Fr (fun b => own b ≠ none) W W'
  no : ∀ b, b < W.heap.size → own b = none → own' b = none

theorem Kp.refl (own : Nat → Option Tag) (W : World) : Kp own own W W := ⟨Fr.refl _ _, fun _ _ e => e⟩
theorem Kp.trans {o1 o2 o3 : Nat → Option Tag} {a b d : World} (h : Kp o1 o2 a b) (k : Kp o2 o3 b d) : Kp o1 o3 a d :=
  ⟨h.fr.trans k.fr (fun i hi e e0 => e (h.no i hi e0)), fun i hi e => k.no i (Nat.lt_of_lt_of_le hi h.fr.size) (h.no i hi e)⟩

/-- One connection that is open changes, in blocks of its own. -/
theorem WObj.setEnt (h : WObj W c S dr own ph mo mc fo fc dv dg) {W' : World} {own' : Nat → Option Tag} {i : Nat} {x x' : Cn} {p' : Ph} (hx : S[i]? = some x) (hop : x.isOpen = true) (hop' : x'.isOpen = true) (hnum : x'.num = x.num) (hblk : p'.blk = (ph i).blk)
    (hfr : Fr (fun b => own b = some (.cn i) ∨ own b = some (.wt i) ∨ own b = some (.st i)) W W') (ho : ∀ b t, own b = some t → own' b = some t) (hlow : ∀ b t, own' b = some t → b < W'.heap.size) (he : EntOk W' own' i x' p') :
    WObj W' c (S.set i x') dr own' (fun j => if j = i then p' else ph j) mo mc fo fc dv dg := by
  have hil : i < S.length := (List.getElem?_eq_some_iff.1 hx).1
  have keep : ∀ b t, own b = some t → t ≠ .cn i → t ≠ .wt i → t ≠ .st i → W'.heap[b]? = W.heap[b]? := by
    intro b t e h1 h2 h3
    refine hfr.block b (h.low b t e) ?_
    rw [e]
    rintro (e | e | e) <;> cases e <;> contradiction
  have hget : ∀ (j : Nat) (y : Cn), (S.set i x')[j]? = some y → (j = i ∧ y = x') ∨ (j ≠ i ∧ S[j]? = some y) := by
    intro j y hy
    rw [List.getElem?_set] at hy
    by_cases hj : i = j
    · subst hj
      rw [if_pos rfl, if_pos hil] at hy
      exact .inl ⟨rfl, (Option.some.inj hy).symm⟩
    · rw [if_neg hj] at hy
      exact .inr ⟨fun e => hj e.symm, hy⟩
  refine ⟨(keep _ _ h.tag nofun nofun nofun).trans h.blk, ho _ _ h.tag, hlow, h.drw.frame hfr.size (fun g hg => keep _ _ (h.dtag g hg) nofun nofun nofun), fun g hg => ho _ _ (h.dtag g hg), ?_, ?_, ?_, ?_⟩
  · rcases h.maps with ⟨e1, e2, e3⟩ | ⟨bo, bc, e1, e2, t1, t2, p1, p2⟩
    · subst e3; simp at hx
    · refine .inr ⟨bo, bc, e1, e2, ho _ _ t1, ho _ _ t2, p1.frame (keep _ _ t1 nofun nofun nofun), ?_⟩
      rw [List.length_set]
      exact p2.frame (keep _ _ t2 nofun nofun nofun)
  · intro j y hy
    rcases hget j y hy with ⟨rfl, rfl⟩ | ⟨hj, hy⟩
    · simpa using he
    · simp only [if_neg hj]
      exact (h.ent j y hy).frame hfr.size ho
        (fun _ e => keep _ _ e (by intro e; cases e; exact hj rfl) nofun nofun)
        (fun _ e => keep _ _ e nofun (by intro e; cases e; exact hj rfl) nofun)
        (fun _ e => keep _ _ e nofun nofun (by intro e; cases e; exact hj rfl))
  · intro j y hy
    rcases hget j y hy with ⟨rfl, rfl⟩ | ⟨hj, hy⟩
    · simp only [if_true]
      have := h.fs _ _ hx
      rw [hnum, hblk]
      exact ⟨fun _ => this.1 hop, fun e => by rw [hop'] at e; cases e⟩
    · simp only [if_neg hj]
      exact h.fs j y hy
  · intro k hk
    refine h.fn k fun y hy => ?_
    obtain ⟨j, hj, rfl⟩ := List.getElem_of_mem hy
    by_cases e : j = i
    · subst e
      have ex : S[j] = x := by
        have := List.getElem?_eq_getElem hj
        rw [hx] at this
        exact (Option.some.inj this).symm
      rw [ex, ← hnum]
      exact hk x' (List.mem_of_getElem? (by rw [List.getElem?_set, if_pos rfl, if_pos hil]))
    · exact hk _ (List.mem_of_getElem? (i := j) (by rw [List.getElem?_set, if_neg (fun h => e h.symm)]; exact List.getElem?_eq_getElem hj))
end
end Go.Proofs.Ytpgbpfdgbajhlaa
