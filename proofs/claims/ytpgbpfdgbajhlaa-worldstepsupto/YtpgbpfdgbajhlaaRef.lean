/- The document's own world in memory: a row of connections; where one of a number stands. -/
import Derived.Test.YtpgbpfdgbajhlaaAny
namespace Go.Proofs.Ytpgbpfdgbajhlaa
open Go.ChangeShapes Go.WideShapes Go.ChangeAt Go.RowKit

def xcells (x : Cn) (p : Ph) : List Value := [.int .i64 x.num, .bool x.isOpen, .bool x.ended, p.wv, p.sv, .int .i64 x.room]

/-- A row of connections. -/
def LRow (W : World) (lv : Value) (S : List Cn) (px : Nat → Ph) (lg : Option Nat) : Prop :=
  (lg = none ∧ lv = .slice none 0 0 ∧ S = []) ∨
  ∃ g cap, lg = some g ∧ lv = .slice (some ⟨g, 0, none⟩) S.length cap ∧ S.length ≤ cap ∧ g < W.heap.size ∧
    (∀ i, i < cap * 6 → (W.cell? ⟨g, i, none⟩).isSome = true ∧ W.frozen? ⟨g, i, none⟩ = false) ∧ ∀ i x, S[i]? = some x → ∀ k, k < 6 → W.cell? ⟨g, i * 6 + k, none⟩ = (xcells x (px i))[k]?

theorem LRow.frame {W W' : World} {lv : Value} {S : List Cn} {px : Nat → Ph} {lg : Option Nat} (h : LRow W lv S px lg) (hs : W.heap.size ≤ W'.heap.size) (hb : ∀ g, lg = some g → W'.heap[g]? = W.heap[g]?) : LRow W' lv S px lg := by
  rcases h with h | ⟨g, cap, rfl, rfl, h1, h2, h3, h4⟩
  · exact .inl h
  · have e := hb g rfl
    exact .inr ⟨g, cap, rfl, rfl, h1, Nat.lt_of_lt_of_le h2 hs, fun i hi => ⟨by rw [World.cell?_of_block (w := W) (a := ⟨g, i, none⟩) e]; exact (h3 i hi).1, by rw [World.frozen?_of_block (w := W) (a := ⟨g, i, none⟩) e]; exact (h3 i hi).2⟩,
      fun i x hx k hk => by rw [World.cell?_of_block (w := W) (a := ⟨g, i * 6 + k, none⟩) e]; exact h4 i x hx k hk⟩
theorem LRow.shape {W : World} {lv : Value} {S : List Cn} {px : Nat → Ph} {lg : Option Nat} (h : LRow W lv S px lg) : ∃ a cap, lv = .slice a S.length cap ∧ S.length ≤ cap := by
  rcases h with ⟨_, rfl, rfl⟩ | ⟨g, cap, rfl, rfl, h1, _⟩
  · exact ⟨_, _, rfl, Nat.le_refl _⟩
  · exact ⟨_, _, rfl, h1⟩
theorem LRow.at {W : World} {lv : Value} {S : List Cn} {px : Nat → Ph} {lg : Option Nat} (h : LRow W lv S px lg) {i : Nat} {x : Cn} (hx : S[i]? = some x) : ∃ g cap, lg = some g ∧ lv = .slice (some ⟨g, 0, none⟩) S.length cap ∧ S.length ≤ cap ∧ g < W.heap.size ∧
    W.cell? ⟨g, i * 6, none⟩ = some (.int .i64 x.num) ∧ W.cell? ⟨g, i * 6 + 1, none⟩ = some (.bool x.isOpen) ∧ W.cell? ⟨g, i * 6 + 2, none⟩ = some (.bool x.ended) ∧ W.cell? ⟨g, i * 6 + 3, none⟩ = some (px i).wv ∧ W.cell? ⟨g, i * 6 + 4, none⟩ = some (px i).sv ∧ W.cell? ⟨g, i * 6 + 5, none⟩ = some (.int .i64 x.room) ∧
    ∀ k, k < 6 → W.frozen? ⟨g, i * 6 + k, none⟩ = false := by
  have hi : i < S.length := (List.getElem?_eq_some_iff.1 hx).1
  rcases h with ⟨_, _, rfl⟩ | ⟨g, cap, rfl, rfl, h1, h2, h3, h4⟩
  · simp at hx
  · exact ⟨g, cap, rfl, rfl, h1, h2, h4 i x hx 0 (by omega), h4 i x hx 1 (by omega), h4 i x hx 2 (by omega), h4 i x hx 3 (by omega), h4 i x hx 4 (by omega), h4 i x hx 5 (by omega), fun k hk => (h3 (i * 6 + k) (by omega)).2⟩

structure XEnt (W : World) (own : Nat → Option Tag) (i : Nat) (x : Cn) (p : Ph) : Prop where
  wrow : Row W .u8 p.wv x.waits p.wg
  wtag : ∀ g, p.wg = some g → own g = some (.wt i)
  srow : Row W .u8 p.sv x.sent p.sg
  stag : ∀ g, p.sg = some g → own g = some (.st i)
structure XObj (W : World) (d : Nat) (S : List Cn) (dr : List Int) (own : Nat → Option Tag) (lv : Value) (lg : Option Nat) (px : Nat → Ph) (dv : Value) (dg : Option Nat) : Prop where
  blk : W.heap[d]? = some (.cells #[lv, dv] 29 (0, 0))
  tag : own d = some .ob
  low : ∀ b t, own b = some t → b < W.heap.size
  drw : Row W .i64 dv dr dg
  dtag : ∀ g, dg = some g → own g = some .dr
  row : LRow W lv S px lg
  ltag : ∀ g, lg = some g → own g = some .om
  ent : ∀ i x, S[i]? = some x → XEnt W own i x (px i)
def Xd (W : World) (d : Nat) (S : List Cn) (dr : List Int) (own : Nat → Option Tag) : Prop := ∃ lv lg px dv dg, XObj W d S dr own lv lg px dv dg

theorem XEnt.frame {W W' : World} {own own' : Nat → Option Tag} {i : Nat} {x : Cn} {p : Ph} (h : XEnt W own i x p) (hs : W.heap.size ≤ W'.heap.size) (ho : ∀ b t, own b = some t → own' b = some t) (hw : ∀ b, own b = some (.wt i) → W'.heap[b]? = W.heap[b]?) (hst : ∀ b, own b = some (.st i) → W'.heap[b]? = W.heap[b]?) : XEnt W' own' i x p :=
  ⟨h.wrow.frame hs (fun g e => hw g (h.wtag g e)), fun g e => ho _ _ (h.wtag g e), h.srow.frame hs (fun g e => hst g (h.stag g e)), fun g e => ho _ _ (h.stag g e)⟩

section
variable {W : World} {d : Nat} {S : List Cn} {dr : List Int} {own : Nat → Option Tag} {lv : Value} {lg : Option Nat} {px : Nat → Ph} {dv : Value} {dg : Option Nat} {k : Int}

theorem XObj.frame (h : XObj W d S dr own lv lg px dv dg) {W' : World} (hs : W.heap.size ≤ W'.heap.size) (hb : ∀ b t, own b = some t → W'.heap[b]? = W.heap[b]?) : XObj W' d S dr own lv lg px dv dg :=
  ⟨(hb _ _ h.tag).trans h.blk, h.tag, fun b t e => Nat.lt_of_lt_of_le (h.low b t e) hs, h.drw.frame hs (fun g e => hb _ _ (h.dtag g e)), h.dtag, h.row.frame hs (fun g e => hb _ _ (h.ltag g e)), h.ltag,
    fun i x hx => (h.ent i x hx).frame hs (fun _ _ e => e) (fun _ e => hb _ _ e) (fun _ e => hb _ _ e)⟩
theorem Xd.frame (h : Xd W d S dr own) {W' : World} (hs : W.heap.size ≤ W'.heap.size) (hb : ∀ b t, own b = some t → W'.heap[b]? = W.heap[b]?) : Xd W' d S dr own := by
  obtain ⟨lv, lg, px, dv, dg, h⟩ := h
  exact ⟨lv, lg, px, dv, dg, h.frame hs hb⟩
theorem Xd.low (h : Xd W d S dr own) : ∀ b t, own b = some t → b < W.heap.size := by
  obtain ⟨lv, lg, px, dv, dg, h⟩ := h
  exact h.low
theorem Xd.apartF (h : Xd W d S dr own) {W' : World} (hb : Fr (fun _ => False) W W') : Xd W' d S dr own ∧ Kp own own W W' :=
  ⟨h.frame hb.size (fun b t e => hb.block b (h.low b t e) (fun e => e)), hb.mono (fun _ _ e => e.elim), fun _ _ e => e⟩
theorem XObj.c0 (h : XObj W d S dr own lv lg px dv dg) : W.cell? ⟨d, 0, none⟩ = some lv := by rw [cell_of h.blk]; rfl
theorem XObj.c1 (h : XObj W d S dr own lv lg px dv dg) : W.cell? ⟨d, 1, none⟩ = some dv := by rw [cell_of h.blk]; rfl
theorem XObj.fz (h : XObj W d S dr own lv lg px dv dg) (i : Nat) : W.frozen? ⟨d, i, none⟩ = false := frozen_of h.blk i

def FPost (W : World) (S : List Cn) (k : Int) (e : Ending) (W' : World) : Prop :=
  ∃ r, e = .returned (.int .i64 r) ∧ Fr (fun _ => False) W W' ∧ ((∃ (i : Nat) (x : Cn), r = (i : Int) ∧ S[i]? = some x ∧ x.num = k) ∨ (r = -1 ∧ ∀ x ∈ S, x.num ≠ k))
theorem rfind_any (h : XObj W d S dr own lv lg px dv dg) (hl : S.length ≤ 70368744177664) (k : Int) :
    Calls Try.prog 37 #[.pointer (some ⟨d, 0, none⟩), .int .i64 k] W (FPost W S k) := by
  have c0 := h.c0
  obtain ⟨a, cap, hv, _⟩ := h.row.shape
  have HL := hide h
  subst hv
  clear h
  go_enter Try.func37, Try.ntmps37
  go_wp2_with fail
  go_loopw [12] (fun v wr => ∃ j : Nat, j ≤ S.length ∧ v = .int .i64 (j : Int) ∧ Hid (Fr (fun _ => False) W wr ∧ ∀ i x, i < j → S[i]? = some x → x.num ≠ k)) (fun v _ => S.length - (intOf v).toNat)
  case atStart => exact ⟨0, Nat.zero_le _, rfl, hide ⟨Fr.refl _ _, fun i x hi => by omega⟩⟩
  case round =>
    obtain ⟨j, hj, rfl, HJ⟩ := hrel
    by_cases hlt : j < S.length
    · obtain ⟨x, Hx⟩ : ∃ x, Hid (S[j]? = some x) := ⟨S[j], hide (List.getElem?_eq_getElem hlt)⟩
      have hX := (HL.out.frame HJ.out.1.size (fun b t e => HJ.out.1.block b (HL.out.low b t e) (fun e => e)))
      obtain ⟨wa, wc, ew, _⟩ := (hX.ent j x Hx.out).wrow.sl
      obtain ⟨sa, sc, es, _⟩ := (hX.ent j x Hx.out).srow.sl
      obtain ⟨g, cap2, -, hv, -, hg, d0, d1, d2, d3, d4, d5, -⟩ := hX.row.at Hx.out
      rw [ew] at d3
      rw [es] at d4
      simp only [Value.slice.injEq] at hv
      obtain ⟨rfl, -, rfl⟩ := hv
      clear hX ew es
      obtain ⟨xn, xo, xe, xw, xs, xr⟩ := x
      dsimp only at d0 d1 d2 d3 d4 d5
      by_cases hx : xn = k
      · subst hx
        go_wp2_with fail
        go_ret
        exact ⟨_, rfl, HJ.out.1.trans (Fr.alloc (fun _ => False) _ _) (fun _ _ e => e), .inl ⟨j, _, rfl, Hx.out, rfl⟩⟩
      · have hxb : (xn == k) = false := beq_eq_false_iff_ne.2 hx
        go_wp2_with fail
        go_roundw
        case rel => exact ⟨j + 1, by omega, by go_num, hide ⟨HJ.out.1.trans (Fr.alloc (fun _ => False) _ _) (fun _ _ e => e), fun i y hi hy => by
          by_cases e : i = j
          · subst e; rw [Hx.out] at hy; cases hy; exact hx
          · exact HJ.out.2 i y (by omega) hy⟩⟩
        case measure => simp [intOf]; omega
    · have ej : j = S.length := by omega
      subst ej
      go_wp2_with fail
      go_ret
      refine ⟨_, rfl, HJ.out.1, .inr ⟨rfl, fun x hx => ?_⟩⟩
      obtain ⟨i, hi, rfl⟩ := List.getElem_of_mem hx
      exact HJ.out.2 i _ hi (List.getElem?_eq_getElem hi)

theorem same_num {S : List Cn} {dr : List Int} (hS : SOk S dr) {i j : Nat} {x y : Cn} (hx : S[i]? = some x) (hy : S[j]? = some y) (e : x.num = y.num) : i = j ∧ x = y := by
  have hi := (List.getElem?_eq_some_iff.1 hx).1
  have e1 : (S.map Cn.num)[i]? = (S.map Cn.num)[j]? := by rw [List.getElem?_map, List.getElem?_map, hx, hy]; simp [e]
  have e2 := (List.getElem?_inj (by simpa using hi) hS.nums).1 e1
  subst e2
  rw [hx] at hy
  exact ⟨rfl, Option.some.inj hy⟩

def APost (W : World) (r : Int) (e : Ending) (W' : World) : Prop := e = .returned (.int .i64 r) ∧ Fr (fun _ => False) W W'
theorem rat_yes (h : XObj W d S dr own lv lg px dv dg) (hS : SOk S dr) {i : Nat} {x : Cn} (hx : S[i]? = some x) (hop : x.isOpen = true) :
    Calls Try.prog 11 #[.pointer (some ⟨d, 0, none⟩), .int .i64 x.num] W (APost W i) := by
  have hf := hide (rfind_any h hS.size x.num)
  have hsz := hS.size
  have hi := (List.getElem?_eq_some_iff.1 hx).1
  have HL := hide h
  have HS := hide hS
  have Hx := hide hx
  clear h hS hx
  go_enter Try.func11, Try.ntmps11
  go_wp2_with fail
  refine hf.out.mono ?_
  rintro e w1 ⟨r, rfl, F1, hr⟩
  rcases hr with ⟨j, y, rfl, hy, hn⟩ | ⟨_, hn⟩
  · obtain ⟨rfl, rfl⟩ := same_num HS.out hy Hx.out hn
    have hX := (HL.out.frame F1.size (fun b t e => F1.block b (HL.out.low b t e) (fun e => e)))
    have c0 := hX.c0
    obtain ⟨g, cap2, -, hv, hcap, hg, d0, d1, -⟩ := hX.row.at hy
    rw [hv] at c0
    rw [hop] at d1
    have HF := hide F1
    clear hX hv hy hn HL HS Hx hf F1
    go_wp2_with fail
    go_ret
    exact ⟨rfl, HF.out⟩
  · exact absurd rfl (hn x (List.mem_of_getElem? Hx.out))
theorem rat_no (h : XObj W d S dr own lv lg px dv dg) (hS : SOk S dr) (hno : Shut S k) :
    Calls Try.prog 11 #[.pointer (some ⟨d, 0, none⟩), .int .i64 k] W (APost W (-1)) := by
  have hf := hide (rfind_any h hS.size k)
  have hsz := hS.size
  have HL := hide h
  have HN := hide hno
  clear h hS hno
  go_enter Try.func11, Try.ntmps11
  go_wp2_with fail
  refine hf.out.mono ?_
  rintro e w1 ⟨r, rfl, F1, hr⟩
  rcases hr with ⟨j, y, rfl, hy, hn⟩ | ⟨rfl, hn⟩
  · have hX := (HL.out.frame F1.size (fun b t e => F1.block b (HL.out.low b t e) (fun e => e)))
    have c0 := hX.c0
    have hj := (List.getElem?_eq_some_iff.1 hy).1
    obtain ⟨g, cap2, -, hv, hcap, hg, d0, d1, -⟩ := hX.row.at hy
    rw [hv] at c0
    rw [HN.out y (List.mem_of_getElem? hy) hn] at d1
    have HF := hide F1
    clear hX hv hy hn HL HN hf F1
    go_wp2_with fail
    go_ret
    exact ⟨rfl, HF.out⟩
  · have HF := hide F1
    clear HL HN hf F1 hn
    go_wp2_with fail
    go_ret
    exact ⟨rfl, HF.out⟩
end
end Go.Proofs.Ytpgbpfdgbajhlaa
