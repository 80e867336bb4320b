/- The document's own world: what is read. -/
import Derived.Test.YtpgbpfdgbajhlaaRefMore
namespace Go.Proofs.Ytpgbpfdgbajhlaa
open Go.ChangeShapes Go.WideShapes Go.ChangeAt Go.RowKit

structure RdInv (w1 wr : World) (u9 u10 : Value) (Q : List Int) (N j : Nat) (go9 go10 : Option Nat) : Prop where
  r9 : Row wr .u8 u9 (Q.take (min j N)) go9
  r10 : Row wr .u8 u10 ((Q.take j).drop N) go10
  fr : Fr (fun _ => False) w1 wr
  n9 : ∀ g, go9 = some g → w1.heap.size ≤ g
  n10 : ∀ g, go10 = some g → w1.heap.size ≤ g
  ap : ∀ g, go9 = some g → go10 ≠ some g

theorem take_more {Q : List Int} {j : Nat} (h : j < Q.length) : Q.take j ++ [Q.getD j 0] = Q.take (j + 1) := by
  rw [List.take_add_one, List.getElem?_eq_getElem h]
  simp [List.getD, h]
theorem Sl.cells' {W : World} {q : IntKind} {a : Option Addr} {cap : Nat} {l : List Int} (h : Sl W q (.slice a l.length cap) l) : ∀ i, i < l.length → ∃ b off, a = some ⟨b, off, none⟩ ∧ W.cell? ⟨b, off + i, none⟩ = some (.int q (l.getD i 0)) := by
  obtain ⟨a', cap', e, _, _, h⟩ := h
  cases e
  exact h
theorem Fr.cellR {W W' : World} (h : Fr (fun _ => False) W W') {a : Addr} {v : Value} (hc : W.cell? a = some v) : W'.cell? a = some v :=
  (World.cell?_of_block (h.block a.block (World.block_lt_of_cell? _ _ hc) (fun e => e))).trans hc
theorem Sl.oneB (W : World) (x : Int) : Sl (W.alloc (.cells #[.int .u8 x] 5)) .u8 (.slice (some ⟨W.heap.size, 0, none⟩) 1 1) [x] :=
  (Row.ofNew W .u8 5 #[.int .u8 x] [x] 1 (Nat.le_refl _) (Nat.le_refl _) (fun i hi => by
    match i, hi with
    | 0, _ => rfl)).sl
theorem RdInv.out {w1 wr W2 : World} {u9 u10 v : Value} {Q : List Int} {N j : Nat} {go9 go10 go' : Option Nat} {y : Int} (h : RdInv w1 wr u9 u10 Q N j go9 go10) (hj : j < Q.length) (hy : Q.getD j 0 = y) (hN : j < N) {o : Obj} (hg : (wr.alloc o).grownBy W2 go9) (hR : Row W2 .u8 v (Q.take (min j N) ++ [y]) go') (hgo : go' = go9 ∨ ∃ g, go' = some g ∧ (wr.alloc o).heap.size ≤ g) : RdInv w1 W2 v u10 Q N (j + 1) go' go10 := by
  have hA := Fr.alloc (fun _ => False) wr o
  have hl10 : ∀ g, go10 = some g → g < wr.heap.size := fun g e => by have h1 := h.r10; rw [e] at h1; exact h1.lt
  have e0 : (Q.take (j + 1)).drop N = (Q.take j).drop N := by rw [List.drop_eq_nil_of_le (by simp; omega), List.drop_eq_nil_of_le (by simp; omega)]
  refine ⟨?_, by rw [e0]; exact h.r10.frame (Nat.le_trans hA.size hg.size) (fun g e => (hg.block g (Nat.lt_of_lt_of_le (hl10 g e) hA.size) (fun e2 => h.ap g e2.symm e)).trans (hA.block g (hl10 g e) (fun e => e))), (h.fr.trans hA (fun _ _ e => e)).trans (Fr.grown hg) (fun b hb e => by have := h.n9 b e; omega), ?_, h.n10, ?_⟩
  · rw [← hy, show min j N = j by omega, take_more hj] at hR
    rw [show min (j + 1) N = j + 1 by omega]; exact hR
  · intro g e
    rcases hgo with h1 | ⟨g', h1, h2⟩
    · exact h.n9 g (by rw [← h1]; exact e)
    · rw [h1] at e; cases e
      have := h.fr.size
      have := hA.size
      omega
  · intro g e e2
    rcases hgo with h1 | ⟨g', h1, h2⟩
    · exact h.ap g (by rw [← h1]; exact e) e2
    · rw [h1] at e; cases e
      have := hl10 g e2
      have := hA.size
      omega
theorem RdInv.rest {w1 wr W2 : World} {u9 u10 v : Value} {Q : List Int} {N j : Nat} {go9 go10 go' : Option Nat} {y : Int} (h : RdInv w1 wr u9 u10 Q N j go9 go10) (hj : j < Q.length) (hy : Q.getD j 0 = y) (hN : N ≤ j) {o : Obj} (hg : (wr.alloc o).grownBy W2 go10) (hR : Row W2 .u8 v ((Q.take j).drop N ++ [y]) go') (hgo : go' = go10 ∨ ∃ g, go' = some g ∧ (wr.alloc o).heap.size ≤ g) : RdInv w1 W2 u9 v Q N (j + 1) go9 go' := by
  have hA := Fr.alloc (fun _ => False) wr o
  have hl9 : ∀ g, go9 = some g → g < wr.heap.size := fun g e => by have h1 := h.r9; rw [e] at h1; exact h1.lt
  refine ⟨?_, ?_, (h.fr.trans hA (fun _ _ e => e)).trans (Fr.grown hg) (fun b hb e => by have := h.n10 b e; omega), h.n9, ?_, ?_⟩
  · rw [show min (j + 1) N = N by omega, ← show min j N = N by omega]
    exact h.r9.frame (Nat.le_trans hA.size hg.size) (fun g e => (hg.block g (Nat.lt_of_lt_of_le (hl9 g e) hA.size) (fun e2 => h.ap g e e2.symm)).trans (hA.block g (hl9 g e) (fun e => e)))
  · rw [← hy] at hR
    have e : (Q.take j).drop N ++ [Q.getD j 0] = (Q.take (j + 1)).drop N := by
      rw [← take_more hj, List.drop_append_of_le_length (by simp; omega)]
    rw [← e]; exact hR
  · intro g e
    rcases hgo with h1 | ⟨g', h1, h2⟩
    · exact h.n10 g (by rw [← h1]; exact e)
    · rw [h1] at e; cases e
      have := h.fr.size
      have := hA.size
      omega
  · intro g e e2
    rcases hgo with h1 | ⟨g', h1, h2⟩
    · exact h.ap g e (by rw [← h1]; exact e2)
    · rw [h1] at e2; cases e2
      have := hl9 g e
      have := hA.size
      omega

section
variable {W : World} {d : Nat} {S : List Cn} {dr : List Int} {own : Nat → Option Tag} {lv : Value} {lg : Option Nat} {px : Nat → Ph} {dv : Value} {dg : Option Nat} {k : Int} {i : Nat} {x : Cn}

set_option maxRecDepth 20000 in
set_option maxHeartbeats 1000000 in
theorem rread_yes (h : XObj W d S dr own lv lg px dv dg) (hS : SOk S dr) (hx : S[i]? = some x) (hop : x.isOpen = true) (n : Int) :
    Calls Try.prog 31 #[.pointer (some ⟨d, 0, none⟩), .int .i64 x.num, .int .i64 n] W fun e W' => ∃ v' go own', e = .returned (.tuple #[v', .int .i64 0]) ∧ Row W' .u8 v' (x.waits.take (clip n x.waits)) go ∧ (∀ g, go = some g → W.heap.size ≤ g ∧ own' g = none) ∧ Xd W' d (S.set i { x with waits := x.waits.drop (clip n x.waits) }) dr own' ∧ Kp own own' W W' := by
  have hA := hide (rat_yes h hS hx hop)
  have hsz := hS.size
  have hwl := hS.wlen x (List.mem_of_getElem? hx)
  have hi := (List.getElem?_eq_some_iff.1 hx).1
  have HL := hide h
  have Hx := hide hx
  clear h hS hx
  obtain ⟨Q, HQ⟩ : ∃ Q, Hid (x.waits = Q) := ⟨_, hide rfl⟩
  rw [HQ.out] at hwl ⊢
  obtain ⟨N, HN⟩ : ∃ N, Hid (N = clip n Q) := ⟨_, hide rfl⟩
  rw [← HN.out]
  have hNl : N ≤ Q.length := by rw [HN.out]; exact clip_le _ _
  have HNn : Hid (∀ j : Nat, j < Q.length → ((j : Int) < n ↔ j < N)) := hide (fun j hj => by rw [HN.out]; unfold clip; omega)
  clear HN
  go_enter Try.func31, Try.ntmps31
  go_wp2_with fail
  refine hA.out.mono ?_
  rintro e w1 ⟨rfl, F1⟩
  have hX := xfr HL.out F1
  have c0 := hX.c0
  obtain ⟨wa, wc, ew, hwc, _⟩ := (hX.ent i x Hx.out).wrow.sl
  obtain ⟨g, cap2, hlg, hv, hcap, hg, d0, d1, d2, d3, d4, d5, fz⟩ := hX.row.at Hx.out
  have hE := hX.ent i x Hx.out
  have hSw : Sl w1 .u8 (.slice wa x.waits.length wc) x.waits := by rw [← ew]; exact hE.wrow.sl
  have HC := hide (Sl.cells' hSw)
  have hf3 := fz 3 (by omega)
  rw [hv] at c0
  rw [ew] at d3
  have HX := hide hX
  have HF1 := hide F1
  have hdl := lt_of hX.blk
  rw [HQ.out] at HC hwc d3
  clear hX hv HL hA F1 fz d0 d1 d2 d4 d5 ew hE hSw
  have I0 : Hid (∃ go9 go10, RdInv w1 w1 (.slice none 0 0) (.slice none 0 0) Q N 0 go9 go10) := hide ⟨none, none, by simpa using Row.nil w1 .u8, by simpa using Row.nil w1 .u8, Fr.refl _ _, nofun, nofun, nofun⟩
  go_wp2_with fail
  go_loopw [9, 10, 27] (fun u9 u10 v wr => ∃ j : Nat, j ≤ Q.length ∧ v = .int .i64 (j : Int) ∧ Hid (∃ go9 go10, RdInv w1 wr u9 u10 Q N j go9 go10)) (fun _ _ v _ => Q.length - (intOf v).toNat)
  case atStart => exact ⟨0, Nat.zero_le _, rfl, I0⟩
  case round =>
    clear I0
    obtain ⟨j, hj, rfl, HI⟩ := hrel
    obtain ⟨go9, go10, hI⟩ := HI.out
    obtain ⟨a9, c9, e9, _⟩ := hI.r9.sl
    obtain ⟨a10, c10, e10, _⟩ := hI.r10.sl
    obtain ⟨m9, hm9⟩ : ∃ m, m = (Q.take (min j N)).length := ⟨_, rfl⟩
    obtain ⟨m10, hm10⟩ : ∃ m, m = ((Q.take j).drop N).length := ⟨_, rfl⟩
    rw [← hm9] at e9
    rw [← hm10] at e10
    subst e9 e10
    clear hm9 hm10
    by_cases hlt : j < Q.length
    · obtain ⟨qb, qo, rfl, cq⟩ := HC.out j hlt
      have cq1 := hI.fr.cellR cq
      obtain ⟨y, Hy⟩ : ∃ y, Hid (Q.getD j 0 = y) := ⟨_, hide rfl⟩
      rw [Hy.out] at cq1
      have HIH := hide hI
      have HOne := hide (Sl.oneB wr y)
      have hA9 := hide (hI.r9.frame (Fr.alloc (fun _ => False) wr (.cells #[.int .u8 y] 5)).size (fun b e => (Fr.alloc (fun _ => False) wr (.cells #[.int .u8 y] 5)).block b (by have h1 := hI.r9; rw [e] at h1; exact h1.lt) (fun e => e)))
      have hA10 := hide (hI.r10.frame (Fr.alloc (fun _ => False) wr (.cells #[.int .u8 y] 5)).size (fun b e => (Fr.alloc (fun _ => False) wr (.cells #[.int .u8 y] 5)).block b (by have h1 := hI.r10; rw [e] at h1; exact h1.lt) (fun e => e)))
      have hl9 : (Q.take (min j N)).length ≤ 1048576 := by simp; omega
      have hl10 : ((Q.take j).drop N).length ≤ 1048576 := by simp; omega
      clear hI HI cq
      by_cases hjn : (j : Int) < n
      · have hjN := (HNn.out j hlt).1 hjn
        go_wp2_with (first
          | (at_builtin; refine wpList_append_bytes rfl _ _ rfl _ (.slice a9 m9 c9) (.slice (some ⟨wr.heap.size, 0, none⟩) 1 1) (Q.take (min j N)) [y] go9 rfl rfl hA9.out HOne.out (by simp only [List.length_cons, List.length_nil]; omega) ?_
             intro v' W2 go' h1 h2 h3
             have HI2 := hide (HIH.out.out hlt Hy.out hjN h2 h1 h3)
             obtain ⟨a2, n2, d2, rfl⟩ := h1.shape
             clear h1 h2 h3)
          | go_in)
        go_roundw
        case rel => exact ⟨j + 1, by omega, by go_num, hide ⟨_, _, HI2.out⟩⟩
        case measure => simp [intOf]; omega
      · have hjn2 : n ≤ (j : Int) := by omega
        have hjN : N ≤ j := by have := (HNn.out j hlt); omega
        clear hjn
        go_wp2_with (first
          | (at_builtin; refine wpList_append_bytes rfl _ _ rfl _ (.slice a10 m10 c10) (.slice (some ⟨wr.heap.size, 0, none⟩) 1 1) ((Q.take j).drop N) [y] go10 rfl rfl hA10.out HOne.out (by simp only [List.length_cons, List.length_nil]; omega) ?_
             intro v' W2 go' h1 h2 h3
             have HI2 := hide (HIH.out.rest hlt Hy.out hjN h2 h1 h3)
             obtain ⟨a2, n2, d2, rfl⟩ := h1.shape
             clear h1 h2 h3)
          | go_in)
        go_roundw
        case rel => exact ⟨j + 1, by omega, by go_num, hide ⟨_, _, HI2.out⟩⟩
        case measure => simp [intOf]; omega
    · have ej : j = Q.length := by omega
      subst ej
      have k0 := hI.fr.cellR c0
      have k3 := hI.fr.cellR d3
      have kf : wr.frozen? ⟨g, i * 6 + 3, none⟩ = false := (World.frozen?_of_block (a := ⟨g, i * 6 + 3, none⟩) (hI.fr.block g hg (fun e => e))).trans hf3
      have R9 := hI.r9
      have R10 := hI.r10
      rw [show min Q.length N = N by omega] at R9
      rw [List.take_length] at R10
      have fin := hide (Xd.waits HX.out hlg Hx.out (go := none) (hI.fr.mono (fun _ _ e => e.elim)) R10 (by
        cases go10 with
        | none => exact .inl rfl
        | some b => exact .inr ⟨b, rfl, hI.n10 b rfl⟩) nofun)
      have HR9 := hide R9
      have HI9 := hide hI
      clear HC HI hI R9 R10 d3 c0 hf3
      go_wp2_with fail
      go_ret2
      refine ⟨_, go9, _, rfl, HR9.out.frame (by simp) (fun b e => hp_set_other _ _ _ _ _ ?_), fun b e => ⟨Nat.le_trans HF1.out.size (HI9.out.n9 b e), ?_⟩, fin.out.1, (kfr (own := own) HF1.out).trans fin.out.2⟩
      · have := HI9.out.n9 b e
        omega
      · have h1 := HI9.out.n9 b e
        unfold more
        rw [if_neg (fun h => HI9.out.ap b e h.2)]
        cases ho : own b with
        | none => rfl
        | some t => have := HX.out.low b t ho; omega
end
end Go.Proofs.Ytpgbpfdgbajhlaa
