/- What Head hands back. -/
import Derived.Test.YtcagjipdldlehaaGreatDoorHSz
import Derived.Test.YtcagjipdldlehaaGreatDoorBlk
namespace Go.Proofs.YtcagjipdldlehaaGreatDoor
open Go.ChangeShapes Go.WideShapes Go.ChangeAt Go.RowKit

theorem append_fld_j (W : World) (base : Nat) (ty : TypeId) (v : Value) (A : List (ByteArray × ByteArray)) (f : ByteArray × ByteArray) (hown : FRow W base v A) (hn : A.length ≤ 1099511627776) (hbase : base ≤ W.heap.size) :
    ∃ v' W', (Builtin.append_ #[43, 43] ty #[v, .slice (some ⟨W.heap.size, 0, none⟩) 1 1]).run Tryz.prog (W.alloc (.cells #[.string f.1, .string f.2] 48)) = .ok v' W' ∧ FRow W' base v' (A ++ [f]) ∧ Below base W W' ∧ ∀ k, k < W.heap.size → v.ownBlock ≠ some k → W'.heap[k]? = W.heap[k]? := by
  obtain ⟨i, hi, hz, hs1, hb1⟩ := infoF
  have ho : FRow (W.alloc (.cells #[.string f.1, .string f.2] 48)) base v A := hown.frame fun g hg => Below.heap_alloc W _ g (hown.lt hg).2
  obtain ⟨v', W', hr, h1, hg, _⟩ := run_append_own (w := W.alloc (.cells #[.string f.1, .string f.2] 48)) base 43 ty 48 i _ 2 32 Tryz.underlying43 hi hz hs1 hb1 rfl (by omega) v A.length (fcs A) ho ⟨W.heap.size, 0, none⟩ 1 1 (fc f) rfl (two_cells W f) (by intro u hu; simp [fc] at hu; rcases hu with rfl | rfl <;> rfl) (by unfold maxLen; omega) (by omega) (by simp; omega)
  refine ⟨v', W', hr, ?_, ?_, ?_⟩
  · unfold FRow
    rw [List.length_append, fcs_snoc]
    exact h1
  · exact ((Below.refl base W).alloc hbase _).grown hg (by simp; omega) (fun k hk => (hown.lt hk).1)
  · intro k hk hne
    exact (hg.block k (by simp; omega) (fun e => hne e.symm)).trans (Below.heap_alloc W _ k hk)
theorem cell_heap {W W' : World} {b : Nat} (h : W'.heap[b]? = W.heap[b]?) (j : Nat) : W'.cell? ⟨b, j, none⟩ = W.cell? ⟨b, j, none⟩ := by
  unfold World.cell?
  simp [h]
theorem Bl.low {w x y : World} {L : List (Array Value × TypeId)} (h : Bl w x L) {base : Nat} (hb : w.heap.size + L.length ≤ base) (b : Below base x y) : Bl w y L :=
  ⟨fun i c t hi => (b.block _ (by have := (List.getElem?_eq_some_iff.1 hi).1; omega)).trans (h.hp i c t hi), h.b.trans (b.mono (by omega))⟩
theorem FRow.setOld {W : World} {base : Nat} {v : Value} {A : List (ByteArray × ByteArray)} (h : FRow W base v A) {g : Nat} (hg : g < base) (i : Nat) (u : Value) : FRow (W.setCell ⟨g, i, none⟩ u) base v A :=
  h.frame fun k hk => Below.heap_setCell W ⟨g, i, none⟩ u k (by have := (h.lt hk).1; simp; omega)
theorem Bl.hd {w x : World} {L : List (Array Value × TypeId)} (h : Bl w x L) (i g : Nat) (hg : g = w.heap.size + i) {r : Bool} {me ta : ByteArray} {mi st : Int} {re : ByteArray} {l : Value} {t : TypeId} (hi : L[i]? = some (#[.bool r, .string me, .string ta, .int .i64 mi, .int .i64 st, .string re, l], t)) :
    x.cell? ⟨g, 0, none⟩ = some (.bool r) ∧ x.cell? ⟨g, 1, none⟩ = some (.string me) ∧ x.cell? ⟨g, 2, none⟩ = some (.string ta) ∧ x.cell? ⟨g, 3, none⟩ = some (.int .i64 mi) ∧ x.cell? ⟨g, 4, none⟩ = some (.int .i64 st) ∧ x.cell? ⟨g, 5, none⟩ = some (.string re) ∧ x.cell? ⟨g, 6, none⟩ = some l := by
  subst hg
  exact ⟨h.cell i hi 0, h.cell i hi 1, h.cell i hi 2, h.cell i hi 3, h.cell i hi 4, h.cell i hi 5, h.cell i hi 6⟩
theorem FRow.lower {W : World} {base base2 : Nat} {v : Value} {A : List (ByteArray × ByteArray)} (h : FRow W base v A) (hb : base2 ≤ base) : FRow W base2 v A := by
  refine ⟨h.1, ?_⟩
  rcases h.2 with x | ⟨g, cap, cur, rfl, h1, r⟩
  · exact .inl x
  · exact .inr ⟨g, cap, cur, rfl, Nat.le_trans hb h1, r⟩
/-- The fields that have not the name n. -/
def hdV (p : Pz) (l : Value) : Value := .agg #[.bool p.req, .string p.me, .string p.ta, .int .i64 (p.minor : Int), .int .i64 (p.status : Int), .string p.re, l]
def hd0 : Value := .agg #[.bool false, .string ⟨#[]⟩, .string ⟨#[]⟩, .int .i64 0, .int .i64 0, .string ⟨#[]⟩, .slice none 0 0]
set_option maxHeartbeats 8000000 in
set_option maxRecDepth 100000 in
theorem head_whole {w : World} {base g : Nat} {lv fv : Value} {p : Pz} (h : Par w base g lv fv p) (hw : p.whole = true) (hz : Sz p) (hf : Fit p) :
    Calls Tryz.prog 34 #[.pointer (some ⟨g, 0, none⟩)] w fun e w' => ∃ l, e = .returned (hdV p l) ∧ FRow w' w.heap.size l p.fs ∧ Below w.heap.size w w' := by
  obtain ⟨fa, fc, rfl, _, _⟩ := h.flds.shape
  have c13 : w.cell? ⟨g, 13, none⟩ = some (.bool true) := by have := h.cell 13; rw [show (pcells p g lv (.slice fa p.fs.length fc))[13]? = some (.bool p.whole) from rfl, hw] at this; exact this
  have c6 : w.cell? ⟨g, 6, none⟩ = some (.bool p.req) := h.cell 6
  have c7 : w.cell? ⟨g, 7, none⟩ = some (.string p.me) := h.cell 7
  have c8 : w.cell? ⟨g, 8, none⟩ = some (.string p.ta) := h.cell 8
  have c9 : w.cell? ⟨g, 9, none⟩ = some (.int .i64 (p.minor : Int)) := h.cell 9
  have c10 : w.cell? ⟨g, 10, none⟩ = some (.int .i64 (p.status : Int)) := h.cell 10
  have c11 : w.cell? ⟨g, 11, none⟩ = some (.string p.re) := h.cell 11
  have c12 : w.cell? ⟨g, 12, none⟩ = some (.slice fa p.fs.length fc) := h.cell 12
  have hgl := h.lt
  have HGL : Hid (g < w.heap.size) := hide h.lt
  have F0 := hide (Flds.of_row h.flds)
  have z1 := hz.me
  have z2 := hz.ta
  have z3 := hz.re
  have HZF := hide hz.fs
  have hal := hf.fs
  unfold hdV
  clear h hw hz hf
  obtain ⟨_, _, _, _, _, _, r, me, ta, mi, st, re, A, _, _⟩ := p
  dsimp only at *
  have HC12 := hide c12
  obtain ⟨_, _, he0, ⟨_, _⟩, hcells⟩ := F0.out
  simp only [Value.slice.injEq, true_and] at he0
  obtain ⟨rfl, rfl⟩ := he0
  have HC0 := hide hcells
  clear hcells
  go_enter Tryz.func34, Tryz.ntmps34
  go_upto_region 4 with fail
  have T0 := hide (Bl.two w #[.bool false, .string ⟨#[]⟩, .string ⟨#[]⟩, .int .i64 0, .int .i64 0, .string ⟨#[]⟩, .slice none 0 0] 45 #[.bool r, .string me, .string ta, .int .i64 (mi : Int), .int .i64 (st : Int), .string re, .slice fa A.length fc] 45)
  generalize ((w.alloc (.cells #[.bool false, .string ⟨#[]⟩, .string ⟨#[]⟩, .int .i64 0, .int .i64 0, .string ⟨#[]⟩, .slice none 0 0] 45)).alloc (.cells #[.bool r, .string me, .string ta, .int .i64 (mi : Int), .int .i64 (st : Int), .string re, .slice fa A.length fc] 45)) = x at T0 ⊢
  clear c6 c7 c8 c9 c10 c11 c12 c13 hgl
  have T1 := hide T0.out.drew
  have cS : x.drew.cell? ⟨w.heap.size + 1, 1, none⟩ = some (.string me) ∧ x.drew.cell? ⟨w.heap.size + 1, 2, none⟩ = some (.string ta) ∧ x.drew.cell? ⟨w.heap.size + 1, 5, none⟩ = some (.string re) := ⟨T1.out.cell 1 rfl 1, T1.out.cell 1 rfl 2, T1.out.cell 1 rfl 5⟩
  refine wp_region_noPanic ?_
  refine wp_region_held_drew (S := fun W => W.cell? ⟨w.heap.size + 1, 1, none⟩ = some (.string me) ∧ W.cell? ⟨w.heap.size + 1, 2, none⟩ = some (.string ta) ∧ W.cell? ⟨w.heap.size + 1, 5, none⟩ = some (.string re)) (by kernel_rfl) cS (fun hHeld => ?_)
  refine wpAnyH_take (i := 0) (v := ?_) rfl (by kernel_rfl) (by kernel_rfl) (by kernel_rfl) (fun _ _ _ h => h) (Or.inl ⟨by rfl, ?_⟩) (by assumption) ?_
  rotate_left
  · (intro w hSw; (try dsimp only at hSw); go_simp; try with_reducible rfl)
  simp only [List.getElem_toArray, List.getElem_cons_zero, Act.put, List.setIfInBounds_toArray, List.set_cons_zero, List.set_cons_succ]
  refine wpAnyH_take (i := 1) (v := ?_) rfl (by kernel_rfl) (by kernel_rfl) (by kernel_rfl) (fun _ _ _ h => h) (Or.inl ⟨by rfl, ?_⟩) (by assumption) ?_
  rotate_left
  · (intro w hSw; (try dsimp only at hSw); go_simp; try with_reducible rfl)
  simp only [List.getElem_toArray, List.getElem_cons_zero, List.getElem_cons_succ, Act.put, List.setIfInBounds_toArray, List.set_cons_zero, List.set_cons_succ]
  refine wpAnyH_take (i := 3) (v := ?_) rfl (by kernel_rfl) (by kernel_rfl) (by kernel_rfl) (fun _ _ _ h => h) (Or.inl ⟨by rfl, ?_⟩) (by assumption) ?_
  rotate_left
  · (intro w hSw; (try dsimp only at hSw); go_simp; try with_reducible rfl)
  simp only [List.getElem_toArray, List.getElem_cons_zero, List.getElem_cons_succ, Act.put, List.setIfInBounds_toArray, List.set_cons_zero, List.set_cons_succ]
  refine wpAnyH_take (i := 4) (v := ?_) rfl (by kernel_rfl) (by kernel_rfl) (by kernel_rfl) (fun _ _ _ h => h) (Or.inl ⟨by rfl, ?_⟩) (by assumption) ?_
  rotate_left
  · (intro w hSw; (try dsimp only at hSw); go_simp; try with_reducible rfl)
  simp only [List.getElem_toArray, List.getElem_cons_zero, List.getElem_cons_succ, Act.put, List.setIfInBounds_toArray, List.set_cons_zero, List.set_cons_succ]
  refine wpAnyH_take (i := 6) (v := ?_) rfl (by kernel_rfl) (by kernel_rfl) (by kernel_rfl) (fun _ _ _ h => h) (Or.inl ⟨by rfl, ?_⟩) (by assumption) ?_
  rotate_left
  · (intro w hSw; (try dsimp only at hSw); go_simp; try with_reducible rfl)
  simp only [List.getElem_toArray, List.getElem_cons_zero, List.getElem_cons_succ, Act.put, List.setIfInBounds_toArray, List.set_cons_zero, List.set_cons_succ]
  refine wpAnyH_take (i := 7) (v := ?_) rfl (by kernel_rfl) (by kernel_rfl) (by kernel_rfl) (fun _ _ _ h => h) (Or.inl ⟨by rfl, ?_⟩) (by assumption) ?_
  rotate_left
  · (intro w hSw; (try dsimp only at hSw); go_simp; try with_reducible rfl)
  simp only [List.getElem_toArray, List.getElem_cons_zero, List.getElem_cons_succ, Act.put, List.setIfInBounds_toArray, List.set_cons_zero, List.set_cons_succ]
  refine wpAnyH_ready (rs := [2]) (by kernel_rfl) (by simp) ?_
  refine AllReadyH.cons rfl (fun K hK => ?_) AllReadyH.nil
  go_simp
  refine (clone_any me _ (by omega)).mono ?_
  rintro e y1 ⟨rfl, bb⟩
  have T2 := hide (T1.out.below bb)
  clear bb cS
  have cS : y1.cell? ⟨w.heap.size + 1, 1, none⟩ = some (.string me) ∧ y1.cell? ⟨w.heap.size + 1, 2, none⟩ = some (.string ta) ∧ y1.cell? ⟨w.heap.size + 1, 5, none⟩ = some (.string re) := ⟨T2.out.cell 1 rfl 1, T2.out.cell 1 rfl 2, T2.out.cell 1 rfl 5⟩
  go_wp2_with fail
  refine hK.out _ _ cS (fun hHeld => ?_)
  clear hK K
  try simp only [List.getElem_toArray, List.getElem_cons_zero, List.getElem_cons_succ, Act.put, List.setIfInBounds_toArray, List.set_cons_zero, List.set_cons_succ]
  refine wpAnyH_take (i := 9) (v := ?_) rfl (by kernel_rfl) (by kernel_rfl) (by kernel_rfl) (fun _ _ _ h => h) (Or.inl ⟨by rfl, ?_⟩) (by assumption) ?_
  rotate_left
  · (intro w hSw; (try dsimp only at hSw); go_simp; try with_reducible rfl)
  simp only [List.getElem_toArray, List.getElem_cons_zero, List.getElem_cons_succ, Act.put, List.setIfInBounds_toArray, List.set_cons_zero, List.set_cons_succ]
  refine wpAnyH_ready (rs := [5]) (by kernel_rfl) (by simp) ?_
  refine AllReadyH.cons rfl (fun K hK => ?_) AllReadyH.nil
  go_simp
  refine (clone_any ta _ (by omega)).mono ?_
  rintro e y2 ⟨rfl, bb⟩
  have T3 := hide (T2.out.below bb)
  clear bb cS
  have cS : y2.cell? ⟨w.heap.size + 1, 1, none⟩ = some (.string me) ∧ y2.cell? ⟨w.heap.size + 1, 2, none⟩ = some (.string ta) ∧ y2.cell? ⟨w.heap.size + 1, 5, none⟩ = some (.string re) := ⟨T3.out.cell 1 rfl 1, T3.out.cell 1 rfl 2, T3.out.cell 1 rfl 5⟩
  go_wp2_with fail
  refine hK.out _ _ cS (fun hHeld => ?_)
  clear hK K
  try simp only [List.getElem_toArray, List.getElem_cons_zero, List.getElem_cons_succ, Act.put, List.setIfInBounds_toArray, List.set_cons_zero, List.set_cons_succ]
  refine wpAnyH_ready (rs := [8]) (by kernel_rfl) (by simp) ?_
  refine AllReadyH.cons rfl (fun K hK => ?_) AllReadyH.nil
  go_simp
  refine (clone_any re _ (by omega)).mono ?_
  rintro e y3 ⟨rfl, bb⟩
  have T4 := hide (T3.out.below bb)
  clear bb cS
  have cS : y3.cell? ⟨w.heap.size + 1, 1, none⟩ = some (.string me) ∧ y3.cell? ⟨w.heap.size + 1, 2, none⟩ = some (.string ta) ∧ y3.cell? ⟨w.heap.size + 1, 5, none⟩ = some (.string re) := ⟨T4.out.cell 1 rfl 1, T4.out.cell 1 rfl 2, T4.out.cell 1 rfl 5⟩
  go_wp2_with fail
  refine hK.out _ _ cS (fun hHeld => ?_)
  clear hK K
  try simp only [List.getElem_toArray, List.getElem_cons_zero, List.getElem_cons_succ, Act.put, List.setIfInBounds_toArray, List.set_cons_zero, List.set_cons_succ]
  refine wpAnyH_ready (rs := [10]) (by kernel_rfl) (by simp) ?_
  refine AllReadyH.cons rfl (fun K hK => ?_) AllReadyH.nil
  have l1 : y3.cell? ⟨w.heap.size + 1, 1, none⟩ = some (.string me) := T4.out.cell 1 rfl 1
  have fz : y3.frozen? ⟨w.heap.size + 1, 1, none⟩ = false := T4.out.fr 1 rfl 1
  go_simp
  have T5 : Hid (Bl w (y3.setCell ⟨w.heap.size + 1, 1, none⟩ (.string me)) [(#[.bool false, .string ⟨#[]⟩, .string ⟨#[]⟩, .int .i64 0, .int .i64 0, .string ⟨#[]⟩, .slice none 0 0], 45), (#[.bool r, .string me, .string ta, .int .i64 (mi : Int), .int .i64 (st : Int), .string re, .slice fa A.length fc], 45)]) := hide (T4.out.set 1 rfl 1 (.string me))
  generalize y3.setCell ⟨w.heap.size + 1, 1, none⟩ (.string me) = z1 at T5 ⊢
  clear cS l1 fz
  have cS : z1.cell? ⟨w.heap.size + 1, 1, none⟩ = some (.string me) ∧ z1.cell? ⟨w.heap.size + 1, 2, none⟩ = some (.string ta) ∧ z1.cell? ⟨w.heap.size + 1, 5, none⟩ = some (.string re) := ⟨T5.out.cell 1 rfl 1, T5.out.cell 1 rfl 2, T5.out.cell 1 rfl 5⟩
  refine hK.out _ _ cS (fun hHeld => ?_)
  clear hK K
  try simp only [List.getElem_toArray, List.getElem_cons_zero, List.getElem_cons_succ, Act.put, List.setIfInBounds_toArray, List.set_cons_zero, List.set_cons_succ]
  refine wpAnyH_take (i := 11) (v := ?_) rfl (by kernel_rfl) (by kernel_rfl) (by kernel_rfl) (fun _ _ _ h => h) (Or.inl ⟨by rfl, ?_⟩) (by assumption) ?_
  rotate_left
  · (intro w hSw; (try dsimp only at hSw); go_simp; try with_reducible rfl)
  simp only [List.getElem_toArray, List.getElem_cons_zero, List.getElem_cons_succ, Act.put, List.setIfInBounds_toArray, List.set_cons_zero, List.set_cons_succ]
  refine wpAnyH_ready (rs := [12]) (by kernel_rfl) (by simp) ?_
  refine AllReadyH.cons rfl (fun K hK => ?_) AllReadyH.nil
  have l2 : z1.cell? ⟨w.heap.size + 1, 2, none⟩ = some (.string ta) := T5.out.cell 1 rfl 2
  have fz : z1.frozen? ⟨w.heap.size + 1, 2, none⟩ = false := T5.out.fr 1 rfl 2
  go_simp
  have T6 : Hid (Bl w (z1.setCell ⟨w.heap.size + 1, 2, none⟩ (.string ta)) [(#[.bool false, .string ⟨#[]⟩, .string ⟨#[]⟩, .int .i64 0, .int .i64 0, .string ⟨#[]⟩, .slice none 0 0], 45), (#[.bool r, .string me, .string ta, .int .i64 (mi : Int), .int .i64 (st : Int), .string re, .slice fa A.length fc], 45)]) := hide (T5.out.set 1 rfl 2 (.string ta))
  generalize z1.setCell ⟨w.heap.size + 1, 2, none⟩ (.string ta) = z2 at T6 ⊢
  clear cS l2 fz
  have cS : z2.cell? ⟨w.heap.size + 1, 1, none⟩ = some (.string me) ∧ z2.cell? ⟨w.heap.size + 1, 2, none⟩ = some (.string ta) ∧ z2.cell? ⟨w.heap.size + 1, 5, none⟩ = some (.string re) := ⟨T6.out.cell 1 rfl 1, T6.out.cell 1 rfl 2, T6.out.cell 1 rfl 5⟩
  refine hK.out _ _ cS (fun hHeld => ?_)
  clear hK K
  try simp only [List.getElem_toArray, List.getElem_cons_zero, List.getElem_cons_succ, Act.put, List.setIfInBounds_toArray, List.set_cons_zero, List.set_cons_succ]
  refine wpAnyH_take (i := 13) (v := ?_) rfl (by kernel_rfl) (by kernel_rfl) (by kernel_rfl) (fun _ _ _ h => h) (Or.inl ⟨by rfl, ?_⟩) (by assumption) ?_
  rotate_left
  · (intro w hSw; (try dsimp only at hSw); go_simp; try with_reducible rfl)
  simp only [List.getElem_toArray, List.getElem_cons_zero, List.getElem_cons_succ, Act.put, List.setIfInBounds_toArray, List.set_cons_zero, List.set_cons_succ]
  refine wpAnyH_ready (rs := [14]) (by kernel_rfl) (by simp) ?_
  refine AllReadyH.cons rfl (fun K hK => ?_) AllReadyH.nil
  have l5 : z2.cell? ⟨w.heap.size + 1, 5, none⟩ = some (.string re) := T6.out.cell 1 rfl 5
  have fz : z2.frozen? ⟨w.heap.size + 1, 5, none⟩ = false := T6.out.fr 1 rfl 5
  go_simp
  have T7 : Hid (Bl w (z2.setCell ⟨w.heap.size + 1, 5, none⟩ (.string re)) [(#[.bool false, .string ⟨#[]⟩, .string ⟨#[]⟩, .int .i64 0, .int .i64 0, .string ⟨#[]⟩, .slice none 0 0], 45), (#[.bool r, .string me, .string ta, .int .i64 (mi : Int), .int .i64 (st : Int), .string re, .slice fa A.length fc], 45)]) := hide (T6.out.set 1 rfl 5 (.string re))
  generalize z2.setCell ⟨w.heap.size + 1, 5, none⟩ (.string re) = z3 at T7 ⊢
  clear cS l5 fz
  have cS : z3.cell? ⟨w.heap.size + 1, 1, none⟩ = some (.string me) ∧ z3.cell? ⟨w.heap.size + 1, 2, none⟩ = some (.string ta) ∧ z3.cell? ⟨w.heap.size + 1, 5, none⟩ = some (.string re) := ⟨T7.out.cell 1 rfl 1, T7.out.cell 1 rfl 2, T7.out.cell 1 rfl 5⟩
  refine hK.out _ _ cS (fun hHeld => ?_)
  clear hK K
  try simp only [List.getElem_toArray, List.getElem_cons_zero, List.getElem_cons_succ, Act.put, List.setIfInBounds_toArray, List.set_cons_zero, List.set_cons_succ]
  refine wpAnyH_done (by kernel_rfl) ?_ _
  clear hHeld cS
  refine NoPanic.normal ?_
  have l6 : z3.cell? ⟨w.heap.size + 1, 6, none⟩ = some (.slice fa A.length fc) := T7.out.cell 1 rfl 6
  have f6 : z3.frozen? ⟨w.heap.size + 1, 6, none⟩ = false := T7.out.fr 1 rfl 6
  go_upto_region 6 with fail
  have T8 : Hid (Bl w (z3.setCell ⟨w.heap.size + 1, 6, none⟩ (.slice none 0 0)) [(#[.bool false, .string ⟨#[]⟩, .string ⟨#[]⟩, .int .i64 0, .int .i64 0, .string ⟨#[]⟩, .slice none 0 0], 45), (#[.bool r, .string me, .string ta, .int .i64 (mi : Int), .int .i64 (st : Int), .string re, .slice none 0 0], 45)]) := hide (T7.out.set 1 rfl 6 (.slice none 0 0))
  generalize z3.setCell ⟨w.heap.size + 1, 6, none⟩ (.slice none 0 0) = z4 at T8 ⊢
  clear T0 T1 T2 T3 T4 T5 T6 T7 l6 f6
  have c12 : z4.cell? ⟨g, 12, none⟩ = some (.slice fa A.length fc) := (T8.out.b.cell (p := ⟨g, 12, none⟩) HGL.out).trans HC12.out
  go_wp2_with fail
  go_loopw [39] (fun i wr => ∃ (k : Nat) (rv : Value), k ≤ A.length ∧ i = .int .i64 k ∧ Hid (FRow wr (w.heap.size + 2) rv (A.take k)) ∧ Hid (Bl w wr [(#[.bool false, .string ⟨#[]⟩, .string ⟨#[]⟩, .int .i64 0, .int .i64 0, .string ⟨#[]⟩, .slice none 0 0], 45), (#[.bool r, .string me, .string ta, .int .i64 (mi : Int), .int .i64 (st : Int), .string re, rv], 45)])) (fun i _ => A.length - (intOf i).toNat)
  case atStart => exact ⟨0, _, Nat.zero_le _, rfl, hide (FRow.nil _ _), T8⟩
  case round =>
    obtain ⟨k, rv, hk, rfl, HR, HT0⟩ := hrel
    obtain ⟨ra, rl, rc, rfl⟩ : ∃ a n c, rv = .slice a n c := by
      obtain ⟨a, c, h, _⟩ := HR.out.shape
      exact ⟨a, _, c, h⟩
    clear c12
    by_cases hlt : k < A.length
    · obtain ⟨g1, o1, rfl, hg1, q1, q2⟩ := HC0.out k hlt
      have hz := HZF.out A[k] (List.getElem_mem hlt)
      have HSN := hide (take_snocF A k hlt)
      obtain ⟨⟨na, nb⟩, hfe⟩ : ∃ f, A[k] = f := ⟨_, rfl⟩
      rw [hfe] at q1 q2 hz HSN
      obtain ⟨hza, hzb⟩ := hz
      dsimp only at q1 q2 hza hzb
      have q3 : wr.cell? ⟨g1, o1 + k * 2, none⟩ = some (.string na) := (HT0.out.b.cell (p := ⟨g1, o1 + k * 2, none⟩) hg1).trans q1
      have q4 : wr.cell? ⟨g1, o1 + k * 2 + 1, none⟩ = some (.string nb) := (HT0.out.b.cell (p := ⟨g1, o1 + k * 2 + 1, none⟩) hg1).trans q2
      clear q1 q2 hg1 hfe
      go_upto_region 9 with fail
      have HC : Hid ((wr.alloc (.cells #[.string na, .string nb] 48)).cell? ⟨wr.heap.size, 0, none⟩ = some (.string na) ∧ (wr.alloc (.cells #[.string na, .string nb] 48)).cell? ⟨wr.heap.size, 1, none⟩ = some (.string nb)) := hide ⟨cell_at (hp_new wr _) 0, cell_at (hp_new wr _) 1⟩
      have DD := hide ((Below.refl _ wr).alloc (Nat.le_refl _) (.cells #[.string na, .string nb] 48))
      have HT := hide (HT0.out.below DD.out)
      have HROW := hide (HR.out.below DD.out)
      have HLT : Hid (wr.heap.size < (wr.alloc (.cells #[.string na, .string nb] 48)).heap.size) := hide (by simp)
      have HOWN : Hid ((.slice ra rl rc : Value).ownBlock ≠ some wr.heap.size) := hide (fun h => by have := (HR.out.lt h).2; omega)
      have HF2 : Hid (w.heap.size + 1 < wr.heap.size) := hide (blk_lt (HT0.out.hp 1 _ _ rfl))
      have HLN : Hid ((A.take k).length ≤ 1099511627776) := hide (by rw [List.length_take]; omega)
      generalize (wr.alloc (.cells #[.string na, .string nb] 48)) = y at HC DD HT HROW HLT ⊢
      have HSZ : Hid (w.heap.size + 2 ≤ y.heap.size) := hide (by have := HF2.out; have := HLT.out; omega)
      have HL1 : Hid (w.heap.size + 1 < y.heap.size) := hide (by have := HF2.out; have := HLT.out; omega)
      have HR6 : Hid (y.cell? ⟨w.heap.size + 1, 6, none⟩ = some (.slice ra rl rc)) := hide (HT.out.cell 1 rfl 6)
      clear DD HT0 HR q3 q4
      generalize wr.heap.size = f at HC HLT HOWN HF2 ⊢
      have D0 := hide ((Below.refl y.heap.size y).drew)
      have cS : y.drew.cell? ⟨f, 0, none⟩ = some (.string na) ∧ y.drew.cell? ⟨f, 1, none⟩ = some (.string nb) := ⟨(D0.out.cell (p := ⟨f, 0, none⟩) HLT.out).trans HC.out.1, (D0.out.cell (p := ⟨f, 1, none⟩) HLT.out).trans HC.out.2⟩
      have l6 : y.drew.cell? ⟨w.heap.size + 1, 6, none⟩ = some (.slice ra rl rc) := (D0.out.cell (p := ⟨w.heap.size + 1, 6, none⟩) HL1.out).trans HR6.out
      refine wp_region_noPanic ?_
      refine wp_region_held_drew (S := fun W => W.cell? ⟨f, 0, none⟩ = some (.string na) ∧ W.cell? ⟨f, 1, none⟩ = some (.string nb)) (by kernel_rfl) cS (fun hHeld => ?_)
      refine wpAnyH_take (i := 0) (v := ?_) rfl (by kernel_rfl) (by kernel_rfl) (by kernel_rfl) (fun _ _ _ h => h) (Or.inl ⟨by rfl, ?_⟩) (by assumption) ?_
      rotate_left
      · (intro w hSw; (try dsimp only at hSw); go_simp; try with_reducible rfl)
      simp only [List.getElem_toArray, List.getElem_cons_zero, Act.put, List.setIfInBounds_toArray, List.set_cons_zero, List.set_cons_succ]
      refine wpAnyH_take (i := 2) (v := ?_) rfl (by kernel_rfl) (by kernel_rfl) (by kernel_rfl) (fun _ _ _ h => h) (Or.inl ⟨by rfl, ?_⟩) (by assumption) ?_
      rotate_left
      · (intro w hSw; (try dsimp only at hSw); go_simp; try with_reducible rfl)
      simp only [List.getElem_toArray, List.getElem_cons_zero, List.getElem_cons_succ, Act.put, List.setIfInBounds_toArray, List.set_cons_zero, List.set_cons_succ]
      refine wpAnyH_take (i := 3) (v := ?_) rfl (by kernel_rfl) (by kernel_rfl) (by kernel_rfl) (fun _ _ _ h => h) (Or.inl ⟨by rfl, ?_⟩) (by assumption) ?_
      rotate_left
      · (intro w hSw; (try dsimp only at hSw); go_simp; try with_reducible rfl)
      simp only [List.getElem_toArray, List.getElem_cons_zero, List.getElem_cons_succ, Act.put, List.setIfInBounds_toArray, List.set_cons_zero, List.set_cons_succ]
      refine wpAnyH_take (i := 5) (v := ?_) rfl (by kernel_rfl) (by kernel_rfl) (by kernel_rfl) (fun _ _ _ h => h) (Or.inl ⟨by rfl, ?_⟩) (by assumption) ?_
      rotate_left
      · (intro w hSw; (try dsimp only at hSw); go_simp; try with_reducible rfl)
      simp only [List.getElem_toArray, List.getElem_cons_zero, List.getElem_cons_succ, Act.put, List.setIfInBounds_toArray, List.set_cons_zero, List.set_cons_succ]
      refine wpAnyH_take (i := 6) (v := ?_) rfl (by kernel_rfl) (by kernel_rfl) (by kernel_rfl) (fun _ _ _ h => h) (Or.inl ⟨by rfl, ?_⟩) (by assumption) ?_
      rotate_left
      · (intro w hSw; (try dsimp only at hSw); go_simp; try with_reducible rfl)
      simp only [List.getElem_toArray, List.getElem_cons_zero, List.getElem_cons_succ, Act.put, List.setIfInBounds_toArray, List.set_cons_zero, List.set_cons_succ]
      refine wpAnyH_ready (rs := [1, 4]) (by kernel_rfl) (by simp) ?_
      refine AllReadyH.cons rfl (fun K hK => ?_) (AllReadyH.cons rfl (fun K hK => ?_) AllReadyH.nil)
      · go_simp
        refine hK.out _ _ cS (fun hHeld => ?_)
        clear hK K
        try simp only [List.getElem_toArray, List.getElem_cons_zero, List.getElem_cons_succ, Act.put, List.setIfInBounds_toArray, List.set_cons_zero, List.set_cons_succ]
        refine wpAnyH_ready (rs := [4]) (by kernel_rfl) (by simp) ?_
        refine AllReadyH.cons rfl (fun K hK => ?_) AllReadyH.nil
        go_simp
        refine (clone_any na _ (by omega)).mono ?_
        rintro e y1 ⟨rfl, bb⟩
        have D1 := hide (D0.out.trans (bb.mono D0.out.size))
        clear bb cS l6
        have cS : y1.cell? ⟨f, 0, none⟩ = some (.string na) ∧ y1.cell? ⟨f, 1, none⟩ = some (.string nb) := ⟨(D1.out.cell (p := ⟨f, 0, none⟩) HLT.out).trans HC.out.1, (D1.out.cell (p := ⟨f, 1, none⟩) HLT.out).trans HC.out.2⟩
        have l6 : y1.cell? ⟨w.heap.size + 1, 6, none⟩ = some (.slice ra rl rc) := (D1.out.cell (p := ⟨w.heap.size + 1, 6, none⟩) HL1.out).trans HR6.out
        go_wp2_with fail
        refine hK.out _ _ cS (fun hHeld => ?_)
        clear hK K
        try simp only [List.getElem_toArray, List.getElem_cons_zero, List.getElem_cons_succ, Act.put, List.setIfInBounds_toArray, List.set_cons_zero, List.set_cons_succ]
        refine wpAnyH_ready (rs := [7]) (by kernel_rfl) (by simp) ?_
        refine AllReadyH.cons rfl (fun K hK => ?_) AllReadyH.nil
        go_simp
        refine (clone_any nb _ (by omega)).mono ?_
        rintro e y2 ⟨rfl, bb⟩
        have D2 := hide (D1.out.trans (bb.mono D1.out.size))
        clear bb cS l6
        have cS : y2.cell? ⟨f, 0, none⟩ = some (.string na) ∧ y2.cell? ⟨f, 1, none⟩ = some (.string nb) := ⟨(D2.out.cell (p := ⟨f, 0, none⟩) HLT.out).trans HC.out.1, (D2.out.cell (p := ⟨f, 1, none⟩) HLT.out).trans HC.out.2⟩
        have l6 : y2.cell? ⟨w.heap.size + 1, 6, none⟩ = some (.slice ra rl rc) := (D2.out.cell (p := ⟨w.heap.size + 1, 6, none⟩) HL1.out).trans HR6.out
        go_wp2_with fail
        refine hK.out _ _ cS (fun hHeld => ?_)
        clear hK K
        try simp only [List.getElem_toArray, List.getElem_cons_zero, List.getElem_cons_succ, Act.put, List.setIfInBounds_toArray, List.set_cons_zero, List.set_cons_succ]
        refine wpAnyH_take (i := 8) (v := ?_) rfl (by kernel_rfl) (by kernel_rfl) (by kernel_rfl) (fun _ _ _ h => h) (Or.inl ⟨by rfl, ?_⟩) (by assumption) ?_
        rotate_left
        · (intro w hSw; (try dsimp only at hSw); go_simp; try with_reducible rfl)
        simp only [List.getElem_toArray, List.getElem_cons_zero, List.getElem_cons_succ, Act.put, List.setIfInBounds_toArray, List.set_cons_zero, List.set_cons_succ]
        refine wpAnyH_ready (rs := [9]) (by kernel_rfl) (by simp) ?_
        refine AllReadyH.cons rfl (fun K hK => ?_) AllReadyH.nil
        go_simp
        have DA := hide (D2.out.alloc D2.out.size (.cells #[.string na, .string nb] 48))
        clear cS l6
        have cS : (y2.alloc (.cells #[.string na, .string nb] 48)).cell? ⟨f, 0, none⟩ = some (.string na) ∧ (y2.alloc (.cells #[.string na, .string nb] 48)).cell? ⟨f, 1, none⟩ = some (.string nb) := ⟨(DA.out.cell (p := ⟨f, 0, none⟩) HLT.out).trans HC.out.1, (DA.out.cell (p := ⟨f, 1, none⟩) HLT.out).trans HC.out.2⟩
        have l6 : (y2.alloc (.cells #[.string na, .string nb] 48)).cell? ⟨w.heap.size + 1, 6, none⟩ = some (.slice ra rl rc) := (DA.out.cell (p := ⟨w.heap.size + 1, 6, none⟩) HL1.out).trans HR6.out
        refine hK.out _ _ cS (fun hHeld => ?_)
        clear hK K
        try simp only [List.getElem_toArray, List.getElem_cons_zero, List.getElem_cons_succ, Act.put, List.setIfInBounds_toArray, List.set_cons_zero, List.set_cons_succ]
        refine wpAnyH_ready (rs := [10]) (by kernel_rfl) (by simp) ?_
        refine AllReadyH.cons rfl (fun K hK => ?_) AllReadyH.nil
        obtain ⟨v', W', hrun, RW, BW, KW⟩ := append_fld_j y2 (w.heap.size + 2) 43 (.slice ra rl rc) (A.take k) (na, nb) (HROW.out.below D2.out) HLN.out (Nat.le_trans HSZ.out D2.out.size)
        have KA := hide KW
        clear KW cS l6
        have cS : W'.cell? ⟨f, 0, none⟩ = some (.string na) ∧ W'.cell? ⟨f, 1, none⟩ = some (.string nb) := ⟨(cell_heap (KA.out f (Nat.lt_of_lt_of_le HLT.out D2.out.size) HOWN.out) 0).trans ((D2.out.cell (p := ⟨f, 0, none⟩) HLT.out).trans HC.out.1), (cell_heap (KA.out f (Nat.lt_of_lt_of_le HLT.out D2.out.size) HOWN.out) 1).trans ((D2.out.cell (p := ⟨f, 1, none⟩) HLT.out).trans HC.out.2)⟩
        have TW := hide ((HT.out.below D2.out).low (by simp) BW)
        have RW2 := hide RW
        clear RW BW KA
        refine step_append_is rfl (.tmp 44) (.tmp 52) 43 rfl (.slice ra rl rc) (.slice (some ⟨y2.heap.size, 0, none⟩) 1 1) v' (by simp [Act.eval]) (by simp [Act.eval]) hrun ?_
        clear hrun
        refine hK.out _ _ cS (fun hHeld => ?_)
        clear hK K
        try simp only [List.getElem_toArray, List.getElem_cons_zero, List.getElem_cons_succ, Act.put, List.setIfInBounds_toArray, List.set_cons_zero, List.set_cons_succ]
        refine wpAnyH_take (i := 11) (v := ?_) rfl (by kernel_rfl) (by kernel_rfl) (by kernel_rfl) (fun _ _ _ h => h) (Or.inl ⟨by rfl, ?_⟩) (by assumption) ?_
        rotate_left
        · (intro w hSw; (try dsimp only at hSw); go_simp; try with_reducible rfl)
        simp only [List.getElem_toArray, List.getElem_cons_zero, List.getElem_cons_succ, Act.put, List.setIfInBounds_toArray, List.set_cons_zero, List.set_cons_succ]
        refine wpAnyH_ready (rs := [12]) (by kernel_rfl) (by simp) ?_
        refine AllReadyH.cons rfl (fun K hK => ?_) AllReadyH.nil
        obtain ⟨va, vl, vc, rfl⟩ : ∃ a n c, v' = .slice a n c := by
          obtain ⟨a, c, h, _⟩ := RW2.out.shape
          exact ⟨a, _, c, h⟩
        have l6 : W'.cell? ⟨w.heap.size + 1, 6, none⟩ = some (.slice ra rl rc) := TW.out.cell 1 rfl 6
        have f6 : W'.frozen? ⟨w.heap.size + 1, 6, none⟩ = false := TW.out.fr 1 rfl 6
        go_simp
        have TX : Hid (Bl w (W'.setCell ⟨w.heap.size + 1, 6, none⟩ (.slice va vl vc)) [(#[.bool false, .string ⟨#[]⟩, .string ⟨#[]⟩, .int .i64 0, .int .i64 0, .string ⟨#[]⟩, .slice none 0 0], 45), (#[.bool r, .string me, .string ta, .int .i64 (mi : Int), .int .i64 (st : Int), .string re, .slice va vl vc], 45)]) := hide (TW.out.set 1 rfl 6 (.slice va vl vc))
        have RX := hide (RW2.out.setOld (g := w.heap.size + 1) (by omega) 6 (.slice va vl vc))
        have cS2 : (W'.setCell ⟨w.heap.size + 1, 6, none⟩ (.slice va vl vc)).cell? ⟨f, 0, none⟩ = some (.string na) ∧ (W'.setCell ⟨w.heap.size + 1, 6, none⟩ (.slice va vl vc)).cell? ⟨f, 1, none⟩ = some (.string nb) := ⟨(World.cell?_setCell_far _ _ _ _ (by have := HF2.out; simp; omega)).trans cS.1, (World.cell?_setCell_far _ _ _ _ (by have := HF2.out; simp; omega)).trans cS.2⟩
        generalize W'.setCell ⟨w.heap.size + 1, 6, none⟩ (.slice va vl vc) = w9 at TX RX cS2 ⊢
        clear cS l6 f6
        refine hK.out _ _ cS2 (fun hHeld => ?_)
        clear hK K
        try simp only [List.getElem_toArray, List.getElem_cons_zero, List.getElem_cons_succ, Act.put, List.setIfInBounds_toArray, List.set_cons_zero, List.set_cons_succ]
        refine wpAnyH_done (by kernel_rfl) ?_ _
        clear hHeld cS2 TW RW2
        refine NoPanic.normal ?_
        go_wp2
        go_roundw
        case rel => exact ⟨k + 1, _, by omega, by go_num, hide (by rw [HSN.out]; exact RX.out), TX⟩
        case measure => simp [intOf]; omega
      · go_simp
        refine (clone_any na _ (by omega)).mono ?_
        rintro e y1 ⟨rfl, bb⟩
        have D1 := hide (D0.out.trans (bb.mono D0.out.size))
        clear bb cS l6
        have cS : y1.cell? ⟨f, 0, none⟩ = some (.string na) ∧ y1.cell? ⟨f, 1, none⟩ = some (.string nb) := ⟨(D1.out.cell (p := ⟨f, 0, none⟩) HLT.out).trans HC.out.1, (D1.out.cell (p := ⟨f, 1, none⟩) HLT.out).trans HC.out.2⟩
        have l6 : y1.cell? ⟨w.heap.size + 1, 6, none⟩ = some (.slice ra rl rc) := (D1.out.cell (p := ⟨w.heap.size + 1, 6, none⟩) HL1.out).trans HR6.out
        go_wp2_with fail
        refine hK.out _ _ cS (fun hHeld => ?_)
        clear hK K
        try simp only [List.getElem_toArray, List.getElem_cons_zero, List.getElem_cons_succ, Act.put, List.setIfInBounds_toArray, List.set_cons_zero, List.set_cons_succ]
        refine wpAnyH_ready (rs := [1, 7]) (by kernel_rfl) (by simp) ?_
        refine AllReadyH.cons rfl (fun K hK => ?_) (AllReadyH.cons rfl (fun K hK => ?_) AllReadyH.nil)
        · go_simp
          refine hK.out _ _ cS (fun hHeld => ?_)
          clear hK K
          try simp only [List.getElem_toArray, List.getElem_cons_zero, List.getElem_cons_succ, Act.put, List.setIfInBounds_toArray, List.set_cons_zero, List.set_cons_succ]
          refine wpAnyH_ready (rs := [7]) (by kernel_rfl) (by simp) ?_
          refine AllReadyH.cons rfl (fun K hK => ?_) AllReadyH.nil
          go_simp
          refine (clone_any nb _ (by omega)).mono ?_
          rintro e y2 ⟨rfl, bb⟩
          have D2 := hide (D1.out.trans (bb.mono D1.out.size))
          clear bb cS l6
          have cS : y2.cell? ⟨f, 0, none⟩ = some (.string na) ∧ y2.cell? ⟨f, 1, none⟩ = some (.string nb) := ⟨(D2.out.cell (p := ⟨f, 0, none⟩) HLT.out).trans HC.out.1, (D2.out.cell (p := ⟨f, 1, none⟩) HLT.out).trans HC.out.2⟩
          have l6 : y2.cell? ⟨w.heap.size + 1, 6, none⟩ = some (.slice ra rl rc) := (D2.out.cell (p := ⟨w.heap.size + 1, 6, none⟩) HL1.out).trans HR6.out
          go_wp2_with fail
          refine hK.out _ _ cS (fun hHeld => ?_)
          clear hK K
          try simp only [List.getElem_toArray, List.getElem_cons_zero, List.getElem_cons_succ, Act.put, List.setIfInBounds_toArray, List.set_cons_zero, List.set_cons_succ]
          refine wpAnyH_take (i := 8) (v := ?_) rfl (by kernel_rfl) (by kernel_rfl) (by kernel_rfl) (fun _ _ _ h => h) (Or.inl ⟨by rfl, ?_⟩) (by assumption) ?_
          rotate_left
          · (intro w hSw; (try dsimp only at hSw); go_simp; try with_reducible rfl)
          simp only [List.getElem_toArray, List.getElem_cons_zero, List.getElem_cons_succ, Act.put, List.setIfInBounds_toArray, List.set_cons_zero, List.set_cons_succ]
          refine wpAnyH_ready (rs := [9]) (by kernel_rfl) (by simp) ?_
          refine AllReadyH.cons rfl (fun K hK => ?_) AllReadyH.nil
          go_simp
          have DA := hide (D2.out.alloc D2.out.size (.cells #[.string na, .string nb] 48))
          clear cS l6
          have cS : (y2.alloc (.cells #[.string na, .string nb] 48)).cell? ⟨f, 0, none⟩ = some (.string na) ∧ (y2.alloc (.cells #[.string na, .string nb] 48)).cell? ⟨f, 1, none⟩ = some (.string nb) := ⟨(DA.out.cell (p := ⟨f, 0, none⟩) HLT.out).trans HC.out.1, (DA.out.cell (p := ⟨f, 1, none⟩) HLT.out).trans HC.out.2⟩
          have l6 : (y2.alloc (.cells #[.string na, .string nb] 48)).cell? ⟨w.heap.size + 1, 6, none⟩ = some (.slice ra rl rc) := (DA.out.cell (p := ⟨w.heap.size + 1, 6, none⟩) HL1.out).trans HR6.out
          refine hK.out _ _ cS (fun hHeld => ?_)
          clear hK K
          try simp only [List.getElem_toArray, List.getElem_cons_zero, List.getElem_cons_succ, Act.put, List.setIfInBounds_toArray, List.set_cons_zero, List.set_cons_succ]
          refine wpAnyH_ready (rs := [10]) (by kernel_rfl) (by simp) ?_
          refine AllReadyH.cons rfl (fun K hK => ?_) AllReadyH.nil
          obtain ⟨v', W', hrun, RW, BW, KW⟩ := append_fld_j y2 (w.heap.size + 2) 43 (.slice ra rl rc) (A.take k) (na, nb) (HROW.out.below D2.out) HLN.out (Nat.le_trans HSZ.out D2.out.size)
          have KA := hide KW
          clear KW cS l6
          have cS : W'.cell? ⟨f, 0, none⟩ = some (.string na) ∧ W'.cell? ⟨f, 1, none⟩ = some (.string nb) := ⟨(cell_heap (KA.out f (Nat.lt_of_lt_of_le HLT.out D2.out.size) HOWN.out) 0).trans ((D2.out.cell (p := ⟨f, 0, none⟩) HLT.out).trans HC.out.1), (cell_heap (KA.out f (Nat.lt_of_lt_of_le HLT.out D2.out.size) HOWN.out) 1).trans ((D2.out.cell (p := ⟨f, 1, none⟩) HLT.out).trans HC.out.2)⟩
          have TW := hide ((HT.out.below D2.out).low (by simp) BW)
          have RW2 := hide RW
          clear RW BW KA
          refine step_append_is rfl (.tmp 44) (.tmp 52) 43 rfl (.slice ra rl rc) (.slice (some ⟨y2.heap.size, 0, none⟩) 1 1) v' (by simp [Act.eval]) (by simp [Act.eval]) hrun ?_
          clear hrun
          refine hK.out _ _ cS (fun hHeld => ?_)
          clear hK K
          try simp only [List.getElem_toArray, List.getElem_cons_zero, List.getElem_cons_succ, Act.put, List.setIfInBounds_toArray, List.set_cons_zero, List.set_cons_succ]
          refine wpAnyH_take (i := 11) (v := ?_) rfl (by kernel_rfl) (by kernel_rfl) (by kernel_rfl) (fun _ _ _ h => h) (Or.inl ⟨by rfl, ?_⟩) (by assumption) ?_
          rotate_left
          · (intro w hSw; (try dsimp only at hSw); go_simp; try with_reducible rfl)
          simp only [List.getElem_toArray, List.getElem_cons_zero, List.getElem_cons_succ, Act.put, List.setIfInBounds_toArray, List.set_cons_zero, List.set_cons_succ]
          refine wpAnyH_ready (rs := [12]) (by kernel_rfl) (by simp) ?_
          refine AllReadyH.cons rfl (fun K hK => ?_) AllReadyH.nil
          obtain ⟨va, vl, vc, rfl⟩ : ∃ a n c, v' = .slice a n c := by
            obtain ⟨a, c, h, _⟩ := RW2.out.shape
            exact ⟨a, _, c, h⟩
          have l6 : W'.cell? ⟨w.heap.size + 1, 6, none⟩ = some (.slice ra rl rc) := TW.out.cell 1 rfl 6
          have f6 : W'.frozen? ⟨w.heap.size + 1, 6, none⟩ = false := TW.out.fr 1 rfl 6
          go_simp
          have TX : Hid (Bl w (W'.setCell ⟨w.heap.size + 1, 6, none⟩ (.slice va vl vc)) [(#[.bool false, .string ⟨#[]⟩, .string ⟨#[]⟩, .int .i64 0, .int .i64 0, .string ⟨#[]⟩, .slice none 0 0], 45), (#[.bool r, .string me, .string ta, .int .i64 (mi : Int), .int .i64 (st : Int), .string re, .slice va vl vc], 45)]) := hide (TW.out.set 1 rfl 6 (.slice va vl vc))
          have RX := hide (RW2.out.setOld (g := w.heap.size + 1) (by omega) 6 (.slice va vl vc))
          have cS2 : (W'.setCell ⟨w.heap.size + 1, 6, none⟩ (.slice va vl vc)).cell? ⟨f, 0, none⟩ = some (.string na) ∧ (W'.setCell ⟨w.heap.size + 1, 6, none⟩ (.slice va vl vc)).cell? ⟨f, 1, none⟩ = some (.string nb) := ⟨(World.cell?_setCell_far _ _ _ _ (by have := HF2.out; simp; omega)).trans cS.1, (World.cell?_setCell_far _ _ _ _ (by have := HF2.out; simp; omega)).trans cS.2⟩
          generalize W'.setCell ⟨w.heap.size + 1, 6, none⟩ (.slice va vl vc) = w9 at TX RX cS2 ⊢
          clear cS l6 f6
          refine hK.out _ _ cS2 (fun hHeld => ?_)
          clear hK K
          try simp only [List.getElem_toArray, List.getElem_cons_zero, List.getElem_cons_succ, Act.put, List.setIfInBounds_toArray, List.set_cons_zero, List.set_cons_succ]
          refine wpAnyH_done (by kernel_rfl) ?_ _
          clear hHeld cS2 TW RW2
          refine NoPanic.normal ?_
          go_wp2
          go_roundw
          case rel => exact ⟨k + 1, _, by omega, by go_num, hide (by rw [HSN.out]; exact RX.out), TX⟩
          case measure => simp [intOf]; omega
        · go_simp
          refine (clone_any nb _ (by omega)).mono ?_
          rintro e y2 ⟨rfl, bb⟩
          have D2 := hide (D1.out.trans (bb.mono D1.out.size))
          clear bb cS l6
          have cS : y2.cell? ⟨f, 0, none⟩ = some (.string na) ∧ y2.cell? ⟨f, 1, none⟩ = some (.string nb) := ⟨(D2.out.cell (p := ⟨f, 0, none⟩) HLT.out).trans HC.out.1, (D2.out.cell (p := ⟨f, 1, none⟩) HLT.out).trans HC.out.2⟩
          have l6 : y2.cell? ⟨w.heap.size + 1, 6, none⟩ = some (.slice ra rl rc) := (D2.out.cell (p := ⟨w.heap.size + 1, 6, none⟩) HL1.out).trans HR6.out
          go_wp2_with fail
          refine hK.out _ _ cS (fun hHeld => ?_)
          clear hK K
          try simp only [List.getElem_toArray, List.getElem_cons_zero, List.getElem_cons_succ, Act.put, List.setIfInBounds_toArray, List.set_cons_zero, List.set_cons_succ]
          refine wpAnyH_take (i := 8) (v := ?_) rfl (by kernel_rfl) (by kernel_rfl) (by kernel_rfl) (fun _ _ _ h => h) (Or.inl ⟨by rfl, ?_⟩) (by assumption) ?_
          rotate_left
          · (intro w hSw; (try dsimp only at hSw); go_simp; try with_reducible rfl)
          simp only [List.getElem_toArray, List.getElem_cons_zero, List.getElem_cons_succ, Act.put, List.setIfInBounds_toArray, List.set_cons_zero, List.set_cons_succ]
          refine wpAnyH_ready (rs := [1, 9]) (by kernel_rfl) (by simp) ?_
          refine AllReadyH.cons rfl (fun K hK => ?_) (AllReadyH.cons rfl (fun K hK => ?_) AllReadyH.nil)
          · go_simp
            refine hK.out _ _ cS (fun hHeld => ?_)
            clear hK K
            try simp only [List.getElem_toArray, List.getElem_cons_zero, List.getElem_cons_succ, Act.put, List.setIfInBounds_toArray, List.set_cons_zero, List.set_cons_succ]
            refine wpAnyH_ready (rs := [9]) (by kernel_rfl) (by simp) ?_
            refine AllReadyH.cons rfl (fun K hK => ?_) AllReadyH.nil
            go_simp
            have DA := hide (D2.out.alloc D2.out.size (.cells #[.string na, .string nb] 48))
            clear cS l6
            have cS : (y2.alloc (.cells #[.string na, .string nb] 48)).cell? ⟨f, 0, none⟩ = some (.string na) ∧ (y2.alloc (.cells #[.string na, .string nb] 48)).cell? ⟨f, 1, none⟩ = some (.string nb) := ⟨(DA.out.cell (p := ⟨f, 0, none⟩) HLT.out).trans HC.out.1, (DA.out.cell (p := ⟨f, 1, none⟩) HLT.out).trans HC.out.2⟩
            have l6 : (y2.alloc (.cells #[.string na, .string nb] 48)).cell? ⟨w.heap.size + 1, 6, none⟩ = some (.slice ra rl rc) := (DA.out.cell (p := ⟨w.heap.size + 1, 6, none⟩) HL1.out).trans HR6.out
            refine hK.out _ _ cS (fun hHeld => ?_)
            clear hK K
            try simp only [List.getElem_toArray, List.getElem_cons_zero, List.getElem_cons_succ, Act.put, List.setIfInBounds_toArray, List.set_cons_zero, List.set_cons_succ]
            refine wpAnyH_ready (rs := [10]) (by kernel_rfl) (by simp) ?_
            refine AllReadyH.cons rfl (fun K hK => ?_) AllReadyH.nil
            obtain ⟨v', W', hrun, RW, BW, KW⟩ := append_fld_j y2 (w.heap.size + 2) 43 (.slice ra rl rc) (A.take k) (na, nb) (HROW.out.below D2.out) HLN.out (Nat.le_trans HSZ.out D2.out.size)
            have KA := hide KW
            clear KW cS l6
            have cS : W'.cell? ⟨f, 0, none⟩ = some (.string na) ∧ W'.cell? ⟨f, 1, none⟩ = some (.string nb) := ⟨(cell_heap (KA.out f (Nat.lt_of_lt_of_le HLT.out D2.out.size) HOWN.out) 0).trans ((D2.out.cell (p := ⟨f, 0, none⟩) HLT.out).trans HC.out.1), (cell_heap (KA.out f (Nat.lt_of_lt_of_le HLT.out D2.out.size) HOWN.out) 1).trans ((D2.out.cell (p := ⟨f, 1, none⟩) HLT.out).trans HC.out.2)⟩
            have TW := hide ((HT.out.below D2.out).low (by simp) BW)
            have RW2 := hide RW
            clear RW BW KA
            refine step_append_is rfl (.tmp 44) (.tmp 52) 43 rfl (.slice ra rl rc) (.slice (some ⟨y2.heap.size, 0, none⟩) 1 1) v' (by simp [Act.eval]) (by simp [Act.eval]) hrun ?_
            clear hrun
            refine hK.out _ _ cS (fun hHeld => ?_)
            clear hK K
            try simp only [List.getElem_toArray, List.getElem_cons_zero, List.getElem_cons_succ, Act.put, List.setIfInBounds_toArray, List.set_cons_zero, List.set_cons_succ]
            refine wpAnyH_take (i := 11) (v := ?_) rfl (by kernel_rfl) (by kernel_rfl) (by kernel_rfl) (fun _ _ _ h => h) (Or.inl ⟨by rfl, ?_⟩) (by assumption) ?_
            rotate_left
            · (intro w hSw; (try dsimp only at hSw); go_simp; try with_reducible rfl)
            simp only [List.getElem_toArray, List.getElem_cons_zero, List.getElem_cons_succ, Act.put, List.setIfInBounds_toArray, List.set_cons_zero, List.set_cons_succ]
            refine wpAnyH_ready (rs := [12]) (by kernel_rfl) (by simp) ?_
            refine AllReadyH.cons rfl (fun K hK => ?_) AllReadyH.nil
            obtain ⟨va, vl, vc, rfl⟩ : ∃ a n c, v' = .slice a n c := by
              obtain ⟨a, c, h, _⟩ := RW2.out.shape
              exact ⟨a, _, c, h⟩
            have l6 : W'.cell? ⟨w.heap.size + 1, 6, none⟩ = some (.slice ra rl rc) := TW.out.cell 1 rfl 6
            have f6 : W'.frozen? ⟨w.heap.size + 1, 6, none⟩ = false := TW.out.fr 1 rfl 6
            go_simp
            have TX : Hid (Bl w (W'.setCell ⟨w.heap.size + 1, 6, none⟩ (.slice va vl vc)) [(#[.bool false, .string ⟨#[]⟩, .string ⟨#[]⟩, .int .i64 0, .int .i64 0, .string ⟨#[]⟩, .slice none 0 0], 45), (#[.bool r, .string me, .string ta, .int .i64 (mi : Int), .int .i64 (st : Int), .string re, .slice va vl vc], 45)]) := hide (TW.out.set 1 rfl 6 (.slice va vl vc))
            have RX := hide (RW2.out.setOld (g := w.heap.size + 1) (by omega) 6 (.slice va vl vc))
            have cS2 : (W'.setCell ⟨w.heap.size + 1, 6, none⟩ (.slice va vl vc)).cell? ⟨f, 0, none⟩ = some (.string na) ∧ (W'.setCell ⟨w.heap.size + 1, 6, none⟩ (.slice va vl vc)).cell? ⟨f, 1, none⟩ = some (.string nb) := ⟨(World.cell?_setCell_far _ _ _ _ (by have := HF2.out; simp; omega)).trans cS.1, (World.cell?_setCell_far _ _ _ _ (by have := HF2.out; simp; omega)).trans cS.2⟩
            generalize W'.setCell ⟨w.heap.size + 1, 6, none⟩ (.slice va vl vc) = w9 at TX RX cS2 ⊢
            clear cS l6 f6
            refine hK.out _ _ cS2 (fun hHeld => ?_)
            clear hK K
            try simp only [List.getElem_toArray, List.getElem_cons_zero, List.getElem_cons_succ, Act.put, List.setIfInBounds_toArray, List.set_cons_zero, List.set_cons_succ]
            refine wpAnyH_done (by kernel_rfl) ?_ _
            clear hHeld cS2 TW RW2
            refine NoPanic.normal ?_
            go_wp2
            go_roundw
            case rel => exact ⟨k + 1, _, by omega, by go_num, hide (by rw [HSN.out]; exact RX.out), TX⟩
            case measure => simp [intOf]; omega
          · go_simp
            have DA := hide (D2.out.alloc D2.out.size (.cells #[.string na, .string nb] 48))
            clear cS l6
            have cS : (y2.alloc (.cells #[.string na, .string nb] 48)).cell? ⟨f, 0, none⟩ = some (.string na) ∧ (y2.alloc (.cells #[.string na, .string nb] 48)).cell? ⟨f, 1, none⟩ = some (.string nb) := ⟨(DA.out.cell (p := ⟨f, 0, none⟩) HLT.out).trans HC.out.1, (DA.out.cell (p := ⟨f, 1, none⟩) HLT.out).trans HC.out.2⟩
            have l6 : (y2.alloc (.cells #[.string na, .string nb] 48)).cell? ⟨w.heap.size + 1, 6, none⟩ = some (.slice ra rl rc) := (DA.out.cell (p := ⟨w.heap.size + 1, 6, none⟩) HL1.out).trans HR6.out
            refine hK.out _ _ cS (fun hHeld => ?_)
            clear hK K
            try simp only [List.getElem_toArray, List.getElem_cons_zero, List.getElem_cons_succ, Act.put, List.setIfInBounds_toArray, List.set_cons_zero, List.set_cons_succ]
            refine wpAnyH_ready (rs := [1]) (by kernel_rfl) (by simp) ?_
            refine AllReadyH.cons rfl (fun K hK => ?_) AllReadyH.nil
            go_simp
            refine hK.out _ _ cS (fun hHeld => ?_)
            clear hK K
            try simp only [List.getElem_toArray, List.getElem_cons_zero, List.getElem_cons_succ, Act.put, List.setIfInBounds_toArray, List.set_cons_zero, List.set_cons_succ]
            refine wpAnyH_ready (rs := [10]) (by kernel_rfl) (by simp) ?_
            refine AllReadyH.cons rfl (fun K hK => ?_) AllReadyH.nil
            obtain ⟨v', W', hrun, RW, BW, KW⟩ := append_fld_j y2 (w.heap.size + 2) 43 (.slice ra rl rc) (A.take k) (na, nb) (HROW.out.below D2.out) HLN.out (Nat.le_trans HSZ.out D2.out.size)
            have KA := hide KW
            clear KW cS l6
            have cS : W'.cell? ⟨f, 0, none⟩ = some (.string na) ∧ W'.cell? ⟨f, 1, none⟩ = some (.string nb) := ⟨(cell_heap (KA.out f (Nat.lt_of_lt_of_le HLT.out D2.out.size) HOWN.out) 0).trans ((D2.out.cell (p := ⟨f, 0, none⟩) HLT.out).trans HC.out.1), (cell_heap (KA.out f (Nat.lt_of_lt_of_le HLT.out D2.out.size) HOWN.out) 1).trans ((D2.out.cell (p := ⟨f, 1, none⟩) HLT.out).trans HC.out.2)⟩
            have TW := hide ((HT.out.below D2.out).low (by simp) BW)
            have RW2 := hide RW
            clear RW BW KA
            refine step_append_is rfl (.tmp 44) (.tmp 52) 43 rfl (.slice ra rl rc) (.slice (some ⟨y2.heap.size, 0, none⟩) 1 1) v' (by simp [Act.eval]) (by simp [Act.eval]) hrun ?_
            clear hrun
            refine hK.out _ _ cS (fun hHeld => ?_)
            clear hK K
            try simp only [List.getElem_toArray, List.getElem_cons_zero, List.getElem_cons_succ, Act.put, List.setIfInBounds_toArray, List.set_cons_zero, List.set_cons_succ]
            refine wpAnyH_take (i := 11) (v := ?_) rfl (by kernel_rfl) (by kernel_rfl) (by kernel_rfl) (fun _ _ _ h => h) (Or.inl ⟨by rfl, ?_⟩) (by assumption) ?_
            rotate_left
            · (intro w hSw; (try dsimp only at hSw); go_simp; try with_reducible rfl)
            simp only [List.getElem_toArray, List.getElem_cons_zero, List.getElem_cons_succ, Act.put, List.setIfInBounds_toArray, List.set_cons_zero, List.set_cons_succ]
            refine wpAnyH_ready (rs := [12]) (by kernel_rfl) (by simp) ?_
            refine AllReadyH.cons rfl (fun K hK => ?_) AllReadyH.nil
            obtain ⟨va, vl, vc, rfl⟩ : ∃ a n c, v' = .slice a n c := by
              obtain ⟨a, c, h, _⟩ := RW2.out.shape
              exact ⟨a, _, c, h⟩
            have l6 : W'.cell? ⟨w.heap.size + 1, 6, none⟩ = some (.slice ra rl rc) := TW.out.cell 1 rfl 6
            have f6 : W'.frozen? ⟨w.heap.size + 1, 6, none⟩ = false := TW.out.fr 1 rfl 6
            go_simp
            have TX : Hid (Bl w (W'.setCell ⟨w.heap.size + 1, 6, none⟩ (.slice va vl vc)) [(#[.bool false, .string ⟨#[]⟩, .string ⟨#[]⟩, .int .i64 0, .int .i64 0, .string ⟨#[]⟩, .slice none 0 0], 45), (#[.bool r, .string me, .string ta, .int .i64 (mi : Int), .int .i64 (st : Int), .string re, .slice va vl vc], 45)]) := hide (TW.out.set 1 rfl 6 (.slice va vl vc))
            have RX := hide (RW2.out.setOld (g := w.heap.size + 1) (by omega) 6 (.slice va vl vc))
            have cS2 : (W'.setCell ⟨w.heap.size + 1, 6, none⟩ (.slice va vl vc)).cell? ⟨f, 0, none⟩ = some (.string na) ∧ (W'.setCell ⟨w.heap.size + 1, 6, none⟩ (.slice va vl vc)).cell? ⟨f, 1, none⟩ = some (.string nb) := ⟨(World.cell?_setCell_far _ _ _ _ (by have := HF2.out; simp; omega)).trans cS.1, (World.cell?_setCell_far _ _ _ _ (by have := HF2.out; simp; omega)).trans cS.2⟩
            generalize W'.setCell ⟨w.heap.size + 1, 6, none⟩ (.slice va vl vc) = w9 at TX RX cS2 ⊢
            clear cS l6 f6
            refine hK.out _ _ cS2 (fun hHeld => ?_)
            clear hK K
            try simp only [List.getElem_toArray, List.getElem_cons_zero, List.getElem_cons_succ, Act.put, List.setIfInBounds_toArray, List.set_cons_zero, List.set_cons_succ]
            refine wpAnyH_done (by kernel_rfl) ?_ _
            clear hHeld cS2 TW RW2
            refine NoPanic.normal ?_
            go_wp2
            go_roundw
            case rel => exact ⟨k + 1, _, by omega, by go_num, hide (by rw [HSN.out]; exact RX.out), TX⟩
            case measure => simp [intOf]; omega
    · have HE : Hid (FRow wr (w.heap.size + 2) (.slice ra rl rc) A) := hide (by have := HR.out; rw [List.take_of_length_le (by omega)] at this; exact this)
      obtain ⟨r0, r1, r2, r3, r4, r5, r6⟩ := HT0.out.hd 1 (w.heap.size + 1) rfl rfl
      obtain ⟨s0, s1, s2, s3, s4, s5, s6⟩ := HT0.out.hd 0 w.heap.size rfl rfl
      have f0 : wr.frozen? ⟨w.heap.size, 0, none⟩ = false := HT0.out.fr 0 rfl 0
      have f1 : wr.frozen? ⟨w.heap.size, 1, none⟩ = false := HT0.out.fr 0 rfl 1
      have f2 : wr.frozen? ⟨w.heap.size, 2, none⟩ = false := HT0.out.fr 0 rfl 2
      have f3 : wr.frozen? ⟨w.heap.size, 3, none⟩ = false := HT0.out.fr 0 rfl 3
      have f4 : wr.frozen? ⟨w.heap.size, 4, none⟩ = false := HT0.out.fr 0 rfl 4
      have f5 : wr.frozen? ⟨w.heap.size, 5, none⟩ = false := HT0.out.fr 0 rfl 5
      have f6 : wr.frozen? ⟨w.heap.size, 6, none⟩ = false := HT0.out.fr 0 rfl 6
      go_wp2
      have RF := hide (((((((HE.out.setOld (g := w.heap.size) (by omega) 0 (.bool r)).setOld (g := w.heap.size) (by omega) 1 (.string me)).setOld (g := w.heap.size) (by omega) 2 (.string ta)).setOld (g := w.heap.size) (by omega) 3 (.int .i64 (mi : Int))).setOld (g := w.heap.size) (by omega) 4 (.int .i64 (st : Int))).setOld (g := w.heap.size) (by omega) 5 (.string re)).setOld (g := w.heap.size) (by omega) 6 (.slice ra rl rc))
      have TF : Hid (Bl w (((((((wr.setCell ⟨w.heap.size, 0, none⟩ (.bool r)).setCell ⟨w.heap.size, 1, none⟩ (.string me)).setCell ⟨w.heap.size, 2, none⟩ (.string ta)).setCell ⟨w.heap.size, 3, none⟩ (.int .i64 (mi : Int))).setCell ⟨w.heap.size, 4, none⟩ (.int .i64 (st : Int))).setCell ⟨w.heap.size, 5, none⟩ (.string re)).setCell ⟨w.heap.size, 6, none⟩ (.slice ra rl rc)) [(#[.bool r, .string me, .string ta, .int .i64 (mi : Int), .int .i64 (st : Int), .string re, .slice ra rl rc], 45), (#[.bool r, .string me, .string ta, .int .i64 (mi : Int), .int .i64 (st : Int), .string re, .slice ra rl rc], 45)]) := hide (((((((HT0.out.set 0 rfl 0 (.bool r)).set 0 rfl 1 (.string me)).set 0 rfl 2 (.string ta)).set 0 rfl 3 (.int .i64 (mi : Int))).set 0 rfl 4 (.int .i64 (st : Int))).set 0 rfl 5 (.string re)).set 0 rfl 6 (.slice ra rl rc))
      generalize (((((((wr.setCell ⟨w.heap.size, 0, none⟩ (.bool r)).setCell ⟨w.heap.size, 1, none⟩ (.string me)).setCell ⟨w.heap.size, 2, none⟩ (.string ta)).setCell ⟨w.heap.size, 3, none⟩ (.int .i64 (mi : Int))).setCell ⟨w.heap.size, 4, none⟩ (.int .i64 (st : Int))).setCell ⟨w.heap.size, 5, none⟩ (.string re)).setCell ⟨w.heap.size, 6, none⟩ (.slice ra rl rc)) = w9 at RF TF ⊢
      clear r0 r1 r2 r3 r4 r5 r6 s0 s1 s2 s3 s4 s5 s6 f0 f1 f2 f3 f4 f5 f6
      obtain ⟨k0, k1, k2, k3, k4, k5, k6⟩ := TF.out.hd 0 w.heap.size rfl rfl
      exact bodyPost_ret (v := .agg #[.bool r, .string me, .string ta, .int .i64 (mi : Int), .int .i64 (st : Int), .string re, .slice ra rl rc]) (by simp [results, Tryz.results34, go_sem, k0, k1, k2, k3, k4, k5, k6]) rfl ⟨_, rfl, RF.out.lower (by omega), TF.out.b⟩
theorem head_nil (w : World) : Calls Tryz.prog 34 #[.pointer none] w fun e w' => e = .returned hd0 ∧ Below w.heap.size w w' := by
  unfold hd0
  go_enter Tryz.func34, Tryz.ntmps34
  go_wp2
  have T0 := hide (Bl.one w #[.bool false, .string ⟨#[]⟩, .string ⟨#[]⟩, .int .i64 0, .int .i64 0, .string ⟨#[]⟩, .slice none 0 0] 45)
  generalize (w.alloc (.cells #[.bool false, .string ⟨#[]⟩, .string ⟨#[]⟩, .int .i64 0, .int .i64 0, .string ⟨#[]⟩, .slice none 0 0] 45)) = x at T0 ⊢
  obtain ⟨k0, k1, k2, k3, k4, k5, k6⟩ := T0.out.hd 0 w.heap.size rfl rfl
  exact bodyPost_ret (v := .agg #[.bool false, .string ⟨#[]⟩, .string ⟨#[]⟩, .int .i64 0, .int .i64 0, .string ⟨#[]⟩, .slice none 0 0]) (by simp [results, Tryz.results34, go_sem, k0, k1, k2, k3, k4, k5, k6]) rfl ⟨rfl, T0.out.b⟩
theorem head_part {w : World} {base g : Nat} {lv fv : Value} {p : Pz} (h : Par w base g lv fv p) (hw : p.whole = false) :
    Calls Tryz.prog 34 #[.pointer (some ⟨g, 0, none⟩)] w fun e w' => e = .returned hd0 ∧ Below w.heap.size w w' := by
  have c13 : w.cell? ⟨g, 13, none⟩ = some (.bool false) := by have := h.cell 13; rw [show (pcells p g lv fv)[13]? = some (.bool p.whole) from rfl, hw] at this; exact this
  have hgl := h.lt
  clear h hw
  unfold hd0
  go_enter Tryz.func34, Tryz.ntmps34
  go_wp2
  have T0 := hide (Bl.one w #[.bool false, .string ⟨#[]⟩, .string ⟨#[]⟩, .int .i64 0, .int .i64 0, .string ⟨#[]⟩, .slice none 0 0] 45)
  generalize (w.alloc (.cells #[.bool false, .string ⟨#[]⟩, .string ⟨#[]⟩, .int .i64 0, .int .i64 0, .string ⟨#[]⟩, .slice none 0 0] 45)) = x at T0 ⊢
  obtain ⟨k0, k1, k2, k3, k4, k5, k6⟩ := T0.out.hd 0 w.heap.size rfl rfl
  exact bodyPost_ret (v := .agg #[.bool false, .string ⟨#[]⟩, .string ⟨#[]⟩, .int .i64 0, .int .i64 0, .string ⟨#[]⟩, .slice none 0 0]) (by simp [results, Tryz.results34, go_sem, k0, k1, k2, k3, k4, k5, k6]) rfl ⟨rfl, T0.out.b⟩
end Go.Proofs.YtcagjipdldlehaaGreatDoor
