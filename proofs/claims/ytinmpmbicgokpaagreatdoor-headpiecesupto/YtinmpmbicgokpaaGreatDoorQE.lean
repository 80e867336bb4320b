/- QE: HHead HParse HTxt HTxt2 HTxt3 HSame HPrint HSays. -/
import Derived.Test.YtinmpmbicgokpaaGreatDoorQD
import Derived.Test.YtinmpmbicgokpaaGreatDoorQA
import Derived.Test.YtinmpmbicgokpaaGreatDoorLib
import Derived.Lib.ItoaLen
import Derived.Lib.LaidTab
import Derived.Deep.QuietTactic
import Derived.BigQuiet
import Derived.Lib.SlBytesConst
/- What Head hands back. -/
namespace Go.Proofs.YtinmpmbicgokpaaGreatDoor
open Go.ChangeShapes Go.WideShapes Go.ChangeAt Go.RowKit

theorem append_fld_j (W : World) (base : Nat) (ty : TypeId) (v : Value) (A : List (ByteArray × ByteArray)) (f : ByteArray × ByteArray) (hown : FRow W base v A) (hn : A.length ≤ 1099511627776) (hbase : base ≤ W.heap.size) :
    ∃ v' W', (Builtin.append_ #[23, 23] ty #[v, .slice (some ⟨W.heap.size, 0, none⟩) 1 1]).run Tryz.prog (W.alloc (.cells #[.string f.1, .string f.2] 51)) = .ok v' W' ∧ FRow W' base v' (A ++ [f]) ∧ Below base W W' ∧ ∀ k, k < W.heap.size → v.ownBlock ≠ some k → W'.heap[k]? = W.heap[k]? := by
  obtain ⟨i, hi, hz, hs1, hb1⟩ := infoF
  have ho : FRow (W.alloc (.cells #[.string f.1, .string f.2] 51)) base v A := hown.frame fun g hg => Below.heap_alloc W _ g (hown.lt hg).2
  obtain ⟨v', W', hr, h1, hg, _⟩ := run_append_own (w := W.alloc (.cells #[.string f.1, .string f.2] 51)) base 23 ty 51 i _ 2 32 Tryz.underlying23 hi hz hs1 hb1 rfl (by omega) v A.length (fcs A) ho ⟨W.heap.size, 0, none⟩ 1 1 (fc f) rfl (two_cells W f) (by intro u hu; simp [fc] at hu; rcases hu with rfl | rfl <;> rfl) (by unfold maxLen; omega) (by omega) (by simp; omega)
  refine ⟨v', W', hr, ?_, ?_, ?_⟩
  · unfold FRow
    rw [List.length_append, fcs_snoc]
    exact h1
  · exact ((Below.refl base W).alloc hbase _).grown hg (by simp; omega) (fun k hk => (hown.lt hk).1)
  · intro k hk hne
    exact (hg.block k (by simp; omega) (fun e => hne e.symm)).trans (Below.heap_alloc W _ k hk)
theorem cell_heap {W W' : World} {b : Nat} (h : W'.heap[b]? = W.heap[b]?) (j : Nat) : W'.cell? ⟨b, j, none⟩ = W.cell? ⟨b, j, none⟩ := by
  unfold World.cell?
  simp [h]
theorem Bl.low {w x y : World} {L : List (Array Value × TypeId)} (h : Bl w x L) {base : Nat} (hb : w.heap.size + L.length ≤ base) (b : Below base x y) : Bl w y L :=
  ⟨fun i c t hi => (b.block _ (by have := (List.getElem?_eq_some_iff.1 hi).1; omega)).trans (h.hp i c t hi), h.b.trans (b.mono (by omega))⟩
theorem FRow.setOld {W : World} {base : Nat} {v : Value} {A : List (ByteArray × ByteArray)} (h : FRow W base v A) {g : Nat} (hg : g < base) (i : Nat) (u : Value) : FRow (W.setCell ⟨g, i, none⟩ u) base v A :=
  h.frame fun k hk => Below.heap_setCell W ⟨g, i, none⟩ u k (by have := (h.lt hk).1; simp; omega)
theorem Bl.hd {w x : World} {L : List (Array Value × TypeId)} (h : Bl w x L) (i g : Nat) (hg : g = w.heap.size + i) {r : Bool} {me ta : ByteArray} {mi st : Int} {re : ByteArray} {l : Value} {t : TypeId} (hi : L[i]? = some (#[.bool r, .string me, .string ta, .int .i64 mi, .int .i64 st, .string re, l], t)) :
    x.cell? ⟨g, 0, none⟩ = some (.bool r) ∧ x.cell? ⟨g, 1, none⟩ = some (.string me) ∧ x.cell? ⟨g, 2, none⟩ = some (.string ta) ∧ x.cell? ⟨g, 3, none⟩ = some (.int .i64 mi) ∧ x.cell? ⟨g, 4, none⟩ = some (.int .i64 st) ∧ x.cell? ⟨g, 5, none⟩ = some (.string re) ∧ x.cell? ⟨g, 6, none⟩ = some l := by
  subst hg
  exact ⟨h.cell i hi 0, h.cell i hi 1, h.cell i hi 2, h.cell i hi 3, h.cell i hi 4, h.cell i hi 5, h.cell i hi 6⟩
theorem FRow.lower {W : World} {base base2 : Nat} {v : Value} {A : List (ByteArray × ByteArray)} (h : FRow W base v A) (hb : base2 ≤ base) : FRow W base2 v A := by
  refine ⟨h.1, ?_⟩
  rcases h.2 with x | ⟨g, cap, cur, rfl, h1, r⟩
  · exact .inl x
  · exact .inr ⟨g, cap, cur, rfl, Nat.le_trans hb h1, r⟩
/-- The fields that have not the name n. -/
def hdV (p : Pz) (l : Value) : Value := .agg #[.bool p.req, .string p.me, .string p.ta, .int .i64 (p.minor : Int), .int .i64 (p.status : Int), .string p.re, l]
def hd0 : Value := .agg #[.bool false, .string ⟨#[]⟩, .string ⟨#[]⟩, .int .i64 0, .int .i64 0, .string ⟨#[]⟩, .slice none 0 0]
set_option maxHeartbeats 8000000 in
set_option maxRecDepth 100000 in
theorem head_whole {w : World} {base g : Nat} {lv fv : Value} {p : Pz} (h : Par w base g lv fv p) (hw : p.whole = true) (hz : Sz p) (hf : Fit p) :
    Calls Tryz.prog 17 #[.pointer (some ⟨g, 0, none⟩)] w fun e w' => ∃ l, e = .returned (hdV p l) ∧ FRow w' w.heap.size l p.fs ∧ Below w.heap.size w w' := by
  obtain ⟨fa, fc, rfl, _, _⟩ := h.flds.shape
  have c13 : w.cell? ⟨g, 13, none⟩ = some (.bool true) := by have := h.cell 13; rw [show (pcells p g lv (.slice fa p.fs.length fc))[13]? = some (.bool p.whole) from rfl, hw] at this; exact this
  have c6 : w.cell? ⟨g, 6, none⟩ = some (.bool p.req) := h.cell 6
  have c7 : w.cell? ⟨g, 7, none⟩ = some (.string p.me) := h.cell 7
  have c8 : w.cell? ⟨g, 8, none⟩ = some (.string p.ta) := h.cell 8
  have c9 : w.cell? ⟨g, 9, none⟩ = some (.int .i64 (p.minor : Int)) := h.cell 9
  have c10 : w.cell? ⟨g, 10, none⟩ = some (.int .i64 (p.status : Int)) := h.cell 10
  have c11 : w.cell? ⟨g, 11, none⟩ = some (.string p.re) := h.cell 11
  have c12 : w.cell? ⟨g, 12, none⟩ = some (.slice fa p.fs.length fc) := h.cell 12
  have hgl := h.lt
  have HGL : Hid (g < w.heap.size) := hide h.lt
  have F0 := hide (Flds.of_row h.flds)
  have z1 := hz.me
  have z2 := hz.ta
  have z3 := hz.re
  have HZF := hide hz.fs
  have hal := hf.fs
  unfold hdV
  clear h hw hz hf
  obtain ⟨_, _, _, _, _, _, r, me, ta, mi, st, re, A, _, _⟩ := p
  dsimp only at *
  have HC12 := hide c12
  obtain ⟨_, _, he0, ⟨_, _⟩, hcells⟩ := F0.out
  simp only [Value.slice.injEq, true_and] at he0
  obtain ⟨rfl, rfl⟩ := he0
  have HC0 := hide hcells
  clear hcells
  go_enter Tryz.func17, Tryz.ntmps17
  go_upto_region 4 with fail
  have T0 := hide (Bl.two w #[.bool false, .string ⟨#[]⟩, .string ⟨#[]⟩, .int .i64 0, .int .i64 0, .string ⟨#[]⟩, .slice none 0 0] 25 #[.bool r, .string me, .string ta, .int .i64 (mi : Int), .int .i64 (st : Int), .string re, .slice fa A.length fc] 25)
  generalize ((w.alloc (.cells #[.bool false, .string ⟨#[]⟩, .string ⟨#[]⟩, .int .i64 0, .int .i64 0, .string ⟨#[]⟩, .slice none 0 0] 25)).alloc (.cells #[.bool r, .string me, .string ta, .int .i64 (mi : Int), .int .i64 (st : Int), .string re, .slice fa A.length fc] 25)) = x at T0 ⊢
  clear c6 c7 c8 c9 c10 c11 c12 c13 hgl
  have T1 := hide T0.out.drew
  have cS : x.drew.cell? ⟨w.heap.size + 1, 1, none⟩ = some (.string me) ∧ x.drew.cell? ⟨w.heap.size + 1, 2, none⟩ = some (.string ta) ∧ x.drew.cell? ⟨w.heap.size + 1, 5, none⟩ = some (.string re) := ⟨T1.out.cell 1 rfl 1, T1.out.cell 1 rfl 2, T1.out.cell 1 rfl 5⟩
  refine wp_region_noPanic ?_
  refine wp_region_held_drew (S := fun W => W.cell? ⟨w.heap.size + 1, 1, none⟩ = some (.string me) ∧ W.cell? ⟨w.heap.size + 1, 2, none⟩ = some (.string ta) ∧ W.cell? ⟨w.heap.size + 1, 5, none⟩ = some (.string re)) (by kernel_rfl) cS (fun hHeld => ?_)
  refine wpAnyH_take (i := 0) (v := ?_) rfl (by kernel_rfl) (by kernel_rfl) (by kernel_rfl) (fun _ _ _ h => h) (Or.inl ⟨by rfl, ?_⟩) (by assumption) ?_
  rotate_left
  · (intro w hSw; (try dsimp only at hSw); go_simp; try with_reducible rfl)
  simp only [List.getElem_toArray, List.getElem_cons_zero, Act.put, List.setIfInBounds_toArray, List.set_cons_zero, List.set_cons_succ]
  refine wpAnyH_take (i := 1) (v := ?_) rfl (by kernel_rfl) (by kernel_rfl) (by kernel_rfl) (fun _ _ _ h => h) (Or.inl ⟨by rfl, ?_⟩) (by assumption) ?_
  rotate_left
  · (intro w hSw; (try dsimp only at hSw); go_simp; try with_reducible rfl)
  simp only [List.getElem_toArray, List.getElem_cons_zero, List.getElem_cons_succ, Act.put, List.setIfInBounds_toArray, List.set_cons_zero, List.set_cons_succ]
  refine wpAnyH_take (i := 3) (v := ?_) rfl (by kernel_rfl) (by kernel_rfl) (by kernel_rfl) (fun _ _ _ h => h) (Or.inl ⟨by rfl, ?_⟩) (by assumption) ?_
  rotate_left
  · (intro w hSw; (try dsimp only at hSw); go_simp; try with_reducible rfl)
  simp only [List.getElem_toArray, List.getElem_cons_zero, List.getElem_cons_succ, Act.put, List.setIfInBounds_toArray, List.set_cons_zero, List.set_cons_succ]
  refine wpAnyH_take (i := 4) (v := ?_) rfl (by kernel_rfl) (by kernel_rfl) (by kernel_rfl) (fun _ _ _ h => h) (Or.inl ⟨by rfl, ?_⟩) (by assumption) ?_
  rotate_left
  · (intro w hSw; (try dsimp only at hSw); go_simp; try with_reducible rfl)
  simp only [List.getElem_toArray, List.getElem_cons_zero, List.getElem_cons_succ, Act.put, List.setIfInBounds_toArray, List.set_cons_zero, List.set_cons_succ]
  refine wpAnyH_take (i := 6) (v := ?_) rfl (by kernel_rfl) (by kernel_rfl) (by kernel_rfl) (fun _ _ _ h => h) (Or.inl ⟨by rfl, ?_⟩) (by assumption) ?_
  rotate_left
  · (intro w hSw; (try dsimp only at hSw); go_simp; try with_reducible rfl)
  simp only [List.getElem_toArray, List.getElem_cons_zero, List.getElem_cons_succ, Act.put, List.setIfInBounds_toArray, List.set_cons_zero, List.set_cons_succ]
  refine wpAnyH_take (i := 7) (v := ?_) rfl (by kernel_rfl) (by kernel_rfl) (by kernel_rfl) (fun _ _ _ h => h) (Or.inl ⟨by rfl, ?_⟩) (by assumption) ?_
  rotate_left
  · (intro w hSw; (try dsimp only at hSw); go_simp; try with_reducible rfl)
  simp only [List.getElem_toArray, List.getElem_cons_zero, List.getElem_cons_succ, Act.put, List.setIfInBounds_toArray, List.set_cons_zero, List.set_cons_succ]
  refine wpAnyH_ready (rs := [2]) (by kernel_rfl) (by simp) ?_
  refine AllReadyH.cons rfl (fun K hK => ?_) AllReadyH.nil
  go_simp
  refine (clone_any me _ (by omega)).mono ?_
  rintro e y1 ⟨rfl, bb⟩
  have T2 := hide (T1.out.below bb)
  clear bb cS
  have cS : y1.cell? ⟨w.heap.size + 1, 1, none⟩ = some (.string me) ∧ y1.cell? ⟨w.heap.size + 1, 2, none⟩ = some (.string ta) ∧ y1.cell? ⟨w.heap.size + 1, 5, none⟩ = some (.string re) := ⟨T2.out.cell 1 rfl 1, T2.out.cell 1 rfl 2, T2.out.cell 1 rfl 5⟩
  go_wp2_with fail
  refine hK.out _ _ cS (fun hHeld => ?_)
  clear hK K
  try simp only [List.getElem_toArray, List.getElem_cons_zero, List.getElem_cons_succ, Act.put, List.setIfInBounds_toArray, List.set_cons_zero, List.set_cons_succ]
  refine wpAnyH_take (i := 9) (v := ?_) rfl (by kernel_rfl) (by kernel_rfl) (by kernel_rfl) (fun _ _ _ h => h) (Or.inl ⟨by rfl, ?_⟩) (by assumption) ?_
  rotate_left
  · (intro w hSw; (try dsimp only at hSw); go_simp; try with_reducible rfl)
  simp only [List.getElem_toArray, List.getElem_cons_zero, List.getElem_cons_succ, Act.put, List.setIfInBounds_toArray, List.set_cons_zero, List.set_cons_succ]
  refine wpAnyH_ready (rs := [5]) (by kernel_rfl) (by simp) ?_
  refine AllReadyH.cons rfl (fun K hK => ?_) AllReadyH.nil
  go_simp
  refine (clone_any ta _ (by omega)).mono ?_
  rintro e y2 ⟨rfl, bb⟩
  have T3 := hide (T2.out.below bb)
  clear bb cS
  have cS : y2.cell? ⟨w.heap.size + 1, 1, none⟩ = some (.string me) ∧ y2.cell? ⟨w.heap.size + 1, 2, none⟩ = some (.string ta) ∧ y2.cell? ⟨w.heap.size + 1, 5, none⟩ = some (.string re) := ⟨T3.out.cell 1 rfl 1, T3.out.cell 1 rfl 2, T3.out.cell 1 rfl 5⟩
  go_wp2_with fail
  refine hK.out _ _ cS (fun hHeld => ?_)
  clear hK K
  try simp only [List.getElem_toArray, List.getElem_cons_zero, List.getElem_cons_succ, Act.put, List.setIfInBounds_toArray, List.set_cons_zero, List.set_cons_succ]
  refine wpAnyH_ready (rs := [8]) (by kernel_rfl) (by simp) ?_
  refine AllReadyH.cons rfl (fun K hK => ?_) AllReadyH.nil
  go_simp
  refine (clone_any re _ (by omega)).mono ?_
  rintro e y3 ⟨rfl, bb⟩
  have T4 := hide (T3.out.below bb)
  clear bb cS
  have cS : y3.cell? ⟨w.heap.size + 1, 1, none⟩ = some (.string me) ∧ y3.cell? ⟨w.heap.size + 1, 2, none⟩ = some (.string ta) ∧ y3.cell? ⟨w.heap.size + 1, 5, none⟩ = some (.string re) := ⟨T4.out.cell 1 rfl 1, T4.out.cell 1 rfl 2, T4.out.cell 1 rfl 5⟩
  go_wp2_with fail
  refine hK.out _ _ cS (fun hHeld => ?_)
  clear hK K
  try simp only [List.getElem_toArray, List.getElem_cons_zero, List.getElem_cons_succ, Act.put, List.setIfInBounds_toArray, List.set_cons_zero, List.set_cons_succ]
  refine wpAnyH_ready (rs := [10]) (by kernel_rfl) (by simp) ?_
  refine AllReadyH.cons rfl (fun K hK => ?_) AllReadyH.nil
  have l1 : y3.cell? ⟨w.heap.size + 1, 1, none⟩ = some (.string me) := T4.out.cell 1 rfl 1
  have fz : y3.frozen? ⟨w.heap.size + 1, 1, none⟩ = false := T4.out.fr 1 rfl 1
  go_simp
  have T5 : Hid (Bl w (y3.setCell ⟨w.heap.size + 1, 1, none⟩ (.string me)) [(#[.bool false, .string ⟨#[]⟩, .string ⟨#[]⟩, .int .i64 0, .int .i64 0, .string ⟨#[]⟩, .slice none 0 0], 25), (#[.bool r, .string me, .string ta, .int .i64 (mi : Int), .int .i64 (st : Int), .string re, .slice fa A.length fc], 25)]) := hide (T4.out.set 1 rfl 1 (.string me))
  generalize y3.setCell ⟨w.heap.size + 1, 1, none⟩ (.string me) = z1 at T5 ⊢
  clear cS l1 fz
  have cS : z1.cell? ⟨w.heap.size + 1, 1, none⟩ = some (.string me) ∧ z1.cell? ⟨w.heap.size + 1, 2, none⟩ = some (.string ta) ∧ z1.cell? ⟨w.heap.size + 1, 5, none⟩ = some (.string re) := ⟨T5.out.cell 1 rfl 1, T5.out.cell 1 rfl 2, T5.out.cell 1 rfl 5⟩
  refine hK.out _ _ cS (fun hHeld => ?_)
  clear hK K
  try simp only [List.getElem_toArray, List.getElem_cons_zero, List.getElem_cons_succ, Act.put, List.setIfInBounds_toArray, List.set_cons_zero, List.set_cons_succ]
  refine wpAnyH_take (i := 11) (v := ?_) rfl (by kernel_rfl) (by kernel_rfl) (by kernel_rfl) (fun _ _ _ h => h) (Or.inl ⟨by rfl, ?_⟩) (by assumption) ?_
  rotate_left
  · (intro w hSw; (try dsimp only at hSw); go_simp; try with_reducible rfl)
  simp only [List.getElem_toArray, List.getElem_cons_zero, List.getElem_cons_succ, Act.put, List.setIfInBounds_toArray, List.set_cons_zero, List.set_cons_succ]
  refine wpAnyH_ready (rs := [12]) (by kernel_rfl) (by simp) ?_
  refine AllReadyH.cons rfl (fun K hK => ?_) AllReadyH.nil
  have l2 : z1.cell? ⟨w.heap.size + 1, 2, none⟩ = some (.string ta) := T5.out.cell 1 rfl 2
  have fz : z1.frozen? ⟨w.heap.size + 1, 2, none⟩ = false := T5.out.fr 1 rfl 2
  go_simp
  have T6 : Hid (Bl w (z1.setCell ⟨w.heap.size + 1, 2, none⟩ (.string ta)) [(#[.bool false, .string ⟨#[]⟩, .string ⟨#[]⟩, .int .i64 0, .int .i64 0, .string ⟨#[]⟩, .slice none 0 0], 25), (#[.bool r, .string me, .string ta, .int .i64 (mi : Int), .int .i64 (st : Int), .string re, .slice fa A.length fc], 25)]) := hide (T5.out.set 1 rfl 2 (.string ta))
  generalize z1.setCell ⟨w.heap.size + 1, 2, none⟩ (.string ta) = z2 at T6 ⊢
  clear cS l2 fz
  have cS : z2.cell? ⟨w.heap.size + 1, 1, none⟩ = some (.string me) ∧ z2.cell? ⟨w.heap.size + 1, 2, none⟩ = some (.string ta) ∧ z2.cell? ⟨w.heap.size + 1, 5, none⟩ = some (.string re) := ⟨T6.out.cell 1 rfl 1, T6.out.cell 1 rfl 2, T6.out.cell 1 rfl 5⟩
  refine hK.out _ _ cS (fun hHeld => ?_)
  clear hK K
  try simp only [List.getElem_toArray, List.getElem_cons_zero, List.getElem_cons_succ, Act.put, List.setIfInBounds_toArray, List.set_cons_zero, List.set_cons_succ]
  refine wpAnyH_take (i := 13) (v := ?_) rfl (by kernel_rfl) (by kernel_rfl) (by kernel_rfl) (fun _ _ _ h => h) (Or.inl ⟨by rfl, ?_⟩) (by assumption) ?_
  rotate_left
  · (intro w hSw; (try dsimp only at hSw); go_simp; try with_reducible rfl)
  simp only [List.getElem_toArray, List.getElem_cons_zero, List.getElem_cons_succ, Act.put, List.setIfInBounds_toArray, List.set_cons_zero, List.set_cons_succ]
  refine wpAnyH_ready (rs := [14]) (by kernel_rfl) (by simp) ?_
  refine AllReadyH.cons rfl (fun K hK => ?_) AllReadyH.nil
  have l5 : z2.cell? ⟨w.heap.size + 1, 5, none⟩ = some (.string re) := T6.out.cell 1 rfl 5
  have fz : z2.frozen? ⟨w.heap.size + 1, 5, none⟩ = false := T6.out.fr 1 rfl 5
  go_simp
  have T7 : Hid (Bl w (z2.setCell ⟨w.heap.size + 1, 5, none⟩ (.string re)) [(#[.bool false, .string ⟨#[]⟩, .string ⟨#[]⟩, .int .i64 0, .int .i64 0, .string ⟨#[]⟩, .slice none 0 0], 25), (#[.bool r, .string me, .string ta, .int .i64 (mi : Int), .int .i64 (st : Int), .string re, .slice fa A.length fc], 25)]) := hide (T6.out.set 1 rfl 5 (.string re))
  generalize z2.setCell ⟨w.heap.size + 1, 5, none⟩ (.string re) = z3 at T7 ⊢
  clear cS l5 fz
  have cS : z3.cell? ⟨w.heap.size + 1, 1, none⟩ = some (.string me) ∧ z3.cell? ⟨w.heap.size + 1, 2, none⟩ = some (.string ta) ∧ z3.cell? ⟨w.heap.size + 1, 5, none⟩ = some (.string re) := ⟨T7.out.cell 1 rfl 1, T7.out.cell 1 rfl 2, T7.out.cell 1 rfl 5⟩
  refine hK.out _ _ cS (fun hHeld => ?_)
  clear hK K
  try simp only [List.getElem_toArray, List.getElem_cons_zero, List.getElem_cons_succ, Act.put, List.setIfInBounds_toArray, List.set_cons_zero, List.set_cons_succ]
  refine wpAnyH_done (by kernel_rfl) ?_ _
  clear hHeld cS
  refine NoPanic.normal ?_
  have l6 : z3.cell? ⟨w.heap.size + 1, 6, none⟩ = some (.slice fa A.length fc) := T7.out.cell 1 rfl 6
  have f6 : z3.frozen? ⟨w.heap.size + 1, 6, none⟩ = false := T7.out.fr 1 rfl 6
  go_upto_region 6 with fail
  have T8 : Hid (Bl w (z3.setCell ⟨w.heap.size + 1, 6, none⟩ (.slice none 0 0)) [(#[.bool false, .string ⟨#[]⟩, .string ⟨#[]⟩, .int .i64 0, .int .i64 0, .string ⟨#[]⟩, .slice none 0 0], 25), (#[.bool r, .string me, .string ta, .int .i64 (mi : Int), .int .i64 (st : Int), .string re, .slice none 0 0], 25)]) := hide (T7.out.set 1 rfl 6 (.slice none 0 0))
  generalize z3.setCell ⟨w.heap.size + 1, 6, none⟩ (.slice none 0 0) = z4 at T8 ⊢
  clear T0 T1 T2 T3 T4 T5 T6 T7 l6 f6
  have c12 : z4.cell? ⟨g, 12, none⟩ = some (.slice fa A.length fc) := (T8.out.b.cell (p := ⟨g, 12, none⟩) HGL.out).trans HC12.out
  go_wp2_with fail
  go_loopw [39] (fun i wr => ∃ (k : Nat) (rv : Value), k ≤ A.length ∧ i = .int .i64 k ∧ Hid (FRow wr (w.heap.size + 2) rv (A.take k)) ∧ Hid (Bl w wr [(#[.bool false, .string ⟨#[]⟩, .string ⟨#[]⟩, .int .i64 0, .int .i64 0, .string ⟨#[]⟩, .slice none 0 0], 25), (#[.bool r, .string me, .string ta, .int .i64 (mi : Int), .int .i64 (st : Int), .string re, rv], 25)])) (fun i _ => A.length - (intOf i).toNat)
  case atStart => exact ⟨0, _, Nat.zero_le _, rfl, hide (FRow.nil _ _), T8⟩
  case round =>
    obtain ⟨k, rv, hk, rfl, HR, HT0⟩ := hrel
    obtain ⟨ra, rl, rc, rfl⟩ : ∃ a n c, rv = .slice a n c := by
      obtain ⟨a, c, h, _⟩ := HR.out.shape
      exact ⟨a, _, c, h⟩
    clear c12
    by_cases hlt : k < A.length
    · obtain ⟨g1, o1, rfl, hg1, q1, q2⟩ := HC0.out k hlt
      have hz := HZF.out A[k] (List.getElem_mem hlt)
      have HSN := hide (take_snocF A k hlt)
      obtain ⟨⟨na, nb⟩, hfe⟩ : ∃ f, A[k] = f := ⟨_, rfl⟩
      rw [hfe] at q1 q2 hz HSN
      obtain ⟨hza, hzb⟩ := hz
      dsimp only at q1 q2 hza hzb
      have q3 : wr.cell? ⟨g1, o1 + k * 2, none⟩ = some (.string na) := (HT0.out.b.cell (p := ⟨g1, o1 + k * 2, none⟩) hg1).trans q1
      have q4 : wr.cell? ⟨g1, o1 + k * 2 + 1, none⟩ = some (.string nb) := (HT0.out.b.cell (p := ⟨g1, o1 + k * 2 + 1, none⟩) hg1).trans q2
      clear q1 q2 hg1 hfe
      go_upto_region 9 with fail
      have HC : Hid ((wr.alloc (.cells #[.string na, .string nb] 51)).cell? ⟨wr.heap.size, 0, none⟩ = some (.string na) ∧ (wr.alloc (.cells #[.string na, .string nb] 51)).cell? ⟨wr.heap.size, 1, none⟩ = some (.string nb)) := hide ⟨cell_at (hp_new wr _) 0, cell_at (hp_new wr _) 1⟩
      have DD := hide ((Below.refl _ wr).alloc (Nat.le_refl _) (.cells #[.string na, .string nb] 51))
      have HT := hide (HT0.out.below DD.out)
      have HROW := hide (HR.out.below DD.out)
      have HLT : Hid (wr.heap.size < (wr.alloc (.cells #[.string na, .string nb] 51)).heap.size) := hide (by simp)
      have HOWN : Hid ((.slice ra rl rc : Value).ownBlock ≠ some wr.heap.size) := hide (fun h => by have := (HR.out.lt h).2; omega)
      have HF2 : Hid (w.heap.size + 1 < wr.heap.size) := hide (blk_lt (HT0.out.hp 1 _ _ rfl))
      have HLN : Hid ((A.take k).length ≤ 1099511627776) := hide (by rw [List.length_take]; omega)
      generalize (wr.alloc (.cells #[.string na, .string nb] 51)) = y at HC DD HT HROW HLT ⊢
      have HSZ : Hid (w.heap.size + 2 ≤ y.heap.size) := hide (by have := HF2.out; have := HLT.out; omega)
      have HL1 : Hid (w.heap.size + 1 < y.heap.size) := hide (by have := HF2.out; have := HLT.out; omega)
      have HR6 : Hid (y.cell? ⟨w.heap.size + 1, 6, none⟩ = some (.slice ra rl rc)) := hide (HT.out.cell 1 rfl 6)
      clear DD HT0 HR q3 q4
      generalize wr.heap.size = f at HC HLT HOWN HF2 ⊢
      have D0 := hide ((Below.refl y.heap.size y).drew)
      have cS : y.drew.cell? ⟨f, 0, none⟩ = some (.string na) ∧ y.drew.cell? ⟨f, 1, none⟩ = some (.string nb) := ⟨(D0.out.cell (p := ⟨f, 0, none⟩) HLT.out).trans HC.out.1, (D0.out.cell (p := ⟨f, 1, none⟩) HLT.out).trans HC.out.2⟩
      have l6 : y.drew.cell? ⟨w.heap.size + 1, 6, none⟩ = some (.slice ra rl rc) := (D0.out.cell (p := ⟨w.heap.size + 1, 6, none⟩) HL1.out).trans HR6.out
      refine wp_region_noPanic ?_
      refine wp_region_held_drew (S := fun W => W.cell? ⟨f, 0, none⟩ = some (.string na) ∧ W.cell? ⟨f, 1, none⟩ = some (.string nb)) (by kernel_rfl) cS (fun hHeld => ?_)
      refine wpAnyH_take (i := 0) (v := ?_) rfl (by kernel_rfl) (by kernel_rfl) (by kernel_rfl) (fun _ _ _ h => h) (Or.inl ⟨by rfl, ?_⟩) (by assumption) ?_
      rotate_left
      · (intro w hSw; (try dsimp only at hSw); go_simp; try with_reducible rfl)
      simp only [List.getElem_toArray, List.getElem_cons_zero, Act.put, List.setIfInBounds_toArray, List.set_cons_zero, List.set_cons_succ]
      refine wpAnyH_take (i := 2) (v := ?_) rfl (by kernel_rfl) (by kernel_rfl) (by kernel_rfl) (fun _ _ _ h => h) (Or.inl ⟨by rfl, ?_⟩) (by assumption) ?_
      rotate_left
      · (intro w hSw; (try dsimp only at hSw); go_simp; try with_reducible rfl)
      simp only [List.getElem_toArray, List.getElem_cons_zero, List.getElem_cons_succ, Act.put, List.setIfInBounds_toArray, List.set_cons_zero, List.set_cons_succ]
      refine wpAnyH_take (i := 3) (v := ?_) rfl (by kernel_rfl) (by kernel_rfl) (by kernel_rfl) (fun _ _ _ h => h) (Or.inl ⟨by rfl, ?_⟩) (by assumption) ?_
      rotate_left
      · (intro w hSw; (try dsimp only at hSw); go_simp; try with_reducible rfl)
      simp only [List.getElem_toArray, List.getElem_cons_zero, List.getElem_cons_succ, Act.put, List.setIfInBounds_toArray, List.set_cons_zero, List.set_cons_succ]
      refine wpAnyH_take (i := 5) (v := ?_) rfl (by kernel_rfl) (by kernel_rfl) (by kernel_rfl) (fun _ _ _ h => h) (Or.inl ⟨by rfl, ?_⟩) (by assumption) ?_
      rotate_left
      · (intro w hSw; (try dsimp only at hSw); go_simp; try with_reducible rfl)
      simp only [List.getElem_toArray, List.getElem_cons_zero, List.getElem_cons_succ, Act.put, List.setIfInBounds_toArray, List.set_cons_zero, List.set_cons_succ]
      refine wpAnyH_take (i := 6) (v := ?_) rfl (by kernel_rfl) (by kernel_rfl) (by kernel_rfl) (fun _ _ _ h => h) (Or.inl ⟨by rfl, ?_⟩) (by assumption) ?_
      rotate_left
      · (intro w hSw; (try dsimp only at hSw); go_simp; try with_reducible rfl)
      simp only [List.getElem_toArray, List.getElem_cons_zero, List.getElem_cons_succ, Act.put, List.setIfInBounds_toArray, List.set_cons_zero, List.set_cons_succ]
      refine wpAnyH_ready (rs := [1, 4]) (by kernel_rfl) (by simp) ?_
      refine AllReadyH.cons rfl (fun K hK => ?_) (AllReadyH.cons rfl (fun K hK => ?_) AllReadyH.nil)
      · go_simp
        refine hK.out _ _ cS (fun hHeld => ?_)
        clear hK K
        try simp only [List.getElem_toArray, List.getElem_cons_zero, List.getElem_cons_succ, Act.put, List.setIfInBounds_toArray, List.set_cons_zero, List.set_cons_succ]
        refine wpAnyH_ready (rs := [4]) (by kernel_rfl) (by simp) ?_
        refine AllReadyH.cons rfl (fun K hK => ?_) AllReadyH.nil
        go_simp
        refine (clone_any na _ (by omega)).mono ?_
        rintro e y1 ⟨rfl, bb⟩
        have D1 := hide (D0.out.trans (bb.mono D0.out.size))
        clear bb cS l6
        have cS : y1.cell? ⟨f, 0, none⟩ = some (.string na) ∧ y1.cell? ⟨f, 1, none⟩ = some (.string nb) := ⟨(D1.out.cell (p := ⟨f, 0, none⟩) HLT.out).trans HC.out.1, (D1.out.cell (p := ⟨f, 1, none⟩) HLT.out).trans HC.out.2⟩
        have l6 : y1.cell? ⟨w.heap.size + 1, 6, none⟩ = some (.slice ra rl rc) := (D1.out.cell (p := ⟨w.heap.size + 1, 6, none⟩) HL1.out).trans HR6.out
        go_wp2_with fail
        refine hK.out _ _ cS (fun hHeld => ?_)
        clear hK K
        try simp only [List.getElem_toArray, List.getElem_cons_zero, List.getElem_cons_succ, Act.put, List.setIfInBounds_toArray, List.set_cons_zero, List.set_cons_succ]
        refine wpAnyH_ready (rs := [7]) (by kernel_rfl) (by simp) ?_
        refine AllReadyH.cons rfl (fun K hK => ?_) AllReadyH.nil
        go_simp
        refine (clone_any nb _ (by omega)).mono ?_
        rintro e y2 ⟨rfl, bb⟩
        have D2 := hide (D1.out.trans (bb.mono D1.out.size))
        clear bb cS l6
        have cS : y2.cell? ⟨f, 0, none⟩ = some (.string na) ∧ y2.cell? ⟨f, 1, none⟩ = some (.string nb) := ⟨(D2.out.cell (p := ⟨f, 0, none⟩) HLT.out).trans HC.out.1, (D2.out.cell (p := ⟨f, 1, none⟩) HLT.out).trans HC.out.2⟩
        have l6 : y2.cell? ⟨w.heap.size + 1, 6, none⟩ = some (.slice ra rl rc) := (D2.out.cell (p := ⟨w.heap.size + 1, 6, none⟩) HL1.out).trans HR6.out
        go_wp2_with fail
        refine hK.out _ _ cS (fun hHeld => ?_)
        clear hK K
        try simp only [List.getElem_toArray, List.getElem_cons_zero, List.getElem_cons_succ, Act.put, List.setIfInBounds_toArray, List.set_cons_zero, List.set_cons_succ]
        refine wpAnyH_take (i := 8) (v := ?_) rfl (by kernel_rfl) (by kernel_rfl) (by kernel_rfl) (fun _ _ _ h => h) (Or.inl ⟨by rfl, ?_⟩) (by assumption) ?_
        rotate_left
        · (intro w hSw; (try dsimp only at hSw); go_simp; try with_reducible rfl)
        simp only [List.getElem_toArray, List.getElem_cons_zero, List.getElem_cons_succ, Act.put, List.setIfInBounds_toArray, List.set_cons_zero, List.set_cons_succ]
        refine wpAnyH_ready (rs := [9]) (by kernel_rfl) (by simp) ?_
        refine AllReadyH.cons rfl (fun K hK => ?_) AllReadyH.nil
        go_simp
        have DA := hide (D2.out.alloc D2.out.size (.cells #[.string na, .string nb] 51))
        clear cS l6
        have cS : (y2.alloc (.cells #[.string na, .string nb] 51)).cell? ⟨f, 0, none⟩ = some (.string na) ∧ (y2.alloc (.cells #[.string na, .string nb] 51)).cell? ⟨f, 1, none⟩ = some (.string nb) := ⟨(DA.out.cell (p := ⟨f, 0, none⟩) HLT.out).trans HC.out.1, (DA.out.cell (p := ⟨f, 1, none⟩) HLT.out).trans HC.out.2⟩
        have l6 : (y2.alloc (.cells #[.string na, .string nb] 51)).cell? ⟨w.heap.size + 1, 6, none⟩ = some (.slice ra rl rc) := (DA.out.cell (p := ⟨w.heap.size + 1, 6, none⟩) HL1.out).trans HR6.out
        refine hK.out _ _ cS (fun hHeld => ?_)
        clear hK K
        try simp only [List.getElem_toArray, List.getElem_cons_zero, List.getElem_cons_succ, Act.put, List.setIfInBounds_toArray, List.set_cons_zero, List.set_cons_succ]
        refine wpAnyH_ready (rs := [10]) (by kernel_rfl) (by simp) ?_
        refine AllReadyH.cons rfl (fun K hK => ?_) AllReadyH.nil
        obtain ⟨v', W', hrun, RW, BW, KW⟩ := append_fld_j y2 (w.heap.size + 2) 23 (.slice ra rl rc) (A.take k) (na, nb) (HROW.out.below D2.out) HLN.out (Nat.le_trans HSZ.out D2.out.size)
        have KA := hide KW
        clear KW cS l6
        have cS : W'.cell? ⟨f, 0, none⟩ = some (.string na) ∧ W'.cell? ⟨f, 1, none⟩ = some (.string nb) := ⟨(cell_heap (KA.out f (Nat.lt_of_lt_of_le HLT.out D2.out.size) HOWN.out) 0).trans ((D2.out.cell (p := ⟨f, 0, none⟩) HLT.out).trans HC.out.1), (cell_heap (KA.out f (Nat.lt_of_lt_of_le HLT.out D2.out.size) HOWN.out) 1).trans ((D2.out.cell (p := ⟨f, 1, none⟩) HLT.out).trans HC.out.2)⟩
        have TW := hide ((HT.out.below D2.out).low (by simp) BW)
        have RW2 := hide RW
        clear RW BW KA
        refine step_append_is rfl (.tmp 44) (.tmp 52) 23 rfl (.slice ra rl rc) (.slice (some ⟨y2.heap.size, 0, none⟩) 1 1) v' (by simp [Act.eval]) (by simp [Act.eval]) hrun ?_
        clear hrun
        refine hK.out _ _ cS (fun hHeld => ?_)
        clear hK K
        try simp only [List.getElem_toArray, List.getElem_cons_zero, List.getElem_cons_succ, Act.put, List.setIfInBounds_toArray, List.set_cons_zero, List.set_cons_succ]
        refine wpAnyH_take (i := 11) (v := ?_) rfl (by kernel_rfl) (by kernel_rfl) (by kernel_rfl) (fun _ _ _ h => h) (Or.inl ⟨by rfl, ?_⟩) (by assumption) ?_
        rotate_left
        · (intro w hSw; (try dsimp only at hSw); go_simp; try with_reducible rfl)
        simp only [List.getElem_toArray, List.getElem_cons_zero, List.getElem_cons_succ, Act.put, List.setIfInBounds_toArray, List.set_cons_zero, List.set_cons_succ]
        refine wpAnyH_ready (rs := [12]) (by kernel_rfl) (by simp) ?_
        refine AllReadyH.cons rfl (fun K hK => ?_) AllReadyH.nil
        obtain ⟨va, vl, vc, rfl⟩ : ∃ a n c, v' = .slice a n c := by
          obtain ⟨a, c, h, _⟩ := RW2.out.shape
          exact ⟨a, _, c, h⟩
        have l6 : W'.cell? ⟨w.heap.size + 1, 6, none⟩ = some (.slice ra rl rc) := TW.out.cell 1 rfl 6
        have f6 : W'.frozen? ⟨w.heap.size + 1, 6, none⟩ = false := TW.out.fr 1 rfl 6
        go_simp
        have TX : Hid (Bl w (W'.setCell ⟨w.heap.size + 1, 6, none⟩ (.slice va vl vc)) [(#[.bool false, .string ⟨#[]⟩, .string ⟨#[]⟩, .int .i64 0, .int .i64 0, .string ⟨#[]⟩, .slice none 0 0], 25), (#[.bool r, .string me, .string ta, .int .i64 (mi : Int), .int .i64 (st : Int), .string re, .slice va vl vc], 25)]) := hide (TW.out.set 1 rfl 6 (.slice va vl vc))
        have RX := hide (RW2.out.setOld (g := w.heap.size + 1) (by omega) 6 (.slice va vl vc))
        have cS2 : (W'.setCell ⟨w.heap.size + 1, 6, none⟩ (.slice va vl vc)).cell? ⟨f, 0, none⟩ = some (.string na) ∧ (W'.setCell ⟨w.heap.size + 1, 6, none⟩ (.slice va vl vc)).cell? ⟨f, 1, none⟩ = some (.string nb) := ⟨(World.cell?_setCell_far _ _ _ _ (by have := HF2.out; simp; omega)).trans cS.1, (World.cell?_setCell_far _ _ _ _ (by have := HF2.out; simp; omega)).trans cS.2⟩
        generalize W'.setCell ⟨w.heap.size + 1, 6, none⟩ (.slice va vl vc) = w9 at TX RX cS2 ⊢
        clear cS l6 f6
        refine hK.out _ _ cS2 (fun hHeld => ?_)
        clear hK K
        try simp only [List.getElem_toArray, List.getElem_cons_zero, List.getElem_cons_succ, Act.put, List.setIfInBounds_toArray, List.set_cons_zero, List.set_cons_succ]
        refine wpAnyH_done (by kernel_rfl) ?_ _
        clear hHeld cS2 TW RW2
        refine NoPanic.normal ?_
        go_wp2
        go_roundw
        case rel => exact ⟨k + 1, _, by omega, by go_num, hide (by rw [HSN.out]; exact RX.out), TX⟩
        case measure => simp [intOf]; omega
      · go_simp
        refine (clone_any na _ (by omega)).mono ?_
        rintro e y1 ⟨rfl, bb⟩
        have D1 := hide (D0.out.trans (bb.mono D0.out.size))
        clear bb cS l6
        have cS : y1.cell? ⟨f, 0, none⟩ = some (.string na) ∧ y1.cell? ⟨f, 1, none⟩ = some (.string nb) := ⟨(D1.out.cell (p := ⟨f, 0, none⟩) HLT.out).trans HC.out.1, (D1.out.cell (p := ⟨f, 1, none⟩) HLT.out).trans HC.out.2⟩
        have l6 : y1.cell? ⟨w.heap.size + 1, 6, none⟩ = some (.slice ra rl rc) := (D1.out.cell (p := ⟨w.heap.size + 1, 6, none⟩) HL1.out).trans HR6.out
        go_wp2_with fail
        refine hK.out _ _ cS (fun hHeld => ?_)
        clear hK K
        try simp only [List.getElem_toArray, List.getElem_cons_zero, List.getElem_cons_succ, Act.put, List.setIfInBounds_toArray, List.set_cons_zero, List.set_cons_succ]
        refine wpAnyH_ready (rs := [1, 7]) (by kernel_rfl) (by simp) ?_
        refine AllReadyH.cons rfl (fun K hK => ?_) (AllReadyH.cons rfl (fun K hK => ?_) AllReadyH.nil)
        · go_simp
          refine hK.out _ _ cS (fun hHeld => ?_)
          clear hK K
          try simp only [List.getElem_toArray, List.getElem_cons_zero, List.getElem_cons_succ, Act.put, List.setIfInBounds_toArray, List.set_cons_zero, List.set_cons_succ]
          refine wpAnyH_ready (rs := [7]) (by kernel_rfl) (by simp) ?_
          refine AllReadyH.cons rfl (fun K hK => ?_) AllReadyH.nil
          go_simp
          refine (clone_any nb _ (by omega)).mono ?_
          rintro e y2 ⟨rfl, bb⟩
          have D2 := hide (D1.out.trans (bb.mono D1.out.size))
          clear bb cS l6
          have cS : y2.cell? ⟨f, 0, none⟩ = some (.string na) ∧ y2.cell? ⟨f, 1, none⟩ = some (.string nb) := ⟨(D2.out.cell (p := ⟨f, 0, none⟩) HLT.out).trans HC.out.1, (D2.out.cell (p := ⟨f, 1, none⟩) HLT.out).trans HC.out.2⟩
          have l6 : y2.cell? ⟨w.heap.size + 1, 6, none⟩ = some (.slice ra rl rc) := (D2.out.cell (p := ⟨w.heap.size + 1, 6, none⟩) HL1.out).trans HR6.out
          go_wp2_with fail
          refine hK.out _ _ cS (fun hHeld => ?_)
          clear hK K
          try simp only [List.getElem_toArray, List.getElem_cons_zero, List.getElem_cons_succ, Act.put, List.setIfInBounds_toArray, List.set_cons_zero, List.set_cons_succ]
          refine wpAnyH_take (i := 8) (v := ?_) rfl (by kernel_rfl) (by kernel_rfl) (by kernel_rfl) (fun _ _ _ h => h) (Or.inl ⟨by rfl, ?_⟩) (by assumption) ?_
          rotate_left
          · (intro w hSw; (try dsimp only at hSw); go_simp; try with_reducible rfl)
          simp only [List.getElem_toArray, List.getElem_cons_zero, List.getElem_cons_succ, Act.put, List.setIfInBounds_toArray, List.set_cons_zero, List.set_cons_succ]
          refine wpAnyH_ready (rs := [9]) (by kernel_rfl) (by simp) ?_
          refine AllReadyH.cons rfl (fun K hK => ?_) AllReadyH.nil
          go_simp
          have DA := hide (D2.out.alloc D2.out.size (.cells #[.string na, .string nb] 51))
          clear cS l6
          have cS : (y2.alloc (.cells #[.string na, .string nb] 51)).cell? ⟨f, 0, none⟩ = some (.string na) ∧ (y2.alloc (.cells #[.string na, .string nb] 51)).cell? ⟨f, 1, none⟩ = some (.string nb) := ⟨(DA.out.cell (p := ⟨f, 0, none⟩) HLT.out).trans HC.out.1, (DA.out.cell (p := ⟨f, 1, none⟩) HLT.out).trans HC.out.2⟩
          have l6 : (y2.alloc (.cells #[.string na, .string nb] 51)).cell? ⟨w.heap.size + 1, 6, none⟩ = some (.slice ra rl rc) := (DA.out.cell (p := ⟨w.heap.size + 1, 6, none⟩) HL1.out).trans HR6.out
          refine hK.out _ _ cS (fun hHeld => ?_)
          clear hK K
          try simp only [List.getElem_toArray, List.getElem_cons_zero, List.getElem_cons_succ, Act.put, List.setIfInBounds_toArray, List.set_cons_zero, List.set_cons_succ]
          refine wpAnyH_ready (rs := [10]) (by kernel_rfl) (by simp) ?_
          refine AllReadyH.cons rfl (fun K hK => ?_) AllReadyH.nil
          obtain ⟨v', W', hrun, RW, BW, KW⟩ := append_fld_j y2 (w.heap.size + 2) 23 (.slice ra rl rc) (A.take k) (na, nb) (HROW.out.below D2.out) HLN.out (Nat.le_trans HSZ.out D2.out.size)
          have KA := hide KW
          clear KW cS l6
          have cS : W'.cell? ⟨f, 0, none⟩ = some (.string na) ∧ W'.cell? ⟨f, 1, none⟩ = some (.string nb) := ⟨(cell_heap (KA.out f (Nat.lt_of_lt_of_le HLT.out D2.out.size) HOWN.out) 0).trans ((D2.out.cell (p := ⟨f, 0, none⟩) HLT.out).trans HC.out.1), (cell_heap (KA.out f (Nat.lt_of_lt_of_le HLT.out D2.out.size) HOWN.out) 1).trans ((D2.out.cell (p := ⟨f, 1, none⟩) HLT.out).trans HC.out.2)⟩
          have TW := hide ((HT.out.below D2.out).low (by simp) BW)
          have RW2 := hide RW
          clear RW BW KA
          refine step_append_is rfl (.tmp 44) (.tmp 52) 23 rfl (.slice ra rl rc) (.slice (some ⟨y2.heap.size, 0, none⟩) 1 1) v' (by simp [Act.eval]) (by simp [Act.eval]) hrun ?_
          clear hrun
          refine hK.out _ _ cS (fun hHeld => ?_)
          clear hK K
          try simp only [List.getElem_toArray, List.getElem_cons_zero, List.getElem_cons_succ, Act.put, List.setIfInBounds_toArray, List.set_cons_zero, List.set_cons_succ]
          refine wpAnyH_take (i := 11) (v := ?_) rfl (by kernel_rfl) (by kernel_rfl) (by kernel_rfl) (fun _ _ _ h => h) (Or.inl ⟨by rfl, ?_⟩) (by assumption) ?_
          rotate_left
          · (intro w hSw; (try dsimp only at hSw); go_simp; try with_reducible rfl)
          simp only [List.getElem_toArray, List.getElem_cons_zero, List.getElem_cons_succ, Act.put, List.setIfInBounds_toArray, List.set_cons_zero, List.set_cons_succ]
          refine wpAnyH_ready (rs := [12]) (by kernel_rfl) (by simp) ?_
          refine AllReadyH.cons rfl (fun K hK => ?_) AllReadyH.nil
          obtain ⟨va, vl, vc, rfl⟩ : ∃ a n c, v' = .slice a n c := by
            obtain ⟨a, c, h, _⟩ := RW2.out.shape
            exact ⟨a, _, c, h⟩
          have l6 : W'.cell? ⟨w.heap.size + 1, 6, none⟩ = some (.slice ra rl rc) := TW.out.cell 1 rfl 6
          have f6 : W'.frozen? ⟨w.heap.size + 1, 6, none⟩ = false := TW.out.fr 1 rfl 6
          go_simp
          have TX : Hid (Bl w (W'.setCell ⟨w.heap.size + 1, 6, none⟩ (.slice va vl vc)) [(#[.bool false, .string ⟨#[]⟩, .string ⟨#[]⟩, .int .i64 0, .int .i64 0, .string ⟨#[]⟩, .slice none 0 0], 25), (#[.bool r, .string me, .string ta, .int .i64 (mi : Int), .int .i64 (st : Int), .string re, .slice va vl vc], 25)]) := hide (TW.out.set 1 rfl 6 (.slice va vl vc))
          have RX := hide (RW2.out.setOld (g := w.heap.size + 1) (by omega) 6 (.slice va vl vc))
          have cS2 : (W'.setCell ⟨w.heap.size + 1, 6, none⟩ (.slice va vl vc)).cell? ⟨f, 0, none⟩ = some (.string na) ∧ (W'.setCell ⟨w.heap.size + 1, 6, none⟩ (.slice va vl vc)).cell? ⟨f, 1, none⟩ = some (.string nb) := ⟨(World.cell?_setCell_far _ _ _ _ (by have := HF2.out; simp; omega)).trans cS.1, (World.cell?_setCell_far _ _ _ _ (by have := HF2.out; simp; omega)).trans cS.2⟩
          generalize W'.setCell ⟨w.heap.size + 1, 6, none⟩ (.slice va vl vc) = w9 at TX RX cS2 ⊢
          clear cS l6 f6
          refine hK.out _ _ cS2 (fun hHeld => ?_)
          clear hK K
          try simp only [List.getElem_toArray, List.getElem_cons_zero, List.getElem_cons_succ, Act.put, List.setIfInBounds_toArray, List.set_cons_zero, List.set_cons_succ]
          refine wpAnyH_done (by kernel_rfl) ?_ _
          clear hHeld cS2 TW RW2
          refine NoPanic.normal ?_
          go_wp2
          go_roundw
          case rel => exact ⟨k + 1, _, by omega, by go_num, hide (by rw [HSN.out]; exact RX.out), TX⟩
          case measure => simp [intOf]; omega
        · go_simp
          refine (clone_any nb _ (by omega)).mono ?_
          rintro e y2 ⟨rfl, bb⟩
          have D2 := hide (D1.out.trans (bb.mono D1.out.size))
          clear bb cS l6
          have cS : y2.cell? ⟨f, 0, none⟩ = some (.string na) ∧ y2.cell? ⟨f, 1, none⟩ = some (.string nb) := ⟨(D2.out.cell (p := ⟨f, 0, none⟩) HLT.out).trans HC.out.1, (D2.out.cell (p := ⟨f, 1, none⟩) HLT.out).trans HC.out.2⟩
          have l6 : y2.cell? ⟨w.heap.size + 1, 6, none⟩ = some (.slice ra rl rc) := (D2.out.cell (p := ⟨w.heap.size + 1, 6, none⟩) HL1.out).trans HR6.out
          go_wp2_with fail
          refine hK.out _ _ cS (fun hHeld => ?_)
          clear hK K
          try simp only [List.getElem_toArray, List.getElem_cons_zero, List.getElem_cons_succ, Act.put, List.setIfInBounds_toArray, List.set_cons_zero, List.set_cons_succ]
          refine wpAnyH_take (i := 8) (v := ?_) rfl (by kernel_rfl) (by kernel_rfl) (by kernel_rfl) (fun _ _ _ h => h) (Or.inl ⟨by rfl, ?_⟩) (by assumption) ?_
          rotate_left
          · (intro w hSw; (try dsimp only at hSw); go_simp; try with_reducible rfl)
          simp only [List.getElem_toArray, List.getElem_cons_zero, List.getElem_cons_succ, Act.put, List.setIfInBounds_toArray, List.set_cons_zero, List.set_cons_succ]
          refine wpAnyH_ready (rs := [1, 9]) (by kernel_rfl) (by simp) ?_
          refine AllReadyH.cons rfl (fun K hK => ?_) (AllReadyH.cons rfl (fun K hK => ?_) AllReadyH.nil)
          · go_simp
            refine hK.out _ _ cS (fun hHeld => ?_)
            clear hK K
            try simp only [List.getElem_toArray, List.getElem_cons_zero, List.getElem_cons_succ, Act.put, List.setIfInBounds_toArray, List.set_cons_zero, List.set_cons_succ]
            refine wpAnyH_ready (rs := [9]) (by kernel_rfl) (by simp) ?_
            refine AllReadyH.cons rfl (fun K hK => ?_) AllReadyH.nil
            go_simp
            have DA := hide (D2.out.alloc D2.out.size (.cells #[.string na, .string nb] 51))
            clear cS l6
            have cS : (y2.alloc (.cells #[.string na, .string nb] 51)).cell? ⟨f, 0, none⟩ = some (.string na) ∧ (y2.alloc (.cells #[.string na, .string nb] 51)).cell? ⟨f, 1, none⟩ = some (.string nb) := ⟨(DA.out.cell (p := ⟨f, 0, none⟩) HLT.out).trans HC.out.1, (DA.out.cell (p := ⟨f, 1, none⟩) HLT.out).trans HC.out.2⟩
            have l6 : (y2.alloc (.cells #[.string na, .string nb] 51)).cell? ⟨w.heap.size + 1, 6, none⟩ = some (.slice ra rl rc) := (DA.out.cell (p := ⟨w.heap.size + 1, 6, none⟩) HL1.out).trans HR6.out
            refine hK.out _ _ cS (fun hHeld => ?_)
            clear hK K
            try simp only [List.getElem_toArray, List.getElem_cons_zero, List.getElem_cons_succ, Act.put, List.setIfInBounds_toArray, List.set_cons_zero, List.set_cons_succ]
            refine wpAnyH_ready (rs := [10]) (by kernel_rfl) (by simp) ?_
            refine AllReadyH.cons rfl (fun K hK => ?_) AllReadyH.nil
            obtain ⟨v', W', hrun, RW, BW, KW⟩ := append_fld_j y2 (w.heap.size + 2) 23 (.slice ra rl rc) (A.take k) (na, nb) (HROW.out.below D2.out) HLN.out (Nat.le_trans HSZ.out D2.out.size)
            have KA := hide KW
            clear KW cS l6
            have cS : W'.cell? ⟨f, 0, none⟩ = some (.string na) ∧ W'.cell? ⟨f, 1, none⟩ = some (.string nb) := ⟨(cell_heap (KA.out f (Nat.lt_of_lt_of_le HLT.out D2.out.size) HOWN.out) 0).trans ((D2.out.cell (p := ⟨f, 0, none⟩) HLT.out).trans HC.out.1), (cell_heap (KA.out f (Nat.lt_of_lt_of_le HLT.out D2.out.size) HOWN.out) 1).trans ((D2.out.cell (p := ⟨f, 1, none⟩) HLT.out).trans HC.out.2)⟩
            have TW := hide ((HT.out.below D2.out).low (by simp) BW)
            have RW2 := hide RW
            clear RW BW KA
            refine step_append_is rfl (.tmp 44) (.tmp 52) 23 rfl (.slice ra rl rc) (.slice (some ⟨y2.heap.size, 0, none⟩) 1 1) v' (by simp [Act.eval]) (by simp [Act.eval]) hrun ?_
            clear hrun
            refine hK.out _ _ cS (fun hHeld => ?_)
            clear hK K
            try simp only [List.getElem_toArray, List.getElem_cons_zero, List.getElem_cons_succ, Act.put, List.setIfInBounds_toArray, List.set_cons_zero, List.set_cons_succ]
            refine wpAnyH_take (i := 11) (v := ?_) rfl (by kernel_rfl) (by kernel_rfl) (by kernel_rfl) (fun _ _ _ h => h) (Or.inl ⟨by rfl, ?_⟩) (by assumption) ?_
            rotate_left
            · (intro w hSw; (try dsimp only at hSw); go_simp; try with_reducible rfl)
            simp only [List.getElem_toArray, List.getElem_cons_zero, List.getElem_cons_succ, Act.put, List.setIfInBounds_toArray, List.set_cons_zero, List.set_cons_succ]
            refine wpAnyH_ready (rs := [12]) (by kernel_rfl) (by simp) ?_
            refine AllReadyH.cons rfl (fun K hK => ?_) AllReadyH.nil
            obtain ⟨va, vl, vc, rfl⟩ : ∃ a n c, v' = .slice a n c := by
              obtain ⟨a, c, h, _⟩ := RW2.out.shape
              exact ⟨a, _, c, h⟩
            have l6 : W'.cell? ⟨w.heap.size + 1, 6, none⟩ = some (.slice ra rl rc) := TW.out.cell 1 rfl 6
            have f6 : W'.frozen? ⟨w.heap.size + 1, 6, none⟩ = false := TW.out.fr 1 rfl 6
            go_simp
            have TX : Hid (Bl w (W'.setCell ⟨w.heap.size + 1, 6, none⟩ (.slice va vl vc)) [(#[.bool false, .string ⟨#[]⟩, .string ⟨#[]⟩, .int .i64 0, .int .i64 0, .string ⟨#[]⟩, .slice none 0 0], 25), (#[.bool r, .string me, .string ta, .int .i64 (mi : Int), .int .i64 (st : Int), .string re, .slice va vl vc], 25)]) := hide (TW.out.set 1 rfl 6 (.slice va vl vc))
            have RX := hide (RW2.out.setOld (g := w.heap.size + 1) (by omega) 6 (.slice va vl vc))
            have cS2 : (W'.setCell ⟨w.heap.size + 1, 6, none⟩ (.slice va vl vc)).cell? ⟨f, 0, none⟩ = some (.string na) ∧ (W'.setCell ⟨w.heap.size + 1, 6, none⟩ (.slice va vl vc)).cell? ⟨f, 1, none⟩ = some (.string nb) := ⟨(World.cell?_setCell_far _ _ _ _ (by have := HF2.out; simp; omega)).trans cS.1, (World.cell?_setCell_far _ _ _ _ (by have := HF2.out; simp; omega)).trans cS.2⟩
            generalize W'.setCell ⟨w.heap.size + 1, 6, none⟩ (.slice va vl vc) = w9 at TX RX cS2 ⊢
            clear cS l6 f6
            refine hK.out _ _ cS2 (fun hHeld => ?_)
            clear hK K
            try simp only [List.getElem_toArray, List.getElem_cons_zero, List.getElem_cons_succ, Act.put, List.setIfInBounds_toArray, List.set_cons_zero, List.set_cons_succ]
            refine wpAnyH_done (by kernel_rfl) ?_ _
            clear hHeld cS2 TW RW2
            refine NoPanic.normal ?_
            go_wp2
            go_roundw
            case rel => exact ⟨k + 1, _, by omega, by go_num, hide (by rw [HSN.out]; exact RX.out), TX⟩
            case measure => simp [intOf]; omega
          · go_simp
            have DA := hide (D2.out.alloc D2.out.size (.cells #[.string na, .string nb] 51))
            clear cS l6
            have cS : (y2.alloc (.cells #[.string na, .string nb] 51)).cell? ⟨f, 0, none⟩ = some (.string na) ∧ (y2.alloc (.cells #[.string na, .string nb] 51)).cell? ⟨f, 1, none⟩ = some (.string nb) := ⟨(DA.out.cell (p := ⟨f, 0, none⟩) HLT.out).trans HC.out.1, (DA.out.cell (p := ⟨f, 1, none⟩) HLT.out).trans HC.out.2⟩
            have l6 : (y2.alloc (.cells #[.string na, .string nb] 51)).cell? ⟨w.heap.size + 1, 6, none⟩ = some (.slice ra rl rc) := (DA.out.cell (p := ⟨w.heap.size + 1, 6, none⟩) HL1.out).trans HR6.out
            refine hK.out _ _ cS (fun hHeld => ?_)
            clear hK K
            try simp only [List.getElem_toArray, List.getElem_cons_zero, List.getElem_cons_succ, Act.put, List.setIfInBounds_toArray, List.set_cons_zero, List.set_cons_succ]
            refine wpAnyH_ready (rs := [1]) (by kernel_rfl) (by simp) ?_
            refine AllReadyH.cons rfl (fun K hK => ?_) AllReadyH.nil
            go_simp
            refine hK.out _ _ cS (fun hHeld => ?_)
            clear hK K
            try simp only [List.getElem_toArray, List.getElem_cons_zero, List.getElem_cons_succ, Act.put, List.setIfInBounds_toArray, List.set_cons_zero, List.set_cons_succ]
            refine wpAnyH_ready (rs := [10]) (by kernel_rfl) (by simp) ?_
            refine AllReadyH.cons rfl (fun K hK => ?_) AllReadyH.nil
            obtain ⟨v', W', hrun, RW, BW, KW⟩ := append_fld_j y2 (w.heap.size + 2) 23 (.slice ra rl rc) (A.take k) (na, nb) (HROW.out.below D2.out) HLN.out (Nat.le_trans HSZ.out D2.out.size)
            have KA := hide KW
            clear KW cS l6
            have cS : W'.cell? ⟨f, 0, none⟩ = some (.string na) ∧ W'.cell? ⟨f, 1, none⟩ = some (.string nb) := ⟨(cell_heap (KA.out f (Nat.lt_of_lt_of_le HLT.out D2.out.size) HOWN.out) 0).trans ((D2.out.cell (p := ⟨f, 0, none⟩) HLT.out).trans HC.out.1), (cell_heap (KA.out f (Nat.lt_of_lt_of_le HLT.out D2.out.size) HOWN.out) 1).trans ((D2.out.cell (p := ⟨f, 1, none⟩) HLT.out).trans HC.out.2)⟩
            have TW := hide ((HT.out.below D2.out).low (by simp) BW)
            have RW2 := hide RW
            clear RW BW KA
            refine step_append_is rfl (.tmp 44) (.tmp 52) 23 rfl (.slice ra rl rc) (.slice (some ⟨y2.heap.size, 0, none⟩) 1 1) v' (by simp [Act.eval]) (by simp [Act.eval]) hrun ?_
            clear hrun
            refine hK.out _ _ cS (fun hHeld => ?_)
            clear hK K
            try simp only [List.getElem_toArray, List.getElem_cons_zero, List.getElem_cons_succ, Act.put, List.setIfInBounds_toArray, List.set_cons_zero, List.set_cons_succ]
            refine wpAnyH_take (i := 11) (v := ?_) rfl (by kernel_rfl) (by kernel_rfl) (by kernel_rfl) (fun _ _ _ h => h) (Or.inl ⟨by rfl, ?_⟩) (by assumption) ?_
            rotate_left
            · (intro w hSw; (try dsimp only at hSw); go_simp; try with_reducible rfl)
            simp only [List.getElem_toArray, List.getElem_cons_zero, List.getElem_cons_succ, Act.put, List.setIfInBounds_toArray, List.set_cons_zero, List.set_cons_succ]
            refine wpAnyH_ready (rs := [12]) (by kernel_rfl) (by simp) ?_
            refine AllReadyH.cons rfl (fun K hK => ?_) AllReadyH.nil
            obtain ⟨va, vl, vc, rfl⟩ : ∃ a n c, v' = .slice a n c := by
              obtain ⟨a, c, h, _⟩ := RW2.out.shape
              exact ⟨a, _, c, h⟩
            have l6 : W'.cell? ⟨w.heap.size + 1, 6, none⟩ = some (.slice ra rl rc) := TW.out.cell 1 rfl 6
            have f6 : W'.frozen? ⟨w.heap.size + 1, 6, none⟩ = false := TW.out.fr 1 rfl 6
            go_simp
            have TX : Hid (Bl w (W'.setCell ⟨w.heap.size + 1, 6, none⟩ (.slice va vl vc)) [(#[.bool false, .string ⟨#[]⟩, .string ⟨#[]⟩, .int .i64 0, .int .i64 0, .string ⟨#[]⟩, .slice none 0 0], 25), (#[.bool r, .string me, .string ta, .int .i64 (mi : Int), .int .i64 (st : Int), .string re, .slice va vl vc], 25)]) := hide (TW.out.set 1 rfl 6 (.slice va vl vc))
            have RX := hide (RW2.out.setOld (g := w.heap.size + 1) (by omega) 6 (.slice va vl vc))
            have cS2 : (W'.setCell ⟨w.heap.size + 1, 6, none⟩ (.slice va vl vc)).cell? ⟨f, 0, none⟩ = some (.string na) ∧ (W'.setCell ⟨w.heap.size + 1, 6, none⟩ (.slice va vl vc)).cell? ⟨f, 1, none⟩ = some (.string nb) := ⟨(World.cell?_setCell_far _ _ _ _ (by have := HF2.out; simp; omega)).trans cS.1, (World.cell?_setCell_far _ _ _ _ (by have := HF2.out; simp; omega)).trans cS.2⟩
            generalize W'.setCell ⟨w.heap.size + 1, 6, none⟩ (.slice va vl vc) = w9 at TX RX cS2 ⊢
            clear cS l6 f6
            refine hK.out _ _ cS2 (fun hHeld => ?_)
            clear hK K
            try simp only [List.getElem_toArray, List.getElem_cons_zero, List.getElem_cons_succ, Act.put, List.setIfInBounds_toArray, List.set_cons_zero, List.set_cons_succ]
            refine wpAnyH_done (by kernel_rfl) ?_ _
            clear hHeld cS2 TW RW2
            refine NoPanic.normal ?_
            go_wp2
            go_roundw
            case rel => exact ⟨k + 1, _, by omega, by go_num, hide (by rw [HSN.out]; exact RX.out), TX⟩
            case measure => simp [intOf]; omega
    · have HE : Hid (FRow wr (w.heap.size + 2) (.slice ra rl rc) A) := hide (by have := HR.out; rw [List.take_of_length_le (by omega)] at this; exact this)
      obtain ⟨r0, r1, r2, r3, r4, r5, r6⟩ := HT0.out.hd 1 (w.heap.size + 1) rfl rfl
      obtain ⟨s0, s1, s2, s3, s4, s5, s6⟩ := HT0.out.hd 0 w.heap.size rfl rfl
      have f0 : wr.frozen? ⟨w.heap.size, 0, none⟩ = false := HT0.out.fr 0 rfl 0
      have f1 : wr.frozen? ⟨w.heap.size, 1, none⟩ = false := HT0.out.fr 0 rfl 1
      have f2 : wr.frozen? ⟨w.heap.size, 2, none⟩ = false := HT0.out.fr 0 rfl 2
      have f3 : wr.frozen? ⟨w.heap.size, 3, none⟩ = false := HT0.out.fr 0 rfl 3
      have f4 : wr.frozen? ⟨w.heap.size, 4, none⟩ = false := HT0.out.fr 0 rfl 4
      have f5 : wr.frozen? ⟨w.heap.size, 5, none⟩ = false := HT0.out.fr 0 rfl 5
      have f6 : wr.frozen? ⟨w.heap.size, 6, none⟩ = false := HT0.out.fr 0 rfl 6
      go_wp2
      have RF := hide (((((((HE.out.setOld (g := w.heap.size) (by omega) 0 (.bool r)).setOld (g := w.heap.size) (by omega) 1 (.string me)).setOld (g := w.heap.size) (by omega) 2 (.string ta)).setOld (g := w.heap.size) (by omega) 3 (.int .i64 (mi : Int))).setOld (g := w.heap.size) (by omega) 4 (.int .i64 (st : Int))).setOld (g := w.heap.size) (by omega) 5 (.string re)).setOld (g := w.heap.size) (by omega) 6 (.slice ra rl rc))
      have TF : Hid (Bl w (((((((wr.setCell ⟨w.heap.size, 0, none⟩ (.bool r)).setCell ⟨w.heap.size, 1, none⟩ (.string me)).setCell ⟨w.heap.size, 2, none⟩ (.string ta)).setCell ⟨w.heap.size, 3, none⟩ (.int .i64 (mi : Int))).setCell ⟨w.heap.size, 4, none⟩ (.int .i64 (st : Int))).setCell ⟨w.heap.size, 5, none⟩ (.string re)).setCell ⟨w.heap.size, 6, none⟩ (.slice ra rl rc)) [(#[.bool r, .string me, .string ta, .int .i64 (mi : Int), .int .i64 (st : Int), .string re, .slice ra rl rc], 25), (#[.bool r, .string me, .string ta, .int .i64 (mi : Int), .int .i64 (st : Int), .string re, .slice ra rl rc], 25)]) := hide (((((((HT0.out.set 0 rfl 0 (.bool r)).set 0 rfl 1 (.string me)).set 0 rfl 2 (.string ta)).set 0 rfl 3 (.int .i64 (mi : Int))).set 0 rfl 4 (.int .i64 (st : Int))).set 0 rfl 5 (.string re)).set 0 rfl 6 (.slice ra rl rc))
      generalize (((((((wr.setCell ⟨w.heap.size, 0, none⟩ (.bool r)).setCell ⟨w.heap.size, 1, none⟩ (.string me)).setCell ⟨w.heap.size, 2, none⟩ (.string ta)).setCell ⟨w.heap.size, 3, none⟩ (.int .i64 (mi : Int))).setCell ⟨w.heap.size, 4, none⟩ (.int .i64 (st : Int))).setCell ⟨w.heap.size, 5, none⟩ (.string re)).setCell ⟨w.heap.size, 6, none⟩ (.slice ra rl rc)) = w9 at RF TF ⊢
      clear r0 r1 r2 r3 r4 r5 r6 s0 s1 s2 s3 s4 s5 s6 f0 f1 f2 f3 f4 f5 f6
      obtain ⟨k0, k1, k2, k3, k4, k5, k6⟩ := TF.out.hd 0 w.heap.size rfl rfl
      exact bodyPost_ret (v := .agg #[.bool r, .string me, .string ta, .int .i64 (mi : Int), .int .i64 (st : Int), .string re, .slice ra rl rc]) (by simp [results, Tryz.results17, go_sem, k0, k1, k2, k3, k4, k5, k6]) rfl ⟨_, rfl, RF.out.lower (by omega), TF.out.b⟩
theorem head_nil (w : World) : Calls Tryz.prog 17 #[.pointer none] w fun e w' => e = .returned hd0 ∧ Below w.heap.size w w' := by
  unfold hd0
  go_enter Tryz.func17, Tryz.ntmps17
  go_wp2
  have T0 := hide (Bl.one w #[.bool false, .string ⟨#[]⟩, .string ⟨#[]⟩, .int .i64 0, .int .i64 0, .string ⟨#[]⟩, .slice none 0 0] 25)
  generalize (w.alloc (.cells #[.bool false, .string ⟨#[]⟩, .string ⟨#[]⟩, .int .i64 0, .int .i64 0, .string ⟨#[]⟩, .slice none 0 0] 25)) = x at T0 ⊢
  obtain ⟨k0, k1, k2, k3, k4, k5, k6⟩ := T0.out.hd 0 w.heap.size rfl rfl
  exact bodyPost_ret (v := .agg #[.bool false, .string ⟨#[]⟩, .string ⟨#[]⟩, .int .i64 0, .int .i64 0, .string ⟨#[]⟩, .slice none 0 0]) (by simp [results, Tryz.results17, go_sem, k0, k1, k2, k3, k4, k5, k6]) rfl ⟨rfl, T0.out.b⟩
theorem head_part {w : World} {base g : Nat} {lv fv : Value} {p : Pz} (h : Par w base g lv fv p) (hw : p.whole = false) :
    Calls Tryz.prog 17 #[.pointer (some ⟨g, 0, none⟩)] w fun e w' => e = .returned hd0 ∧ Below w.heap.size w w' := by
  have c13 : w.cell? ⟨g, 13, none⟩ = some (.bool false) := by have := h.cell 13; rw [show (pcells p g lv fv)[13]? = some (.bool p.whole) from rfl, hw] at this; exact this
  have hgl := h.lt
  clear h hw
  unfold hd0
  go_enter Tryz.func17, Tryz.ntmps17
  go_wp2
  have T0 := hide (Bl.one w #[.bool false, .string ⟨#[]⟩, .string ⟨#[]⟩, .int .i64 0, .int .i64 0, .string ⟨#[]⟩, .slice none 0 0] 25)
  generalize (w.alloc (.cells #[.bool false, .string ⟨#[]⟩, .string ⟨#[]⟩, .int .i64 0, .int .i64 0, .string ⟨#[]⟩, .slice none 0 0] 25)) = x at T0 ⊢
  obtain ⟨k0, k1, k2, k3, k4, k5, k6⟩ := T0.out.hd 0 w.heap.size rfl rfl
  exact bodyPost_ret (v := .agg #[.bool false, .string ⟨#[]⟩, .string ⟨#[]⟩, .int .i64 0, .int .i64 0, .string ⟨#[]⟩, .slice none 0 0]) (by simp [results, Tryz.results17, go_sem, k0, k1, k2, k3, k4, k5, k6]) rfl ⟨rfl, T0.out.b⟩
end Go.Proofs.YtinmpmbicgokpaaGreatDoor
/- Parse: the program's. -/
namespace Go.Proofs.YtinmpmbicgokpaaGreatDoor
open Go.ChangeShapes Go.WideShapes Go.ChangeAt Go.RowKit

/-- A head, as plain data. -/
structure Hx where
  r : Bool
  me : ByteArray
  ta : ByteArray
  mi : Nat
  st : Nat
  re : ByteArray
  fs : List (ByteArray × ByteArray)
def Pz.hx (p : Pz) : Hx := ⟨p.req, p.me, p.ta, p.minor, p.status, p.re, p.fs⟩
def hx0 : Hx := ⟨false, ⟨#[]⟩, ⟨#[]⟩, 0, 0, ⟨#[]⟩, []⟩
def hxV (h : Hx) (l : Value) : Value := .agg #[.bool h.r, .string h.me, .string h.ta, .int .i64 (h.mi : Int), .int .i64 (h.st : Int), .string h.re, l]
def pParse (rq : Bool) (l : List UInt8) : Hx × Nat × Nat :=
  if (pFeed (pNew rq 65536) l).2.2.1 ≠ 0 then (hx0, 0, (pFeed (pNew rq 65536) l).2.2.1) else if (pFeed (pNew rq 65536) l).2.1 = false then (hx0, 0, 6) else ((pFeed (pNew rq 65536) l).2.2.2.hx, (pFeed (pNew rq 65536) l).1, 0)
theorem feed_wh (p : Pz) (l : List UInt8) : (pFeed p l).2.2.2.whole = (pFeed p l).2.1 := by
  unfold pFeed
  split
  · rfl
  · split
    · dsimp only
      split <;> rfl
    · rfl
theorem PK.below {w w' : World} {base g : Nat} {lv fv lv' fv' : Value} {p : Pz} (hP : Par w base g lv fv p) (k : PK w w' g lv fv lv' fv') (hb : base ≤ w.heap.size) : Below base w w' :=
  ⟨k.os, k.tape, k.output, k.size, fun i hi => k.block i (by omega) (by have := hP.gb; omega) (fun e => by have := (hP.line.lt e).1; omega) (fun e => by have := (hP.flds.lt e).1; omega)⟩
theorem Bs.below {w w' : World} {base base' : Nat} {v : Value} {l : List UInt8} (h : Bs w base v l) (hb : base ≤ base') (b : Below w.heap.size w w') : Bs w' base' v l := by
  obtain ⟨a, c, rfl, hc, h⟩ := h
  refine ⟨a, c, rfl, hc, fun j hj => ?_⟩
  obtain ⟨g, o, h1, h2, h3, h4⟩ := h j hj
  exact ⟨g, o, h1, by omega, Nat.lt_of_lt_of_le h3 b.size, (b.cell (p := ⟨g, o + j, none⟩) h3).trans h4⟩
theorem fit0 : Fit (pNew true 65536) ∧ Fit (pNew false 65536) := ⟨fit_new _ _ (Nat.le_refl _), fit_new _ _ (Nat.le_refl _)⟩
set_option maxHeartbeats 4000000 in
theorem parse_any (rq : Bool) (v : Value) (l : List UInt8) (w : World) (hv : Bs w w.heap.size v l) (hl : l.length ≤ 140737488355328) (hm : MX w) (he : ET w) :
    Calls Tryz.prog 9 #[.bool rq, v] w fun e w' => ∃ u, e = .returned (.tuple #[hxV (pParse rq l).1 u, .int .i64 ((pParse rq l).2.1 : Int), .int .i64 ((pParse rq l).2.2 : Int)]) ∧ FRow w' w.heap.size u (pParse rq l).1.fs ∧ Below w.heap.size w w' := by
  have HV := hide hv
  have HM := hide hm
  have HE := hide he
  obtain ⟨a, cp, rfl, _, _⟩ := hv
  clear hm he
  obtain ⟨H, rn, re, hR⟩ : ∃ H rn re, pParse rq l = (H, rn, re) := ⟨_, _, _, rfl⟩
  rw [hR]
  have HR := hide hR
  clear hR
  dsimp only
  go_enter Tryz.func9, Tryz.ntmps9
  go_wp2_with fail
  have T0 := hide (Bl.one w #[.bool false, .string ⟨#[]⟩, .string ⟨#[]⟩, .int .i64 0, .int .i64 0, .string ⟨#[]⟩, .slice none 0 0] 25)
  have HX1 : Hid (w.heap.size < (w.alloc (.cells #[.bool false, .string ⟨#[]⟩, .string ⟨#[]⟩, .int .i64 0, .int .i64 0, .string ⟨#[]⟩, .slice none 0 0] 25)).heap.size) := hide (by simp)
  generalize (w.alloc (.cells #[.bool false, .string ⟨#[]⟩, .string ⟨#[]⟩, .int .i64 0, .int .i64 0, .string ⟨#[]⟩, .slice none 0 0] 25)) = x at T0 HX1 ⊢
  refine (new_any rq 65536 x (by decide) (by decide)).mono ?_
  rintro e w1 ⟨rfl, P1, b1⟩
  have HP1 := hide P1
  have T1 := hide (T0.out.below b1)
  have B1 := hide b1
  clear P1 b1 T0
  go_wp2_with fail
  refine (feed_any HP1.out (fit_new rq 65536 (Nat.le_refl _)) (HM.out.below T1.out.b) (HE.out.below T1.out.b) (by have := HM.out.1; have := HX1.out; omega) _ l (HV.out.below (Nat.le_of_lt HX1.out) T1.out.b) hl).mono ?_
  rintro e w2 ⟨rfl, lv2, fv2, P2, k2⟩
  have HSZ := hide ((sz_new rq 65536).feed (fit_new rq 65536 (Nat.le_refl _)) l)
  have HFT := hide ((fit_new rq 65536 (Nat.le_refl _)).feed l)
  have HWH := hide (feed_wh (pNew rq 65536) l)
  have hbb : Below x.heap.size w1 w2 := PK.below HP1.out k2 B1.out.size
  have T2 : Hid (Bl w w2 [(#[.bool false, .string ⟨#[]⟩, .string ⟨#[]⟩, .int .i64 0, .int .i64 0, .string ⟨#[]⟩, .slice none 0 0], 25)]) := hide ⟨fun i c t hi => (hbb.block _ (by have := HX1.out; have := (List.getElem?_eq_some_iff.1 hi).1; simp at this; omega)).trans (T1.out.hp i c t hi), T1.out.b.trans (hbb.mono (Nat.le_of_lt HX1.out))⟩
  have HP2 := hide P2
  clear P2 k2 hbb T1 B1 HP1
  unfold fdV
  have HR2 := HR.out
  unfold pParse at HR2
  generalize pFeed (pNew rq 65536) l = R at HR2 HSZ HFT HWH HP2 ⊢
  obtain ⟨n, wh, er, q⟩ := R
  dsimp only at HR2 HSZ HFT HWH HP2 ⊢
  have HRR := hide HR2
  clear HR HR2
  obtain ⟨s0, s1, s2, s3, s4, s5, s6⟩ := T2.out.hd 0 w.heap.size rfl rfl
  have f0 : w2.frozen? ⟨w.heap.size, 0, none⟩ = false := T2.out.fr 0 rfl 0
  have f1 : w2.frozen? ⟨w.heap.size, 1, none⟩ = false := T2.out.fr 0 rfl 1
  have f2 : w2.frozen? ⟨w.heap.size, 2, none⟩ = false := T2.out.fr 0 rfl 2
  have f3 : w2.frozen? ⟨w.heap.size, 3, none⟩ = false := T2.out.fr 0 rfl 3
  have f4 : w2.frozen? ⟨w.heap.size, 4, none⟩ = false := T2.out.fr 0 rfl 4
  have f5 : w2.frozen? ⟨w.heap.size, 5, none⟩ = false := T2.out.fr 0 rfl 5
  have f6 : w2.frozen? ⟨w.heap.size, 6, none⟩ = false := T2.out.fr 0 rfl 6
  by_cases h0 : er = 0
  · subst h0
    cases wh with
    | false =>
      have hrr := HRR.out
      rw [if_neg (by simp), if_pos rfl] at hrr
      simp only [Prod.mk.injEq] at hrr
      obtain ⟨rfl, rfl, rfl⟩ := hrr
      clear HRR
      go_wp2
      have TF : Hid (Bl w (((((((w2.setCell ⟨w.heap.size, 0, none⟩ (.bool false)).setCell ⟨w.heap.size, 1, none⟩ (.string ⟨#[]⟩)).setCell ⟨w.heap.size, 2, none⟩ (.string ⟨#[]⟩)).setCell ⟨w.heap.size, 3, none⟩ (.int .i64 0)).setCell ⟨w.heap.size, 4, none⟩ (.int .i64 0)).setCell ⟨w.heap.size, 5, none⟩ (.string ⟨#[]⟩)).setCell ⟨w.heap.size, 6, none⟩ (.slice none 0 0)) [(#[.bool false, .string ⟨#[]⟩, .string ⟨#[]⟩, .int .i64 0, .int .i64 0, .string ⟨#[]⟩, .slice none 0 0], 25)]) := hide (((((((T2.out.set 0 rfl 0 (.bool false)).set 0 rfl 1 (.string ⟨#[]⟩)).set 0 rfl 2 (.string ⟨#[]⟩)).set 0 rfl 3 (.int .i64 0)).set 0 rfl 4 (.int .i64 0)).set 0 rfl 5 (.string ⟨#[]⟩)).set 0 rfl 6 (.slice none 0 0))
      generalize (((((((w2.setCell ⟨w.heap.size, 0, none⟩ (.bool false)).setCell ⟨w.heap.size, 1, none⟩ (.string ⟨#[]⟩)).setCell ⟨w.heap.size, 2, none⟩ (.string ⟨#[]⟩)).setCell ⟨w.heap.size, 3, none⟩ (.int .i64 0)).setCell ⟨w.heap.size, 4, none⟩ (.int .i64 0)).setCell ⟨w.heap.size, 5, none⟩ (.string ⟨#[]⟩)).setCell ⟨w.heap.size, 6, none⟩ (.slice none 0 0)) = w9 at TF ⊢
      clear s0 s1 s2 s3 s4 s5 s6 f0 f1 f2 f3 f4 f5 f6
      obtain ⟨k0, k1, k2, k3, k4, k5, k6⟩ := TF.out.hd 0 w.heap.size rfl rfl
      exact bodyPost_ret (v := .tuple #[.agg #[.bool false, .string ⟨#[]⟩, .string ⟨#[]⟩, .int .i64 0, .int .i64 0, .string ⟨#[]⟩, .slice none 0 0], .int .i64 0, .int .i64 (6 : Int)]) (by simp [results, Tryz.results9, go_sem, k0, k1, k2, k3, k4, k5, k6]) rfl ⟨.slice none 0 0, rfl, FRow.nil _ _, TF.out.b⟩
    | true =>
      have hrr := HRR.out
      rw [if_neg (by simp), if_neg (by simp)] at hrr
      simp only [Prod.mk.injEq] at hrr
      obtain ⟨rfl, rfl, rfl⟩ := hrr
      clear HRR s0 s1 s2 s3 s4 s5 s6 f0 f1 f2 f3 f4 f5 f6
      go_wp2_with fail
      refine (head_whole HP2.out HWH.out HSZ.out HFT.out).mono ?_
      rintro e w3 ⟨u, rfl, hu, b3⟩
      have T3 := hide (T2.out.below b3)
      have HU : Hid (FRow w3 (w.heap.size + 1) u q.hx.fs) := hide (hu.lower (blk_lt (T2.out.hp 0 _ _ rfl)))
      clear hu b3
      obtain ⟨ua, ul, uc, rfl⟩ : ∃ a n c, u = .slice a n c := by
        obtain ⟨a, c, h, _⟩ := HU.out.shape
        exact ⟨a, _, c, h⟩
      unfold hdV
      obtain ⟨_, _, _, _, _, _, r, me, ta, mi, st, re, A, _, _⟩ := q
      dsimp only [Pz.hx] at HU ⊢
      obtain ⟨s0, s1, s2, s3, s4, s5, s6⟩ := T3.out.hd 0 w.heap.size rfl rfl
      have f0 : w3.frozen? ⟨w.heap.size, 0, none⟩ = false := T3.out.fr 0 rfl 0
      have f1 : w3.frozen? ⟨w.heap.size, 1, none⟩ = false := T3.out.fr 0 rfl 1
      have f2 : w3.frozen? ⟨w.heap.size, 2, none⟩ = false := T3.out.fr 0 rfl 2
      have f3 : w3.frozen? ⟨w.heap.size, 3, none⟩ = false := T3.out.fr 0 rfl 3
      have f4 : w3.frozen? ⟨w.heap.size, 4, none⟩ = false := T3.out.fr 0 rfl 4
      have f5 : w3.frozen? ⟨w.heap.size, 5, none⟩ = false := T3.out.fr 0 rfl 5
      have f6 : w3.frozen? ⟨w.heap.size, 6, none⟩ = false := T3.out.fr 0 rfl 6
      go_wp2
      have TF : Hid (Bl w (((((((w3.setCell ⟨w.heap.size, 0, none⟩ (.bool r)).setCell ⟨w.heap.size, 1, none⟩ (.string me)).setCell ⟨w.heap.size, 2, none⟩ (.string ta)).setCell ⟨w.heap.size, 3, none⟩ (.int .i64 (mi : Int))).setCell ⟨w.heap.size, 4, none⟩ (.int .i64 (st : Int))).setCell ⟨w.heap.size, 5, none⟩ (.string re)).setCell ⟨w.heap.size, 6, none⟩ (.slice ua ul uc)) [(#[.bool r, .string me, .string ta, .int .i64 (mi : Int), .int .i64 (st : Int), .string re, .slice ua ul uc], 25)]) := hide (((((((T3.out.set 0 rfl 0 (.bool r)).set 0 rfl 1 (.string me)).set 0 rfl 2 (.string ta)).set 0 rfl 3 (.int .i64 (mi : Int))).set 0 rfl 4 (.int .i64 (st : Int))).set 0 rfl 5 (.string re)).set 0 rfl 6 (.slice ua ul uc))
      have RF := hide (((((((HU.out.setOld (g := w.heap.size) (by omega) 0 (.bool r)).setOld (g := w.heap.size) (by omega) 1 (.string me)).setOld (g := w.heap.size) (by omega) 2 (.string ta)).setOld (g := w.heap.size) (by omega) 3 (.int .i64 (mi : Int))).setOld (g := w.heap.size) (by omega) 4 (.int .i64 (st : Int))).setOld (g := w.heap.size) (by omega) 5 (.string re)).setOld (g := w.heap.size) (by omega) 6 (.slice ua ul uc))
      generalize (((((((w3.setCell ⟨w.heap.size, 0, none⟩ (.bool r)).setCell ⟨w.heap.size, 1, none⟩ (.string me)).setCell ⟨w.heap.size, 2, none⟩ (.string ta)).setCell ⟨w.heap.size, 3, none⟩ (.int .i64 (mi : Int))).setCell ⟨w.heap.size, 4, none⟩ (.int .i64 (st : Int))).setCell ⟨w.heap.size, 5, none⟩ (.string re)).setCell ⟨w.heap.size, 6, none⟩ (.slice ua ul uc)) = w9 at TF RF ⊢
      clear s0 s1 s2 s3 s4 s5 s6 f0 f1 f2 f3 f4 f5 f6
      obtain ⟨k0, k1, k2, k3, k4, k5, k6⟩ := TF.out.hd 0 w.heap.size rfl rfl
      exact bodyPost_ret (v := .tuple #[.agg #[.bool r, .string me, .string ta, .int .i64 (mi : Int), .int .i64 (st : Int), .string re, .slice ua ul uc], .int .i64 (n : Int), .int .i64 0]) (by simp [results, Tryz.results9, go_sem, k0, k1, k2, k3, k4, k5, k6]) rfl ⟨.slice ua ul uc, rfl, RF.out.lower (by omega), TF.out.b⟩
  · have t0 : ((er : Int) != 0) = true := bne_iff_ne.2 (by omega)
    have hrr := HRR.out
    rw [if_pos h0] at hrr
    simp only [Prod.mk.injEq] at hrr
    obtain ⟨rfl, rfl, rfl⟩ := hrr
    clear HRR h0
    go_wp2
    have TF : Hid (Bl w (((((((w2.setCell ⟨w.heap.size, 0, none⟩ (.bool false)).setCell ⟨w.heap.size, 1, none⟩ (.string ⟨#[]⟩)).setCell ⟨w.heap.size, 2, none⟩ (.string ⟨#[]⟩)).setCell ⟨w.heap.size, 3, none⟩ (.int .i64 0)).setCell ⟨w.heap.size, 4, none⟩ (.int .i64 0)).setCell ⟨w.heap.size, 5, none⟩ (.string ⟨#[]⟩)).setCell ⟨w.heap.size, 6, none⟩ (.slice none 0 0)) [(#[.bool false, .string ⟨#[]⟩, .string ⟨#[]⟩, .int .i64 0, .int .i64 0, .string ⟨#[]⟩, .slice none 0 0], 25)]) := hide (((((((T2.out.set 0 rfl 0 (.bool false)).set 0 rfl 1 (.string ⟨#[]⟩)).set 0 rfl 2 (.string ⟨#[]⟩)).set 0 rfl 3 (.int .i64 0)).set 0 rfl 4 (.int .i64 0)).set 0 rfl 5 (.string ⟨#[]⟩)).set 0 rfl 6 (.slice none 0 0))
    generalize (((((((w2.setCell ⟨w.heap.size, 0, none⟩ (.bool false)).setCell ⟨w.heap.size, 1, none⟩ (.string ⟨#[]⟩)).setCell ⟨w.heap.size, 2, none⟩ (.string ⟨#[]⟩)).setCell ⟨w.heap.size, 3, none⟩ (.int .i64 0)).setCell ⟨w.heap.size, 4, none⟩ (.int .i64 0)).setCell ⟨w.heap.size, 5, none⟩ (.string ⟨#[]⟩)).setCell ⟨w.heap.size, 6, none⟩ (.slice none 0 0)) = w9 at TF ⊢
    clear s0 s1 s2 s3 s4 s5 s6 f0 f1 f2 f3 f4 f5 f6
    obtain ⟨k0, k1, k2, k3, k4, k5, k6⟩ := TF.out.hd 0 w.heap.size rfl rfl
    exact bodyPost_ret (v := .tuple #[.agg #[.bool false, .string ⟨#[]⟩, .string ⟨#[]⟩, .int .i64 0, .int .i64 0, .string ⟨#[]⟩, .slice none 0 0], .int .i64 0, .int .i64 (er : Int)]) (by simp [results, Tryz.results9, go_sem, k0, k1, k2, k3, k4, k5, k6]) rfl ⟨.slice none 0 0, rfl, FRow.nil _ _, TF.out.b⟩
end Go.Proofs.YtinmpmbicgokpaaGreatDoor
/- A head's text: what the program puts together. -/
namespace Go.Proofs
open Go.Shelf
def YtinmpmbicgokpaaGreatDoor.lays166_ren : Go.Shelf.Ren := ⟨fun | 166 => 46 | 240 => 69 | 276 => 83 | n => n, fun | 70 => 96 | 9 => 9 | 0 => 0 | 72 => 98 | 76 => 64 | 37 => 22 | 75 => 63 | 127 => 122 | 164 => 84 | 80 => 101 | 3 => 3 | 4 => 4 | 5 => 5 | 20 => 20 | n => n, fun | n => n⟩
theorem YtinmpmbicgokpaaGreatDoor.lays166 : Go.Proofs.Lays.n166 Tryz.prog YtinmpmbicgokpaaGreatDoor.lays166_ren := {
  mixed := by kernel_rfl
  f166 := Tryz.func46.trans (congrArg some (by kernel_rfl))
  f240 := Tryz.func69.trans (congrArg some (by kernel_rfl))
  f276 := Tryz.func83.trans (congrArg some (by kernel_rfl))
  t0 := Tryz.underlying0
  a0 := Tryz.isAgg0
  z0 := Tryz.sizeOf0
  v0 := Tryz.zeroValue0
  t3 := Tryz.underlying3
  a3 := Tryz.isAgg3
  z3 := Tryz.sizeOf3
  v3 := Tryz.zeroValue3
  t4 := Tryz.underlying4
  a4 := Tryz.isAgg4
  z4 := Tryz.sizeOf4
  v4 := Tryz.zeroValue4
  t9 := Tryz.underlying9
  a9 := Tryz.isAgg9
  z9 := Tryz.sizeOf9
  v9 := Tryz.zeroValue9
  t20 := Tryz.underlying20
  a20 := Tryz.isAgg20
  z20 := Tryz.sizeOf20
  v20 := Tryz.zeroValue20
  t37 := Tryz.underlying22
  a37 := Tryz.isAgg22
  z37 := Tryz.sizeOf22
  v37 := Tryz.zeroValue22
  t70 := Tryz.underlying96
  a70 := Tryz.isAgg96
  z70 := Tryz.sizeOf96
  v70 := Tryz.zeroValue96
  t72 := Tryz.underlying98
  a72 := Tryz.isAgg98
  z72 := Tryz.sizeOf98
  v72 := Tryz.zeroValue98
  t75 := Tryz.underlying63
  a75 := Tryz.isAgg63
  z75 := Tryz.sizeOf63
  v75 := Tryz.zeroValue63
  t164 := Tryz.underlying84
  a164 := Tryz.isAgg84
  z164 := Tryz.sizeOf84
  v164 := Tryz.zeroValue84 }
theorem YtinmpmbicgokpaaGreatDoor.Builder_Extra_166 : Builder.Extra Tryz.prog YtinmpmbicgokpaaGreatDoor.lays166_ren := {
  sizeBuilder := by kernel_rfl
  liesBuilder := by kernel_rfl
  t5 := Tryz.underlying5
  a5 := Tryz.isAgg5
  z5 := Tryz.sizeOf5
  v5 := Tryz.zeroValue5
  infoByte := by kernel_rfl
  cellsByte := by kernel_rfl
  sizeByte := by kernel_rfl
  neB5 := by decide }
end Go.Proofs
namespace Go.Proofs.YtinmpmbicgokpaaGreatDoor
open Go.ChangeShapes Go.WideShapes Go.ChangeAt Go.RowKit

def PT (w : World) : Prop := Lib.TabIs Tryz.prog w "internal/strconv.uint64pow10" .u64 Lib.pow10Tab
theorem gpow : Tryz.prog.globalNamed "internal/strconv.uint64pow10" = some 2 := by kernel_rfl
theorem PT.below {w w' : World} (h : PT w) (hb : Below w.heap.size w w') : PT w' := by
  unfold PT Lib.TabIs World.var? at h ⊢
  rw [gpow] at h ⊢
  simp only [Option.bind_some] at h ⊢
  have hlt : 2 < w.heap.size := by
    rcases Nat.lt_or_ge 2 w.heap.size with h' | h'
    · exact h'
    · rw [Array.getElem?_eq_none h'] at h; cases h
  rw [hb.block 2 hlt]
  exact h
theorem below_grow (w : World) (q : Nat) (os : Array Obj) : Below w.heap.size w (Sort.grow (w.drewN q) os) :=
  ⟨rfl, rfl, rfl, by simp [Sort.grow], fun k hk => by simp [Sort.grow, World.drewN, Array.getElem?_append_left hk]⟩
def itoaS (p : Int) : ByteArray := ⟨(Lib.itoa p).toArray⟩
theorem itoa_any (p : Int) (w : World) (h0 : -9223372036854775808 ≤ p) (h1 : p ≤ 9223372036854775807) (ht : PT w) :
    Calls Tryz.prog 29 #[.int .i64 p] w fun e w' => e = .returned (.string (itoaS p)) ∧ Below w.heap.size w w' := by
  refine (Tryz.strconv_Itoa p h0 h1 w ht).mono ?_
  rintro e w' ⟨rfl, k, os, rfl⟩
  exact ⟨rfl, below_grow w k os⟩
theorem itoaS_size (p : Int) (h0 : -9223372036854775808 ≤ p) (h1 : p ≤ 9223372036854775807) : (itoaS p).size ≤ 21 := by
  rw [← size_len]
  simpa [itoaS] using Lib.itoa_length_le p h0 h1
/-! ### The builder -/
structure Bd (w x : World) (c : Array Value) (l : List UInt8) : Prop where
  one : x.heap[w.heap.size]? = some (.cells c 25)
  bld : Lib.IsBuilderF 98 5 (w.heap.size + 1) (w.heap.size + 1) (Lib.byteCells l) x
  b : Below w.heap.size w x
  lt : w.heap.size + 1 ≤ x.heap.size
theorem Bd.start (w : World) (c : Array Value) : Bd w ((w.alloc (.cells c 25)).alloc (.cells #[.pointer none, .slice none 0 0] 98)) c [] := by
  have e : (w.alloc (.cells c 25)).heap.size = w.heap.size + 1 := by show (w.heap.push _).size = _; simp
  refine ⟨?_, ?_, ?_, ?_⟩
  · rw [Lib.alloc_old _ _ _ (by omega)]; exact hp_new w _
  · have := Lib.IsBuilderF.of (Lib.fresh_isBuilder 98 5 (w.alloc (.cells c 25)))
    rw [e] at this
    exact this
  · exact ((Below.refl _ w).alloc (Nat.le_refl _) _).alloc (by omega) _
  · show _ ≤ (((w.alloc (.cells c 25)).heap).push _).size; rw [Array.size_push, e]; omega
theorem Bd.cell {w x : World} {c : Array Value} {l : List UInt8} (h : Bd w x c l) (i : Nat) : x.cell? ⟨w.heap.size, i, none⟩ = c[i]? := cell_at h.one i
theorem Bd.cl {w x y : World} {c : Array Value} {l : List UInt8} (h : Bd w x c l) (hb : Below x.heap.size x y) : Bd w y c l := by
  refine ⟨(hb.block _ (lt_heap h.one)).trans h.one, ?_, h.b.trans (hb.mono h.b.size), Nat.le_trans h.lt hb.size⟩
  have key : ∀ p, Lib.BuilderAtF 98 5 (w.heap.size + 1) (w.heap.size + 1) p (Lib.byteCells l) x → Lib.BuilderAtF 98 5 (w.heap.size + 1) (w.heap.size + 1) p (Lib.byteCells l) y := by
    rintro p ⟨h1, v, h2, h3, h4⟩
    refine ⟨h1, v, (hb.block _ (lt_heap h2)).trans h2, ?_, h4⟩
    refine ⟨h3.1, ?_⟩
    rcases h3.2 with u | ⟨g, cap, cur, fz, rfl, g1, hg, hc⟩
    · exact .inl u
    · exact .inr ⟨g, cap, cur, fz, rfl, g1, (hb.block _ (lt_heap hg)).trans hg, hc⟩
  rcases h.bld with u | u
  · exact .inl (key _ u)
  · exact .inr (key _ u)
theorem Bd.low {w x : World} {c : Array Value} {l : List UInt8} (h : Bd w x c l) : w.heap.size + 1 < x.heap.size := by
  rcases h.bld with ⟨_, v, h2, _⟩ | ⟨_, v, h2, _⟩ <;> exact lt_heap h2
theorem write_any {w x : World} {c : Array Value} {l : List UInt8} (h : Bd w x c l) (s : ByteArray) (hl : l.length + s.size ≤ 140737488355328) :
    Calls Tryz.prog 46 #[.pointer (some ⟨w.heap.size + 1, 0, none⟩), .string s] x fun e x' => e = .returned (.tuple #[.int .i64 s.size, .nilIface]) ∧ Bd w x' c (l ++ s.data.toList) ∧ Lib.OthersKept 5 (some (w.heap.size + 1)) x x' := by
  refine (Any.Builder_WriteString_k lays166 Builder_Extra_166 (w.heap.size + 1) (w.heap.size + 1) (Lib.byteCells l) s x h.bld (by simpa [Lib.byteCells] using hl) h.lt).mono ?_
  rintro e x' ⟨rfl, hA, hb, hk⟩
  have e2 : Lib.byteCells l ++ Lib.strCells s = Lib.byteCells (l ++ s.data.toList) := by simp [Lib.byteCells, Lib.strCells]
  refine ⟨rfl, ⟨(hb.block _ (by omega)).trans h.one, .inr (e2 ▸ hA), h.b.trans (hb.mono (by omega)), Nat.le_trans h.lt hb.size⟩, hk⟩
theorem string_any {w x : World} {c : Array Value} {l : List UInt8} (h : Bd w x c l) :
    Calls Tryz.prog 49 #[.pointer (some ⟨w.heap.size + 1, 0, none⟩)] x fun e x' => e = .returned (.string ⟨l.toArray⟩) ∧ Below w.heap.size w x' := by
  refine (Any.Builder_String_any_k Tryz.lays169 Tryz.Builder_Extra_169 (w.heap.size + 1) (w.heap.size + 1) l x h.bld h.lt).mono ?_
  rintro e x' ⟨rfl, _, hb, _⟩
  exact ⟨rfl, h.b.trans (hb.mono (by omega))⟩
theorem len_any {w x : World} {c : Array Value} {l : List UInt8} (h : Bd w x c l) :
    Calls Tryz.prog 48 #[.pointer (some ⟨w.heap.size + 1, 0, none⟩)] x fun e x' => e = .returned (.int .i64 l.length) ∧ x = x' := by
  refine (Any.Builder_Len_f Tryz.lays170 (w.heap.size + 1) (w.heap.size + 1) (Lib.byteCells l) x h.bld).mono ?_
  rintro e x' ⟨rfl, rfl⟩
  exact ⟨by simp [Lib.byteCells], rfl⟩
/-- A block of two texts is kept. -/
theorem kept_two {w x x' : World} (h : Lib.OthersKept 5 (some (w.heap.size + 1)) x x') {g : Nat} {a b : ByteArray} (hg : x.heap[g]? = some (.cells #[.string a, .string b] 51)) (hn : w.heap.size + 1 < g) : x'.heap[g]? = some (.cells #[.string a, .string b] 51) :=
  h g _ hg (by simp; omega) (fun c fz e => by simp at e)
end Go.Proofs.YtinmpmbicgokpaaGreatDoor
/- A head's first line, and its text. -/
namespace Go.Proofs.YtinmpmbicgokpaaGreatDoor
open Go.ChangeShapes Go.WideShapes Go.ChangeAt Go.RowKit

/-- A head whose numbers may be any. -/
structure Hi where
  r : Bool
  me : ByteArray
  ta : ByteArray
  mi : Int
  st : Int
  re : ByteArray
  fs : List (ByteArray × ByteArray)
def hiV (h : Hi) (l : Value) : Value := .agg #[.bool h.r, .string h.me, .string h.ta, .int .i64 h.mi, .int .i64 h.st, .string h.re, l]
structure Hb (h : Hi) : Prop where
  me : h.me.size ≤ 1048576
  ta : h.ta.size ≤ 1048576
  re : h.re.size ≤ 1048576
  mi0 : -9223372036854775808 ≤ h.mi
  mi1 : h.mi ≤ 9223372036854775807
  st0 : -9223372036854775808 ≤ h.st
  st1 : h.st ≤ 9223372036854775807
  fl : h.fs.length ≤ 1048576
  fs : ∀ f ∈ h.fs, f.1.size ≤ 1048576 ∧ f.2.size ≤ 1048576
def verS (mi : Int) : ByteArray := ⟨#[72, 84, 84, 80, 47, 49, 46]⟩ ++ itoaS mi
def firstS (h : Hi) : ByteArray := if h.r then ((h.me ++ ⟨#[32]⟩) ++ h.ta ++ ⟨#[32]⟩) ++ verS h.mi else ((verS h.mi ++ ⟨#[32]⟩) ++ itoaS h.st ++ ⟨#[32]⟩) ++ h.re
theorem verS_size (h : Hi) (hb : Hb h) : (verS h.mi).size ≤ 28 := by
  have := itoaS_size h.mi hb.mi0 hb.mi1
  unfold verS
  rw [app_size]
  have e : (⟨#[72, 84, 84, 80, 47, 49, 46]⟩ : ByteArray).size = 7 := rfl
  omega
theorem firstS_size (h : Hi) (hb : Hb h) : (firstS h).size ≤ 2097220 := by
  have h1 := verS_size h hb
  have h2 := itoaS_size h.st hb.st0 hb.st1
  have h3 := hb.me
  have h4 := hb.ta
  have h5 := hb.re
  have e : (⟨#[32]⟩ : ByteArray).size = 1 := rfl
  unfold firstS
  split <;> simp only [app_size] <;> omega
set_option maxHeartbeats 2000000 in
theorem first_any (h : Hi) (l : Value) (w : World) (hl : ∃ a n c, l = .slice a n c) (hb : Hb h) (ht : PT w) :
    Calls Tryz.prog 47 #[hiV h l] w fun e w' => e = .returned (.string (firstS h)) ∧ Below w.heap.size w w' := by
  have HI1 := hide (fun W hW => itoa_any h.mi W hb.mi0 hb.mi1 hW)
  have HI2 := hide (fun W hW => itoa_any h.st W hb.st0 hb.st1 hW)
  have z1 := itoaS_size h.mi hb.mi0 hb.mi1
  have z2 := itoaS_size h.st hb.st0 hb.st1
  have z3 := hb.me
  have z4 := hb.ta
  have z5 := hb.re
  have HT := hide ht
  obtain ⟨a, n, c, rfl⟩ := hl
  unfold firstS verS hiV
  clear hb ht
  obtain ⟨r, me, ta, mi, st, re, fs⟩ := h
  dsimp only at *
  generalize itoaS mi = ms at HI1 z1 ⊢
  generalize itoaS st = ss at HI2 z2 ⊢
  go_enter Tryz.func47, Tryz.ntmps47
  go_wp2_with fail
  have T0 := hide (Bl.one w #[.bool r, .string me, .string ta, .int .i64 mi, .int .i64 st, .string re, .slice a n c] 25)
  generalize (w.alloc (.cells #[.bool r, .string me, .string ta, .int .i64 mi, .int .i64 st, .string re, .slice a n c] 25)) = x at T0 ⊢
  refine (HI1.out _ (HT.out.below T0.out.b)).mono ?_
  rintro e w1 ⟨rfl, bb⟩
  have T1 := hide (T0.out.below bb)
  clear bb T0
  obtain ⟨r0, r1, r2, r3, r4, r5, r6⟩ := T1.out.hd 0 w.heap.size rfl rfl
  have e7 : (⟨#[72, 84, 84, 80, 47, 49, 46]⟩ : ByteArray).size = 7 := rfl
  have e1 : (⟨#[32]⟩ : ByteArray).size = 1 := rfl
  have y1 : ((⟨#[72, 84, 84, 80, 47, 49, 46]⟩ : ByteArray) ++ ms).size ≤ 28 := by rw [app_size]; omega
  cases r with
  | true =>
    have y2 : (me ++ (⟨#[32]⟩ : ByteArray)).size ≤ 1048577 := by rw [app_size]; omega
    have y3 : ((me ++ (⟨#[32]⟩ : ByteArray)) ++ ta).size ≤ 2097153 := by rw [app_size]; omega
    have y4 : (((me ++ (⟨#[32]⟩ : ByteArray)) ++ ta) ++ (⟨#[32]⟩ : ByteArray)).size ≤ 2097154 := by rw [app_size]; omega
    go_wp2
    go_ret
    exact ⟨rfl, T1.out.b⟩
  | false =>
    generalize ((⟨#[72, 84, 84, 80, 47, 49, 46]⟩ : ByteArray) ++ ms) = vs at y1 ⊢
    have y2 : (vs ++ (⟨#[32]⟩ : ByteArray)).size ≤ 29 := by rw [app_size]; omega
    have y3 : ((vs ++ (⟨#[32]⟩ : ByteArray)) ++ ss).size ≤ 50 := by rw [app_size]; omega
    have y4 : (((vs ++ (⟨#[32]⟩ : ByteArray)) ++ ss) ++ (⟨#[32]⟩ : ByteArray)).size ≤ 51 := by rw [app_size]; omega
    go_upto_region 4 with fail
    have K1 := hide (fun W (hW : Cl w1 W) => HI2.out W ((HT.out.below T1.out.b).below hW.out))
    refine wp_region_cl (by kernel_rfl) (by kernel_rfl) ?_
    refine cl_move _ rfl rfl ?_
    simp only [Act.put, List.setIfInBounds_toArray, List.set_cons_zero, List.set_cons_succ]
    refine cl_val (v := ?_) rfl (fun W hW => ?_) ?_
    rotate_left
    · unfold Oper.quietAt; go_simp; rw [if_neg (by first | omega | (simp only [app_size]; omega))]; (refine And.intro rfl ?_; with_reducible rfl)
    simp only [Act.put, List.setIfInBounds_toArray, List.set_cons_zero, List.set_cons_succ]
    refine cl_val (v := ?_) rfl (fun W hW => ?_) ?_
    rotate_left
    · unfold Oper.quietAt; go_simp; try with_reducible rfl
    simp only [Act.put, List.setIfInBounds_toArray, List.set_cons_zero, List.set_cons_succ]
    refine cl_val (v := ?_) rfl (fun W hW => ?_) ?_
    rotate_left
    · have l0 := hW.cell r4; unfold Oper.quietAt; go_simp; try with_reducible rfl
    simp only [Act.put, List.setIfInBounds_toArray, List.set_cons_zero, List.set_cons_succ]
    refine cl_val (v := .string ss) rfl (fun W hW => ?_) ?_
    · unfold Oper.quietAt; go_simp; exact call_cl hW (K1.out W hW)
    simp only [Act.put, List.setIfInBounds_toArray, List.set_cons_zero, List.set_cons_succ]
    refine cl_val (v := ?_) rfl (fun W hW => ?_) ?_
    rotate_left
    · unfold Oper.quietAt; go_simp; rw [if_neg (by first | omega | (simp only [app_size]; omega))]; (refine And.intro rfl ?_; with_reducible rfl)
    simp only [Act.put, List.setIfInBounds_toArray, List.set_cons_zero, List.set_cons_succ]
    refine cl_val (v := ?_) rfl (fun W hW => ?_) ?_
    rotate_left
    · unfold Oper.quietAt; go_simp; rw [if_neg (by first | omega | (simp only [app_size]; omega))]; (refine And.intro rfl ?_; with_reducible rfl)
    simp only [Act.put, List.setIfInBounds_toArray, List.set_cons_zero, List.set_cons_succ]
    refine cl_val (v := ?_) rfl (fun W hW => ?_) ?_
    rotate_left
    · unfold Oper.quietAt; go_simp; try with_reducible rfl
    simp only [Act.put, List.setIfInBounds_toArray, List.set_cons_zero, List.set_cons_succ]
    refine cl_val (v := ?_) rfl (fun W hW => ?_) ?_
    rotate_left
    · have l0 := hW.cell r5; unfold Oper.quietAt; go_simp; try with_reducible rfl
    simp only [Act.put, List.setIfInBounds_toArray, List.set_cons_zero, List.set_cons_succ]
    refine cl_val (v := ?_) rfl (fun W hW => ?_) ?_
    rotate_left
    · unfold Oper.quietAt; go_simp; rw [if_neg (by first | omega | (simp only [app_size]; omega))]; (refine And.intro rfl ?_; with_reducible rfl)
    simp only [Act.put, List.setIfInBounds_toArray, List.set_cons_zero, List.set_cons_succ]
    refine cl_assign _ rfl rfl ?_
    simp only [Act.put, List.setIfInBounds_toArray, List.set_cons_zero, List.set_cons_succ]
    refine wpQuiet_nil ?_
    intro z Hz
    go_wp2
    go_ret
    exact ⟨rfl, T1.out.b.trans (Hz.out.mono T1.out.b.size)⟩
end Go.Proofs.YtinmpmbicgokpaaGreatDoor
/- A head's text, as the program puts it together. -/
namespace Go.Proofs.YtinmpmbicgokpaaGreatDoor
open Go.ChangeShapes Go.WideShapes Go.ChangeAt Go.RowKit

def fldL (f : ByteArray × ByteArray) : List UInt8 := f.1.data.toList ++ ([58, 32] ++ (f.2.data.toList ++ [13, 10]))
/-- Fields behind a text; behind 65536 bytes no more of them. -/
def txt (acc : List UInt8) : List (ByteArray × ByteArray) → List UInt8
  | [] => acc
  | f :: r => if 65536 < acc.length then acc else txt (acc ++ fldL f) r
def textL (h : Hi) : List UInt8 := txt ((firstS h).data.toList ++ [13, 10]) h.fs ++ [13, 10]
theorem txt_stop {acc : List UInt8} (h : 65536 < acc.length) (A : List (ByteArray × ByteArray)) : txt acc A = acc := by
  cases A with
  | nil => rfl
  | cons f r => rw [txt, if_pos h]
theorem txt_end {acc : List UInt8} {A : List (ByteArray × ByteArray)} {k : Nat} (h : A.length ≤ k) : txt acc (A.drop k) = acc := by
  rw [List.drop_of_length_le h]; rfl
theorem txt_step {acc : List UInt8} {A : List (ByteArray × ByteArray)} {k : Nat} (h : ¬ 65536 < acc.length) (hk : k < A.length) {f : ByteArray × ByteArray} (hf : A[k] = f) : txt acc (A.drop k) = txt (acc ++ fldL f) (A.drop (k + 1)) := by
  rw [List.drop_eq_getElem_cons hk, hf, txt, if_neg h]
theorem app4 (l a b : List UInt8) : ((((l ++ a) ++ [58, 32]) ++ b) ++ [13, 10]) = l ++ (a ++ ([58, 32] ++ (b ++ [13, 10]))) := by simp
set_option maxHeartbeats 4000000 in
theorem text_any (h : Hi) (l : Value) (w : World) (hF : Flds w l h.fs) (hb : Hb h) (ht : PT w) :
    Calls Tryz.prog 27 #[hiV h l] w fun e w' => e = .returned (.string ⟨(textL h).toArray⟩) ∧ Below w.heap.size w w' := by
  have hsz := firstS_size h hb
  have HFI := hide (fun W hl hW => first_any h l W hl hb hW)
  have HT := hide ht
  have HFS := hide hb.fs
  have hal := hb.fl
  have F0 := hide hF
  obtain ⟨a0, c0, rfl, _, hcells⟩ := hF
  have HC0 := hide hcells
  obtain ⟨T, hT⟩ : ∃ T, textL h = T := ⟨_, rfl⟩
  rw [hT]
  unfold textL at hT
  have HTX := hide hT
  clear hb ht hcells hT
  generalize firstS h = fsS at hsz HFI HTX
  unfold hiV at HFI ⊢
  obtain ⟨r, me, ta, mi, st, re, A⟩ := h
  dsimp only at *
  go_enter Tryz.func27, Tryz.ntmps27
  go_upto_region 2 with fail
  have D := hide (Bd.start w #[.bool r, .string me, .string ta, .int .i64 mi, .int .i64 st, .string re, .slice a0 A.length c0])
  generalize ((w.alloc (.cells #[.bool r, .string me, .string ta, .int .i64 mi, .int .i64 st, .string re, .slice a0 A.length c0] 25)).alloc (.cells #[.pointer none, .slice none 0 0] 98)) = x at D ⊢
  have k0 : x.cell? ⟨w.heap.size, 0, none⟩ = some (.bool r) := D.out.cell 0
  have k1 : x.cell? ⟨w.heap.size, 1, none⟩ = some (.string me) := D.out.cell 1
  have k2 : x.cell? ⟨w.heap.size, 2, none⟩ = some (.string ta) := D.out.cell 2
  have k3 : x.cell? ⟨w.heap.size, 3, none⟩ = some (.int .i64 mi) := D.out.cell 3
  have k4 : x.cell? ⟨w.heap.size, 4, none⟩ = some (.int .i64 st) := D.out.cell 4
  have k5 : x.cell? ⟨w.heap.size, 5, none⟩ = some (.string re) := D.out.cell 5
  have k6 : x.cell? ⟨w.heap.size, 6, none⟩ = some (.slice a0 A.length c0) := D.out.cell 6
  go_wp2_with fail
  refine (HFI.out x ⟨_, _, _, rfl⟩ (HT.out.below D.out.b)).mono ?_
  rintro e x1 ⟨rfl, b1⟩
  have D1 := hide (D.out.cl b1)
  clear b1 D k0 k1 k2 k3 k4 k5 k6
  go_wp2_with fail
  refine (write_any D1.out fsS (by simp; omega)).mono ?_
  rintro e x2 ⟨rfl, d2, -⟩
  have D2 := hide d2
  clear d2 D1
  go_wp2_with fail
  refine (write_any D2.out ⟨#[13, 10]⟩ (by have e2 : (⟨#[13, 10]⟩ : ByteArray).size = 2 := rfl; rw [List.nil_append, size_len]; omega)).mono ?_
  rintro e x3 ⟨rfl, d3, -⟩
  rw [List.nil_append] at d3
  have D3 : Hid (Bd w x3 #[.bool r, .string me, .string ta, .int .i64 mi, .int .i64 st, .string re, .slice a0 A.length c0] (fsS.data.toList ++ [13, 10])) := hide d3
  clear d3 D2
  have k6 : x3.cell? ⟨w.heap.size, 6, none⟩ = some (.slice a0 A.length c0) := D3.out.cell 6
  go_wp2_with fail
  go_loopw [13] (fun i wr => ∃ (k : Nat) (acc : List UInt8), k ≤ A.length ∧ i = .int .i64 k ∧ acc.length ≤ 2200000 ∧ Hid (Bd w wr #[.bool r, .string me, .string ta, .int .i64 mi, .int .i64 st, .string re, .slice a0 A.length c0] acc) ∧ Hid (txt acc (A.drop k) ++ [13, 10] = T)) (fun i _ => A.length - (intOf i).toNat)
  case atStart => exact ⟨0, fsS.data.toList ++ [13, 10], Nat.zero_le _, rfl, by rw [List.length_append, size_len]; simp; omega, D3, HTX⟩
  case round =>
    obtain ⟨k, acc, hk, rfl, hacc, HD, HTT⟩ := hrel
    clear k6
    have HEND : Hid (∀ W (hW : Bd w W #[.bool r, .string me, .string ta, .int .i64 mi, .int .i64 st, .string re, .slice a0 A.length c0] acc), Calls Tryz.prog 46 #[.pointer (some ⟨w.heap.size + 1, 0, none⟩), .string ⟨#[13, 10]⟩] W fun e x' => e = .returned (.tuple #[.int .i64 2, .nilIface]) ∧ Bd w x' #[.bool r, .string me, .string ta, .int .i64 mi, .int .i64 st, .string re, .slice a0 A.length c0] (acc ++ [13, 10])) :=
      hide (fun W hW => (write_any hW ⟨#[13, 10]⟩ (by have e2 : (⟨#[13, 10]⟩ : ByteArray).size = 2 := rfl; omega)).mono (fun _ _ ⟨h1, h2, _⟩ => ⟨h1, h2⟩))
    by_cases hlt : k < A.length
    · obtain ⟨g1, o1, rfl, hg1, q1, q2⟩ := HC0.out k hlt
      have hz := HFS.out A[k] (List.getElem_mem hlt)
      have HST := hide (fun (hh : ¬ 65536 < acc.length) f hf => txt_step (acc := acc) hh hlt (f := f) hf)
      obtain ⟨⟨na, nb⟩, hfe⟩ : ∃ f, A[k] = f := ⟨_, rfl⟩
      rw [hfe] at q1 q2 hz
      have HST2 := hide (fun hh => HST.out hh _ hfe)
      obtain ⟨hza, hzb⟩ := hz
      dsimp only at q1 q2 hza hzb
      have q3 : wr.cell? ⟨g1, o1 + k * 2, none⟩ = some (.string na) := (HD.out.b.cell (p := ⟨g1, o1 + k * 2, none⟩) hg1).trans q1
      have q4 : wr.cell? ⟨g1, o1 + k * 2 + 1, none⟩ = some (.string nb) := (HD.out.b.cell (p := ⟨g1, o1 + k * 2 + 1, none⟩) hg1).trans q2
      clear q1 q2 hg1 hfe HST
      go_upto_region 7 with fail
      have DD := hide ((Below.refl _ wr).alloc (Nat.le_refl _) (.cells #[.string na, .string nb] 51))
      have HD2 := hide (HD.out.cl DD.out)
      have HFB : Hid ((wr.alloc (.cells #[.string na, .string nb] 51)).heap[wr.heap.size]? = some (.cells #[.string na, .string nb] 51)) := hide (hp_new wr _)
      have HWL : Hid (w.heap.size + 1 < wr.heap.size) := hide HD.out.low
      generalize (wr.alloc (.cells #[.string na, .string nb] 51)) = y at DD HD2 HFB ⊢
      clear q3 q4 DD HD
      go_wp2_with fail
      refine (len_any HD2.out).mono ?_
      rintro e y' ⟨rfl, rfl⟩
      by_cases hgt : 65536 < acc.length
      · have HTE : Hid (acc ++ [13, 10] = T) := hide (by have := HTT.out; rw [txt_stop hgt] at this; exact this)
        have hgi : (65536 : Int) < (acc.length : Int) := by omega
        go_wp2_with fail
        refine (HEND.out _ HD2.out).mono ?_
        rintro e y2 ⟨rfl, d2⟩
        have D2 := hide d2
        clear d2
        go_wp2_with fail
        refine (string_any D2.out).mono ?_
        rintro e y3 ⟨rfl, b3⟩
        have B3 := hide b3
        clear b3
        go_wp2
        go_ret
        exact ⟨by rw [← HTE.out]; rfl, B3.out⟩
      · have HS2 := hide (HST2.out hgt)
        have hgi : ¬ (65536 : Int) < (acc.length : Int) := by omega
        have f0 : y.cell? ⟨wr.heap.size, 0, none⟩ = some (.string na) := cell_at HFB.out 0
        go_wp2_with fail
        refine (write_any HD2.out na (by omega)).mono ?_
        rintro e y1 ⟨rfl, d1, kp1⟩
        have D1 := hide d1
        have F1 := hide (kept_two kp1 HFB.out HWL.out)
        clear d1 kp1 f0 HD2 HFB
        go_wp2_with fail
        refine (write_any D1.out ⟨#[58, 32]⟩ (by have e2 : (⟨#[58, 32]⟩ : ByteArray).size = 2 := rfl; rw [List.length_append, size_len]; omega)).mono ?_
        rintro e y2 ⟨rfl, d2, kp2⟩
        have D2 := hide d2
        have F2 := hide (kept_two kp2 F1.out HWL.out)
        clear d2 kp2 D1 F1
        have f1 : y2.cell? ⟨wr.heap.size, 1, none⟩ = some (.string nb) := cell_at F2.out 1
        go_wp2_with fail
        refine (write_any D2.out nb (by have e2 : (⟨#[58, 32]⟩ : ByteArray).data.toList.length = 2 := rfl; rw [List.length_append, List.length_append, size_len, e2]; omega)).mono ?_
        rintro e y3 ⟨rfl, d3, -⟩
        have D3 := hide d3
        clear d3 D2 F2 f1
        go_wp2_with fail
        refine (write_any D3.out ⟨#[13, 10]⟩ (by have e2 : (⟨#[58, 32]⟩ : ByteArray).data.toList.length = 2 := rfl; have e3 : (⟨#[13, 10]⟩ : ByteArray).size = 2 := rfl; rw [List.length_append, List.length_append, List.length_append, size_len, size_len, e2]; omega)).mono ?_
        rintro e y4 ⟨rfl, d4, -⟩
        have D4 : Hid (Bd w y4 #[.bool r, .string me, .string ta, .int .i64 mi, .int .i64 st, .string re, .slice (some ⟨g1, o1, none⟩) A.length c0] (acc ++ fldL (na, nb))) := hide (by rw [show acc ++ fldL (na, nb) = ((((acc ++ na.data.toList) ++ [58, 32]) ++ nb.data.toList) ++ [13, 10]) from (app4 _ _ _).symm]; exact d4)
        have HLN : Hid ((acc ++ fldL (na, nb)).length ≤ 2200000) := hide (by unfold fldL; simp only [List.length_append, size_len, List.length_cons, List.length_nil]; omega)
        have HT2 : Hid (txt (acc ++ fldL (na, nb)) (A.drop (k + 1)) ++ [13, 10] = T) := hide (by rw [← HS2.out]; exact HTT.out)
        clear d4 D3
        generalize acc ++ fldL (na, nb) = acc2 at D4 HLN HT2
        go_wp2
        exact ⟨⟨k + 1, acc2, by omega, by go_num, HLN.out, D4, HT2⟩, by simp [intOf]; omega⟩
    · have HTE : Hid (acc ++ [13, 10] = T) := hide (by have := HTT.out; rw [txt_end (by omega)] at this; exact this)
      go_wp2_with fail
      refine (HEND.out _ HD.out).mono ?_
      rintro e y2 ⟨rfl, d2⟩
      have D2 := hide d2
      clear d2
      go_wp2_with fail
      refine (string_any D2.out).mono ?_
      rintro e y3 ⟨rfl, b3⟩
      have B3 := hide b3
      clear b3
      go_wp2
      go_ret
      exact ⟨by rw [← HTE.out]; rfl, B3.out⟩
end Go.Proofs.YtinmpmbicgokpaaGreatDoor
/- Equal heads: the program's same, the statements' own. -/
namespace Go.Proofs.YtinmpmbicgokpaaGreatDoor
open Go.ChangeShapes Go.WideShapes Go.ChangeAt Go.RowKit

def hiEq (a b : Hi) : Bool := (a.r == b.r) && (decide (a.me = b.me) && (decide (a.ta = b.ta) && (decide (a.mi = b.mi) && (decide (a.st = b.st) && (decide (a.re = b.re) && decide (a.fs = b.fs))))))
theorem hiEq_iff {a b : Hi} : hiEq a b = true ↔ a = b := by
  unfold hiEq
  simp only [Bool.and_eq_true, beq_iff_eq, decide_eq_true_eq]
  constructor
  · rintro ⟨h1, h2, h3, h4, h5, h6, h7⟩
    cases a; cases b
    simp only at h1 h2 h3 h4 h5 h6 h7
    subst h1 h2 h3 h4 h5 h6 h7
    rfl
  · rintro rfl; exact ⟨rfl, rfl, rfl, rfl, rfl, rfl, rfl⟩
theorem take_snocP {α : Type} (A : List α) (k : Nat) (h : k < A.length) : A.take (k + 1) = A.take k ++ [A[k]] := List.take_succ_eq_append_getElem h
set_option maxHeartbeats 2000000 in
theorem eqF_any (w : World) (a b : Value) (A B : List (ByteArray × ByteArray)) (hA : Flds w a A) (hB : Flds w b B) (hl : A.length ≤ 1099511627776) (hl2 : B.length ≤ 1099511627776) :
    Calls Tryz.prog 50 #[a, b] w fun e w' => e = .returned (.bool (decide (A = B))) ∧ Below w.heap.size w w' := by
  obtain ⟨a0, c0, rfl, _, hca⟩ := hA
  obtain ⟨b0, d0, rfl, _, hcb⟩ := hB
  have HA := hide hca
  have HB := hide hcb
  clear hca hcb
  obtain ⟨D, hD⟩ : ∃ D, decide (A = B) = D := ⟨_, rfl⟩
  rw [hD]
  have HD := hide hD
  clear hD
  by_cases hn : A.length = B.length
  · have t : ((A.length : Int) != (B.length : Int)) = false := by rw [bne_eq_false_iff_eq]; omega
    have hl3 : B.length ≤ A.length := by omega
    have hl4 : A.length ≤ B.length := by omega
    clear hn
    go_enter Tryz.func50, Tryz.ntmps50
    go_wp2
    go_loopw [13] (fun i wr => ∃ k : Nat, k ≤ A.length ∧ i = .int .i64 k ∧ Hid (A.take k = B.take k) ∧ Hid (∃ n, wr = w.drewN n)) (fun i _ => A.length - (intOf i).toNat)
    case atStart => exact ⟨0, Nat.zero_le _, rfl, hide rfl, hide ⟨0, rfl⟩⟩
    case round =>
      obtain ⟨k, hk, rfl, H, HW⟩ := hrel
      by_cases hlt : k < A.length
      · have hlb : k < B.length := by omega
        obtain ⟨g1, o1, rfl, _, q1, q2⟩ := HA.out k hlt
        obtain ⟨g2, o2, rfl, _, q3, q4⟩ := HB.out k hlb
        obtain ⟨n, hwn⟩ := HW.out
        subst hwn
        have hsa := hide (take_snocP A k hlt)
        have hsb := hide (take_snocP B k hlb)
        obtain ⟨⟨fa, fb⟩, hf⟩ : ∃ f, A[k] = f := ⟨_, rfl⟩
        obtain ⟨⟨ga, gb⟩, hg⟩ : ∃ f, B[k] = f := ⟨_, rfl⟩
        have HNE : Hid ((fa, fb) ≠ (ga, gb) → A ≠ B) := hide (by rintro hne rfl; exact hne (hf.symm.trans hg))
        rw [hf] at q1 q2 hsa
        rw [hg] at q3 q4 hsb
        dsimp only at q1 q2 q3 q4
        clear hf hg
        have e1 := bytes_eq fa ga
        have e2 := bytes_eq fb gb
        by_cases h1 : fa = ga
        · subst h1
          clear e1
          by_cases h2 : fb = gb
          · subst h2
            clear e2
            have HT : Hid (A.take (k + 1) = B.take (k + 1)) := hide (by rw [hsa.out, hsb.out, H.out])
            go_wp2
            go_quiet (fail)
            go_wp2
            exact ⟨⟨k + 1, by omega, by go_num, HT, hide ⟨n + nq, rfl⟩⟩, by simp [intOf]; omega⟩
          · have t2 : (fb.toList == gb.toList) = false := by rw [e2]; exact decide_eq_false h2
            have HE : Hid (A ≠ B) := hide (HNE.out (fun e => h2 (Prod.mk.inj e).2))
            clear e2 h2
            go_wp2
            go_quiet (fail)
            go_wp2
            go_ret
            exact ⟨ret_bool (by rw [← HD.out]; exact (decide_eq_false HE.out).symm), by rw [World.drewN_drewN]; exact below_drewN w _⟩
        · have t1 : (fa.toList == ga.toList) = false := by rw [e1]; exact decide_eq_false h1
          have HE : Hid (A ≠ B) := hide (HNE.out (fun e => h1 (Prod.mk.inj e).1))
          clear e1 e2 h1
          go_wp2
          go_quiet (fail)
          go_wp2
          go_ret
          exact ⟨ret_bool (by rw [← HD.out]; exact (decide_eq_false HE.out).symm), by rw [World.drewN_drewN]; exact below_drewN w _⟩
      · have HE : Hid (A = B) := hide (by
          have := H.out
          rw [List.take_of_length_le (by omega), List.take_of_length_le (by omega)] at this
          exact this)
        obtain ⟨n, hwn⟩ := HW.out
        subst hwn
        go_wp2
        go_ret
        exact ⟨ret_bool (by rw [← HD.out]; exact (decide_eq_true HE.out).symm), below_drewN w _⟩
  · have t : ((A.length : Int) != (B.length : Int)) = true := by rw [bne_iff_ne]; omega
    have HE : Hid (A ≠ B) := hide (by rintro rfl; exact hn rfl)
    clear hn
    go_enter Tryz.func50, Tryz.ntmps50
    go_wp2
    go_ret
    exact ⟨ret_bool (by rw [← HD.out]; exact (decide_eq_false HE.out).symm), Below.refl _ _⟩
set_option maxHeartbeats 2000000 in
theorem plainF_any (w : World) (a b : Value) (A B : List (ByteArray × ByteArray)) (hA : Flds w a A) (hB : Flds w b B) (hl : A.length ≤ 1099511627776) (hl2 : B.length ≤ 1099511627776) :
    Calls Tryz.prog 20 #[a, b] w fun e w' => e = .returned (.bool (decide (A = B))) ∧ Below w.heap.size w w' := by
  obtain ⟨a0, c0, rfl, _, hca⟩ := hA
  obtain ⟨b0, d0, rfl, _, hcb⟩ := hB
  have HA := hide hca
  have HB := hide hcb
  clear hca hcb
  obtain ⟨D, hD⟩ : ∃ D, decide (A = B) = D := ⟨_, rfl⟩
  rw [hD]
  have HD := hide hD
  clear hD
  by_cases hn : A.length = B.length
  · have t : ((A.length : Int) != (B.length : Int)) = false := by rw [bne_eq_false_iff_eq]; omega
    have hl3 : B.length ≤ A.length := by omega
    have hl4 : A.length ≤ B.length := by omega
    clear hn
    go_enter Tryz.func20, Tryz.ntmps20
    go_wp2
    go_loopw [13] (fun i wr => ∃ k : Nat, k ≤ A.length ∧ i = .int .i64 k ∧ Hid (A.take k = B.take k) ∧ Hid (∃ n, wr = w.drewN n)) (fun i _ => A.length - (intOf i).toNat)
    case atStart => exact ⟨0, Nat.zero_le _, rfl, hide rfl, hide ⟨0, rfl⟩⟩
    case round =>
      obtain ⟨k, hk, rfl, H, HW⟩ := hrel
      by_cases hlt : k < A.length
      · have hlb : k < B.length := by omega
        obtain ⟨g1, o1, rfl, _, q1, q2⟩ := HA.out k hlt
        obtain ⟨g2, o2, rfl, _, q3, q4⟩ := HB.out k hlb
        obtain ⟨n, hwn⟩ := HW.out
        subst hwn
        have hsa := hide (take_snocP A k hlt)
        have hsb := hide (take_snocP B k hlb)
        obtain ⟨⟨fa, fb⟩, hf⟩ : ∃ f, A[k] = f := ⟨_, rfl⟩
        obtain ⟨⟨ga, gb⟩, hg⟩ : ∃ f, B[k] = f := ⟨_, rfl⟩
        have HNE : Hid ((fa, fb) ≠ (ga, gb) → A ≠ B) := hide (by rintro hne rfl; exact hne (hf.symm.trans hg))
        rw [hf] at q1 q2 hsa
        rw [hg] at q3 q4 hsb
        dsimp only at q1 q2 q3 q4
        clear hf hg
        have e1 := bytes_eq fa ga
        have e2 := bytes_eq fb gb
        by_cases h1 : fa = ga
        · subst h1
          clear e1
          by_cases h2 : fb = gb
          · subst h2
            clear e2
            have HT : Hid (A.take (k + 1) = B.take (k + 1)) := hide (by rw [hsa.out, hsb.out, H.out])
            go_wp2
            go_quiet (fail)
            go_wp2
            exact ⟨⟨k + 1, by omega, by go_num, HT, hide ⟨n + nq, rfl⟩⟩, by simp [intOf]; omega⟩
          · have t2 : (fb.toList == gb.toList) = false := by rw [e2]; exact decide_eq_false h2
            have HE : Hid (A ≠ B) := hide (HNE.out (fun e => h2 (Prod.mk.inj e).2))
            clear e2 h2
            go_wp2
            go_quiet (fail)
            go_wp2
            go_ret
            exact ⟨ret_bool (by rw [← HD.out]; exact (decide_eq_false HE.out).symm), by rw [World.drewN_drewN]; exact below_drewN w _⟩
        · have t1 : (fa.toList == ga.toList) = false := by rw [e1]; exact decide_eq_false h1
          have HE : Hid (A ≠ B) := hide (HNE.out (fun e => h1 (Prod.mk.inj e).1))
          clear e1 e2 h1
          go_wp2
          go_quiet (fail)
          go_wp2
          go_ret
          exact ⟨ret_bool (by rw [← HD.out]; exact (decide_eq_false HE.out).symm), by rw [World.drewN_drewN]; exact below_drewN w _⟩
      · have HE : Hid (A = B) := hide (by
          have := H.out
          rw [List.take_of_length_le (by omega), List.take_of_length_le (by omega)] at this
          exact this)
        obtain ⟨n, hwn⟩ := HW.out
        subst hwn
        go_wp2
        go_ret
        exact ⟨ret_bool (by rw [← HD.out]; exact (decide_eq_true HE.out).symm), below_drewN w _⟩
  · have t : ((A.length : Int) != (B.length : Int)) = true := by rw [bne_iff_ne]; omega
    have HE : Hid (A ≠ B) := hide (by rintro rfl; exact hn rfl)
    clear hn
    go_enter Tryz.func20, Tryz.ntmps20
    go_wp2
    go_ret
    exact ⟨ret_bool (by rw [← HD.out]; exact (decide_eq_false HE.out).symm), Below.refl _ _⟩
set_option maxHeartbeats 4000000 in
theorem same_any (w : World) (X Y : Hi) (la lb : Value) (hA : Flds w la X.fs) (hB : Flds w lb Y.fs) (hl : X.fs.length ≤ 1099511627776) (hl2 : Y.fs.length ≤ 1099511627776) :
    Calls Tryz.prog 28 #[hiV X la, hiV Y lb] w fun e w' => e = .returned (.bool (hiEq X Y)) ∧ Below w.heap.size w w' := by
  have FA := hide hA
  have FB := hide hB
  obtain ⟨D, hD⟩ : ∃ D, hiEq X Y = D := ⟨_, rfl⟩
  rw [hD]
  unfold hiEq at hD
  have HC := hide (fun W (h1 : Flds W la X.fs) (h2 : Flds W lb Y.fs) => eqF_any W la lb X.fs Y.fs h1 h2 hl hl2)
  unfold hiV
  obtain ⟨aa, ac, rfl, _, _⟩ := hA
  obtain ⟨ba, bc, rfl, _, _⟩ := hB
  clear hl hl2
  obtain ⟨ar, ame, ata, ami, ast, are, A⟩ := X
  obtain ⟨br, bme, bta, bmi, bst, bre, B⟩ := Y
  dsimp only at *
  generalize decide (A = B) = d7 at hD HC
  generalize A.length = an at FA HC
  generalize B.length = bn at FB HC
  have HD := hide hD
  clear hD
  have e1 := bytes_eq ame bme
  have e2 := bytes_eq ata bta
  have e5 := bytes_eq are bre
  by_cases h0 : ar = br
  · subst h0
    by_cases h1 : ame = bme
    · subst h1
      clear e1
      by_cases h2 : ata = bta
      · subst h2
        clear e2
        by_cases h3 : ami = bmi
        · subst h3
          by_cases h4 : ast = bst
          · subst h4
            by_cases h5 : are = bre
            · subst h5
              clear e5
              go_enter Tryz.func28, Tryz.ntmps28
              go_wp2_with fail
              have T0 := hide (Bl.two w #[.bool ar, .string ame, .string ata, .int .i64 ami, .int .i64 ast, .string are, .slice aa an ac] 25 #[.bool ar, .string ame, .string ata, .int .i64 ami, .int .i64 ast, .string are, .slice ba bn bc] 25)
              generalize ((w.alloc (.cells #[.bool ar, .string ame, .string ata, .int .i64 ami, .int .i64 ast, .string are, .slice aa an ac] 25)).alloc (.cells #[.bool ar, .string ame, .string ata, .int .i64 ami, .int .i64 ast, .string are, .slice ba bn bc] 25)) = x at T0 ⊢
              refine (HC.out _ (FA.out.below T0.out.b) (FB.out.below T0.out.b)).mono ?_
              rintro e w1 ⟨rfl, bb⟩
              have T1 := hide (T0.out.below bb)
              clear bb
              go_wp2
              go_ret
              exact ⟨ret_bool (by rw [← HD.out]; simp), T1.out.b⟩
            · have t5 : (are.toList == bre.toList) = false := by rw [e5]; exact decide_eq_false h5
              have HN := hide h5
              clear e5 h5
              go_enter Tryz.func28, Tryz.ntmps28
              go_wp2
              go_ret
              exact ⟨ret_bool (by rw [← HD.out]; simp [HN.out]), (Bl.two w _ _ _ _).b⟩
          · have HN := hide h4
            clear e5
            have t4 : (ast == bst) = false := beq_eq_false_iff_ne.2 h4
            go_enter Tryz.func28, Tryz.ntmps28
            go_wp2
            go_ret
            exact ⟨ret_bool (by rw [← HD.out]; simp [HN.out]), (Bl.two w _ _ _ _).b⟩
        · have HN := hide h3
          clear e5
          have t3 : (ami == bmi) = false := beq_eq_false_iff_ne.2 h3
          go_enter Tryz.func28, Tryz.ntmps28
          go_wp2
          go_ret
          exact ⟨ret_bool (by rw [← HD.out]; simp [HN.out]), (Bl.two w _ _ _ _).b⟩
      · have t2 : (ata.toList == bta.toList) = false := by rw [e2]; exact decide_eq_false h2
        have HN := hide h2
        clear e2 e5 h2
        go_enter Tryz.func28, Tryz.ntmps28
        go_wp2
        go_ret
        exact ⟨ret_bool (by rw [← HD.out]; simp [HN.out]), (Bl.two w _ _ _ _).b⟩
    · have t1 : (ame.toList == bme.toList) = false := by rw [e1]; exact decide_eq_false h1
      have HN := hide h1
      clear e1 e2 e5 h1
      go_enter Tryz.func28, Tryz.ntmps28
      go_wp2
      go_ret
      exact ⟨ret_bool (by rw [← HD.out]; simp [HN.out]), (Bl.two w _ _ _ _).b⟩
  · have t0 : (ar == br) = false := beq_eq_false_iff_ne.2 h0
    have HN := hide h0
    clear e1 e2 e5
    cases ar <;> cases br <;> first | exact absurd rfl h0 | skip
    all_goals (clear h0 t0)
    all_goals (go_enter Tryz.func28, Tryz.ntmps28)
    all_goals (go_wp2)
    all_goals (go_ret)
    all_goals (exact ⟨ret_bool (by rw [← HD.out]; rfl), (Bl.two w _ _ _ _).b⟩)
set_option maxHeartbeats 4000000 in
theorem plainH_any (w : World) (X Y : Hi) (la lb : Value) (hA : Flds w la X.fs) (hB : Flds w lb Y.fs) (hl : X.fs.length ≤ 1099511627776) (hl2 : Y.fs.length ≤ 1099511627776) :
    Calls Tryz.prog 11 #[hiV X la, hiV Y lb] w fun e w' => e = .returned (.bool (hiEq X Y)) ∧ Below w.heap.size w w' := by
  have FA := hide hA
  have FB := hide hB
  obtain ⟨D, hD⟩ : ∃ D, hiEq X Y = D := ⟨_, rfl⟩
  rw [hD]
  unfold hiEq at hD
  have HC := hide (fun W (h1 : Flds W la X.fs) (h2 : Flds W lb Y.fs) => plainF_any W la lb X.fs Y.fs h1 h2 hl hl2)
  unfold hiV
  obtain ⟨aa, ac, rfl, _, _⟩ := hA
  obtain ⟨ba, bc, rfl, _, _⟩ := hB
  clear hl hl2
  obtain ⟨ar, ame, ata, ami, ast, are, A⟩ := X
  obtain ⟨br, bme, bta, bmi, bst, bre, B⟩ := Y
  dsimp only at *
  generalize decide (A = B) = d7 at hD HC
  generalize A.length = an at FA HC
  generalize B.length = bn at FB HC
  have HD := hide hD
  clear hD
  have e1 := bytes_eq ame bme
  have e2 := bytes_eq ata bta
  have e5 := bytes_eq are bre
  by_cases h0 : ar = br
  · subst h0
    by_cases h1 : ame = bme
    · subst h1
      clear e1
      by_cases h2 : ata = bta
      · subst h2
        clear e2
        by_cases h3 : ami = bmi
        · subst h3
          by_cases h4 : ast = bst
          · subst h4
            by_cases h5 : are = bre
            · subst h5
              clear e5
              go_enter Tryz.func11, Tryz.ntmps11
              go_wp2_with fail
              have T0 := hide (Bl.two w #[.bool ar, .string ame, .string ata, .int .i64 ami, .int .i64 ast, .string are, .slice aa an ac] 25 #[.bool ar, .string ame, .string ata, .int .i64 ami, .int .i64 ast, .string are, .slice ba bn bc] 25)
              generalize ((w.alloc (.cells #[.bool ar, .string ame, .string ata, .int .i64 ami, .int .i64 ast, .string are, .slice aa an ac] 25)).alloc (.cells #[.bool ar, .string ame, .string ata, .int .i64 ami, .int .i64 ast, .string are, .slice ba bn bc] 25)) = x at T0 ⊢
              refine (HC.out _ (FA.out.below T0.out.b) (FB.out.below T0.out.b)).mono ?_
              rintro e w1 ⟨rfl, bb⟩
              have T1 := hide (T0.out.below bb)
              clear bb
              go_wp2
              go_ret
              exact ⟨ret_bool (by rw [← HD.out]; simp), T1.out.b⟩
            · have t5 : (are.toList == bre.toList) = false := by rw [e5]; exact decide_eq_false h5
              have HN := hide h5
              clear e5 h5
              go_enter Tryz.func11, Tryz.ntmps11
              go_wp2
              go_ret
              exact ⟨ret_bool (by rw [← HD.out]; simp [HN.out]), (Bl.two w _ _ _ _).b⟩
          · have HN := hide h4
            clear e5
            have t4 : (ast == bst) = false := beq_eq_false_iff_ne.2 h4
            go_enter Tryz.func11, Tryz.ntmps11
            go_wp2
            go_ret
            exact ⟨ret_bool (by rw [← HD.out]; simp [HN.out]), (Bl.two w _ _ _ _).b⟩
        · have HN := hide h3
          clear e5
          have t3 : (ami == bmi) = false := beq_eq_false_iff_ne.2 h3
          go_enter Tryz.func11, Tryz.ntmps11
          go_wp2
          go_ret
          exact ⟨ret_bool (by rw [← HD.out]; simp [HN.out]), (Bl.two w _ _ _ _).b⟩
      · have t2 : (ata.toList == bta.toList) = false := by rw [e2]; exact decide_eq_false h2
        have HN := hide h2
        clear e2 e5 h2
        go_enter Tryz.func11, Tryz.ntmps11
        go_wp2
        go_ret
        exact ⟨ret_bool (by rw [← HD.out]; simp [HN.out]), (Bl.two w _ _ _ _).b⟩
    · have t1 : (ame.toList == bme.toList) = false := by rw [e1]; exact decide_eq_false h1
      have HN := hide h1
      clear e1 e2 e5 h1
      go_enter Tryz.func11, Tryz.ntmps11
      go_wp2
      go_ret
      exact ⟨ret_bool (by rw [← HD.out]; simp [HN.out]), (Bl.two w _ _ _ _).b⟩
  · have t0 : (ar == br) = false := beq_eq_false_iff_ne.2 h0
    have HN := hide h0
    clear e1 e2 e5
    cases ar <;> cases br <;> first | exact absurd rfl h0 | skip
    all_goals (clear h0 t0)
    all_goals (go_enter Tryz.func11, Tryz.ntmps11)
    all_goals (go_wp2)
    all_goals (go_ret)
    all_goals (exact ⟨ret_bool (by rw [← HD.out]; rfl), (Bl.two w _ _ _ _).b⟩)
end Go.Proofs.YtinmpmbicgokpaaGreatDoor
/- Print: the program's. -/
namespace Go.Proofs.YtinmpmbicgokpaaGreatDoor
open Go.ChangeShapes Go.WideShapes Go.ChangeAt Go.RowKit

def Hx.hi (x : Hx) : Hi := ⟨x.r, x.me, x.ta, x.mi, x.st, x.re, x.fs⟩
theorem hxV_hi (x : Hx) (l : Value) : hxV x l = hiV x.hi l := rfl
def printB (h : Hi) : Bool := decide ((pParse h.r (textL h)).2.2 = 0) && hiEq (pParse h.r (textL h)).1.hi h
def textS (h : Hi) : ByteArray := ⟨(textL h).toArray⟩
theorem textS_list (h : Hi) : (textS h).data.toList = textL h := by simp [textS]
theorem conv_bs (w : World) (s : ByteArray) : ∃ cap W, (convert 9 22 (.string s)).run Tryz.prog w = .ok (.slice (some ⟨w.heap.size, 0, none⟩) s.size cap) W ∧ Bs W W.heap.size (.slice (some ⟨w.heap.size, 0, none⟩) s.size cap) s.data.toList ∧ Below w.heap.size w W := by
  have hconv := run_bytes_of_string (P := Tryz.prog) w 9 22 5 s Tryz.underlying9 Tryz.underlying22 Tryz.underlying5
  have hge := grownCap_ge w s.size 0 5
  generalize grownCap w s.size 0 5 = cap at hconv hge
  refine ⟨cap, _, hconv, ⟨some ⟨w.heap.size, 0, none⟩, cap, by rw [size_len], by rw [size_len]; exact hge, fun j hj => ?_⟩, ((Below.refl _ w).drew).alloc (Nat.le_refl _) _⟩
  have hb := hp_new w.drew (.cells (bytesRow s cap) 5 ((bytesRow s cap).size, (bytesRow s cap).size + 1))
  refine ⟨w.heap.size, 0, rfl, lt_heap hb, lt_heap hb, ?_⟩
  have hj2 : j < s.data.size := by simpa using hj
  have hc := cell_at (w := w.drew.alloc (.cells (bytesRow s cap) 5 ((bytesRow s cap).size, (bytesRow s cap).size + 1))) (b := w.heap.size) hb (0 + j)
  rw [hc, Nat.zero_add, bytesRow_at s cap j hj2]
  simp
theorem txt_len : ∀ (A : List (ByteArray × ByteArray)) (acc : List UInt8), acc.length ≤ 2200000 → (∀ f ∈ A, f.1.size ≤ 1048576 ∧ f.2.size ≤ 1048576) → (txt acc A).length ≤ 2200000
  | [], acc, h, _ => h
  | f :: r, acc, h, hf => by
    rw [txt]
    split
    · exact h
    · rename_i hh
      refine txt_len r _ ?_ (fun g hg => hf g (List.mem_cons_of_mem _ hg))
      have := hf f (by simp)
      unfold fldL
      simp only [List.length_append, size_len, List.length_cons, List.length_nil]
      omega
theorem textL_len (h : Hi) (hb : Hb h) : (textL h).length ≤ 2200002 := by
  have h1 := firstS_size h hb
  have h2 := txt_len h.fs ((firstS h).data.toList ++ [13, 10]) (by simp only [List.length_append, size_len, List.length_cons, List.length_nil]; omega) hb.fs
  unfold textL
  simp only [List.length_append, List.length_cons, List.length_nil] at h2 ⊢
  omega
set_option maxHeartbeats 4000000 in
theorem print_any (h : Hi) (l : Value) (w : World) (hF : Flds w l h.fs) (hb : Hb h) (ht : PT w) (hm : MX w) (he : ET w) :
    Calls Tryz.prog 18 #[hiV h l] w fun e w' => e = .returned (.tuple #[.string (if printB h then textS h else ⟨#[]⟩), .int .i64 (if printB h then 0 else 4)]) ∧ Below w.heap.size w w' := by
  have HX := hide (fun W (h1 : Flds W l h.fs) (h2 : PT W) => text_any h l W h1 hb h2)
  have hln := textL_len h hb
  have HFL := hide (Nat.le_trans hb.fl (by decide : 1048576 ≤ 1099511627776))
  have F0 := hide hF
  have HT := hide ht
  have HM := hide hm
  have HE := hide he
  have HTL := hide (textS_list h)
  have HSM := hide (fun W X la (h1 : Flds W la X.fs) (h2 : Flds W l h.fs) (h3 : X.fs.length ≤ 1099511627776) => same_any W X h la l h1 h2 h3 HFL.out)
  have HPZ : Hid ((pParse h.r (textL h)).1.fs.length ≤ 1099511627776) := hide (by
    have := ((fit_new h.r 65536 (Nat.le_refl _)).feed (textL h)).fs
    unfold pParse
    split
    · simp [hx0]
    · split
      · simp [hx0]
      · dsimp only [Pz.hx]; omega)
  obtain ⟨pb, hpb⟩ : ∃ b, printB h = b := ⟨_, rfl⟩
  rw [hpb]
  unfold printB at hpb
  have HPB := hide hpb
  change Hid (∀ W, Flds W l h.fs → PT W → Calls Tryz.prog 27 #[hiV h l] W fun e w' => e = .returned (.string (textS h)) ∧ Below W.heap.size W w') at HX
  generalize textL h = TL at HPB HTL hln HPZ
  generalize textS h = TS at HX HTL ⊢
  have HPA := hide (fun W v (h1 : Bs W W.heap.size v TL) h3 h4 => parse_any h.r v TL W h1 (by omega) h3 h4)
  generalize pParse h.r TL = R at HPB HPA HPZ
  obtain ⟨H, rn, er⟩ := R
  obtain ⟨a0, c0, rfl, _, _⟩ := hF
  clear hb ht hm he hpb
  unfold hiV at HX HSM ⊢
  have hHH : ∃ h', h' = h := ⟨h, rfl⟩
  obtain ⟨h', hh⟩ := hHH
  rw [← hh] at HPB HSM
  have HH := hide hh
  clear hh
  obtain ⟨r, me, ta, mi, st, re, A⟩ := h
  dsimp only at *
  have hre : ∃ r', r' = r := ⟨r, rfl⟩
  unfold hxV at HPA
  go_enter Tryz.func18, Tryz.ntmps18
  go_wp2_with fail
  have T0 := hide (Bl.one w #[.bool r, .string me, .string ta, .int .i64 mi, .int .i64 st, .string re, .slice a0 A.length c0] 25)
  generalize (w.alloc (.cells #[.bool r, .string me, .string ta, .int .i64 mi, .int .i64 st, .string re, .slice a0 A.length c0] 25)) = x at T0 ⊢
  refine (HX.out _ (F0.out.below T0.out.b) (HT.out.below T0.out.b)).mono ?_
  rintro e w1 ⟨rfl, bb⟩
  have T1 := hide (T0.out.below bb)
  clear bb T0
  obtain ⟨cap, w2, hconv, hbs, bb⟩ := conv_bs w1 TS
  rw [HTL.out] at hbs
  have HBS := hide hbs
  have T2 := hide (T1.out.below bb)
  clear hbs bb
  have r0 : w1.cell? ⟨w.heap.size, 0, none⟩ = some (.bool r) := T1.out.cell 0 rfl 0
  go_wp2_with fail
  refine (HPA.out _ _ HBS.out (HM.out.below T2.out.b) (HE.out.below T2.out.b)).mono ?_
  rintro e w3 ⟨u, rfl, hu, bb⟩
  have T3 := hide (T2.out.below bb)
  have HU := hide (Flds.of_row hu)
  obtain ⟨ua, ul, uc, rfl⟩ : ∃ a n c, u = .slice a n c := by
    obtain ⟨a, c, h, _⟩ := hu.shape
    exact ⟨a, _, c, h⟩
  clear hu bb hconv r0 T1 T2 HBS HPA
  have HHI := hide (show H.hi = ⟨H.r, H.me, H.ta, H.mi, H.st, H.re, H.fs⟩ from rfl)
  obtain ⟨xr, xme, xta, xmi, xst, xre, XA⟩ := H
  dsimp only at *
  go_upto_region 3 with fail
  have U3 := hide (Bl.one w3 #[.bool xr, .string xme, .string xta, .int .i64 (xmi : Int), .int .i64 (xst : Int), .string xre, .slice ua ul uc] 25)
  have T4 := hide (T3.out.below U3.out.b)
  have HU4 := hide (HU.out.below U3.out.b)
  generalize (w3.alloc (.cells #[.bool xr, .string xme, .string xta, .int .i64 (xmi : Int), .int .i64 (xst : Int), .string xre, .slice ua ul uc] 25)) = y at T4 U3 HU4 ⊢
  clear T3 HU
  by_cases h0 : er = 0
  · subst h0
    obtain ⟨r0, r1, r2, r3, r4, r5, r6⟩ := T4.out.hd 0 w.heap.size rfl rfl
    obtain ⟨s0, s1, s2, s3, s4, s5, s6⟩ := U3.out.hd 0 w3.heap.size rfl rfl
    have HS2 := hide (HSM.out y ⟨xr, xme, xta, xmi, xst, xre, XA⟩ (.slice ua ul uc) HU4.out (by have := F0.out.below T4.out.b; rw [HH.out]; exact this) HPZ.out)
    rw [HH.out] at HS2
    have HPB2 : Hid (hiEq ⟨xr, xme, xta, xmi, xst, xre, XA⟩ ⟨r, me, ta, mi, st, re, A⟩ = pb) := hide (by rw [← HPB.out, HHI.out, HH.out]; simp)
    rw [HPB2.out] at HS2
    clear HPB HSM
    go_wp2_with fail
    refine HS2.out.mono ?_
    rintro e w5 ⟨rfl, bb⟩
    have T5 := hide (T4.out.below bb)
    clear bb
    cases pb with
    | true =>
      go_wp2
      go_ret2
      exact ⟨rfl, T5.out.b⟩
    | false =>
      go_wp2
      go_ret2
      exact ⟨rfl, T5.out.b⟩
  · have t0 : ((er : Int) != 0) = true := bne_iff_ne.2 (by omega)
    have hp : pb = false := by rw [← HPB.out, decide_eq_false h0]; rfl
    subst hp
    clear h0
    go_wp2
    go_ret2
    exact ⟨rfl, T4.out.b⟩
end Go.Proofs.YtinmpmbicgokpaaGreatDoor
/- speaks: what a program that refuses everything does not meet. -/
namespace Go.Proofs.YtinmpmbicgokpaaGreatDoor
open Go.ChangeShapes Go.WideShapes Go.ChangeAt Go.RowKit

def sp1 : List UInt8 := [71, 69, 84, 32, 47, 32, 72, 84, 84, 80, 47, 49, 46, 49, 13, 10, 72, 111, 115, 116, 58, 32, 97, 13, 10, 13, 10, 114, 101, 115, 116]
def sp2 : List UInt8 := [71, 69, 84, 32, 47, 32, 72, 84, 84, 80, 47, 49, 46, 49, 13, 10, 97, 32, 58, 32, 98, 13, 10]
def sp3 : List UInt8 := [71, 69, 84, 32, 47, 32, 72, 84, 84, 80, 47, 49, 46, 49, 13, 10, 72, 111, 115, 116, 58, 32, 97, 13, 10, 13, 10]
def hs1 : Hx := ⟨true, ⟨#[71, 69, 84]⟩, ⟨#[47]⟩, 1, 0, ⟨#[]⟩, [(⟨#[72, 111, 115, 116]⟩, ⟨#[97]⟩)]⟩
theorem bs_lit (w : World) (l : List UInt8) (c : Array Value) (fr : Nat × Nat) (hc : c.toList = l.map fun x => Value.int .u8 (x.toNat : Int)) : Bs (w.alloc (.cells c 5 fr)) (w.alloc (.cells c 5 fr)).heap.size (.slice (some ⟨w.heap.size, 0, none⟩) l.length l.length) l := by
  refine ⟨some ⟨w.heap.size, 0, none⟩, l.length, rfl, Nat.le_refl _, fun j hj => ?_⟩
  have hb := hp_new w (.cells c 5 fr)
  refine ⟨w.heap.size, 0, rfl, lt_heap hb, lt_heap hb, ?_⟩
  rw [cell_at hb, ← Array.getElem?_toList, hc, Nat.zero_add, List.getElem?_map, List.getElem?_eq_getElem hj]
  rfl
theorem parse1 : pParse true sp1 = (hs1, 27, 0) := by kernel_rfl
theorem parse2 : pParse true sp2 = (hx0, 0, 83) := by kernel_rfl
theorem itoa1 : itoaS 1 = ⟨#[49]⟩ := by
  unfold itoaS
  rw [show (1 : Int) = ((1 : Nat) : Int) from rfl, Lib.itoa_nonneg, Lib.decDigits]
  rfl
theorem text1 : textL hs1.hi = sp3 := by
  have h1 : firstS hs1.hi = ⟨#[71, 69, 84, 32, 47, 32, 72, 84, 84, 80, 47, 49, 46, 49]⟩ := by
    unfold firstS verS
    rw [show hs1.hi.mi = 1 from rfl, itoa1]
    rfl
  unfold textL
  rw [h1]
  rfl
theorem parse3 : pParse true sp3 = (hs1, 27, 0) := by kernel_rfl
theorem print1 : printB hs1.hi = true := by
  unfold printB
  rw [text1, show hs1.hi.r = true from rfl, parse3]
  exact Bool.and_eq_true_iff.2 ⟨rfl, hiEq_iff.2 rfl⟩
theorem hb1 : Hb hs1.hi := ⟨by decide, by decide, by decide, by decide, by decide, by decide, by decide, by decide, by decide⟩
set_option maxHeartbeats 4000000 in
set_option maxRecDepth 100000 in
theorem speaks_any (w : World) (ht : PT w) (hm : MX w) (he : ET w) : Calls Tryz.prog 12 #[] w fun e w' => e = .returned (.bool true) ∧ Below w.heap.size w w' := by
  have HT := hide ht
  have HM := hide hm
  have HE := hide he
  clear ht hm he
  have hcv : (convert 22 22 (.slice (some ⟨w.heap.size, 0, none⟩) 31 31)).run Tryz.prog (w.alloc (.cells #[.int .u8 71, .int .u8 69, .int .u8 84, .int .u8 32, .int .u8 47, .int .u8 32, .int .u8 72, .int .u8 84, .int .u8 84, .int .u8 80, .int .u8 47, .int .u8 49, .int .u8 46, .int .u8 49, .int .u8 13, .int .u8 10, .int .u8 72, .int .u8 111, .int .u8 115, .int .u8 116, .int .u8 58, .int .u8 32, .int .u8 97, .int .u8 13, .int .u8 10, .int .u8 13, .int .u8 10, .int .u8 114, .int .u8 101, .int .u8 115, .int .u8 116] 5)) = .ok (.slice (some ⟨w.heap.size, 0, none⟩) 31 31) (w.alloc (.cells #[.int .u8 71, .int .u8 69, .int .u8 84, .int .u8 32, .int .u8 47, .int .u8 32, .int .u8 72, .int .u8 84, .int .u8 84, .int .u8 80, .int .u8 47, .int .u8 49, .int .u8 46, .int .u8 49, .int .u8 13, .int .u8 10, .int .u8 72, .int .u8 111, .int .u8 115, .int .u8 116, .int .u8 58, .int .u8 32, .int .u8 97, .int .u8 13, .int .u8 10, .int .u8 13, .int .u8 10, .int .u8 114, .int .u8 101, .int .u8 115, .int .u8 116] 5 (31, 32))) := Lib.run_convert_bytes_const w 22 5 #[.int .u8 71, .int .u8 69, .int .u8 84, .int .u8 32, .int .u8 47, .int .u8 32, .int .u8 72, .int .u8 84, .int .u8 84, .int .u8 80, .int .u8 47, .int .u8 49, .int .u8 46, .int .u8 49, .int .u8 13, .int .u8 10, .int .u8 72, .int .u8 111, .int .u8 115, .int .u8 116, .int .u8 58, .int .u8 32, .int .u8 97, .int .u8 13, .int .u8 10, .int .u8 13, .int .u8 10, .int .u8 114, .int .u8 101, .int .u8 115, .int .u8 116] 31 31 Tryz.underlying22 Tryz.underlying5
  go_enter Tryz.func12, Tryz.ntmps12
  go_wp2_with fail
  have B0 := hide ((Below.refl _ w).alloc (Nat.le_refl _) (.cells #[.int .u8 71, .int .u8 69, .int .u8 84, .int .u8 32, .int .u8 47, .int .u8 32, .int .u8 72, .int .u8 84, .int .u8 84, .int .u8 80, .int .u8 47, .int .u8 49, .int .u8 46, .int .u8 49, .int .u8 13, .int .u8 10, .int .u8 72, .int .u8 111, .int .u8 115, .int .u8 116, .int .u8 58, .int .u8 32, .int .u8 97, .int .u8 13, .int .u8 10, .int .u8 13, .int .u8 10, .int .u8 114, .int .u8 101, .int .u8 115, .int .u8 116] 5 (31, 32)))
  have S0 := hide (bs_lit w sp1 #[.int .u8 71, .int .u8 69, .int .u8 84, .int .u8 32, .int .u8 47, .int .u8 32, .int .u8 72, .int .u8 84, .int .u8 84, .int .u8 80, .int .u8 47, .int .u8 49, .int .u8 46, .int .u8 49, .int .u8 13, .int .u8 10, .int .u8 72, .int .u8 111, .int .u8 115, .int .u8 116, .int .u8 58, .int .u8 32, .int .u8 97, .int .u8 13, .int .u8 10, .int .u8 13, .int .u8 10, .int .u8 114, .int .u8 101, .int .u8 115, .int .u8 116] (31, 32) rfl)
  clear hcv
  generalize (w.alloc (.cells #[.int .u8 71, .int .u8 69, .int .u8 84, .int .u8 32, .int .u8 47, .int .u8 32, .int .u8 72, .int .u8 84, .int .u8 84, .int .u8 80, .int .u8 47, .int .u8 49, .int .u8 46, .int .u8 49, .int .u8 13, .int .u8 10, .int .u8 72, .int .u8 111, .int .u8 115, .int .u8 116, .int .u8 58, .int .u8 32, .int .u8 97, .int .u8 13, .int .u8 10, .int .u8 13, .int .u8 10, .int .u8 114, .int .u8 101, .int .u8 115, .int .u8 116] 5 (31, 32))) = x at B0 S0 ⊢
  have P0 := hide (parse_any true _ sp1 x S0.out (by decide) (HM.out.below B0.out) (HE.out.below B0.out))
  rw [parse1] at P0
  refine P0.out.mono ?_
  rintro e w1 ⟨u, rfl, hu, bb⟩
  have B1 := hide (B0.out.trans (bb.mono B0.out.size))
  have F1 := hide (Flds.of_row hu)
  obtain ⟨ua, uc, rfl⟩ : ∃ a c, u = .slice a 1 c := by
    obtain ⟨a, c, h, _⟩ := hu.shape
    exact ⟨a, c, h⟩
  clear hu bb B0 S0 P0
  unfold hxV hs1
  dsimp only
  go_upto_region 2 with fail
  have T1 := hide (Bl.one w1 #[.bool true, .string ⟨#[71, 69, 84]⟩, .string ⟨#[47]⟩, .int .i64 1, .int .i64 0, .string ⟨#[]⟩, .slice ua 1 uc] 25)
  change Code.wp _ _ _ _ (w1.alloc (.cells #[.bool true, .string ⟨#[71, 69, 84]⟩, .string ⟨#[47]⟩, .int .i64 1, .int .i64 0, .string ⟨#[]⟩, .slice ua 1 uc] 25))
  have hz1 : (w1.alloc (.cells #[.bool true, .string ⟨#[71, 69, 84]⟩, .string ⟨#[47]⟩, .int .i64 1, .int .i64 0, .string ⟨#[]⟩, .slice ua 1 uc] 25)).heap.size = w1.heap.size + 1 := by simp
  generalize (w1.alloc (.cells #[.bool true, .string ⟨#[71, 69, 84]⟩, .string ⟨#[47]⟩, .int .i64 1, .int .i64 0, .string ⟨#[]⟩, .slice ua 1 uc] 25)) = y0 at T1 hz1 ⊢
  have hcv : (convert 22 22 (.slice (some ⟨y0.heap.size, 0, none⟩) 23 23)).run Tryz.prog (y0.alloc (.cells #[.int .u8 71, .int .u8 69, .int .u8 84, .int .u8 32, .int .u8 47, .int .u8 32, .int .u8 72, .int .u8 84, .int .u8 84, .int .u8 80, .int .u8 47, .int .u8 49, .int .u8 46, .int .u8 49, .int .u8 13, .int .u8 10, .int .u8 97, .int .u8 32, .int .u8 58, .int .u8 32, .int .u8 98, .int .u8 13, .int .u8 10] 5)) = .ok (.slice (some ⟨y0.heap.size, 0, none⟩) 23 23) (y0.alloc (.cells #[.int .u8 71, .int .u8 69, .int .u8 84, .int .u8 32, .int .u8 47, .int .u8 32, .int .u8 72, .int .u8 84, .int .u8 84, .int .u8 80, .int .u8 47, .int .u8 49, .int .u8 46, .int .u8 49, .int .u8 13, .int .u8 10, .int .u8 97, .int .u8 32, .int .u8 58, .int .u8 32, .int .u8 98, .int .u8 13, .int .u8 10] 5 (23, 24))) := Lib.run_convert_bytes_const y0 22 5 #[.int .u8 71, .int .u8 69, .int .u8 84, .int .u8 32, .int .u8 47, .int .u8 32, .int .u8 72, .int .u8 84, .int .u8 84, .int .u8 80, .int .u8 47, .int .u8 49, .int .u8 46, .int .u8 49, .int .u8 13, .int .u8 10, .int .u8 97, .int .u8 32, .int .u8 58, .int .u8 32, .int .u8 98, .int .u8 13, .int .u8 10] 23 23 Tryz.underlying22 Tryz.underlying5
  clear hz1
  go_wp2_with fail
  have S1 := hide (bs_lit y0 sp2 #[.int .u8 71, .int .u8 69, .int .u8 84, .int .u8 32, .int .u8 47, .int .u8 32, .int .u8 72, .int .u8 84, .int .u8 84, .int .u8 80, .int .u8 47, .int .u8 49, .int .u8 46, .int .u8 49, .int .u8 13, .int .u8 10, .int .u8 97, .int .u8 32, .int .u8 58, .int .u8 32, .int .u8 98, .int .u8 13, .int .u8 10] (23, 24) rfl)
  have T1' := hide (T1.out.below ((Below.refl _ y0).alloc (Nat.le_refl _) (.cells #[.int .u8 71, .int .u8 69, .int .u8 84, .int .u8 32, .int .u8 47, .int .u8 32, .int .u8 72, .int .u8 84, .int .u8 84, .int .u8 80, .int .u8 47, .int .u8 49, .int .u8 46, .int .u8 49, .int .u8 13, .int .u8 10, .int .u8 97, .int .u8 32, .int .u8 58, .int .u8 32, .int .u8 98, .int .u8 13, .int .u8 10] 5 (23, 24))))
  clear hcv T1
  have T1 := T1'
  clear T1'
  generalize (y0.alloc (.cells #[.int .u8 71, .int .u8 69, .int .u8 84, .int .u8 32, .int .u8 47, .int .u8 32, .int .u8 72, .int .u8 84, .int .u8 84, .int .u8 80, .int .u8 47, .int .u8 49, .int .u8 46, .int .u8 49, .int .u8 13, .int .u8 10, .int .u8 97, .int .u8 32, .int .u8 58, .int .u8 32, .int .u8 98, .int .u8 13, .int .u8 10] 5 (23, 24))) = y at T1 S1 ⊢
  have B2 := hide (B1.out.trans (T1.out.b.mono B1.out.size))
  have P1 := hide (parse_any true _ sp2 y S1.out (by decide) (HM.out.below B2.out) (HE.out.below B2.out))
  rw [parse2] at P1
  refine P1.out.mono ?_
  rintro e w2 ⟨u, rfl, hu, bb⟩
  obtain ⟨va, vc, rfl⟩ : ∃ a c, u = .slice a 0 c := by
    obtain ⟨a, c, h, _⟩ := hu.shape
    exact ⟨a, c, h⟩
  have T2 := hide (T1.out.below bb)
  clear hu bb S1 P1 T1 B2
  unfold hxV hx0
  dsimp only
  obtain ⟨r0, r1, r2, r3, r4, r5, r6⟩ := T2.out.hd 0 w1.heap.size rfl rfl
  go_upto_region 3 with fail
  have D2 := hide ((Below.refl _ w2).alloc (Nat.le_refl _) (.cells #[.bool false, .string ⟨#[]⟩, .string ⟨#[]⟩, .int .i64 0, .int .i64 0, .string ⟨#[]⟩, .slice va 0 vc] 25))
  have T3 := hide (T2.out.below D2.out)
  change Code.wp _ _ _ _ (w2.alloc (.cells #[.bool false, .string ⟨#[]⟩, .string ⟨#[]⟩, .int .i64 0, .int .i64 0, .string ⟨#[]⟩, .slice va 0 vc] 25))
  generalize (w2.alloc (.cells #[.bool false, .string ⟨#[]⟩, .string ⟨#[]⟩, .int .i64 0, .int .i64 0, .string ⟨#[]⟩, .slice va 0 vc] 25)) = z at T3 D2 ⊢
  clear T2 D2 r0 r1 r2 r3 r4 r5 r6
  obtain ⟨r0, r1, r2, r3, r4, r5, r6⟩ := T3.out.hd 0 w1.heap.size rfl rfl
  have B3 := hide (B1.out.trans (T3.out.b.mono B1.out.size))
  have P2 := hide (print_any hs1.hi (.slice ua 1 uc) z (F1.out.below T3.out.b) hb1 (HT.out.below B3.out) (HM.out.below B3.out) (HE.out.below B3.out))
  rw [print1, if_pos rfl, if_pos rfl] at P2
  rw [show textS hs1.hi = ⟨#[71, 69, 84, 32, 47, 32, 72, 84, 84, 80, 47, 49, 46, 49, 13, 10, 72, 111, 115, 116, 58, 32, 97, 13, 10, 13, 10]⟩ by unfold textS; rw [text1]; rfl] at P2
  go_wp2_with fail
  refine P2.out.mono ?_
  rintro e w3 ⟨rfl, bb⟩
  have T4 := hide (T3.out.below bb)
  clear bb P2 r0 r1 r2 r3 r4 r5 r6
  have r1 : w3.cell? ⟨w1.heap.size, 1, none⟩ = some (.string ⟨#[71, 69, 84]⟩) := T4.out.cell 0 rfl 1
  have r6 : w3.cell? ⟨w1.heap.size, 6, none⟩ = some (.slice ua 1 uc) := T4.out.cell 0 rfl 6
  go_wp2
  go_ret
  exact ⟨rfl, B1.out.trans (T4.out.b.mono B1.out.size)⟩
end Go.Proofs.YtinmpmbicgokpaaGreatDoor
