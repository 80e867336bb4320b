/- The timers' own blocks, and what the smallest calls do to them. -/
import Derived.Test.YtbmhhkpehilioaaTimers
namespace Go.Proofs.Ytbmhhkpehilioaa
open Go.ChangeShapes Go.WideShapes Go.ChangeAt Go.RowKit

def Mine (b : Nat) (vs vd vf : Value) (k : Nat) : Prop := k = b ∨ vs.ownBlock = some k ∨ vd.ownBlock = some k ∨ vf.ownBlock = some k
structure Obj (W : World) (base b : Nat) (most turns : Int) (S : List Slot) (D F : List Nat) (vs vd vf : Value) : Prop where
  hd : Hd W b most turns vs vd vf
  bb : base ≤ b
  sl : SRow W base vs S
  du : Own W base vd D
  fr : Own W base vf F
  s0 : vs.ownBlock ≠ some b
  d0 : vd.ownBlock ≠ some b
  f0 : vf.ownBlock ≠ some b
  sd : ∀ g, vs.ownBlock = some g → vd.ownBlock ≠ some g
  sf : ∀ g, vs.ownBlock = some g → vf.ownBlock ≠ some g
  df : ∀ g, vd.ownBlock = some g → vf.ownBlock ≠ some g

section
variable {W W' : World} {base b : Nat} {most turns : Int} {S : List Slot} {D F : List Nat} {vs vd vf : Value}
theorem Obj.lt (h : Obj W base b most turns S D F vs vd vf) : b < W.heap.size := hp_lt h.hd
theorem Obj.base_le (h : Obj W base b most turns S D F vs vd vf) : base ≤ W.heap.size := by have := h.bb; have := h.lt; omega
theorem Obj.mine_lt (h : Obj W base b most turns S D F vs vd vf) {k : Nat} (hk : Mine b vs vd vf k) : base ≤ k ∧ k < W.heap.size := by
  rcases hk with rfl | hk | hk | hk
  · exact ⟨h.bb, h.lt⟩
  · exact h.sl.block hk
  · exact h.du.block hk
  · exact h.fr.block hk
theorem Obj.frame (h : Obj W base b most turns S D F vs vd vf) {T : Nat → Prop} (hF : Fr T W W') (hT : ∀ k, Mine b vs vd vf k → ¬ T k) : Obj W' base b most turns S D F vs vd vf :=
  ⟨hF.hd (hT b (.inl rfl)) h.hd, h.bb, h.sl.frame (fun g hg => hF.block g (h.sl.block hg).2 (hT g (.inr (.inl hg)))), h.du.frame (fun g hg => hF.block g (h.du.block hg).2 (hT g (.inr (.inr (.inl hg))))),
    h.fr.frame (fun g hg => hF.block g (h.fr.block hg).2 (hT g (.inr (.inr (.inr hg))))), h.s0, h.d0, h.f0, h.sd, h.sf, h.df⟩
theorem Obj.cl (h : Obj W base b most turns S D F vs vd vf) (hF : Cl W W') : Obj W' base b most turns S D F vs vd vf := h.frame hF.out (fun _ _ x => x)
theorem Obj.c0 (h : Obj W base b most turns S D F vs vd vf) : W.cell? ⟨b, 0, none⟩ = some (.int .i64 most) := by rw [cell_of h.hd]; rfl
theorem Obj.c1 (h : Obj W base b most turns S D F vs vd vf) : W.cell? ⟨b, 1, none⟩ = some (.int .i64 turns) := by rw [cell_of h.hd]; rfl
theorem Obj.c2 (h : Obj W base b most turns S D F vs vd vf) : W.cell? ⟨b, 2, none⟩ = some vs := by rw [cell_of h.hd]; rfl
theorem Obj.c3 (h : Obj W base b most turns S D F vs vd vf) : W.cell? ⟨b, 3, none⟩ = some vd := by rw [cell_of h.hd]; rfl
theorem Obj.c4 (h : Obj W base b most turns S D F vs vd vf) : W.cell? ⟨b, 4, none⟩ = some vf := by rw [cell_of h.hd]; rfl
theorem Obj.fz (h : Obj W base b most turns S D F vs vd vf) (i : Nat) : W.frozen? ⟨b, i, none⟩ = false := frozen_of h.hd i
end

/-- What always holds of the slots and the two heaps. -/
structure Inv (most : Nat) (turns : Int) (S : List Slot) (D F : List Nat) : Prop where
  m1 : 1 ≤ most
  m2 : most ≤ 4096
  len : S.length ≤ most
  perm : (D ++ F).Perm (List.range S.length)
  hD : Hp (rk S) D
  hF : Hp (fun x => (x : Int)) F
  t0 : 0 ≤ turns
  sl : ∀ i, i < S.length → 0 ≤ (sg S i).turn ∧ (sg S i).turn < turns ∧ 1 ≤ (sg S i).gen ∧ (sg S i).gen ≤ turns ∧ 0 ≤ (sg S i).when ∧ (sg S i).when ≤ 4611686018427387904
  dis : ∀ i j, i < S.length → j < S.length → i ≠ j → (sg S i).turn ≠ (sg S j).turn
section
variable {most : Nat} {turns : Int} {S : List Slot} {D F : List Nat}
theorem Inv.lens (h : Inv most turns S D F) : D.length + F.length = S.length := by
  have := h.perm.length_eq
  simpa using this
theorem Inv.memD (h : Inv most turns S D F) {i : Nat} (hi : i ∈ D) : i < S.length := by
  have := h.perm.subset (List.mem_append.2 (.inl hi))
  simpa using this
theorem Inv.memF (h : Inv most turns S D F) {i : Nat} (hi : i ∈ F) : i < S.length := by
  have := h.perm.subset (List.mem_append.2 (.inr hi))
  simpa using this
theorem Inv.nodup (h : Inv most turns S D F) : (D ++ F).Nodup := h.perm.nodup_iff.2 List.nodup_range
theorem Inv.cover (h : Inv most turns S D F) {i : Nat} (hi : i < S.length) : i ∈ D ∨ i ∈ F := List.mem_append.1 (h.perm.symm.subset (by simpa using hi))
theorem Inv.apart (h : Inv most turns S D F) {i : Nat} (hD : i ∈ D) (hF : i ∈ F) : False := by
  have := h.nodup
  rw [List.nodup_append] at this
  exact this.2.2 i hD i hF rfl
end

section
variable {W W' : World} {base b : Nat} {most turns : Int} {S : List Slot} {D F : List Nat} {vs vd vf : Value}
theorem told_ahead (h : Obj W base b most turns S D F vs vd vf) (hS : S.length ≤ 4096) (ht : ∀ i, i < S.length → 0 ≤ (sg S i).turn ∧ (sg S i).turn < 1152921504606846976) (l : List Nat) (hl : ∀ x, x ∈ l → x < S.length) :
    Cmp W (fun k => some k = vd.ownBlock) (rk S) l (.func (.func 37) #[.pointer (some ⟨b, 0, none⟩)] #[]) := by
  refine .ahead _ (fun V hV x y hx hy => ?_)
  exact ahead_any (hV.hd (fun e => h.d0 e.symm) h.hd) (h.sl.frame (fun g hg => hV.block g (h.sl.block hg).2 (fun e => h.sd g hg e.symm))) hS ht x y (hl x hx) (hl y hy)
theorem told_lower (W : World) (T : Nat → Prop) (l : List Nat) : Cmp W T (fun x => (x : Int)) l (.func (.func 69) #[] #[]) :=
  .lower (fun V _ x y _ _ => lower_any V x y)

theorem len_any (h : Obj W base b most turns S D F vs vd vf) : Calls Try.prog 23 #[.pointer (some ⟨b, 0, none⟩)] W fun e w' => e = .returned (.int .i64 (D.length : Int)) ∧ W = w' := by
  have c3 := h.c3
  obtain ⟨a, c, rfl, _⟩ := h.du.shape
  clear h
  go_enter Try.func23, Try.ntmps23
  go_wp2
  go_ret
  exact ⟨rfl, rfl⟩
theorem len_nil (w : World) : Calls Try.prog 23 #[.pointer none] w fun e w' => e = .returned (.int .i64 0) ∧ w = w' := by
  go_enter Try.func23, Try.ntmps23
  go_wp2
  go_ret
  exact ⟨rfl, rfl⟩

set_option maxHeartbeats 1000000 in
theorem first_any (h : Obj W base b most turns S D F vs vd vf) (hS : S.length ≤ 4096) (h0 : 0 < D.length) (hm : ∀ x, x ∈ D → x < S.length) :
    Calls Try.prog 41 #[.pointer (some ⟨b, 0, none⟩)] W fun e w' => e = .returned (.agg #[.int .i64 (sg S (gt D 0)).when, .int .i64 (sg S (gt D 0)).key, .int .i64 (sg S (gt D 0)).turn, .int .i64 (sg S (gt D 0)).gen]) ∧ Cl W w' := by
  have hx := hm _ (gt_mem D 0 h0)
  have c2 := h.c2
  have c3 := h.c3
  have hbl : b < W.heap.size := h.lt
  obtain ⟨g, cap, rest, rfl, -, h1, h2, h3, h4⟩ := h.sl.row (by omega)
  obtain ⟨q, cap2, rest2, rfl, -, k1, k2, k3, k4⟩ := h.du.row h0
  have hgl : g < W.heap.size := hp_lt h4
  have hql : q < W.heap.size := hp_lt k4
  have d0 : W.cell? ⟨q, 0, none⟩ = some (.int .i64 (gt D 0 : Int)) := by rw [cell_of k4, is_at D rest2 0 h0]
  generalize gt D 0 = x at hx d0 ⊢
  have a0 : W.cell? ⟨g, x * 4, none⟩ = some (.int .i64 (sg S x).when) := row_cell h4 x hx 0 (by omega)
  have a1 : W.cell? ⟨g, x * 4 + 1, none⟩ = some (.int .i64 (sg S x).key) := row_cell h4 x hx 1 (by omega)
  have a2 : W.cell? ⟨g, x * 4 + 2, none⟩ = some (.int .i64 (sg S x).turn) := row_cell h4 x hx 2 (by omega)
  have a3 : W.cell? ⟨g, x * 4 + 3, none⟩ = some (.int .i64 (sg S x).gen) := row_cell h4 x hx 3 (by omega)
  generalize sg S x = sx at a0 a1 a2 a3 ⊢
  obtain ⟨wx, kx, tx, gx⟩ := sx
  dsimp only at a0 a1 a2 a3 ⊢
  have hd0 : (0 : Int) < D.length := by omega
  clear h h3 h4 k3 k4 hm
  go_enter Try.func41, Try.ntmps41
  go_wp2_with fail
  go_region
  all_goals
    go_wp2
    refine bodyPost_ret (v := .agg #[.int .i64 wx, .int .i64 kx, .int .i64 tx, .int .i64 gx]) (by simp [results, Try.f41, go_sem]) rfl ?_
    exact ⟨rfl, (Fr.alloc _ _ _).trans (Fr.drewN (fun _ => False) _ 1) (fun _ _ x => x)⟩
end
end Go.Proofs.Ytbmhhkpehilioaa
