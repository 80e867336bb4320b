/- A budget, the program's: its calls that look and that forget. -/
import Derived.Test.YtcapicaieacgnaaMRow
import Derived.Test.YtcapicaieacgnaaPStp
import Derived.Deep.AppendSrc
import Derived.Deep.Cut
namespace Go.Proofs.Ytcapicaieacgnaa
open Go.ChangeShapes Go.WideShapes Go.ChangeAt Go.RowKit

theorem info3 : ∃ i, Try.prog.info? 3 = some i ∧ i.zero = some (.int .i64 0) ∧ i.size = 1 ∧ i.bytes = 8 := by
  have h : (Try.prog.info? 3).map (fun i => (i.zero, i.size, i.bytes)) = some (some (.int .i64 0), 1, 8) := by kernel_rfl
  obtain ⟨i, hi, hz⟩ := Option.map_eq_some_iff.1 h
  simp only [Prod.mk.injEq] at hz
  exact ⟨i, hi, hz.1, hz.2.1, hz.2.2⟩
theorem one_cell (w : World) (x : Value) (j : Nat) (u : Value) (h : [x][j]? = some u) : (w.alloc (.cells #[x] 3)).cell? ((⟨w.heap.size, 0, none⟩ : Addr).add j) = some u := by
  match j, h with
  | 0, h =>
    simp at h
    subst h
    have e : ((⟨w.heap.size, 0, none⟩ : Addr).add 0) = ⟨w.heap.size, 0, none⟩ := by unfold Addr.add; simp
    rw [e, cell_of (hp_new w _)]
    rfl
theorem getD_app {l : List Int} {x : Int} {i : Nat} (h : i < l.length) : (l ++ [x]).getD i 0 = l.getD i 0 := by simp [List.getD, List.getElem?_append_left h]
theorem getD_last {l : List Int} {x : Int} : (l ++ [x]).getD l.length 0 = x := by simp [List.getD]
theorem addr_plus (b off i : Nat) : (⟨b, off, none⟩ : Addr).add i = ⟨b, off + i, none⟩ := by unfold Addr.add; split <;> simp_all

/-- One number more. -/
theorem append_sr (W : World) (ty : TypeId) (v : Value) (l : List Int) (y : Int) (h : Sr W v l) (hl : l.length < 1000000) :
    ∃ v' W', (Builtin.append_ #[46, 46] ty #[v, .slice (some ⟨W.heap.size, 0, none⟩) 1 1]).run Try.prog (W.alloc (.cells #[.int .i64 y] 3)) = .ok v' W' ∧ Sr W' v' (l ++ [y]) ∧ Fr (fun k => v.ownBlock = some k) W W' ∧ ∀ k, v'.ownBlock = some k → v.ownBlock = some k ∨ W.heap.size ≤ k := by
  obtain ⟨i, hi, hz, hs1, hb1⟩ := info3
  have hsrc : Src Try.prog i.size 46 (.slice (some ⟨W.heap.size, 0, none⟩) 1 1) 1 [.int .i64 y] (W.alloc (.cells #[.int .i64 y] 3)) :=
    Src.ofSlice _ Try.underlying46 _ 1 1 _ (by rw [hs1]; rfl) (one_cell W _) (by intro u hu; simp at hu; subst hu; rfl)
  have grow : ∀ (a : Option Addr) (cap : Nat), v = .slice a l.length cap → cap < l.length + 1 → (Builtin.firstCells i.size l.length (.slice a l.length cap)).run Try.prog (W.alloc (.cells #[.int .i64 y] 3)).drew = .ok (l.map fun x => Value.int .i64 x).toArray (W.alloc (.cells #[.int .i64 y] 3)).drew →
      ∃ v' W', (Builtin.append_ #[46, 46] ty #[v, .slice (some ⟨W.heap.size, 0, none⟩) 1 1]).run Try.prog (W.alloc (.cells #[.int .i64 y] 3)) = .ok v' W' ∧ Sr W' v' (l ++ [y]) ∧ Fr (fun k => v.ownBlock = some k) W W' ∧ ∀ k, v'.ownBlock = some k → v.ownBlock = some k ∨ W.heap.size ≤ k := by
    rintro a cap rfl hc hold
    refine ⟨_, _, run_append_grow_src _ 46 46 ty 3 i _ Try.underlying46 hi hz a l.length cap _ hold _ 1 _ hsrc hc (by omega) (growslice_fits hc (by rw [hb1]; omega)), ?_, ?_, ?_⟩
    · have hg1 := grownCap_ge (W.alloc (.cells #[.int .i64 y] 3)) (l.length + 1) cap 3
      have hg2 := grownCap_le_maxLen (W.alloc (.cells #[.int .i64 y] 3)) (l.length + 1) cap 3 (by simp only [maxLen]; omega)
      refine .inr ⟨_, 0, grownCap (W.alloc (.cells #[.int .i64 y] 3)) (l.length + 1) cap 3, _, by simp, hp_new _ _, by simp; omega, by simp only [maxLen] at hg2; omega, ?_, fun j hj => ?_⟩
      · simp [Builtin.zeroCells, Value.cells]; omega
      · simp only [List.length_append, List.length_cons, List.length_nil, Nat.zero_add] at hj
        rw [Nat.zero_add, Array.getElem?_append_left (by simp; omega)]
        by_cases e : j = l.length
        · subst e; rw [getD_last]; simp
        · rw [getD_app (by omega)]
          have hjl : j < l.length := by omega
          simp [List.getElem?_append_left, hjl, List.getD]
    · exact (Fr.alloc _ W _).trans ((Fr.drew (fun _ => False) _).trans (Fr.alloc (fun _ => False) _ _) (fun _ _ x => x)) (fun _ _ x => x.elim)
    · intro k hk
      simp only [Value.ownBlock, Option.some.injEq] at hk
      right
      subst hk
      simp
  rcases h with ⟨rfl, rfl⟩ | ⟨g, off, cap, cur, rfl, hg, h1, h2, h3, h4⟩
  · exact grow none 0 rfl (by simp) (by rw [show [].length = 0 from rfl]; exact run_firstCells_none _ _ 0 0 0)
  · by_cases hr : l.length + 1 ≤ cap
    · have hg2 : (W.alloc (.cells #[.int .i64 y] 3)).heap[g]? = some (.cells cur 3 (0, 0)) := (Fr.alloc (fun _ => False) W _).hd id hg
      have hin : off + l.length < cur.size := by omega
      have e0 : (W.alloc (.cells #[.int .i64 y] 3)).setCells g (off + l.length * i.size) [.int .i64 y] = (W.alloc (.cells #[.int .i64 y] 3)).setCell ⟨g, off + l.length, none⟩ (.int .i64 y) := by
        rw [hs1, Nat.mul_one]; rfl
      refine ⟨_, _, run_append_room_src _ 46 46 ty 3 i Try.underlying46 hi g off l.length cap _ 1 _ hsrc hr (fun j hj => ?_) (fun j hj => ?_), ?_, ?_, ?_⟩
      · simp at hj; subst hj
        rw [hs1, Nat.mul_one, Nat.add_zero, cell_of hg2]
        simp [hin]
      · simp at hj; subst hj
        exact frozen_of hg2 _
      · rw [e0]
        refine .inr ⟨g, off, cap, _, by simp, hp_set hg2 _ _, by simp; omega, h2, by simp; omega, fun j hj => ?_⟩
        simp only [List.length_append, List.length_cons, List.length_nil, Nat.zero_add] at hj
        by_cases e : j = l.length
        · subst e; rw [getD_last, Array.getElem?_setIfInBounds_self_of_lt hin]
        · rw [getD_app (by omega), Array.getElem?_setIfInBounds_ne (by omega)]
          exact h4 j (by omega)
      · rw [e0]
        exact (Fr.alloc _ W _).trans (Fr.set _ _ _ _) (fun k _ e => by subst e; rfl)
      · intro k hk
        exact .inl hk
    · refine grow _ cap rfl (by omega) (run_firstCells_some _ _ _ _ _ _ _ (by rw [hs1]; simp) (fun j u hu => ?_))
      simp only [List.getElem?_map, Option.map_eq_some_iff] at hu
      obtain ⟨x, hx, rfl⟩ := hu
      have hj : j < l.length := (List.getElem?_eq_some_iff.1 hx).1
      have e1 : l.getD j 0 = x := by simp [List.getD, hx]
      have hg2 : (W.alloc (.cells #[.int .i64 y] 3)).drew.heap[g]? = some (.cells cur 3 (0, 0)) := (Fr.alloc (fun _ => False) W _).hd id hg
      rw [addr_plus, cell_of hg2, h4 j hj, e1]

/-- A budget's numbers and its moments, as they must be. -/
structure Ok (pc mn wn la : Int) (rq rt : List Int) : Prop where
  p0 : 0 ≤ pc
  p1 : pc ≤ 100
  m0 : 0 ≤ mn
  m1 : mn ≤ 1000
  w0 : 1 ≤ wn
  w1 : wn ≤ 1000000
  l0 : 0 ≤ la
  l1 : la ≤ 4611686018427387904
  s1 : rq.Pairwise (· ≤ ·)
  s2 : rt.Pairwise (· ≤ ·)
  b1 : ∀ y ∈ rq, la - wn < y ∧ y ≤ la
  b2 : ∀ y ∈ rt, la - wn < y ∧ y ≤ la
  n1 : rq.length ≤ 100000
  n2 : rt.length ≤ 100000
/-- A budget: its block, and its two rows. -/
def BdT (T : TypeId) (pc mn wn la : Int) (rq rt : List Int) (b : Nat) : Thing := fun w P => ∃ v1 v2, Bk T w b pc mn wn la v1 v2 ∧ Sr w v1 rq ∧ Sr w v2 rt ∧ (∀ k, v1.ownBlock = some k → k ≠ b ∧ v2.ownBlock ≠ some k) ∧ (∀ k, v2.ownBlock = some k → k ≠ b) ∧ ∀ k, P k ↔ (k = b ∨ v1.ownBlock = some k ∨ v2.ownBlock = some k)
/-- The program's. -/
abbrev Bd (pc mn wn la : Int) (rq rt : List Int) (b : Nat) : Thing := BdT 50 pc mn wn la rq rt b
instance BdT.ob (T : TypeId) (pc mn wn la : Int) (rq rt : List Int) (b : Nat) : Ob (BdT T pc mn wn la rq rt b) := by
  refine ⟨fun w w' P Q h F d => ?_, fun w P k h hk => ?_⟩
  · obtain ⟨v1, v2, h1, h2, h3, h4, h5, h6⟩ := h
    exact ⟨v1, v2, F.hd (d b ((h6 b).2 (.inl rfl))) h1, h2.fr F (fun k hk => d k ((h6 k).2 (.inr (.inl hk)))), h3.fr F (fun k hk => d k ((h6 k).2 (.inr (.inr hk)))), h4, h5, h6⟩
  · obtain ⟨v1, v2, h1, h2, h3, h4, h5, h6⟩ := h
    rcases (h6 k).1 hk with rfl | x | x
    · exact hp_lt h1
    · exact h2.lt x
    · exact h3.lt x
/-- It is asked at a moment. -/
def nx (la now : Int) : Int := la + untR la now
theorem nx_ge (la now : Int) : la ≤ nx la now := by unfold nx untR; split <;> omega
theorem nx_le {la now : Int} (h0 : 0 ≤ la) (h1 : la ≤ 4611686018427387904) : nx la now ≤ 4611686018427387904 := by unfold nx untR; split <;> omega
def bE (now : Int) : Int := if mom now then 0 else 1
theorem mom_iff {t : Int} : mom t = true ↔ (0 ≤ t ∧ t ≤ 4611686018427387904) := by simp [mom]
theorem untE_eq {la now : Int} (h0 : 0 ≤ la) (h1 : la ≤ 4611686018427387904) : untE la now = bE now := by
  unfold untE bE mom
  simp only [decide_eq_true_eq]
  split <;> split <;> omega
theorem nx_no {la now : Int} (h : mom now = false) : nx la now = la := by
  unfold nx untR
  rw [if_neg (by intro x; have := mom_yes x.2.1.1 x.2.1.2; rw [this] at h; cases h)]
  omega
theorem lateL_all {x : Int} {l : List Int} (h : ∀ y ∈ l, x < y) : lateL x l = l := by
  unfold lateL
  rw [List.filter_eq_self]
  intro y hy
  simpa using h y hy
theorem lateL_le (x : Int) (l : List Int) : (lateL x l).length ≤ l.length := List.length_filter_le _ _
theorem Ok.bring {pc mn wn la : Int} {rq rt : List Int} (h : Ok pc mn wn la rq rt) {t : Int} (ht : la ≤ t) (ht2 : t ≤ 4611686018427387904) : Ok pc mn wn t (lateL (t - wn) rq) (lateL (t - wn) rt) := by
  have mem : ∀ l : List Int, (∀ y ∈ l, la - wn < y ∧ y ≤ la) → ∀ y ∈ lateL (t - wn) l, t - wn < y ∧ y ≤ t := by
    intro l hl y hy
    unfold lateL at hy
    rw [List.mem_filter] at hy
    have := hl y hy.1
    have := hy.2
    simp at this
    omega
  exact ⟨h.p0, h.p1, h.m0, h.m1, h.w0, h.w1, by have := h.l0; omega, ht2, List.Pairwise.filter _ h.s1, List.Pairwise.filter _ h.s2, mem _ h.b1, mem _ h.b2, Nat.le_trans (lateL_le _ _) h.n1, Nat.le_trans (lateL_le _ _) h.n2⟩
theorem Ok.nx {pc mn wn la : Int} {rq rt : List Int} (h : Ok pc mn wn la rq rt) (now : Int) : Ok pc mn wn (nx la now) (lateL (nx la now - wn) rq) (lateL (nx la now - wn) rt) := h.bring (nx_ge _ _) (nx_le h.l0 h.l1)
theorem Ok.keep {pc mn wn la : Int} {rq rt : List Int} (h : Ok pc mn wn la rq rt) : lateL (la - wn) rq = rq ∧ lateL (la - wn) rt = rt := ⟨lateL_all fun y hy => (h.b1 y hy).1, lateL_all fun y hy => (h.b2 y hy).1⟩

theorem moment_of (w : World) (b : Nat) (la now : Int) (h : w.cell? ⟨b, 3, none⟩ = some (.int .i64 la)) (h0 : 0 ≤ la) (h1 : la ≤ 4611686018427387904) :
    Calls Try.prog 19 #[.pointer (some ⟨b, 0, none⟩), .int .i64 now] w fun e w' => e = .returned (.tuple #[.int .i64 (nx la now), .int .i64 (bE now)]) ∧ w = w' := by
  have HU := hide (until_any la now w)
  rw [untE_eq h0 h1] at HU
  have n1 := nx_ge la now
  have n2 := nx_le (now := now) h0 h1
  have e0 : Hid (nx la now = la + untR la now) := hide rfl
  rw [e0.out] at n1 n2 ⊢
  generalize untR la now = u at *
  clear e0
  go_enter Try.func19, Try.ntmps19
  go_wp2_with (go_at_call 23; refine HU.out.mono ?_; rintro e w' ⟨rfl, rfl⟩)
  go_ret2
  exact ⟨rfl, rfl⟩
theorem moment_nil (w : World) (now : Int) :
    Calls Try.prog 19 #[.pointer none, .int .i64 now] w fun e w' => e = .returned (.tuple #[.int .i64 0, .int .i64 (bE now)]) ∧ w = w' := by
  have HU := hide (until_any 0 now w)
  rw [untE_eq (by omega) (by omega)] at HU
  go_enter Try.func19, Try.ntmps19
  go_wp2_with (go_at_call 23; refine HU.out.mono ?_; rintro e w' ⟨rfl, rfl⟩)
  go_ret2
  exact ⟨rfl, rfl⟩

set_option maxHeartbeats 1000000 in
theorem bring_any (w : World) (P : Nat → Prop) (b : Nat) (pc mn wn la t : Int) (rq rt : List Int) (h : Bd pc mn wn la rq rt b w P) (k : Ok pc mn wn la rq rt) (ht : la ≤ t) (ht2 : t ≤ 4611686018427387904) :
    Calls Try.prog 21 #[.pointer (some ⟨b, 0, none⟩), .int .i64 t] w fun e w' => e = .returned (.tuple #[]) ∧ Does (Bd pc mn wn t (lateL (t - wn) rq) (lateL (t - wn) rt) b) P w w' := by
  obtain ⟨v1, v2, h1, h2, h3, h4, h5, h6⟩ := h
  obtain ⟨c0, c1, c2, c3, c4, c5, f3, f4, f5⟩ := h1.cs
  have l0 := k.l0
  have w0 := k.w0
  have w1 := k.w1
  have K1 : Hid (Bk 50 (w.setCell ⟨b, 3, none⟩ (.int .i64 t)) b pc mn wn t v1 v2) := hide (hp_set h1 3 _)
  have F1 : Hid (Fr (fun k => k = b) w (w.setCell ⟨b, 3, none⟩ (.int .i64 t))) := hide (Fr.set _ _ _ _)
  have hb1 : ∀ k, v1.ownBlock = some k → ¬ k = b := fun k hk => (h4 k hk).1
  have S1 : Hid (Sr (w.setCell ⟨b, 3, none⟩ (.int .i64 t)) v1 rq) := hide (h2.fr F1.out hb1)
  have S2 : Hid (Sr (w.setCell ⟨b, 3, none⟩ (.int .i64 t)) v2 rt) := hide (h3.fr F1.out h5)
  have HK := hide k
  have H4 := hide h4
  have H5 := hide h5
  have H6 := hide h6
  clear h1 h2 h3 h4 h5 h6 hb1 k
  obtain ⟨a1, cap1, rfl, q1, q2⟩ := S1.out.shape
  obtain ⟨a2, cap2, rfl, q3, q4⟩ := S2.out.shape
  go_enter Try.func21, Try.ntmps21
  go_upto_region 1 with fail
  clear c0 c1 c2 c3 c4 c5 f3 f4 f5
  generalize w.setCell ⟨b, 3, none⟩ (.int .i64 t) = W1 at *
  obtain ⟨c0, c1, c2, c3, c4, c5, f3, f4, f5⟩ := K1.out.cs
  have HL := hide (late_any W1 b wn t _ rq c2 w0 w1 (by omega) ht2 S1.out HK.out.s1 (by have := HK.out.n1; omega))
  go_wp2_with fail
  refine HL.out.mono ?_
  rintro e w' ⟨⟨v', rfl, sv, ov⟩, q, rfl⟩
  have SV := hide sv
  have OV := hide ov
  clear sv ov HL
  obtain ⟨a3, cap3, rfl, q5, q6⟩ := SV.out.shape
  go_upto_region 2 with fail
  have K2 : Hid (Bk 50 ((W1.drewN q).setCell ⟨b, 4, none⟩ (.slice a3 (lateL (t - wn) rq).length cap3)) b pc mn wn t (.slice a3 (lateL (t - wn) rq).length cap3) (.slice a2 rt.length cap2)) := hide (hp_set (W := W1.drewN q) K1.out 4 _)
  have F2 : Hid (Fr (fun k => k = b) W1 ((W1.drewN q).setCell ⟨b, 4, none⟩ (.slice a3 (lateL (t - wn) rq).length cap3))) := hide ((Fr.drewN _ _ _).trans (Fr.set _ _ _ _) (fun _ _ x => x))
  have S3 : Hid (Sr ((W1.drewN q).setCell ⟨b, 4, none⟩ (.slice a3 (lateL (t - wn) rq).length cap3)) (.slice a3 (lateL (t - wn) rq).length cap3) (lateL (t - wn) rq)) := hide (SV.out.fr F2.out (fun k hk => (H4.out k (OV.out k hk)).1))
  have S4 : Hid (Sr ((W1.drewN q).setCell ⟨b, 4, none⟩ (.slice a3 (lateL (t - wn) rq).length cap3)) (.slice a2 rt.length cap2) rt) := hide (S2.out.fr F2.out H5.out)
  clear c0 c1 c2 c3 c4 c5 f3 f4 f5 S1 S2 SV K1
  generalize (W1.drewN q).setCell ⟨b, 4, none⟩ (.slice a3 (lateL (t - wn) rq).length cap3) = W2 at *
  obtain ⟨c0, c1, c2, c3, c4, c5, f3, f4, f5⟩ := K2.out.cs
  have HL := hide (late_any W2 b wn t _ rt c2 w0 w1 (by omega) ht2 S4.out HK.out.s2 (by have := HK.out.n2; omega))
  go_wp2_with fail
  refine HL.out.mono ?_
  rintro e w' ⟨⟨v', rfl, sv, ov⟩, q', rfl⟩
  have SV := hide sv
  have OV2 := hide ov
  clear sv ov HL
  obtain ⟨a4, cap4, rfl, q7, q8⟩ := SV.out.shape
  go_wp2_with fail
  go_end0
  have K3 : Bk 50 ((W2.drewN q').setCell ⟨b, 5, none⟩ (.slice a4 (lateL (t - wn) rt).length cap4)) b pc mn wn t (.slice a3 (lateL (t - wn) rq).length cap3) (.slice a4 (lateL (t - wn) rt).length cap4) := hp_set (W := W2.drewN q') K2.out 5 _
  have F3 : Fr (fun k => k = b) W2 ((W2.drewN q').setCell ⟨b, 5, none⟩ (.slice a4 (lateL (t - wn) rt).length cap4)) := (Fr.drewN _ _ _).trans (Fr.set _ _ _ _) (fun _ _ x => x)
  refine ⟨rfl, _, ⟨_, _, K3, S3.out.fr F3 (fun k hk => (H4.out k (OV.out k hk)).1), SV.out.fr F3 (fun k hk => H5.out k (OV2.out k hk)), fun k hk => ⟨(H4.out k (OV.out k hk)).1, fun x => (H4.out k (OV.out k hk)).2 (OV2.out k x)⟩, fun k hk => H5.out k (OV2.out k hk), fun k => Iff.rfl⟩, ?_, fun k hk => ?_⟩
  · exact ((F1.out.trans F2.out (fun _ _ x => x)).trans F3 (fun _ _ x => x)).mono (fun k _ e => (H6.out k).2 (.inl e))
  · left
    rcases hk with x | x | x
    · exact (H6.out k).2 (.inl x)
    · exact (H6.out k).2 (.inr (.inl (OV.out k x)))
    · exact (H6.out k).2 (.inr (.inr (OV2.out k x)))
end Go.Proofs.Ytcapicaieacgnaa
