/- The document's plain chain: Put. -/
import Derived.Test.YtglhoihiaflmgabRefTake
namespace Go.Proofs.Ytglhoihiaflmgab
open Go.ChangeShapes Go.WideShapes Go.ChangeAt Go.RowKit

theorem step_append_at {ops : Array Oper} {o : Oper} {a : Act} {K : Act → World → Prop} {Q : Exit → Act → World → Prop} {E : Prop} (hgd : o.guard = none) (s x : Operand)
    (ho : o.op = .call { callee := .builtin .append, args := #[s, x], argTypes := #[33, 33] }) (W : World) (base : Nat) (v src : Value) (l X : List Int) (hs : a.eval s = v) (hx : a.eval x = src)
    (hown : Own W base v l) (hsrc : Sl W src X) (hn : l.length + X.length ≤ 140737488355328) (hbase : base ≤ W.heap.size)
    (h : ∀ v' W', Own W' base v' (l ++ X) → W.grownBy W' v.ownBlock → (v'.ownBlock = v.ownBlock ∨ v'.ownBlock = some W.heap.size) → K (a.put o.dst v') W') :
    if Region.wanted o (yielded ops a.tmps) = true then Oper.wp Try.prog o a W K Q else E := by
  have hw : Region.wanted o (yielded ops a.tmps) = true := by simp [Region.wanted, hgd]
  rw [if_pos hw]
  obtain ⟨v', W', hr, h2, h3, h4⟩ := append_bytes_at W base o.type v src l X hown hsrc hn hbase
  unfold Oper.wp execOp
  simp only [ho, resolve, invoke, builtin, Sem.run_bind, Sem.run_pure, Result.andThen_ok, List.map_toArray, List.map_cons, List.map_nil, hs, hx, hr]
  exact h v' W' h2 h3 h4

/-- What holds at the head of each round: j bytes have come. -/
def PInv (w : World) (base b bound high low : Nat) (v : Value) (l X : List Int) (stop : Bool) (j : Nat) (wr : World) : Prop :=
  ∃ vj, Ref wr base b bound high low vj (l ++ X.take j) stop ∧ Fr (fun i => i = b ∨ v.ownBlock = some i ∨ w.heap.size ≤ i) w wr ∧ (vj.ownBlock = v.ownBlock ∨ ∃ g, vj.ownBlock = some g ∧ w.heap.size ≤ g)

set_option maxRecDepth 100000 in
set_option maxHeartbeats 4000000 in
theorem rput_any {w : World} {base b bound high low : Nat} {v : Value} {l : List Int} {stop : Bool} (h : Ref w base b bound high low v l stop) (hbase : base ≤ w.heap.size) (a : Option Addr) (cap : Nat) (X : List Int) (hs : Sl w (.slice a X.length cap) X)
    (hl : Lies (.slice a X.length cap) (fun i => i ≠ b ∧ v.ownBlock ≠ some i ∧ i < w.heap.size)) (hX : X.length ≤ 9223372036854775807) :
    Calls Try.prog 12 #[.pointer (some ⟨b, 0, none⟩), .slice a X.length cap] w fun e w' => e = .returned (.int .i64 (kPut X bound l.length : Int)) ∧ Fr (fun i => i = b ∨ v.ownBlock = some i) w w' ∧
      ∃ v', Ref w' base b bound high low v' (l ++ X.take (kPut X bound l.length)) (putStop stop high l.length (kPut X bound l.length)) ∧ (v'.ownBlock = v.ownBlock ∨ ∃ g, v'.ownBlock = some g ∧ w.heap.size ≤ g) := by
  have I0 : Hid (PInv w base b bound high low v l X stop 0 w) := hide ⟨v, by simpa using h, Fr.refl _ _, .inl rfl⟩
  have hfit := h.fit
  have htop := h.top
  have HS := hide hs
  have HL := hide hl
  have bw : b < w.heap.size := h.hd.lt
  have vb : Hid (∀ g, v.ownBlock = some g → g < w.heap.size) := hide (fun g hg => (h.own.block hg).2)
  obtain ⟨k, Hk⟩ : ∃ k, Hid (kPut X bound l.length = k) := ⟨_, hide rfl⟩
  rw [Hk.out]
  have k1 : k ≤ X.length := by have := Hk.out; unfold kPut at this; omega
  have k2 : l.length + k ≤ bound := by have := Hk.out; unfold kPut at this; omega
  clear h hs hl
  go_enter Try.func12, Try.ntmps12
  go_wp2
  go_loopw [5] (fun i wr => ∃ j : Nat, j ≤ k ∧ i = .int .i64 j ∧ Hid (PInv w base b bound high low v l X stop j wr)) (fun i _ => k - (intOf i).toNat)
  case atStart => exact ⟨0, Nat.zero_le _, rfl, I0⟩
  case round =>
    obtain ⟨j, hj, rfl, HI⟩ := hrel
    obtain ⟨vj, R, F, hvj⟩ := HI.out
    have hlj : (l ++ X.take j).length = l.length + j := by simp; omega
    obtain ⟨aj, cj, e, hcj⟩ := R.own.sl.shape
    rw [hlj] at e
    subst e
    have c0 := R.hd.c0
    have c1 := R.hd.c1
    have c3 := R.hd.c3
    have c4 := R.hd.c4
    have z3 := R.hd.fz 3
    have z4 := R.hd.fz 4
    have HR := hide R
    have HF := hide F
    have HV := hide hvj
    have hzr : w.heap.size ≤ wr.heap.size := F.size
    by_cases hlt : j < k
    · obtain ⟨sb, so, cap', e, hcell⟩ := HS.out.at (j := j) (by omega)
      simp only [Value.slice.injEq] at e
      obtain ⟨rfl, _, rfl⟩ := e
      have hsb := HL.out sb so X.length cap rfl (by omega)
      have hsbr : wr.heap[sb]? = w.heap[sb]? := F.block sb hsb.2.2 (by rintro (x | x | x); exact hsb.1 x; exact hsb.2.1 x; omega)
      have hc : wr.cell? ⟨sb, so + j, none⟩ = some (.int .u8 (X.getD j 0)) := (World.cell?_of_block (w := w) (a := ⟨sb, so + j, none⟩) hsbr).trans (hcell j (by omega))
      obtain ⟨y, Hy⟩ : ∃ y, Hid (X.getD j 0 = y) := ⟨_, hide rfl⟩
      rw [Hy.out] at hc
      have g1 : (j : Int) < X.length := by omega
      have g2 : ((l.length + j : Nat) : Int) < bound := by omega
      have g3 : (l.length : Int) + j < bound := by omega
      clear R F hvj HI I0 hcell
      go_wp2_with fail
      go_quiet (fail)
      go_wp2_with fail
      have hbr : b < wr.heap.size := by omega
      have hsbw : sb < wr.heap.size := by omega
      have ca3 : ∀ q, ((wr.drewN q).alloc (.cells #[.int .u8 y] 5)).cell? ⟨b, 3, none⟩ = some (.slice aj (l.length + j) cj) := fun q => (World.cell?_of_block (w := wr) (a := ⟨b, 3, none⟩) (Below.heap_alloc wr _ b hbr)).trans c3
      have caS : ∀ q, ((wr.drewN q).alloc (.cells #[.int .u8 y] 5)).cell? ⟨sb, so + j, none⟩ = some (.int .u8 y) := fun q => (World.cell?_of_block (w := wr) (a := ⟨sb, so + j, none⟩) (Below.heap_alloc wr _ sb hsbw)).trans hc
      have HT : Hid (l ++ X.take (j + 1) = (l ++ X.take j) ++ [y]) := hide (by rw [take_snoc X j (by omega), Hy.out, List.append_assoc])
      have FIN : Hid (∀ (v2 : Value) (w2 : World), Own w2 base v2 ((l ++ X.take j) ++ [y]) → wr.grownBy w2 (Value.slice aj (l.length + j) cj).ownBlock → (v2.ownBlock = (Value.slice aj (l.length + j) cj).ownBlock ∨ ∃ g, v2.ownBlock = some g ∧ wr.heap.size ≤ g) →
          RHd w2 b bound high low (.slice aj (l.length + j) cj) stop ∧ w2.cell? ⟨sb, so + j, none⟩ = some (.int .u8 y) ∧ PInv w base b bound high low v l X stop (j + 1) (w2.setCell ⟨b, 3, none⟩ v2)) := hide (by
        intro v2 w2 O2 G2 A2
        have G := Fr.ofGrownBy G2
        have gb : ∀ g, (Value.slice aj (l.length + j) cj).ownBlock = some g → base ≤ g ∧ g < wr.heap.size := fun g hg => HR.out.own.block hg
        have bb := HR.out.ne
        have h2 : RHd w2 b bound high low (.slice aj (l.length + j) cj) stop := G.hd (fun h => by have := gb b h; omega) HR.out.hd
        refine ⟨h2, ?_, v2, ⟨hp_set h2 3 v2, ?_, ?_, HR.out.top, bb⟩, ?_, ?_⟩
        · refine (World.cell?_of_block (w := wr) (a := ⟨sb, so + j, none⟩) (G.block sb hsbw (fun h => ?_))).trans hc
          rcases HV.out with e | ⟨g, e, hg⟩
          · rw [e] at h; exact hsb.2.1 h
          · rw [e] at h; simp only [Option.some.injEq] at h; omega
        · rw [HT.out]
          exact O2.frame (fun g hg => hp_set_other _ _ _ _ _ (by have := (O2.block hg).1; omega))
        · simp only [List.length_append, List.length_take]
          omega
        · refine (HF.out.trans G (fun i hi h => ?_)).trans (Fr.set w2 b 3 v2) (fun i hi h => .inl h)
          rcases HV.out with e | ⟨g, e, hg⟩
          · rw [e] at h; exact .inr (.inl h)
          · rw [e] at h; simp only [Option.some.injEq] at h; omega
        · rcases A2 with e | ⟨g, e, hg⟩
          · rw [e]; exact HV.out
          · exact .inr ⟨g, e, by omega⟩)
      refine wp_region_noPanic ?_
      refine wp_region_held_drew (S := fun W => W.cell? ⟨sb, so + j, none⟩ = some (.int .u8 y)) (by kernel_rfl) (by simp [go_sem, hc]) (fun hHeld => ?_)
      refine wpAnyH_take (i := 0) (v := ?_) rfl (by kernel_rfl) (by kernel_rfl) (by kernel_rfl) (fun _ _ _ h => h) (Or.inl ⟨by rfl, ?_⟩) (by assumption) ?_
      rotate_left
      · (intro w hSw; (try dsimp only at hSw); go_simp; try with_reducible rfl)
      simp only [List.getElem_toArray, List.getElem_cons_zero, Act.put, List.setIfInBounds_toArray, List.set_cons_zero, List.set_cons_succ]
      refine wpAnyH_take (i := 1) (v := ?_) rfl (by kernel_rfl) (by kernel_rfl) (by kernel_rfl) (fun _ _ _ h => h) (Or.inl ⟨by rfl, ?_⟩) (by assumption) ?_
      rotate_left
      · (intro w hSw; (try dsimp only at hSw); go_simp; try with_reducible rfl)
      simp only [List.getElem_toArray, List.getElem_cons_zero, List.getElem_cons_succ, Act.put, List.setIfInBounds_toArray, List.set_cons_zero, List.set_cons_succ]
      refine wpAnyH_take (i := 2) (v := ?_) rfl (by kernel_rfl) (by kernel_rfl) (by kernel_rfl) (fun _ _ _ h => h) (Or.inl ⟨by rfl, ?_⟩) (by assumption) ?_
      rotate_left
      · (intro w hSw; (try dsimp only at hSw); go_simp; try with_reducible rfl)
      simp only [List.getElem_toArray, List.getElem_cons_zero, List.getElem_cons_succ, Act.put, List.setIfInBounds_toArray, List.set_cons_zero, List.set_cons_succ]
      refine wpAnyH_take (i := 3) (v := ?_) rfl (by kernel_rfl) (by kernel_rfl) (by kernel_rfl) (fun _ _ _ h => h) (Or.inl ⟨by rfl, ?_⟩) (by assumption) ?_
      rotate_left
      · (intro w hSw; (try dsimp only at hSw); go_simp; try with_reducible rfl)
      simp only [List.getElem_toArray, List.getElem_cons_zero, List.getElem_cons_succ, Act.put, List.setIfInBounds_toArray, List.set_cons_zero, List.set_cons_succ]
      refine wpAnyH_take (i := 5) (v := ?_) rfl (by kernel_rfl) (by kernel_rfl) (by kernel_rfl) (fun _ _ _ h => h) (Or.inl ⟨by rfl, ?_⟩) (by assumption) ?_
      rotate_left
      · (intro w hSw; (try dsimp only at hSw); go_simp; try with_reducible rfl)
      simp only [List.getElem_toArray, List.getElem_cons_zero, List.getElem_cons_succ, Act.put, List.setIfInBounds_toArray, List.set_cons_zero, List.set_cons_succ]
      refine wpAnyH_take (i := 6) (v := ?_) rfl (by kernel_rfl) (by kernel_rfl) (by kernel_rfl) (fun _ _ _ h => h) (Or.inl ⟨by rfl, ?_⟩) (by assumption) ?_
      rotate_left
      · (intro w hSw; (try dsimp only at hSw); go_simp; try with_reducible rfl)
      simp only [List.getElem_toArray, List.getElem_cons_zero, List.getElem_cons_succ, Act.put, List.setIfInBounds_toArray, List.set_cons_zero, List.set_cons_succ]
      refine wpAnyH_take (i := 7) (v := ?_) rfl (by kernel_rfl) (by kernel_rfl) (by kernel_rfl) (fun _ _ _ h => h) (Or.inl ⟨by rfl, ?_⟩) (by assumption) ?_
      rotate_left
      · (intro w hSw; (try dsimp only at hSw); go_simp; try with_reducible rfl)
      simp only [List.getElem_toArray, List.getElem_cons_zero, List.getElem_cons_succ, Act.put, List.setIfInBounds_toArray, List.set_cons_zero, List.set_cons_succ]
      refine wpAnyH_take (i := 8) (v := ?_) rfl (by kernel_rfl) (by kernel_rfl) (by kernel_rfl) (fun _ _ _ h => h) (Or.inl ⟨by rfl, ?_⟩) (by assumption) ?_
      rotate_left
      · (intro w hSw; (try dsimp only at hSw); go_simp; try with_reducible rfl)
      simp only [List.getElem_toArray, List.getElem_cons_zero, List.getElem_cons_succ, Act.put, List.setIfInBounds_toArray, List.set_cons_zero, List.set_cons_succ]
      refine wpAnyH_ready (rs := [4, 9]) (by kernel_rfl) (by simp) ?_
      refine AllReadyH.cons rfl (fun K hK => ?_) (AllReadyH.cons rfl (fun K hK => ?_) AllReadyH.nil)
      · go_simp
        refine hK.out _ _ ?_ (fun hHeld => ?_)
        · exact hc
        clear hK K
        try simp only [List.getElem_toArray, List.getElem_cons_zero, List.getElem_cons_succ, Act.put, List.setIfInBounds_toArray, List.set_cons_zero, List.set_cons_succ]
        refine wpAnyH_ready (rs := [9]) (by kernel_rfl) (by simp) ?_
        refine AllReadyH.cons rfl (fun K hK => ?_) AllReadyH.nil
        go_simp
        refine hK.out _ _ ?_ (fun hHeld => ?_)
        · exact caS _
        clear hK K
        try simp only [List.getElem_toArray, List.getElem_cons_zero, List.getElem_cons_succ, Act.put, List.setIfInBounds_toArray, List.set_cons_zero, List.set_cons_succ]
        refine wpAnyH_ready (rs := [10]) (by kernel_rfl) (by simp) ?_
        refine AllReadyH.cons rfl (fun K hK => ?_) AllReadyH.nil
        refine step_append_at rfl _ _ rfl _ base (.slice aj (l.length + j) cj) (.slice (some ⟨wr.heap.size, 0, none⟩) 1 1) (l ++ X.take j) [y] rfl rfl (HR.out.own.frame (fun g hg => Below.heap_alloc wr _ g (HR.out.own.block hg).2)) ((sl_one wr y).cellsEq (fun _ _ _ _ _ _ => rfl)) (by rw [hlj]; simp; omega) (by simp; omega) ?_
        intro v2 w2 O2 G2 A2
        obtain ⟨a2, c2', hv2, -⟩ := O2.sl.shape
        obtain ⟨m2, Hm2⟩ : ∃ m2, Hid ((l ++ X.take j ++ [y]).length = m2) := ⟨_, hide rfl⟩
        rw [Hm2.out] at hv2
        subst hv2
        have f2 := hide (FIN.out _ w2 O2 ⟨G2.os, G2.tape, G2.output, Nat.le_trans (by simp) G2.size, fun i hi hn => (G2.block i (by simp; omega) hn).trans (Below.heap_alloc wr _ i hi)⟩ (by rcases A2 with h | h; exact .inl h; exact .inr ⟨_, h, by simp⟩))
        have u3 := f2.out.1.c3
        have y3 := f2.out.1.fz 3
        have u5 := f2.out.2.1
        clear O2 G2 A2
        refine hK.out _ _ u5 (fun hHeld => ?_)
        clear hK K
        try simp only [List.getElem_toArray, List.getElem_cons_zero, List.getElem_cons_succ, Act.put, List.setIfInBounds_toArray, List.set_cons_zero, List.set_cons_succ]
        refine wpAnyH_take (i := 11) (v := ?_) rfl (by kernel_rfl) (by kernel_rfl) (by kernel_rfl) (fun _ _ _ h => h) (Or.inl ⟨by rfl, ?_⟩) (by assumption) ?_
        rotate_left
        · (intro w hSw; (try dsimp only at hSw); go_simp; try with_reducible rfl)
        simp only [List.getElem_toArray, List.getElem_cons_zero, List.getElem_cons_succ, Act.put, List.setIfInBounds_toArray, List.set_cons_zero, List.set_cons_succ]
        refine wpAnyH_take (i := 12) (v := ?_) rfl (by kernel_rfl) (by kernel_rfl) (by kernel_rfl) (fun _ _ _ h => h) (Or.inl ⟨by rfl, ?_⟩) (by assumption) ?_
        rotate_left
        · (intro w hSw; (try dsimp only at hSw); go_simp; try with_reducible rfl)
        simp only [List.getElem_toArray, List.getElem_cons_zero, List.getElem_cons_succ, Act.put, List.setIfInBounds_toArray, List.set_cons_zero, List.set_cons_succ]
        refine wpAnyH_ready (rs := [13]) (by kernel_rfl) (by simp) ?_
        refine AllReadyH.cons rfl (fun K hK => ?_) AllReadyH.nil
        go_simp
        refine hK.out _ _ ?_ (fun hHeld => ?_)
        · exact (World.cell?_setCell_other _ _ _ _ (by intro e; simp only [Addr.mk.injEq] at e; omega)).trans u5
        clear hK K
        try simp only [List.getElem_toArray, List.getElem_cons_zero, List.getElem_cons_succ, Act.put, List.setIfInBounds_toArray, List.set_cons_zero, List.set_cons_succ]
        refine wpAnyH_done (by kernel_rfl) ?_ _
        refine NoPanic.normal ?_
        go_wp2
        go_roundw
        case rel => exact ⟨j + 1, by omega, by go_num, hide f2.out.2.2⟩
        case measure => simp [intOf]; omega
      · go_simp
        refine hK.out _ _ ?_ (fun hHeld => ?_)
        · exact caS _
        clear hK K
        try simp only [List.getElem_toArray, List.getElem_cons_zero, List.getElem_cons_succ, Act.put, List.setIfInBounds_toArray, List.set_cons_zero, List.set_cons_succ]
        refine wpAnyH_ready (rs := [4]) (by kernel_rfl) (by simp) ?_
        refine AllReadyH.cons rfl (fun K hK => ?_) AllReadyH.nil
        go_simp
        refine hK.out _ _ ?_ (fun hHeld => ?_)
        · exact caS _
        clear hK K
        try simp only [List.getElem_toArray, List.getElem_cons_zero, List.getElem_cons_succ, Act.put, List.setIfInBounds_toArray, List.set_cons_zero, List.set_cons_succ]
        refine wpAnyH_ready (rs := [10]) (by kernel_rfl) (by simp) ?_
        refine AllReadyH.cons rfl (fun K hK => ?_) AllReadyH.nil
        refine step_append_at rfl _ _ rfl _ base (.slice aj (l.length + j) cj) (.slice (some ⟨wr.heap.size, 0, none⟩) 1 1) (l ++ X.take j) [y] rfl rfl (HR.out.own.frame (fun g hg => Below.heap_alloc wr _ g (HR.out.own.block hg).2)) ((sl_one wr y).cellsEq (fun _ _ _ _ _ _ => rfl)) (by rw [hlj]; simp; omega) (by simp; omega) ?_
        intro v2 w2 O2 G2 A2
        obtain ⟨a2, c2', hv2, -⟩ := O2.sl.shape
        obtain ⟨m2, Hm2⟩ : ∃ m2, Hid ((l ++ X.take j ++ [y]).length = m2) := ⟨_, hide rfl⟩
        rw [Hm2.out] at hv2
        subst hv2
        have f2 := hide (FIN.out _ w2 O2 ⟨G2.os, G2.tape, G2.output, Nat.le_trans (by simp) G2.size, fun i hi hn => (G2.block i (by simp; omega) hn).trans (Below.heap_alloc wr _ i hi)⟩ (by rcases A2 with h | h; exact .inl h; exact .inr ⟨_, h, by simp⟩))
        have u3 := f2.out.1.c3
        have y3 := f2.out.1.fz 3
        have u5 := f2.out.2.1
        clear O2 G2 A2
        refine hK.out _ _ u5 (fun hHeld => ?_)
        clear hK K
        try simp only [List.getElem_toArray, List.getElem_cons_zero, List.getElem_cons_succ, Act.put, List.setIfInBounds_toArray, List.set_cons_zero, List.set_cons_succ]
        refine wpAnyH_take (i := 11) (v := ?_) rfl (by kernel_rfl) (by kernel_rfl) (by kernel_rfl) (fun _ _ _ h => h) (Or.inl ⟨by rfl, ?_⟩) (by assumption) ?_
        rotate_left
        · (intro w hSw; (try dsimp only at hSw); go_simp; try with_reducible rfl)
        simp only [List.getElem_toArray, List.getElem_cons_zero, List.getElem_cons_succ, Act.put, List.setIfInBounds_toArray, List.set_cons_zero, List.set_cons_succ]
        refine wpAnyH_take (i := 12) (v := ?_) rfl (by kernel_rfl) (by kernel_rfl) (by kernel_rfl) (fun _ _ _ h => h) (Or.inl ⟨by rfl, ?_⟩) (by assumption) ?_
        rotate_left
        · (intro w hSw; (try dsimp only at hSw); go_simp; try with_reducible rfl)
        simp only [List.getElem_toArray, List.getElem_cons_zero, List.getElem_cons_succ, Act.put, List.setIfInBounds_toArray, List.set_cons_zero, List.set_cons_succ]
        refine wpAnyH_ready (rs := [13]) (by kernel_rfl) (by simp) ?_
        refine AllReadyH.cons rfl (fun K hK => ?_) AllReadyH.nil
        go_simp
        refine hK.out _ _ ?_ (fun hHeld => ?_)
        · exact (World.cell?_setCell_other _ _ _ _ (by intro e; simp only [Addr.mk.injEq] at e; omega)).trans u5
        clear hK K
        try simp only [List.getElem_toArray, List.getElem_cons_zero, List.getElem_cons_succ, Act.put, List.setIfInBounds_toArray, List.set_cons_zero, List.set_cons_succ]
        refine wpAnyH_done (by kernel_rfl) ?_ _
        refine NoPanic.normal ?_
        go_wp2
        go_roundw
        case rel => exact ⟨j + 1, by omega, by go_num, hide f2.out.2.2⟩
        case measure => simp [intOf]; omega
    · have ej : j = k := by omega
      subst ej
      have FIN : Hid (∀ (W : World) (stop' : Bool), RHd W b bound high low (.slice aj (l.length + j) cj) stop' → Fr (fun i => i = b) wr W → Fr (fun i => i = b ∨ v.ownBlock = some i) w W ∧ ∃ v', Ref W base b bound high low v' (l ++ X.take j) stop' ∧ (v'.ownBlock = v.ownBlock ∨ ∃ g, v'.ownBlock = some g ∧ w.heap.size ≤ g)) := hide (by
        intro W stop' hH hF
        have bb := HR.out.ne
        refine ⟨?_, _, ⟨hH, HR.out.own.frame (fun g hg => hF.block g (HR.out.own.block hg).2 (by have := (HR.out.own.block hg).1; omega)), HR.out.fit, HR.out.top, bb⟩, HV.out⟩
        have h1 := HF.out.trans hF (fun i _ h => .inl h)
        exact h1.mono (fun i hi h => by rcases h with h | h | h; exact .inl h; exact .inr h; omega))
      have ways : (decide ((j : Int) < X.length) = false ∧ decide (j < X.length) = false ∧ X.length ≤ j) ∨ ((j : Int) < X.length ∧ j < X.length ∧ decide ((l.length : Int) + j < bound) = false ∧ decide (l.length + j < bound) = false ∧ bound ≤ l.length + j) := by
        have h := Hk.out
        unfold kPut at h
        by_cases hx : j < X.length
        · exact .inr ⟨by omega, by omega, by simp; omega, by simp; omega, by omega⟩
        · exact .inl ⟨by simp; omega, by simp; omega, by omega⟩
      clear R F hvj HI I0
      have stops : (decide ((0 : Int) < j) = false ∧ decide (0 < j) = false ∧ putStop stop high l.length j = stop) ∨ ((0 : Int) < j ∧ 0 < j ∧ (high : Int) ≤ (l.length : Int) + j ∧ high ≤ l.length + j ∧ putStop stop high l.length j = true) ∨ ((0 : Int) < j ∧ 0 < j ∧ (l.length : Int) + j < high ∧ l.length + j < high ∧ putStop stop high l.length j = stop) := by
        unfold putStop
        by_cases h0 : 0 < j
        · by_cases hh : high ≤ l.length + j
          · exact .inr (.inl ⟨by omega, h0, by omega, hh, by simp [h0, hh]⟩)
          · exact .inr (.inr ⟨by omega, h0, by omega, by omega, by simp [hh]⟩)
        · exact .inl ⟨by simp; omega, by simp; omega, by simp [h0]⟩
      rcases ways with ⟨q, q1, q2⟩ | ⟨q, q1, q2, q3, q4⟩ <;> rcases stops with ⟨s1, s4, s2⟩ | ⟨s1, s4, s3, s5, s2⟩ | ⟨s1, s4, s3, s5, s2⟩
      all_goals
        have S2 := hide s2
        clear s2
        go_wp2_with fail
        go_quiet (fail)
        go_wp2_with fail
        go_quiet (fail)
        go_wp2
        go_ret
        refine ⟨rfl, ?_⟩
        rw [S2.out]
        first
        | exact FIN.out _ _ HR.out.hd ⟨rfl, rfl, rfl, Nat.le_refl _, fun _ _ _ => rfl⟩
        | exact FIN.out _ _ (hp_set HR.out.hd 4 (.bool true)) ⟨rfl, rfl, rfl, by simp, fun k _ hk => hp_set_other _ _ _ _ _ hk⟩
end Go.Proofs.Ytglhoihiaflmgab
