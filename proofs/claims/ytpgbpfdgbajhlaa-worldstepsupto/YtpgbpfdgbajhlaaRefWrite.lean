/- The document's own world: what is written. -/
import Derived.Test.YtpgbpfdgbajhlaaRefRead
import Derived.Deep.RegionHeld3
namespace Go.Proofs.Ytpgbpfdgbajhlaa
open Go.ChangeShapes Go.WideShapes Go.ChangeAt Go.RowKit

def wrote (x : Cn) (X : List Int) (j : Nat) : Cn := { x with sent := x.sent ++ X.take j, room := x.room - j }
theorem set_set (S : List Cn) (i : Nat) (x y : Cn) : (S.set i x).set i y = S.set i y := by simp

section
variable {W : World} {d : Nat} {S : List Cn} {dr : List Int} {own : Nat → Option Tag} {lv : Value} {lg : Option Nat} {px : Nat → Ph} {dv : Value} {dg : Option Nat} {k : Int} {i : Nat} {x : Cn}

set_option maxRecDepth 20000 in
set_option maxHeartbeats 4000000 in
theorem rwrite_yes (h : XObj W d S dr own lv lg px dv dg) (hS : SOk S dr) (hx : S[i]? = some x) (hop : x.isOpen = true) {a' : Option Addr} {cap' : Nat} {X : List Int} (hX0 : Sl W .u8 (.slice a' X.length cap') X) (hXo : 0 < X.length → ∀ b off n c, (.slice a' X.length cap' : Value) = .slice (some ⟨b, off, none⟩) n c → own b = none) (hl : X.length ≤ 1048576) (hls : x.sent.length ≤ 1048576) :
    Calls Try.prog 33 #[.pointer (some ⟨d, 0, none⟩), .int .i64 x.num, .slice a' X.length cap'] W fun e W' => e = .returned (.tuple #[.int .i64 (min (X.length : Int) x.room), .int .i64 0]) ∧ ∃ own', Xd W' d (S.set i (wrote x X (min (X.length : Int) x.room).toNat)) dr own' ∧ Kp own own' W W' := by
  have hA := hide (rat_yes h hS hx hop)
  have hsz := hS.size
  have hr := hS.rm x (List.mem_of_getElem? hx)
  have hr0 := hr.1
  have hr1 := hr.2
  have hi := (List.getElem?_eq_some_iff.1 hx).1
  have HL := hide h
  have Hx := hide hx
  have HXo := hide hXo
  have HC := hide (Sl.cells' hX0)
  have HLow := hide h.low
  clear h hS hx hX0 hXo hr
  go_enter Try.func33, Try.ntmps33
  go_wp2_with fail
  refine hA.out.mono ?_
  rintro e w1 ⟨rfl, F1⟩
  have I0 : Hid (∃ own', Xd w1 d (S.set i (wrote x X 0)) dr own' ∧ Kp own own' W w1) := hide ⟨own, by
    have e : S.set i (wrote x X 0) = S := by
      have : wrote x X 0 = x := by simp [wrote]
      rw [this]
      exact List.ext_getElem? (fun j => by
        rw [List.getElem?_set]
        by_cases e : i = j
        · subst e; rw [if_pos rfl, if_pos hi, Hx.out]
        · rw [if_neg e])
    rw [e]
    exact ⟨lv, lg, px, dv, dg, xfr HL.out F1⟩, kfr F1⟩
  clear F1 HL hA
  go_wp2_with fail
  go_loopw [9] (fun v wr => ∃ j : Nat, j ≤ X.length ∧ (j : Int) ≤ x.room ∧ v = .int .i64 (j : Int) ∧ Hid (∃ own', Xd wr d (S.set i (wrote x X j)) dr own' ∧ Kp own own' W wr)) (fun v _ => X.length - (intOf v).toNat)
  case atStart => exact ⟨0, Nat.zero_le _, by omega, rfl, I0⟩
  case round =>
    clear I0
    obtain ⟨j, hj, hjr, rfl, HI⟩ := hrel
    obtain ⟨own', ⟨lv', lg', px', dv', dg', hX⟩, hK⟩ := HI.out
    have hxi : (S.set i (wrote x X j))[i]? = some (wrote x X j) := by rw [List.getElem?_set, if_pos rfl, if_pos hi]
    have c0 := hX.c0
    have hE := hX.ent i _ hxi
    obtain ⟨sa, sc, es, _⟩ := hE.srow.sl
    obtain ⟨g, cap2, hlg, hv, hcap, hg, d0, d1, d2, d3, d4, d5, fz⟩ := hX.row.at hxi
    have hv2 : lv' = .slice (some ⟨g, 0, none⟩) S.length cap2 := by rw [hv, List.length_set]
    have hcap' : S.length ≤ cap2 := by simpa using hcap
    rw [hv2] at c0
    rw [es] at d4
    have f4 := fz 4 (by omega)
    have f5 := fz 5 (by omega)
    have d5' : wr.cell? ⟨g, i * 6 + 5, none⟩ = some (.int .i64 (x.room - j)) := d5
    by_cases hlt : j < X.length
    · by_cases hrm : (j : Int) < x.room
      · obtain ⟨qb, qo, rfl, cq⟩ := HC.out j hlt
        have hqb := World.block_lt_of_cell? _ _ cq
        have cq1 : wr.cell? ⟨qb, qo + j, none⟩ = some (.int .u8 (X.getD j 0)) := (World.cell?_of_block (a := ⟨qb, qo + j, none⟩) (hK.fr.block qb hqb (fun e => e (HXo.out (by omega) qb qo _ _ rfl)))).trans cq
        obtain ⟨y, Hy⟩ : ∃ y, Hid (X.getD j 0 = y) := ⟨_, hide rfl⟩
        rw [Hy.out] at cq1
        obtain ⟨wA, hwA⟩ : ∃ wA, wA = wr.alloc (.cells #[.int .u8 y] 5) := ⟨_, rfl⟩
        have hAf : Fr (fun _ => False) wr wA := by rw [hwA]; exact Fr.alloc _ _ _
        have hOne : Sl wA.drew .u8 (.slice (some ⟨wr.heap.size, 0, none⟩) 1 1) [y] := by rw [hwA]; exact (Sl.oneB wr y).keep (fun _ _ _ => rfl)
        have hlen : (wrote x X j).sent.length ≤ 2097152 := by simp [wrote]; omega
        have hrd : Row wA.drew .u8 (.slice sa (wrote x X j).sent.length sc) (wrote x X j).sent (px' i).sg := by
          rw [← es]
          exact hE.srow.frame hAf.size (fun b e => hAf.block b (hX.low _ _ (hE.stag b e)) (fun e => e))
        obtain ⟨ti, hi5, hz, h1s, hb⟩ := info5
        obtain ⟨v1, W2, go', hrun, hR, hgr, hgo⟩ := append_row wA.drew 30 30 5 .u8 _ ti Try.underlying30 hi5 hz h1s rfl _ _ _ _ _ hrd hOne (by rw [hb]; simp only [List.length_cons, List.length_nil]; omega) (by omega)
        obtain ⟨a1, n1, d1', rfl⟩ := hR.shape
        have hFr : Fr (fun b => own' b = some (.st i)) wr W2 := ((hAf.mono (fun _ _ e => e.elim)).trans (Fr.drew (fun _ => False) wA) (fun _ _ e => e.elim)).trans ((Fr.grown hgr).mono (fun b _ e => hE.stag b e)) (fun _ _ e => e)
        have hgo2 : go' = (px' i).sg ∨ ∃ b, go' = some b ∧ wr.heap.size ≤ b := hgo.imp id (fun ⟨b, e1, e2⟩ => ⟨b, e1, Nat.le_trans hAf.size e2⟩)
        have k0 : W2.cell? ⟨d, 0, none⟩ = some (.slice (some ⟨g, 0, none⟩) S.length cap2) := (World.cell?_of_block (a := ⟨d, 0, none⟩) (hFr.block d (lt_of hX.blk) (fun e => by rw [hX.tag] at e; cases e))).trans c0
        have hgb : W2.heap[g]? = wr.heap[g]? := hFr.block g hg (fun e => by rw [hX.ltag g hlg] at e; cases e)
        have k4 : W2.cell? ⟨g, i * 6 + 4, none⟩ = some (.slice sa (wrote x X j).sent.length sc) := (World.cell?_of_block (a := ⟨g, i * 6 + 4, none⟩) hgb).trans d4
        have kf4 : W2.frozen? ⟨g, i * 6 + 4, none⟩ = false := (World.frozen?_of_block (a := ⟨g, i * 6 + 4, none⟩) hgb).trans f4
        have k5 : W2.cell? ⟨g, i * 6 + 5, none⟩ = some (.int .i64 (x.room - j)) := (World.cell?_of_block (a := ⟨g, i * 6 + 5, none⟩) hgb).trans d5'
        have kf5 : W2.frozen? ⟨g, i * 6 + 5, none⟩ = false := (World.frozen?_of_block (a := ⟨g, i * 6 + 5, none⟩) hgb).trans f5
        have fin := hide (Xd.sent hX hlg hxi hFr hR hgo2 hE.stag)
        have Hrun := hide hrun
        have hdg : d ≠ g := fun e => by have h1 := hX.tag; rw [e, hX.ltag g hlg] at h1; cases h1
        have hqn := hK.no qb hqb (HXo.out (by omega) qb qo _ _ rfl)
        have hqg : qb ≠ g := fun e => by rw [e, hX.ltag g hlg] at hqn; cases hqn
        have hqw : qb < wr.heap.size := Nat.lt_of_lt_of_le hqb hK.fr.size
        have kq : W2.cell? ⟨qb, qo + j, none⟩ = some (.int .u8 y) := (World.cell?_of_block (a := ⟨qb, qo + j, none⟩) (hFr.block qb hqw (fun e => by rw [hqn] at e; cases e))).trans cq1
        have HK := hide hK
        obtain ⟨m4, Hm4⟩ : ∃ m, Hid ((wrote x X j).sent.length = m) := ⟨_, hide rfl⟩
        rw [Hm4.out] at d4 k4 Hrun
        rw [hwA] at Hrun
        have kA0 : (wr.alloc (.cells #[.int .u8 y] 5)).cell? ⟨d, 0, none⟩ = some (.slice (some ⟨g, 0, none⟩) S.length cap2) := (Fr.alloc (fun _ => False) wr _).cellR c0
        have kA4 : (wr.alloc (.cells #[.int .u8 y] 5)).cell? ⟨g, i * 6 + 4, none⟩ = some (.slice sa m4 sc) := (Fr.alloc (fun _ => False) wr _).cellR d4
        clear hX hv hv2 HI hE hrd hOne hi5 hz h1s hb hrun hR hgr hgo hgo2 hFr hgb d0 d1 d2 d3 d5 fz hK es cq HC hwA hAf wA hcap
        have kAq : (wr.alloc (.cells #[.int .u8 y] 5)).cell? ⟨qb, qo + j, none⟩ = some (.int .u8 y) := (Fr.alloc (fun _ => False) wr _).cellR cq1
        have kS0 : (W2.setCell ⟨g, i * 6 + 4, none⟩ (.slice a1 n1 d1')).cell? ⟨d, 0, none⟩ = some (.slice (some ⟨g, 0, none⟩) S.length cap2) := (World.cell?_setCell_other _ _ _ _ (fun e => hdg (congrArg Addr.block e).symm)).trans k0
        have kSq : (W2.setCell ⟨g, i * 6 + 4, none⟩ (.slice a1 n1 d1')).cell? ⟨qb, qo + j, none⟩ = some (.int .u8 y) := (World.cell?_setCell_other _ _ _ _ (fun e => hqg (congrArg Addr.block e).symm)).trans kq
        have k5S : (W2.setCell ⟨g, i * 6 + 4, none⟩ (.slice a1 n1 d1')).cell? ⟨g, i * 6 + 5, none⟩ = some (.int .i64 (x.room - j)) := (World.cell?_setCell_other _ _ _ _ (addr_ne (by omega))).trans k5
        have f5S : (W2.setCell ⟨g, i * 6 + 4, none⟩ (.slice a1 n1 d1')).frozen? ⟨g, i * 6 + 5, none⟩ = false := by rw [World.frozen?_setCell]; exact kf5
        have fin2 : Hid (∃ own2, Xd ((W2.setCell ⟨g, i * 6 + 4, none⟩ (.slice a1 n1 d1')).setCell ⟨g, i * 6 + 5, none⟩ (.int .i64 (x.room - j - 1))).drew d (S.set i (wrote x X (j + 1))) dr own2 ∧ Kp own own2 W ((W2.setCell ⟨g, i * 6 + 4, none⟩ (.slice a1 n1 d1')).setCell ⟨g, i * 6 + 5, none⟩ (.int .i64 (x.room - j - 1))).drew) := hide (by
          obtain ⟨⟨lv2, lg2, px2, dv2, dg2, hX3⟩, hK3⟩ := fin.out
          have hxi3 : ((S.set i (wrote x X j)).set i { wrote x X j with sent := (wrote x X j).sent ++ [y] })[i]? = some { wrote x X j with sent := (wrote x X j).sent ++ [y] } := by rw [List.getElem?_set, if_pos rfl, if_pos (by simpa using hi)]
          obtain ⟨g2, cap3, hlg2, hv3, -⟩ := hX3.row.at hxi3
          have hc := hX3.c0
          rw [kS0, hv3] at hc
          have eg : g = g2 := by
            simp only [Option.some.injEq, Value.slice.injEq, Addr.mk.injEq] at hc
            exact hc.1.1
          subst eg
          have h4 := Xd.cell hX3 hlg2 (x' := wrote x X (j + 1)) hxi3 5 (by omega) (.int .i64 (x.room - j - 1)) (by
            simp only [xcells, wrote, List.set_cons_zero, List.set_cons_succ]
            rw [show x.room - ((j + 1 : Nat) : Int) = x.room - j - 1 by omega]) rfl (by
            simp only [wrote]
            rw [List.append_assoc, ← Hy.out, take_more hlt])
          rw [set_set, set_set] at h4
          exact ⟨_, h4.1.frame (Nat.le_refl _) (fun _ _ _ => rfl), ((HK.out.trans hK3).trans h4.2).trans ⟨Fr.drew _ _, fun _ _ e => e⟩⟩)
        clear fin HK
        go_wp2_with fail
        refine wp_region_noPanic ?_
        refine wp_region_held_drew (S := fun W => W.cell? ⟨d, 0, none⟩ = some (.slice (some ⟨g, 0, none⟩) S.length cap2) ∧ W.cell? ⟨qb, qo + j, none⟩ = some (.int .u8 y)) (by kernel_rfl) ⟨c0, cq1⟩ (fun hHeld => ?_)
        refine wpAnyH_take (i := 0) (v := ?_) rfl (by kernel_rfl) (by kernel_rfl) (by kernel_rfl) (fun _ _ _ h => h) (Or.inl ⟨by rfl, ?_⟩) (by assumption) ?_
        rotate_left
        · (intro w hSw; (try dsimp only at hSw); go_simp; try with_reducible rfl)
        simp only [List.getElem_toArray, List.getElem_cons_zero, Act.put, List.setIfInBounds_toArray, List.set_cons_zero, List.set_cons_succ]
        refine wpAnyH_take (i := 1) (v := ?_) rfl (by kernel_rfl) (by kernel_rfl) (by kernel_rfl) (fun _ _ _ h => h) (Or.inl ⟨by rfl, ?_⟩) (by assumption) ?_
        rotate_left
        · (intro w hSw; (try dsimp only at hSw); go_simp; try with_reducible rfl)
        simp only [List.getElem_toArray, List.getElem_cons_zero, List.getElem_cons_succ, Act.put, List.setIfInBounds_toArray, List.set_cons_zero, List.set_cons_succ]
        refine wpAnyH_take (i := 2) (v := ?_) rfl (by kernel_rfl) (by kernel_rfl) (by kernel_rfl) (fun _ _ _ h => h) (Or.inl ⟨by rfl, ?_⟩) (by assumption) ?_
        rotate_left
        · (intro w hSw; (try dsimp only at hSw); go_simp; try with_reducible rfl)
        simp only [List.getElem_toArray, List.getElem_cons_zero, List.getElem_cons_succ, Act.put, List.setIfInBounds_toArray, List.set_cons_zero, List.set_cons_succ]
        refine wpAnyH_take (i := 3) (v := ?_) rfl (by kernel_rfl) (by kernel_rfl) (by kernel_rfl) (fun _ _ _ h => h) (Or.inl ⟨by rfl, ?_⟩) (by assumption) ?_
        rotate_left
        · (intro w hSw; (try dsimp only at hSw); go_simp; try with_reducible rfl)
        simp only [List.getElem_toArray, List.getElem_cons_zero, List.getElem_cons_succ, Act.put, List.setIfInBounds_toArray, List.set_cons_zero, List.set_cons_succ]
        refine wpAnyH_take (i := 4) (v := ?_) rfl (by kernel_rfl) (by kernel_rfl) (by kernel_rfl) (fun _ _ _ h => h) (Or.inl ⟨by rfl, ?_⟩) (by assumption) ?_
        rotate_left
        · (intro w hSw; (try dsimp only at hSw); go_simp; try with_reducible rfl)
        simp only [List.getElem_toArray, List.getElem_cons_zero, List.getElem_cons_succ, Act.put, List.setIfInBounds_toArray, List.set_cons_zero, List.set_cons_succ]
        refine wpAnyH_take (i := 5) (v := ?_) rfl (by kernel_rfl) (by kernel_rfl) (by kernel_rfl) (fun _ _ _ h => h) (Or.inl ⟨by rfl, ?_⟩) (by assumption) ?_
        rotate_left
        · (intro w hSw; (try dsimp only at hSw); go_simp; try with_reducible rfl)
        simp only [List.getElem_toArray, List.getElem_cons_zero, List.getElem_cons_succ, Act.put, List.setIfInBounds_toArray, List.set_cons_zero, List.set_cons_succ]
        refine wpAnyH_take (i := 6) (v := ?_) rfl (by kernel_rfl) (by kernel_rfl) (by kernel_rfl) (fun _ _ _ h => h) (Or.inl ⟨by rfl, ?_⟩) (by assumption) ?_
        rotate_left
        · (intro w hSw; (try dsimp only at hSw); go_simp; try with_reducible rfl)
        simp only [List.getElem_toArray, List.getElem_cons_zero, List.getElem_cons_succ, Act.put, List.setIfInBounds_toArray, List.set_cons_zero, List.set_cons_succ]
        refine wpAnyH_take (i := 7) (v := ?_) rfl (by kernel_rfl) (by kernel_rfl) (by kernel_rfl) (fun _ _ _ h => h) (Or.inl ⟨by rfl, ?_⟩) (by assumption) ?_
        rotate_left
        · (intro w hSw; (try dsimp only at hSw); go_simp; try with_reducible rfl)
        simp only [List.getElem_toArray, List.getElem_cons_zero, List.getElem_cons_succ, Act.put, List.setIfInBounds_toArray, List.set_cons_zero, List.set_cons_succ]
        refine wpAnyH_take (i := 8) (v := ?_) rfl (by kernel_rfl) (by kernel_rfl) (by kernel_rfl) (fun _ _ _ h => h) (Or.inl ⟨by rfl, ?_⟩) (by assumption) ?_
        rotate_left
        · (intro w hSw; (try dsimp only at hSw); go_simp; try with_reducible rfl)
        simp only [List.getElem_toArray, List.getElem_cons_zero, List.getElem_cons_succ, Act.put, List.setIfInBounds_toArray, List.set_cons_zero, List.set_cons_succ]
        refine wpAnyH_take (i := 9) (v := ?_) rfl (by kernel_rfl) (by kernel_rfl) (by kernel_rfl) (fun _ _ _ h => h) (Or.inl ⟨by rfl, ?_⟩) (by assumption) ?_
        rotate_left
        · (intro w hSw; (try dsimp only at hSw); go_simp; try with_reducible rfl)
        simp only [List.getElem_toArray, List.getElem_cons_zero, List.getElem_cons_succ, Act.put, List.setIfInBounds_toArray, List.set_cons_zero, List.set_cons_succ]
        refine wpAnyH_take (i := 10) (v := ?_) rfl (by kernel_rfl) (by kernel_rfl) (by kernel_rfl) (fun _ _ _ h => h) (Or.inl ⟨by rfl, ?_⟩) (by assumption) ?_
        rotate_left
        · (intro w hSw; (try dsimp only at hSw); go_simp; try with_reducible rfl)
        simp only [List.getElem_toArray, List.getElem_cons_zero, List.getElem_cons_succ, Act.put, List.setIfInBounds_toArray, List.set_cons_zero, List.set_cons_succ]
        refine wpAnyH_take (i := 11) (v := ?_) rfl (by kernel_rfl) (by kernel_rfl) (by kernel_rfl) (fun _ _ _ h => h) (Or.inl ⟨by rfl, ?_⟩) (by assumption) ?_
        rotate_left
        · (intro w hSw; (try dsimp only at hSw); go_simp; try with_reducible rfl)
        simp only [List.getElem_toArray, List.getElem_cons_zero, List.getElem_cons_succ, Act.put, List.setIfInBounds_toArray, List.set_cons_zero, List.set_cons_succ]
        refine wpAnyH_take (i := 13) (v := ?_) rfl (by kernel_rfl) (by kernel_rfl) (by kernel_rfl) (fun _ _ _ h => h) (Or.inl ⟨by rfl, ?_⟩) (by assumption) ?_
        rotate_left
        · (intro w hSw; (try dsimp only at hSw); go_simp; try with_reducible rfl)
        simp only [List.getElem_toArray, List.getElem_cons_zero, List.getElem_cons_succ, Act.put, List.setIfInBounds_toArray, List.set_cons_zero, List.set_cons_succ]
        refine wpAnyH_take (i := 14) (v := ?_) rfl (by kernel_rfl) (by kernel_rfl) (by kernel_rfl) (fun _ _ _ h => h) (Or.inl ⟨by rfl, ?_⟩) (by assumption) ?_
        rotate_left
        · (intro w hSw; (try dsimp only at hSw); go_simp; try with_reducible rfl)
        simp only [List.getElem_toArray, List.getElem_cons_zero, List.getElem_cons_succ, Act.put, List.setIfInBounds_toArray, List.set_cons_zero, List.set_cons_succ]
        refine wpAnyH_take (i := 15) (v := ?_) rfl (by kernel_rfl) (by kernel_rfl) (by kernel_rfl) (fun _ _ _ h => h) (Or.inl ⟨by rfl, ?_⟩) (by assumption) ?_
        rotate_left
        · (intro w hSw; (try dsimp only at hSw); go_simp; try with_reducible rfl)
        simp only [List.getElem_toArray, List.getElem_cons_zero, List.getElem_cons_succ, Act.put, List.setIfInBounds_toArray, List.set_cons_zero, List.set_cons_succ]
        refine wpAnyH_take (i := 16) (v := ?_) rfl (by kernel_rfl) (by kernel_rfl) (by kernel_rfl) (fun _ _ _ h => h) (Or.inl ⟨by rfl, ?_⟩) (by assumption) ?_
        rotate_left
        · (intro w hSw; (try dsimp only at hSw); go_simp; try with_reducible rfl)
        simp only [List.getElem_toArray, List.getElem_cons_zero, List.getElem_cons_succ, Act.put, List.setIfInBounds_toArray, List.set_cons_zero, List.set_cons_succ]
        refine wpAnyH_ready (rs := [12, 17]) (by kernel_rfl) (by simp) ?_
        refine AllReadyH.cons rfl (fun K hK => ?_) (AllReadyH.cons rfl (fun K hK => ?_) AllReadyH.nil)
        · go_simp
          refine hK.out _ _ ⟨c0, cq1⟩ (fun hHeld => ?_)
          clear hK K
          try simp only [List.getElem_toArray, List.getElem_cons_zero, List.getElem_cons_succ, Act.put, List.setIfInBounds_toArray, List.set_cons_zero, List.set_cons_succ]
          refine wpAnyH_ready (rs := [17]) (by kernel_rfl) (by simp) ?_
          refine AllReadyH.cons rfl (fun K hK => ?_) AllReadyH.nil
          go_simp
          refine hK.out _ _ ⟨kA0, kAq⟩ (fun hHeld => ?_)
          clear hK K
          try simp only [List.getElem_toArray, List.getElem_cons_zero, List.getElem_cons_succ, Act.put, List.setIfInBounds_toArray, List.set_cons_zero, List.set_cons_succ]
          refine wpAnyH_ready (rs := [18]) (by kernel_rfl) (by simp) ?_
          refine AllReadyH.cons rfl (fun K hK => ?_) AllReadyH.nil
          refine step_append_is rfl (.tmp 42) (.tmp 47) 30 rfl (.slice sa m4 sc) (.slice (some ⟨wr.heap.size, 0, none⟩) 1 1) (.slice a1 n1 d1') rfl rfl Hrun ?_
          refine hK.out _ _ ⟨k0, kq⟩ (fun hHeld => ?_)
          clear hK K
          try simp only [List.getElem_toArray, List.getElem_cons_zero, List.getElem_cons_succ, Act.put, List.setIfInBounds_toArray, List.set_cons_zero, List.set_cons_succ]
          refine wpAnyH_take (i := 19) (v := ?_) rfl (by kernel_rfl) (by kernel_rfl) (by kernel_rfl) (fun _ _ _ h => h) (Or.inl ⟨by rfl, ?_⟩) (by assumption) ?_
          rotate_left
          · (intro w hSw; (try dsimp only at hSw); go_simp; try with_reducible rfl)
          simp only [List.getElem_toArray, List.getElem_cons_zero, List.getElem_cons_succ, Act.put, List.setIfInBounds_toArray, List.set_cons_zero, List.set_cons_succ]
          refine wpAnyH_take (i := 20) (v := ?_) rfl (by kernel_rfl) (by kernel_rfl) (by kernel_rfl) (fun _ _ _ h => h) (Or.inl ⟨by rfl, ?_⟩) (by assumption) ?_
          rotate_left
          · (intro w hSw; (try dsimp only at hSw); go_simp; try with_reducible rfl)
          simp only [List.getElem_toArray, List.getElem_cons_zero, List.getElem_cons_succ, Act.put, List.setIfInBounds_toArray, List.set_cons_zero, List.set_cons_succ]
          refine wpAnyH_ready (rs := [21]) (by kernel_rfl) (by simp) ?_
          refine AllReadyH.cons rfl (fun K hK => ?_) AllReadyH.nil
          go_simp
          refine hK.out _ _ ⟨kS0, kSq⟩ (fun hHeld => ?_)
          clear hK K
          try simp only [List.getElem_toArray, List.getElem_cons_zero, List.getElem_cons_succ, Act.put, List.setIfInBounds_toArray, List.set_cons_zero, List.set_cons_succ]
          refine wpAnyH_done (by kernel_rfl) ?_ _
          refine NoPanic.normal ?_
          go_wp2_with fail
          go_region
          go_wp2_with fail
          go_roundw
          case rel => exact ⟨j + 1, by omega, by omega, by go_num, fin2⟩
          case measure => simp [intOf]; omega
        · go_simp
          refine hK.out _ _ ⟨kA0, kAq⟩ (fun hHeld => ?_)
          clear hK K
          try simp only [List.getElem_toArray, List.getElem_cons_zero, List.getElem_cons_succ, Act.put, List.setIfInBounds_toArray, List.set_cons_zero, List.set_cons_succ]
          refine wpAnyH_ready (rs := [12]) (by kernel_rfl) (by simp) ?_
          refine AllReadyH.cons rfl (fun K hK => ?_) AllReadyH.nil
          go_simp
          refine hK.out _ _ ⟨kA0, kAq⟩ (fun hHeld => ?_)
          clear hK K
          try simp only [List.getElem_toArray, List.getElem_cons_zero, List.getElem_cons_succ, Act.put, List.setIfInBounds_toArray, List.set_cons_zero, List.set_cons_succ]
          refine wpAnyH_ready (rs := [18]) (by kernel_rfl) (by simp) ?_
          refine AllReadyH.cons rfl (fun K hK => ?_) AllReadyH.nil
          refine step_append_is rfl (.tmp 42) (.tmp 47) 30 rfl (.slice sa m4 sc) (.slice (some ⟨wr.heap.size, 0, none⟩) 1 1) (.slice a1 n1 d1') rfl rfl Hrun ?_
          refine hK.out _ _ ⟨k0, kq⟩ (fun hHeld => ?_)
          clear hK K
          try simp only [List.getElem_toArray, List.getElem_cons_zero, List.getElem_cons_succ, Act.put, List.setIfInBounds_toArray, List.set_cons_zero, List.set_cons_succ]
          refine wpAnyH_take (i := 19) (v := ?_) rfl (by kernel_rfl) (by kernel_rfl) (by kernel_rfl) (fun _ _ _ h => h) (Or.inl ⟨by rfl, ?_⟩) (by assumption) ?_
          rotate_left
          · (intro w hSw; (try dsimp only at hSw); go_simp; try with_reducible rfl)
          simp only [List.getElem_toArray, List.getElem_cons_zero, List.getElem_cons_succ, Act.put, List.setIfInBounds_toArray, List.set_cons_zero, List.set_cons_succ]
          refine wpAnyH_take (i := 20) (v := ?_) rfl (by kernel_rfl) (by kernel_rfl) (by kernel_rfl) (fun _ _ _ h => h) (Or.inl ⟨by rfl, ?_⟩) (by assumption) ?_
          rotate_left
          · (intro w hSw; (try dsimp only at hSw); go_simp; try with_reducible rfl)
          simp only [List.getElem_toArray, List.getElem_cons_zero, List.getElem_cons_succ, Act.put, List.setIfInBounds_toArray, List.set_cons_zero, List.set_cons_succ]
          refine wpAnyH_ready (rs := [21]) (by kernel_rfl) (by simp) ?_
          refine AllReadyH.cons rfl (fun K hK => ?_) AllReadyH.nil
          go_simp
          refine hK.out _ _ ⟨kS0, kSq⟩ (fun hHeld => ?_)
          clear hK K
          try simp only [List.getElem_toArray, List.getElem_cons_zero, List.getElem_cons_succ, Act.put, List.setIfInBounds_toArray, List.set_cons_zero, List.set_cons_succ]
          refine wpAnyH_done (by kernel_rfl) ?_ _
          refine NoPanic.normal ?_
          go_wp2_with fail
          go_region
          go_wp2_with fail
          go_roundw
          case rel => exact ⟨j + 1, by omega, by omega, by go_num, fin2⟩
          case measure => simp [intOf]; omega
      · have ej : (j : Int) = x.room := by omega
        have HX2 := hide (⟨lv', lg', px', dv', dg', hX⟩ : Xd wr d (S.set i (wrote x X j)) dr own')
        have HK := hide hK
        have hz : x.room - (j : Int) = 0 := by omega
        rw [hz] at d5'
        have emin : min (X.length : Int) x.room = (j : Int) := by omega
        have HE := hide emin
        clear emin hX hv hv2 HI hE d0 d1 d2 d3 d5 d4 fz hK es HC hcap hrm hz ej f4 f5
        go_wp2_with fail
        go_ret2
        rw [HE.out, Int.toNat_natCast]
        exact ⟨rfl, own', HX2.out, HK.out⟩
    · have ej : j = X.length := by omega
      subst ej
      have HX2 := hide (⟨lv', lg', px', dv', dg', hX⟩ : Xd wr d (S.set i (wrote x X X.length)) dr own')
      have HK := hide hK
      have HE : Hid (min (X.length : Int) x.room = (X.length : Int)) := hide (by omega)
      clear hX hv hv2 HI hE d0 d1 d2 d3 d5 d4 fz hK es HC hcap f4 f5
      go_wp2_with fail
      go_ret2
      rw [HE.out, Int.toNat_natCast]
      exact ⟨rfl, own', HX2.out, HK.out⟩
end
end Go.Proofs.Ytpgbpfdgbajhlaa
