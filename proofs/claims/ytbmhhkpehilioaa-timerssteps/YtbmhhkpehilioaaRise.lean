/- rise brings what lies at a place of a heap up to where it belongs. -/
import Derived.Test.YtbmhhkpehilioaaBase
namespace Go.Proofs.Ytbmhhkpehilioaa
open Go.ChangeShapes Go.WideShapes Go.ChangeAt Go.RowKit

structure HRow (w wr : World) (g : Nat) (l l' : List Nat) (rest : List Value) : Prop where
  perm : l'.Perm l
  fr : Fr (fun k => k = g) w wr
  row : wr.heap[g]? = some (.cells (is l' rest) 3 (0, 0))

theorem HRow.refl {w : World} {g : Nat} {l : List Nat} {rest : List Value} (h : w.heap[g]? = some (.cells (is l rest) 3 (0, 0))) : HRow w w g l l rest := ⟨List.Perm.refl _, Fr.refl _ _, h⟩
theorem HRow.len {w wr : World} {g : Nat} {l l' : List Nat} {rest : List Value} (h : HRow w wr g l l' rest) : l'.length = l.length := h.perm.length_eq
theorem HRow.cell {w wr : World} {g : Nat} {l l' : List Nat} {rest : List Value} (h : HRow w wr g l l' rest) (i : Nat) (hi : i < l.length) : wr.cell? ⟨g, i, none⟩ = some (.int .i64 (gt l' i : Int)) := by
  rw [cell_of h.row, is_at l' rest i (by rw [h.len]; exact hi)]
theorem HRow.fz {w wr : World} {g : Nat} {l l' : List Nat} {rest : List Value} (h : HRow w wr g l l' rest) (i : Nat) : wr.frozen? ⟨g, i, none⟩ = false := frozen_of h.row i
theorem HRow.drewN {w wr : World} {g : Nat} {l l' : List Nat} {rest : List Value} (h : HRow w wr g l l' rest) (n : Nat) : HRow w (wr.drewN n) g l l' rest := ⟨h.perm, h.fr.trans (Fr.drewN (fun k => k = g) wr n) (fun _ _ x => x), h.row⟩
theorem HRow.cl {w wr W : World} {g : Nat} {l l' : List Nat} {rest : List Value} (h : HRow w wr g l l' rest) (hW : Cl wr W) : HRow w W g l l' rest := ⟨h.perm, h.fr.trans (hW.out.mono (T := fun k => k = g) (fun _ _ x => x.elim)) (fun _ _ x => x), hW.out.hd (fun x => x) h.row⟩
theorem HRow.swap {w wr : World} {g : Nat} {l l' : List Nat} {rest : List Value} (h : HRow w wr g l l' rest) (i j : Nat) (hi : i < l.length) (hj : j < l.length) :
    HRow w ((wr.setCell ⟨g, i, none⟩ (.int .i64 (gt l' j : Int))).setCell ⟨g, j, none⟩ (.int .i64 (gt l' i : Int))) g l (swp l' i j) rest := by
  have e := h.len
  refine ⟨(swp_perm l' i j (by omega) (by omega)).trans h.perm, h.fr.trans ((Fr.set wr g i _).trans (Fr.set _ g j _) (fun _ _ x => x)) (fun _ _ x => x), ?_⟩
  have h1 := hp_set (hp_set h.row i (.int .i64 (gt l' j : Int))) j (.int .i64 (gt l' i : Int))
  rw [is_set l' rest i _ (by omega), is_set _ rest j _ (by simp; omega)] at h1
  exact h1

theorem Told.at {w wr : World} {g : Nat} {r : Nat → Int} {l l' : List Nat} {rest : List Value} {f : FuncId} {first : List Value} (h : Told w (fun k => k = g) r l f first) (H : HRow w wr g l l' rest) (i j : Nat) (hi : i < l.length) (hj : j < l.length) {W : World} (hW : Cl wr W) :
    Calls Try.prog f (first ++ [Value.int .i64 (gt l' i : Int), Value.int .i64 (gt l' j : Int)]).toArray W fun e W' => e = .returned (.bool (decide (r (gt l' i) < r (gt l' j)))) ∧ Cl wr W' :=
  (h W (H.cl hW).fr _ _ (H.perm.subset (gt_mem l' i (by rw [H.len]; exact hi))) (H.perm.subset (gt_mem l' j (by rw [H.len]; exact hj)))).mono (fun _ _ h => ⟨h.1, hW.trans h.2⟩)

set_option maxHeartbeats 1000000 in
theorem rise_any {w : World} {g cap : Nat} (r : Nat → Int) (rest : List Value) (l : List Nat) (p : Nat) (cmp : Value) (hrow : w.heap[g]? = some (.cells (is l rest) 3 (0, 0))) (hp : p < l.length) (hl : l.length ≤ 8192)
    (hc : Cmp w (fun k => k = g) r l cmp) (hi : RiseInv r l p) :
    Calls Try.prog 70 #[.slice (some ⟨g, 0, none⟩) l.length cap, .int .i64 (p : Int), cmp] w fun e w' => e = .returned (.tuple #[]) ∧ ∃ l', HRow w w' g l l' rest ∧ Hp r l' := by
  have H0 : Hid (HRow w w g l l rest ∧ RiseInv r l p) := hide ⟨HRow.refl hrow, hi⟩
  clear hrow hi
  cases hc
  case' lower h => skip
  case' ahead q h => skip
  all_goals
    have HC := hide h
    clear h
    go_enter Try.func70, Try.ntmps70
    go_wp2_with fail
    go_loopw [1] (fun v wr => ∃ (k : Nat) (l' : List Nat), v = .int .i64 (k : Int) ∧ k < l.length ∧ Hid (HRow w wr g l l' rest ∧ RiseInv r l' k)) (fun v _ => (intOf v).toNat)
    case atStart => exact ⟨p, l, rfl, hp, H0⟩
    case round =>
      clear H0 hp
      obtain ⟨k, l', rfl, hk, HH⟩ := hrel
      by_cases h0 : k = 0
      · subst h0
        go_wp2
        go_end0
        exact ⟨rfl, l', HH.out.1, rise_stop HH.out.2 (fun x => by omega)⟩
      · obtain ⟨j, Hj⟩ : ∃ j, Hid (j = (k - 1) / 2) := ⟨_, hide rfl⟩
        have hj : j < l.length := by have := Hj.out; omega
        have hjk : j < k := by have := Hj.out; omega
        have hq : Int.tdiv ((k : Int) - 1) 2 = (j : Int) := by rw [Hj.out, Int.tdiv_eq_ediv_of_nonneg (by omega)]; omega
        have c1 := HH.out.1.cell k hk
        have c2 := HH.out.1.cell j hj
        have z1 := HH.out.1.fz k
        have z2 := HH.out.1.fz j
        have hk0 : (0 : Int) < k := by omega
        have HT := hide (fun W (hW : Cl wr W) => HC.out.at HH.out.1 k j hk hj hW)
        by_cases hlt : r (gt l' k) < r (gt l' j)
        all_goals
          have HT2 := HT.out
          first
          | rw [decide_eq_true hlt] at HT2
          | rw [decide_eq_false hlt] at HT2
          have HL := hide hlt
          have HT := hide HT2
          obtain ⟨x, Hx⟩ : ∃ x, Hid (gt l' k = x) := ⟨_, hide rfl⟩
          obtain ⟨y, Hy⟩ : ∃ y, Hid (gt l' j = y) := ⟨_, hide rfl⟩
          rw [Hx.out] at c1
          rw [Hy.out] at c2
          rw [Hx.out, Hy.out] at HT
          clear HT2 hlt
          go_wp2_with fail
          refine wp_region_cl (by kernel_rfl) (by kernel_rfl) ?_
          refine cl_move _ rfl rfl ?_
          simp only [Act.put, List.setIfInBounds_toArray, List.set_cons_zero, List.set_cons_succ]
          refine cl_move _ rfl rfl ?_
          simp only [Act.put, List.setIfInBounds_toArray, List.set_cons_zero, List.set_cons_succ]
          refine cl_move _ rfl rfl ?_
          simp only [Act.put, List.setIfInBounds_toArray, List.set_cons_zero, List.set_cons_succ]
          refine cl_val (v := ?_) rfl (fun W hW => ?_) ?_
          rotate_left
          · unfold Oper.quietAt; go_simp; try with_reducible rfl
          simp only [Act.put, List.setIfInBounds_toArray, List.set_cons_zero, List.set_cons_succ]
          refine cl_val (v := ?_) rfl (fun W hW => ?_) ?_
          rotate_left
          · have l0 := hW.cell c1; unfold Oper.quietAt; go_simp; try with_reducible rfl
          simp only [Act.put, List.setIfInBounds_toArray, List.set_cons_zero, List.set_cons_succ]
          refine cl_move _ rfl rfl ?_
          simp only [Act.put, List.setIfInBounds_toArray, List.set_cons_zero, List.set_cons_succ]
          refine cl_move _ rfl rfl ?_
          simp only [Act.put, List.setIfInBounds_toArray, List.set_cons_zero, List.set_cons_succ]
          refine cl_val (v := ?_) rfl (fun W hW => ?_) ?_
          rotate_left
          · unfold Oper.quietAt; go_simp; try with_reducible rfl
          simp only [Act.put, List.setIfInBounds_toArray, List.set_cons_zero, List.set_cons_succ]
          refine cl_val (v := ?_) rfl (fun W hW => ?_) ?_
          rotate_left
          · have l0 := hW.cell c2; unfold Oper.quietAt; go_simp; try with_reducible rfl
          simp only [Act.put, List.setIfInBounds_toArray, List.set_cons_zero, List.set_cons_succ]
          refine cl_val (v := ?_) rfl (fun W hW => ?_) ?_
          rotate_left
          · unfold Oper.quietAt; go_simp; exact HT.out W hW
          simp only [Act.put, List.setIfInBounds_toArray, List.set_cons_zero, List.set_cons_succ]
          refine cl_val (v := ?_) rfl (fun W hW => ?_) ?_
          rotate_left
          · unfold Oper.quietAt; go_simp; try with_reducible rfl
          simp only [Act.put, List.setIfInBounds_toArray, List.set_cons_zero, List.set_cons_succ]
          refine wpQuiet_nil ?_
          intro wx Hwx
          have HX := hide Hwx
          have d1 := Hwx.cell c1
          have d2 := Hwx.cell c2
          have y1 := (HH.out.1.cl Hwx).fz k
          have y2 := (HH.out.1.cl Hwx).fz j
          clear Hwx c1 c2 z1 z2
          go_wp2_with fail
        · go_region
          go_wp2_with fail
          go_roundw
          case rel =>
            refine ⟨j, swp l' k j, rfl, hj, hide ⟨?_, ?_⟩⟩
            · have := ((HH.out.1.cl HX.out).drewN 1).swap k j hk hj
              rw [Hx.out, Hy.out] at this
              exact this
            · have := rise_step HH.out.2 (by omega) (by rw [HH.out.1.len]; exact hk) (by have := Hj.out; subst this; exact HL.out)
              have e := Hj.out
              subst e
              exact this
          case measure => simp [intOf]; omega
        · refine bodyPost_ret (results_none rfl _ _ _) rfl ?_
          exact ⟨rfl, l', HH.out.1.cl HX.out, rise_stop HH.out.2 (fun _ => by have e := Hj.out; subst e; have := HL.out; omega)⟩
end Go.Proofs.Ytbmhhkpehilioaa
