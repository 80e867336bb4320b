/- The document's set of hosts, brought to a moment and asked. -/
import Derived.Test.YtobkgkcemdocnaaORef
import Derived.Test.YtobkgkcemdocnaaPBcl
namespace Go.Proofs.Ytobkgkcemdocnaa
open Go.ChangeShapes Go.WideShapes Go.ChangeAt Go.RowKit

set_option maxHeartbeats 4000000 in
set_option maxRecDepth 100000 in
theorem rbring_any (w : World) (P : Nat → Prop) (fl bs lo sh la now : Int) (L : List HR) (b g : Nat) (h : Rs fl bs lo sh la L b g w P) (hl : L.length ≤ 16) (hm : mom now = true) :
    Calls Try.prog 24 #[.pointer (some ⟨b, 0, none⟩), .int .i64 now] w fun e w' => ∃ v, e = .returned (.tuple #[v, .int .i64 0]) ∧ Does (Two (Row v (nums (rst (mx la now)) L L.length)) (Rs fl bs lo sh (mx la now) (brS (mx la now) L) b g)) P w w' := by
  have HU := hide (moment_any now w)
  rw [hm] at HU
  have HTAIL : Hid (∀ W1, Does (Rs fl bs lo sh (mx la now) L b g) P w W1 → Does (Two (Row (.slice none 0 0) (nums (rst (mx la now)) L 0)) (Rs fl bs lo sh (mx la now) (upd (mx la now) L 0) b g)) P w W1) := hide (fun W1 x => by rw [upd_none]; exact x.nilrow)
  have Hnn := hide (nums_len (rst (mx la now)) L)
  obtain ⟨c0, c1, c2, c3, c4, c5, f4⟩ := h.1.cB
  obtain ⟨n, Hn⟩ : ∃ n, Hid (L.length = n) := ⟨_, hide rfl⟩
  rw [Hn.out] at c5 hl ⊢
  have hmx : (la < now ∧ mx la now = now) ∨ (¬ la < now ∧ mx la now = la) := by
    by_cases x : la < now
    · exact .inl ⟨x, by unfold mx; rw [if_pos x]⟩
    · exact .inr ⟨x, by unfold mx; rw [if_neg x]⟩
  obtain ⟨m, Hm⟩ : ∃ m, Hid (mx la now = m) := ⟨_, hide rfl⟩
  rw [Hm.out] at HTAIL Hnn hmx ⊢
  clear hm
  rcases hmx with ⟨hx, rfl⟩ | ⟨hx, rfl⟩
  · have T0 := hide (HTAIL.out _ ⟨P, ⟨h.1.at m, h.2⟩, (Fr.set _ _ _ _).mono (fun k _ e => (h.2 k).2 (.inl e)), fun _ hk => .inl hk⟩)
    clear h
    go_enter Try.func24, Try.ntmps24
    go_upto_region 5 with (go_at_call 21; refine HU.out.mono ?_; rintro e w' ⟨rfl, rfl⟩)
    clear c0 c1 c2 c3 c4 c5 f4 HU HTAIL
    generalize w.setCell ⟨b, 4, none⟩ (.int .i64 m) = W1 at *
    obtain ⟨P1, x1⟩ := T0.out.snd_of
    obtain ⟨k0, k1, k2, k3, k4, k5, z4⟩ := x1.1.cB
    rw [upd_len, Hn.out] at k5
    clear x1
    go_wp2_with fail
    clear k0 k1 k2 k3 k4 k5 z4
    go_loopw [6, 27] (fun s v wr => ∃ (i : Nat), i ≤ n ∧ v = .int .i64 (i : Int) ∧ Hid (Does (Two (Row s (nums (rst m) L i)) (Rs fl bs lo sh m (upd m L i) b g)) P w wr)) (fun _ v _ => n - (intOf v).toNat)
    case atStart => exact ⟨0, Nat.zero_le _, rfl, T0⟩
    case round =>
      clear T0
      obtain ⟨i, hi, rfl, HI⟩ := hrel
      obtain ⟨a, cap, rfl, q1, q2⟩ : ∃ a cap, u6 = .slice a (nums (rst m) L i).length cap ∧ (nums (rst m) L i).length ≤ cap ∧ cap ≤ 9223372036854775807 := by obtain ⟨_, x⟩ := HI.out.fst_of; exact x.get
      by_cases hlt : i < n
      · have hli : i < L.length := by rw [Hn.out]; exact hlt
        obtain ⟨P2, x⟩ := HI.out.snd_of
        obtain ⟨g0, g1, g2, g3, g4⟩ := x.1.cG (upd_at hli)
        have HSN := hide (nums_succ (p := rst m) (get_take hli))
        have HUS := hide (upd_set (m := m) hli)
        have HUA := hide (upd_at (m := m) hli)
        have Hr16 := hide (Nat.le_trans (Hnn.out i) (Nat.le_trans hi hl))
        generalize L[i] = r at *
        clear x hli
        obtain ⟨cn, Hcn⟩ : ∃ cn, Hid ((nums (rst m) L i).length = cn) := ⟨_, hide rfl⟩
        rw [Hcn.out] at q1 HI ⊢
        obtain ⟨rh, re, ru, rf, rt⟩ := r
        simp only [Bool.true_xor] at *
        go_upto_region 9 with fail
        have T1 : Hid (Does (Two (Row (.slice a cn cap) (nums (rst m) L i)) (Rs fl bs lo sh m (upd m L i) b g)) P w (wr.alloc (rwO ⟨rh, re, ru, rf, rt⟩))) := hide (HI.out.e (Fr.alloc _ _ _))
        have A1 : (wr.alloc (rwO ⟨rh, re, ru, rf, rt⟩)).heap[wr.heap.size]? = some (rwO ⟨rh, re, ru, rf, rt⟩) := hp_new _ _
        clear g0 g1 g2 g3 g4 HI
        generalize wr.alloc (rwO ⟨rh, re, ru, rf, rt⟩) = W2 at *
        generalize wr.heap.size = ew at *
        have k1 : W2.cell? ⟨ew, 1, none⟩ = some (.bool re) := cell_of A1 1
        have k2 : W2.cell? ⟨ew, 2, none⟩ = some (.int .i64 ru) := cell_of A1 2
        obtain ⟨P2, x⟩ := T1.out.snd_of
        obtain ⟨c0, c1, c2, c3, c4, c5, f4⟩ := x.1.cB
        rw [upd_len, Hn.out] at c5
        clear A1 x
        by_cases hq : re = true ∧ ru ≤ m
        · obtain ⟨rfl, hq2⟩ := hq
          have hr : rst m ⟨rh, true, ru, rf, rt⟩ = true := by unfold rst; simpa using hq2
          have hb : brR m ⟨rh, true, ru, rf, rt⟩ = ⟨rh, false, ru, 0, rt⟩ := by unfold brR; rw [hr]; rfl
          rw [hr, if_pos rfl] at HSN
          rw [hb] at HUS
          have hqd : decide (ru ≤ m) = true := decide_eq_true hq2
          clear hr hb
          go_wp2_with fail
          go_quiet (fail)
          have T2 : Hid (Does (Two (Row (.slice a cn cap) (nums (rst m) L i)) (Rs fl bs lo sh m (upd m L i) b g)) P w (W2.drewN nq)) := hide (T1.out.e (Fr.drewN _ _ _))
          clear c0 c1 c2 c3 c4 c5 f4 k1 k2 T1
          generalize W2.drewN nq = W3 at *
          obtain ⟨P2, x⟩ := T2.out.snd_of
          obtain ⟨c0, c1, c2, c3, c4, c5, f4⟩ := x.1.cB
          rw [upd_len, Hn.out] at c5
          obtain ⟨g0, g1, g2, g3, g4⟩ := x.1.cG HUA.out
          have z1 := x.1.fz (i * 5 + 1)
          have T3 : Hid (Does (Two (Row (.slice a cn cap) (nums (rst m) L i)) (Rs fl bs lo sh m ((upd m L i).set i ⟨rh, false, ru, rf, rt⟩) b g)) P w (W3.setCell ⟨g, i * 5 + 1, none⟩ (.bool false))) := hide (T2.out.right (fun _ y => HsT.set2 (j := 1) y HUA.out (by omega) rfl))
          have HS3 : Hid (((upd m L i).set i ⟨rh, false, ru, rf, rt⟩)[i]? = some ⟨rh, false, ru, rf, rt⟩) := hide (by
            rw [List.getElem?_set_self (by obtain ⟨h, _⟩ := List.getElem?_eq_some_iff.1 HUA.out; exact h)])
          clear x T2
          go_upto_region 11 with fail
          clear c0 c1 c2 c3 c4 c5 f4 g0 g1 g2 g3 g4 z1
          generalize W3.setCell ⟨g, i * 5 + 1, none⟩ (.bool false) = W4 at *
          obtain ⟨P3, x3⟩ := T3.out.snd_of
          obtain ⟨c0, c1, c2, c3, c4, c5, f4⟩ := x3.1.cB
          rw [List.length_set, upd_len, Hn.out] at c5
          obtain ⟨g0, g1, g2, g3, g4⟩ := x3.1.cG HS3.out
          have z3 := x3.1.fz (i * 5 + 3)
          have T4 : Hid (Does (Two (Row (.slice a cn cap) (nums (rst m) L i)) (Rs fl bs lo sh m (upd m L (i + 1)) b g)) P w (W4.setCell ⟨g, i * 5 + 3, none⟩ (.int .i64 0))) := hide (by
            have := T3.out.right (fun _ y => HsT.set2 (j := 3) (r' := ⟨rh, false, ru, 0, rt⟩) (v := .int .i64 0) y HS3.out (by omega) rfl)
            rw [List.set_set, HUS.out] at this
            exact this)
          clear x3 T3
          go_upto_region 12 with fail
          clear c0 c1 c2 c3 c4 c5 f4 g0 g1 g2 g3 g4 z3
          generalize W4.setCell ⟨g, i * 5 + 3, none⟩ (.int .i64 0) = W5 at *
          have HS : Hid (Sr W5 (.slice a cn cap) (nums (rst m) L i)) := by obtain ⟨_, x⟩ := T4.out.fst_of; exact hide x.1
          go_wp2_with (at_builtin; apply Hid.out)
          unfold Hid
          refine wpList_append_sr rfl _ _ rfl W5 (.slice a cn cap) (nums (rst m) L i) (i : Int) rfl (by simp [Act.eval, go_sem]) HS.out (by have := Hr16.out; omega) ?_
          intro v' W6 r1 F o
          rw [← HSN.out] at r1
          have T6 := hide (T4.out.left (fun _ y => y.app r1 F o))
          clear r1 F o HS T4
          go_wp2_with fail
          go_roundw
          case rel => exact ⟨i + 1, by omega, by go_num, T6⟩
          case measure => simp [intOf]; omega
        · have hr : rst m ⟨rh, re, ru, rf, rt⟩ = false := by unfold rst; rw [Bool.and_eq_false_iff, decide_eq_false_iff_not]; cases re <;> simp_all
          have hb : brR m ⟨rh, re, ru, rf, rt⟩ = ⟨rh, re, ru, rf, rt⟩ := by unfold brR; rw [hr]; rfl
          rw [hr, if_neg (by simp), List.append_nil] at HSN
          rw [hb, set_same HUA.out] at HUS
          rw [← HSN.out, HUS.out] at T1
          have hq2 : re = false ∨ (re = true ∧ ¬ ru ≤ m) := by cases re <;> simp_all
          clear hq hb hr HUA HUS HSN
          rcases hq2 with rfl | ⟨rfl, hu⟩
          · go_wp2_with fail
            go_quiet (fail)
            have T2 := hide (T1.out.e (Fr.drewN none' _ nq))
            clear T1
            go_wp2_with fail
            go_roundw
            case rel => exact ⟨i + 1, by omega, by go_num, T2⟩
            case measure => simp [intOf]; omega
          · have hud : decide (ru ≤ m) = false := decide_eq_false hu
            go_wp2_with fail
            go_quiet (fail)
            have T2 := hide (T1.out.e (Fr.drewN none' _ nq))
            clear T1
            go_wp2_with fail
            go_roundw
            case rel => exact ⟨i + 1, by omega, by go_num, T2⟩
            case measure => simp [intOf]; omega
      · obtain rfl : i = n := by omega
        have e : upd m L i = brS m L := by rw [← Hn.out]; exact upd_all m L
        rw [e] at HI
        go_wp2_with fail
        go_ret2
        exact ⟨_, rfl, HI.out⟩
  · have T0 := hide (HTAIL.out _ (Does.refl h))
    clear h
    have hx2 : decide (m < now) = false := decide_eq_false hx
    go_enter Try.func24, Try.ntmps24
    go_upto_region 5 with (go_at_call 21; refine HU.out.mono ?_; rintro e w' ⟨rfl, rfl⟩)
    clear HU HTAIL
    have k0 := c0
    have k1 := c1
    have k2 := c2
    have k3 := c3
    have k4 := c4
    have k5 := c5
    have z4 := f4
    clear c0 c1 c2 c3 c4 c5 f4
    go_wp2_with fail
    clear k0 k1 k2 k3 k4 k5 z4
    go_loopw [6, 27] (fun s v wr => ∃ (i : Nat), i ≤ n ∧ v = .int .i64 (i : Int) ∧ Hid (Does (Two (Row s (nums (rst m) L i)) (Rs fl bs lo sh m (upd m L i) b g)) P w wr)) (fun _ v _ => n - (intOf v).toNat)
    case atStart => exact ⟨0, Nat.zero_le _, rfl, T0⟩
    case round =>
      clear T0
      obtain ⟨i, hi, rfl, HI⟩ := hrel
      obtain ⟨a, cap, rfl, q1, q2⟩ : ∃ a cap, u6 = .slice a (nums (rst m) L i).length cap ∧ (nums (rst m) L i).length ≤ cap ∧ cap ≤ 9223372036854775807 := by obtain ⟨_, x⟩ := HI.out.fst_of; exact x.get
      by_cases hlt : i < n
      · have hli : i < L.length := by rw [Hn.out]; exact hlt
        obtain ⟨P2, x⟩ := HI.out.snd_of
        obtain ⟨g0, g1, g2, g3, g4⟩ := x.1.cG (upd_at hli)
        have HSN := hide (nums_succ (p := rst m) (get_take hli))
        have HUS := hide (upd_set (m := m) hli)
        have HUA := hide (upd_at (m := m) hli)
        have Hr16 := hide (Nat.le_trans (Hnn.out i) (Nat.le_trans hi hl))
        generalize L[i] = r at *
        clear x hli
        obtain ⟨cn, Hcn⟩ : ∃ cn, Hid ((nums (rst m) L i).length = cn) := ⟨_, hide rfl⟩
        rw [Hcn.out] at q1 HI ⊢
        obtain ⟨rh, re, ru, rf, rt⟩ := r
        simp only [Bool.true_xor] at *
        go_upto_region 9 with fail
        have T1 : Hid (Does (Two (Row (.slice a cn cap) (nums (rst m) L i)) (Rs fl bs lo sh m (upd m L i) b g)) P w (wr.alloc (rwO ⟨rh, re, ru, rf, rt⟩))) := hide (HI.out.e (Fr.alloc _ _ _))
        have A1 : (wr.alloc (rwO ⟨rh, re, ru, rf, rt⟩)).heap[wr.heap.size]? = some (rwO ⟨rh, re, ru, rf, rt⟩) := hp_new _ _
        clear g0 g1 g2 g3 g4 HI
        generalize wr.alloc (rwO ⟨rh, re, ru, rf, rt⟩) = W2 at *
        generalize wr.heap.size = ew at *
        have k1 : W2.cell? ⟨ew, 1, none⟩ = some (.bool re) := cell_of A1 1
        have k2 : W2.cell? ⟨ew, 2, none⟩ = some (.int .i64 ru) := cell_of A1 2
        obtain ⟨P2, x⟩ := T1.out.snd_of
        obtain ⟨c0, c1, c2, c3, c4, c5, f4⟩ := x.1.cB
        rw [upd_len, Hn.out] at c5
        clear A1 x
        by_cases hq : re = true ∧ ru ≤ m
        · obtain ⟨rfl, hq2⟩ := hq
          have hr : rst m ⟨rh, true, ru, rf, rt⟩ = true := by unfold rst; simpa using hq2
          have hb : brR m ⟨rh, true, ru, rf, rt⟩ = ⟨rh, false, ru, 0, rt⟩ := by unfold brR; rw [hr]; rfl
          rw [hr, if_pos rfl] at HSN
          rw [hb] at HUS
          have hqd : decide (ru ≤ m) = true := decide_eq_true hq2
          clear hr hb
          go_wp2_with fail
          go_quiet (fail)
          have T2 : Hid (Does (Two (Row (.slice a cn cap) (nums (rst m) L i)) (Rs fl bs lo sh m (upd m L i) b g)) P w (W2.drewN nq)) := hide (T1.out.e (Fr.drewN _ _ _))
          clear c0 c1 c2 c3 c4 c5 f4 k1 k2 T1
          generalize W2.drewN nq = W3 at *
          obtain ⟨P2, x⟩ := T2.out.snd_of
          obtain ⟨c0, c1, c2, c3, c4, c5, f4⟩ := x.1.cB
          rw [upd_len, Hn.out] at c5
          obtain ⟨g0, g1, g2, g3, g4⟩ := x.1.cG HUA.out
          have z1 := x.1.fz (i * 5 + 1)
          have T3 : Hid (Does (Two (Row (.slice a cn cap) (nums (rst m) L i)) (Rs fl bs lo sh m ((upd m L i).set i ⟨rh, false, ru, rf, rt⟩) b g)) P w (W3.setCell ⟨g, i * 5 + 1, none⟩ (.bool false))) := hide (T2.out.right (fun _ y => HsT.set2 (j := 1) y HUA.out (by omega) rfl))
          have HS3 : Hid (((upd m L i).set i ⟨rh, false, ru, rf, rt⟩)[i]? = some ⟨rh, false, ru, rf, rt⟩) := hide (by
            rw [List.getElem?_set_self (by obtain ⟨h, _⟩ := List.getElem?_eq_some_iff.1 HUA.out; exact h)])
          clear x T2
          go_upto_region 11 with fail
          clear c0 c1 c2 c3 c4 c5 f4 g0 g1 g2 g3 g4 z1
          generalize W3.setCell ⟨g, i * 5 + 1, none⟩ (.bool false) = W4 at *
          obtain ⟨P3, x3⟩ := T3.out.snd_of
          obtain ⟨c0, c1, c2, c3, c4, c5, f4⟩ := x3.1.cB
          rw [List.length_set, upd_len, Hn.out] at c5
          obtain ⟨g0, g1, g2, g3, g4⟩ := x3.1.cG HS3.out
          have z3 := x3.1.fz (i * 5 + 3)
          have T4 : Hid (Does (Two (Row (.slice a cn cap) (nums (rst m) L i)) (Rs fl bs lo sh m (upd m L (i + 1)) b g)) P w (W4.setCell ⟨g, i * 5 + 3, none⟩ (.int .i64 0))) := hide (by
            have := T3.out.right (fun _ y => HsT.set2 (j := 3) (r' := ⟨rh, false, ru, 0, rt⟩) (v := .int .i64 0) y HS3.out (by omega) rfl)
            rw [List.set_set, HUS.out] at this
            exact this)
          clear x3 T3
          go_upto_region 12 with fail
          clear c0 c1 c2 c3 c4 c5 f4 g0 g1 g2 g3 g4 z3
          generalize W4.setCell ⟨g, i * 5 + 3, none⟩ (.int .i64 0) = W5 at *
          have HS : Hid (Sr W5 (.slice a cn cap) (nums (rst m) L i)) := by obtain ⟨_, x⟩ := T4.out.fst_of; exact hide x.1
          go_wp2_with (at_builtin; apply Hid.out)
          unfold Hid
          refine wpList_append_sr rfl _ _ rfl W5 (.slice a cn cap) (nums (rst m) L i) (i : Int) rfl (by simp [Act.eval, go_sem]) HS.out (by have := Hr16.out; omega) ?_
          intro v' W6 r1 F o
          rw [← HSN.out] at r1
          have T6 := hide (T4.out.left (fun _ y => y.app r1 F o))
          clear r1 F o HS T4
          go_wp2_with fail
          go_roundw
          case rel => exact ⟨i + 1, by omega, by go_num, T6⟩
          case measure => simp [intOf]; omega
        · have hr : rst m ⟨rh, re, ru, rf, rt⟩ = false := by unfold rst; rw [Bool.and_eq_false_iff, decide_eq_false_iff_not]; cases re <;> simp_all
          have hb : brR m ⟨rh, re, ru, rf, rt⟩ = ⟨rh, re, ru, rf, rt⟩ := by unfold brR; rw [hr]; rfl
          rw [hr, if_neg (by simp), List.append_nil] at HSN
          rw [hb, set_same HUA.out] at HUS
          rw [← HSN.out, HUS.out] at T1
          have hq2 : re = false ∨ (re = true ∧ ¬ ru ≤ m) := by cases re <;> simp_all
          clear hq hb hr HUA HUS HSN
          rcases hq2 with rfl | ⟨rfl, hu⟩
          · go_wp2_with fail
            go_quiet (fail)
            have T2 := hide (T1.out.e (Fr.drewN none' _ nq))
            clear T1
            go_wp2_with fail
            go_roundw
            case rel => exact ⟨i + 1, by omega, by go_num, T2⟩
            case measure => simp [intOf]; omega
          · have hud : decide (ru ≤ m) = false := decide_eq_false hu
            go_wp2_with fail
            go_quiet (fail)
            have T2 := hide (T1.out.e (Fr.drewN none' _ nq))
            clear T1
            go_wp2_with fail
            go_roundw
            case rel => exact ⟨i + 1, by omega, by go_num, T2⟩
            case measure => simp [intOf]; omega
      · obtain rfl : i = n := by omega
        have e : upd m L i = brS m L := by rw [← Hn.out]; exact upd_all m L
        rw [e] at HI
        go_wp2_with fail
        go_ret2
        exact ⟨_, rfl, HI.out⟩
end Go.Proofs.Ytobkgkcemdocnaa
