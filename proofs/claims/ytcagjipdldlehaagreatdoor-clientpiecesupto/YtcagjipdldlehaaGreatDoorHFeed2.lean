/- Feed: a piece in which nothing is wrong. -/
import Derived.Test.YtcagjipdldlehaaGreatDoorHFeed
namespace Go.Proofs.YtcagjipdldlehaaGreatDoor
open Go.ChangeShapes Go.WideShapes Go.ChangeAt Go.RowKit

set_option maxHeartbeats 4000000 in
theorem feed_ok {w : World} {base g : Nat} {lv fv : Value} {p : Pz} (h : Par w base g lv fv p) (hf : Fit p) (hm : MX w) (hb : 3 ≤ base) (v : Value) (l : List UInt8) (hv : Bf w (Ap g lv fv) v l) (hl : l.length ≤ 140737488355328) (h0 : p.whole = false) (h1 : p.wrong = 0) (hR : (pBytes p l).1 = 0) :
    Calls Tryz.prog 46 #[.pointer (some ⟨g, 0, none⟩), v] w fun e w' => e = .returned (.tuple #[.int .i64 ((pBytes p l).2.1 : Int), .bool (pBytes p l).2.2.whole, .int .i64 ((0 : Nat) : Int)]) ∧ ∃ lv' fv', Par w' base g lv' fv' (if (pBytes p l).2.2.whole then pShut (pBytes p l).2.2 else (pBytes p l).2.2) ∧ PKh w w' g lv fv lv' fv' := by
  have HB := hide (bytes_any h hf hm hb v l hv hl)
  have HWR := hide ((bytes_wrong l p hf).trans h1)
  have HP := hide h
  have c5 : w.cell? ⟨g, 5, none⟩ = some (.func (.func p.fn) #[.pointer (some ⟨g, 0, none⟩)] #[]) := h.cell 5
  have c13 : w.cell? ⟨g, 13, none⟩ = some (.bool false) := by have := h.cell 13; rw [show (pcells p g lv fv)[13]? = some (.bool p.whole) from rfl, h0] at this; exact this
  have c14 : w.cell? ⟨g, 14, none⟩ = some (.int .i64 0) := by have := h.cell 14; rw [show (pcells p g lv fv)[14]? = some (.int .i64 (p.wrong : Int)) from rfl, h1] at this; exact this
  have e5 := eq_nilFunch p.fn g
  obtain ⟨a, cp, rfl, _, _⟩ := hv
  clear h hf hm h0 h1
  obtain ⟨re, rn, q, hq⟩ : ∃ re rn q, pBytes p l = (re, rn, q) := ⟨_, _, _, rfl⟩
  rw [hq] at HB HWR hR ⊢
  clear hq
  dsimp only at hR
  subst hR
  have eV : byV (0, rn, q) = .tuple #[.int .i64 (rn : Int), .nilIface] := rfl
  rw [eV] at HB
  clear eV
  dsimp only
  obtain ⟨wv, pf, hwv, hpf⟩ : ∃ wv pf, q.whole = wv ∧ (if q.whole = true then pShut q else q) = pf := ⟨_, _, rfl, rfl⟩
  rw [hpf, hwv]
  have HWV := hide hwv
  have HPF := hide hpf
  clear hwv hpf
  go_enter Tryz.func46, Tryz.ntmps46
  go_wp2_with fail
  refine HB.out.mono ?_
  rintro e w1 ⟨rfl, lv1, fv1, h1, k1⟩
  have D1 := hide ((Below.refl _ w1).alloc (Nat.le_refl _) (.cells #[.int .i64 0, .nilIface] 111))
  have P1 : Hid (Par (w1.alloc (.cells #[.int .i64 0, .nilIface] 111)) base g lv1 fv1 q) := hide (h1.below D1.out)
  have K1 := hide (k1.trans (PKh.of_below g lv1 fv1 D1.out))
  clear h1 k1 HB c5 c13 c14 e5
  go_upto_region 7 with fail
  generalize (w1.alloc (.cells #[.int .i64 0, .nilIface] 111)) = x at P1 K1 D1 ⊢
  refine wp_region_cl (by kernel_rfl) (by kernel_rfl) ?_
  refine cl_move _ (by kernel_rfl) rfl ?_
  simp only [Act.put, List.setIfInBounds_toArray, List.set_cons_zero, List.set_cons_succ]
  refine cl_val (v := ?_) (by kernel_rfl) (fun W hW => ?_) ?_
  rotate_left
  · unfold Oper.quietAt; go_simp; try with_reducible rfl
  simp only [Act.put, List.setIfInBounds_toArray, List.set_cons_zero, List.set_cons_succ]
  refine cl_val (v := .bool false) (by kernel_rfl) (fun W hW => ?_) ?_
  · unfold Oper.quietAt; go_simp; exact call_cl_same hW ((as_nil _ W).mono (fun _ _ ⟨a, b⟩ => ⟨a, b.symm⟩))
  simp only [Act.put, List.setIfInBounds_toArray, List.set_cons_zero, List.set_cons_succ]
  refine cl_move _ (by kernel_rfl) rfl ?_
  simp only [Act.put, List.setIfInBounds_toArray, List.set_cons_zero, List.set_cons_succ]
  refine cl_skip (by kernel_rfl) ?_
  simp only [Act.put, List.setIfInBounds_toArray, List.set_cons_zero, List.set_cons_succ]
  refine cl_skip (by kernel_rfl) ?_
  simp only [Act.put, List.setIfInBounds_toArray, List.set_cons_zero, List.set_cons_succ]
  refine cl_skip (by kernel_rfl) ?_
  simp only [Act.put, List.setIfInBounds_toArray, List.set_cons_zero, List.set_cons_succ]
  refine cl_skip (by kernel_rfl) ?_
  simp only [Act.put, List.setIfInBounds_toArray, List.set_cons_zero, List.set_cons_succ]
  refine cl_skip (by kernel_rfl) ?_
  simp only [Act.put, List.setIfInBounds_toArray, List.set_cons_zero, List.set_cons_succ]
  refine cl_skip (by kernel_rfl) ?_
  simp only [Act.put, List.setIfInBounds_toArray, List.set_cons_zero, List.set_cons_succ]
  refine cl_skip (by kernel_rfl) ?_
  simp only [Act.put, List.setIfInBounds_toArray, List.set_cons_zero, List.set_cons_succ]
  refine cl_val (v := ?_) (by kernel_rfl) (fun W hW => ?_) ?_
  rotate_left
  · unfold Oper.quietAt; go_simp; try with_reducible rfl
  simp only [Act.put, List.setIfInBounds_toArray, List.set_cons_zero, List.set_cons_succ]
  refine wpQuiet_nil ?_
  intro z Hz
  have P2 := hide (P1.out.below Hz.out)
  have K2 := hide (K1.out.trans (PKh.of_below g lv1 fv1 Hz.out))
  clear P1 K1 Hz D1
  have c13 : z.cell? ⟨g, 13, none⟩ = some (.bool wv) := by rw [← HWV.out]; exact P2.out.cell 13
  have c14 : z.cell? ⟨g, 14, none⟩ = some (.int .i64 0) := by have := P2.out.cell 14; rw [show (pcells q g lv1 fv1)[14]? = some (.int .i64 (q.wrong : Int)) from rfl, HWR.out] at this; exact this
  cases wv with
  | true =>
    have c2 : z.cell? ⟨g, 2, none⟩ = some lv1 := P2.out.cell 2
    have f2 : z.frozen? ⟨g, 2, none⟩ = false := P2.out.froz 2
    go_upto_region 12 with fail
    have P3 := hide P2.out.nilL
    have K3 := hide (K2.out.trans (PKh.nilL z g 2 (.slice none 0 0) lv1 fv1))
    generalize z.setCell ⟨g, 2, none⟩ (.slice none 0 0) = y at P3 K3 ⊢
    clear c13 c14 c2 f2 P2 K2
    have c13 : y.cell? ⟨g, 13, none⟩ = some (.bool true) := by have := P3.out.cell 13; rw [show (pcells { q with line := [] } g (.slice none 0 0) fv1)[13]? = some (.bool q.whole) from rfl, HWV.out] at this; exact this
    have c14 : y.cell? ⟨g, 14, none⟩ = some (.int .i64 0) := by have := P3.out.cell 14; rw [show (pcells { q with line := [] } g (.slice none 0 0) fv1)[14]? = some (.int .i64 (q.wrong : Int)) from rfl, HWR.out] at this; exact this
    have EF : Hid (pShut q = pf) := hide (by have := HPF.out; rw [HWV.out, if_pos rfl] at this; exact this)
    refine wp_region_cl (by kernel_rfl) (by kernel_rfl) ?_
    refine cl_move _ (by kernel_rfl) rfl ?_
    simp only [Act.put, List.setIfInBounds_toArray, List.set_cons_zero, List.set_cons_succ]
    refine cl_move _ (by kernel_rfl) rfl ?_
    simp only [Act.put, List.setIfInBounds_toArray, List.set_cons_zero, List.set_cons_succ]
    refine cl_val (v := ?_) (by kernel_rfl) (fun W hW => ?_) ?_
    rotate_left
    · unfold Oper.quietAt; go_simp; try with_reducible rfl
    simp only [Act.put, List.setIfInBounds_toArray, List.set_cons_zero, List.set_cons_succ]
    refine cl_val (v := ?_) (by kernel_rfl) (fun W hW => ?_) ?_
    rotate_left
    · unfold Oper.quietAt; go_simp; try with_reducible rfl
    simp only [Act.put, List.setIfInBounds_toArray, List.set_cons_zero, List.set_cons_succ]
    refine cl_val (v := ?_) (by kernel_rfl) (fun W hW => ?_) ?_
    rotate_left
    · have l0 := hW.cell c13; unfold Oper.quietAt; go_simp; try with_reducible rfl
    simp only [Act.put, List.setIfInBounds_toArray, List.set_cons_zero, List.set_cons_succ]
    refine cl_move _ (by kernel_rfl) rfl ?_
    simp only [Act.put, List.setIfInBounds_toArray, List.set_cons_zero, List.set_cons_succ]
    refine cl_val (v := ?_) (by kernel_rfl) (fun W hW => ?_) ?_
    rotate_left
    · unfold Oper.quietAt; go_simp; try with_reducible rfl
    simp only [Act.put, List.setIfInBounds_toArray, List.set_cons_zero, List.set_cons_succ]
    refine cl_val (v := ?_) (by kernel_rfl) (fun W hW => ?_) ?_
    rotate_left
    · unfold Oper.quietAt; go_simp; try with_reducible rfl
    simp only [Act.put, List.setIfInBounds_toArray, List.set_cons_zero, List.set_cons_succ]
    refine cl_val (v := ?_) (by kernel_rfl) (fun W hW => ?_) ?_
    rotate_left
    · have l0 := hW.cell c14; unfold Oper.quietAt; go_simp; try with_reducible rfl
    simp only [Act.put, List.setIfInBounds_toArray, List.set_cons_zero, List.set_cons_succ]
    refine cl_assign _ (by kernel_rfl) rfl ?_
    simp only [Act.put, List.setIfInBounds_toArray, List.set_cons_zero, List.set_cons_succ]
    refine cl_assign _ (by kernel_rfl) rfl ?_
    simp only [Act.put, List.setIfInBounds_toArray, List.set_cons_zero, List.set_cons_succ]
    refine cl_assign _ (by kernel_rfl) rfl ?_
    simp only [Act.put, List.setIfInBounds_toArray, List.set_cons_zero, List.set_cons_succ]
    refine wpQuiet_nil ?_
    intro u Hu
    go_wp2
    go_ret3
    exact ⟨rfl, _, _, by rw [← EF.out]; exact P3.out.below Hu.out, K3.out.trans (PKh.of_below g _ fv1 Hu.out)⟩
  | false =>
    have EF : Hid (q = pf) := hide (by have := HPF.out; rw [HWV.out, if_neg (by simp)] at this; exact this)
    go_upto_region 12 with fail
    refine wp_region_cl (by kernel_rfl) (by kernel_rfl) ?_
    refine cl_move _ (by kernel_rfl) rfl ?_
    simp only [Act.put, List.setIfInBounds_toArray, List.set_cons_zero, List.set_cons_succ]
    refine cl_move _ (by kernel_rfl) rfl ?_
    simp only [Act.put, List.setIfInBounds_toArray, List.set_cons_zero, List.set_cons_succ]
    refine cl_val (v := ?_) (by kernel_rfl) (fun W hW => ?_) ?_
    rotate_left
    · unfold Oper.quietAt; go_simp; try with_reducible rfl
    simp only [Act.put, List.setIfInBounds_toArray, List.set_cons_zero, List.set_cons_succ]
    refine cl_val (v := ?_) (by kernel_rfl) (fun W hW => ?_) ?_
    rotate_left
    · unfold Oper.quietAt; go_simp; try with_reducible rfl
    simp only [Act.put, List.setIfInBounds_toArray, List.set_cons_zero, List.set_cons_succ]
    refine cl_val (v := ?_) (by kernel_rfl) (fun W hW => ?_) ?_
    rotate_left
    · have l0 := hW.cell c13; unfold Oper.quietAt; go_simp; try with_reducible rfl
    simp only [Act.put, List.setIfInBounds_toArray, List.set_cons_zero, List.set_cons_succ]
    refine cl_move _ (by kernel_rfl) rfl ?_
    simp only [Act.put, List.setIfInBounds_toArray, List.set_cons_zero, List.set_cons_succ]
    refine cl_val (v := ?_) (by kernel_rfl) (fun W hW => ?_) ?_
    rotate_left
    · unfold Oper.quietAt; go_simp; try with_reducible rfl
    simp only [Act.put, List.setIfInBounds_toArray, List.set_cons_zero, List.set_cons_succ]
    refine cl_val (v := ?_) (by kernel_rfl) (fun W hW => ?_) ?_
    rotate_left
    · unfold Oper.quietAt; go_simp; try with_reducible rfl
    simp only [Act.put, List.setIfInBounds_toArray, List.set_cons_zero, List.set_cons_succ]
    refine cl_val (v := ?_) (by kernel_rfl) (fun W hW => ?_) ?_
    rotate_left
    · have l0 := hW.cell c14; unfold Oper.quietAt; go_simp; try with_reducible rfl
    simp only [Act.put, List.setIfInBounds_toArray, List.set_cons_zero, List.set_cons_succ]
    refine cl_assign _ (by kernel_rfl) rfl ?_
    simp only [Act.put, List.setIfInBounds_toArray, List.set_cons_zero, List.set_cons_succ]
    refine cl_assign _ (by kernel_rfl) rfl ?_
    simp only [Act.put, List.setIfInBounds_toArray, List.set_cons_zero, List.set_cons_succ]
    refine cl_assign _ (by kernel_rfl) rfl ?_
    simp only [Act.put, List.setIfInBounds_toArray, List.set_cons_zero, List.set_cons_succ]
    refine wpQuiet_nil ?_
    intro u Hu
    go_wp2
    go_ret3
    exact ⟨rfl, _, _, by rw [← EF.out]; exact P2.out.below Hu.out, K2.out.trans (PKh.of_below g lv1 fv1 Hu.out)⟩
end Go.Proofs.YtcagjipdldlehaaGreatDoor
