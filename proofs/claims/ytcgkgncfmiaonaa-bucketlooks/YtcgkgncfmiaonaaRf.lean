/- The document's bucket: what each call tells, and what it leaves. -/
import Derived.Test.YtcgkgncfmiaonaaBk3
namespace Go.Proofs.Ytcgkgncfmiaonaa
open Go.ChangeShapes Go.WideShapes Go.ChangeAt Go.RowKit

theorem prod_bd {x rt : Int} (hx : 0 ≤ x) (h1 : x ≤ 1000000000000) (r0 : 0 ≤ rt) (r1 : rt ≤ 1000000) : 0 ≤ x * rt ∧ x * rt ≤ 1000000000000000000 := by
  have a := Int.mul_nonneg hx r0
  have b := Int.mul_le_mul h1 r1 r0 (by omega : (0:Int) ≤ 1000000000000)
  omega
theorem nl_far {rt full lv g : Int} (r0 : 0 ≤ rt) (f0 : 0 ≤ full) (l0 : 0 ≤ lv) (l1 : lv ≤ full) (hg : full < g) : nl rt full lv g = if full < lv + full * rt then full else lv + full * rt := by
  unfold nl
  by_cases hr : rt = 0
  · subst hr
    rw [Int.zero_mul, Int.mul_zero, Int.add_zero, if_pos l1, if_neg (by omega)]
  · have h1 : full * 1 ≤ full * rt := Int.mul_le_mul_of_nonneg_left (by omega) f0
    have h2 : 1 * g ≤ rt * g := Int.mul_le_mul_of_nonneg_right (by omega) (by omega)
    rw [Int.mul_one] at h1
    rw [Int.one_mul] at h2
    rw [if_neg (by omega)]
    split <;> omega
theorem nl_near {rt full lv g : Int} : nl rt full lv g = if full < lv + g * rt then full else lv + g * rt := by
  unfold nl
  rw [Int.mul_comm rt g]
  by_cases h : lv + g * rt ≤ full
  · rw [if_pos h, if_neg (by omega)]
  · rw [if_neg h, if_pos (by omega)]

set_option maxHeartbeats 2000000 in
set_option maxRecDepth 100000 in
theorem rbring_any (w : World) (b : Nat) (rt pe bu lv at_ now : Int) (h : Bk 56 w b rt pe bu lv at_) (L : Lim rt pe bu lv at_) (n0 : 0 ≤ now) (n1 : now ≤ 4611686018427387904) :
    Calls Try.prog 26 #[.pointer (some ⟨b, 0, none⟩), .int .i64 now] w fun e w' => e = .returned (.tuple #[]) ∧ Bk 56 w' b rt pe bu (bL rt (bu * pe) lv at_ now) (bA at_ now) ∧ Fr (fun k => k = b) w w' := by
  obtain ⟨k0, k1, k2, k3, k4, z3, z4⟩ := h.cs
  have HK := hide h
  obtain ⟨f0, f1⟩ := full_le L
  obtain ⟨r0, r1, p0, p1, b0, b1, l0, l1, a0, a1⟩ := L
  have hm := mom_yes n0 n1
  clear h
  by_cases hle : now ≤ at_
  · have e1 : Hid (bL rt (bu * pe) lv at_ now = lv) := hide (by
      unfold bL; rw [if_pos hm]
      have : untR at_ now = 0 := by unfold untR; split <;> omega
      rw [this, nl_zero l1])
    have e2 : Hid (bA at_ now = at_) := hide (by unfold bA; rw [if_pos hm]; unfold untR; split <;> omega)
    rw [e1.out, e2.out]
    clear e1 e2 hm
    go_enter Try.func26, Try.ntmps26
    go_wp2_with fail
    (try simp only [Exit.inBlock, Exit.then]); refine bodyPost_ret (results_none rfl _ _ _) rfl ?_
    exact ⟨rfl, HK.out, Fr.refl _ _⟩
  · have hu : Hid (untR at_ now = now - at_) := hide (by unfold untR; rw [if_pos ⟨⟨a0, a1⟩, ⟨n0, n1⟩, by omega⟩])
    have e1 : Hid (bL rt (bu * pe) lv at_ now = nl rt (bu * pe) lv (now - at_)) := hide (by unfold bL; rw [if_pos hm, hu.out])
    have e2 : Hid (bA at_ now = now) := hide (by unfold bA; rw [if_pos hm, hu.out]; omega)
    rw [e1.out, e2.out]
    clear e1 e2 hm hu
    by_cases hf : bu * pe < now - at_
    · by_cases ho : bu * pe < lv + bu * pe * rt
      · obtain ⟨m0, m1⟩ := prod_bd (x := bu * pe) (rt := rt) (by omega) (by omega) r0 r1
        have e1 : Hid (nl rt (bu * pe) lv (now - at_) = bu * pe) := hide (by rw [nl_far r0 f0 l0 l1 hf, if_pos ho])
        rw [e1.out]
        clear e1
        go_enter Try.func26, Try.ntmps26
        go_wp2_with fail
        go_quiet (fail)
        go_wp2_with fail
        go_region
        have K1 : Hid (Bk 56 ((w.drewN (nq + 1)).setCell ⟨b, 3, none⟩ (.int .i64 (lv + bu * pe * rt))) b rt pe bu (lv + bu * pe * rt) at_) := hide (Bk.lvl (w := w.drewN (nq + 1)) HK.out _)
        have F1 : Hid (Fr (fun k => k = b) w ((w.drewN (nq + 1)).setCell ⟨b, 3, none⟩ (.int .i64 (lv + bu * pe * rt)))) := hide (((Fr.refl _ _).d _).trans (Fr.set _ _ _ _) (fun _ _ x => x))
        generalize (w.drewN (nq + 1)).setCell ⟨b, 3, none⟩ (.int .i64 (lv + bu * pe * rt)) = w1 at K1 F1 ⊢
        clear k0 k1 k2 k3 k4 z3 z4
        obtain ⟨k0, k1, k2, k3, k4, z3, z4⟩ := K1.out.cs
        go_wp2_with fail
        go_end0
        exact ⟨rfl, (K1.out.lvl _).at _, (F1.out.trans (Fr.set _ _ _ _) (fun _ _ x => x)).trans (Fr.set _ _ _ _) (fun _ _ x => x)⟩
      · obtain ⟨m0, m1⟩ := prod_bd (x := bu * pe) (rt := rt) (by omega) (by omega) r0 r1
        have e1 : Hid (nl rt (bu * pe) lv (now - at_) = lv + bu * pe * rt) := hide (by rw [nl_far r0 f0 l0 l1 hf, if_neg ho])
        rw [e1.out]
        clear e1
        go_enter Try.func26, Try.ntmps26
        go_wp2_with fail
        go_quiet (fail)
        go_wp2_with fail
        go_region
        have K1 : Hid (Bk 56 ((w.drewN (nq + 1)).setCell ⟨b, 3, none⟩ (.int .i64 (lv + bu * pe * rt))) b rt pe bu (lv + bu * pe * rt) at_) := hide (Bk.lvl (w := w.drewN (nq + 1)) HK.out _)
        have F1 : Hid (Fr (fun k => k = b) w ((w.drewN (nq + 1)).setCell ⟨b, 3, none⟩ (.int .i64 (lv + bu * pe * rt)))) := hide (((Fr.refl _ _).d _).trans (Fr.set _ _ _ _) (fun _ _ x => x))
        generalize (w.drewN (nq + 1)).setCell ⟨b, 3, none⟩ (.int .i64 (lv + bu * pe * rt)) = w1 at K1 F1 ⊢
        clear k0 k1 k2 k3 k4 z3 z4
        obtain ⟨k0, k1, k2, k3, k4, z3, z4⟩ := K1.out.cs
        go_wp2_with fail
        go_end0
        exact ⟨rfl, K1.out.at _, F1.out.trans (Fr.set _ _ _ _) (fun _ _ x => x)⟩
    · by_cases ho : bu * pe < lv + (now - at_) * rt
      · obtain ⟨m0, m1⟩ := prod_bd (x := (now - at_)) (rt := rt) (by omega) (by omega) r0 r1
        have e1 : Hid (nl rt (bu * pe) lv (now - at_) = bu * pe) := hide (by rw [nl_near, if_pos ho])
        rw [e1.out]
        clear e1
        go_enter Try.func26, Try.ntmps26
        go_wp2_with fail
        go_quiet (fail)
        go_wp2_with fail
        go_region
        have K1 : Hid (Bk 56 ((w.drewN (nq + 1)).setCell ⟨b, 3, none⟩ (.int .i64 (lv + (now - at_) * rt))) b rt pe bu (lv + (now - at_) * rt) at_) := hide (Bk.lvl (w := w.drewN (nq + 1)) HK.out _)
        have F1 : Hid (Fr (fun k => k = b) w ((w.drewN (nq + 1)).setCell ⟨b, 3, none⟩ (.int .i64 (lv + (now - at_) * rt)))) := hide (((Fr.refl _ _).d _).trans (Fr.set _ _ _ _) (fun _ _ x => x))
        generalize (w.drewN (nq + 1)).setCell ⟨b, 3, none⟩ (.int .i64 (lv + (now - at_) * rt)) = w1 at K1 F1 ⊢
        clear k0 k1 k2 k3 k4 z3 z4
        obtain ⟨k0, k1, k2, k3, k4, z3, z4⟩ := K1.out.cs
        go_wp2_with fail
        go_end0
        exact ⟨rfl, (K1.out.lvl _).at _, (F1.out.trans (Fr.set _ _ _ _) (fun _ _ x => x)).trans (Fr.set _ _ _ _) (fun _ _ x => x)⟩
      · obtain ⟨m0, m1⟩ := prod_bd (x := (now - at_)) (rt := rt) (by omega) (by omega) r0 r1
        have e1 : Hid (nl rt (bu * pe) lv (now - at_) = lv + (now - at_) * rt) := hide (by rw [nl_near, if_neg ho])
        rw [e1.out]
        clear e1
        go_enter Try.func26, Try.ntmps26
        go_wp2_with fail
        go_quiet (fail)
        go_wp2_with fail
        go_region
        have K1 : Hid (Bk 56 ((w.drewN (nq + 1)).setCell ⟨b, 3, none⟩ (.int .i64 (lv + (now - at_) * rt))) b rt pe bu (lv + (now - at_) * rt) at_) := hide (Bk.lvl (w := w.drewN (nq + 1)) HK.out _)
        have F1 : Hid (Fr (fun k => k = b) w ((w.drewN (nq + 1)).setCell ⟨b, 3, none⟩ (.int .i64 (lv + (now - at_) * rt)))) := hide (((Fr.refl _ _).d _).trans (Fr.set _ _ _ _) (fun _ _ x => x))
        generalize (w.drewN (nq + 1)).setCell ⟨b, 3, none⟩ (.int .i64 (lv + (now - at_) * rt)) = w1 at K1 F1 ⊢
        clear k0 k1 k2 k3 k4 z3 z4
        obtain ⟨k0, k1, k2, k3, k4, z3, z4⟩ := K1.out.cs
        go_wp2_with fail
        go_end0
        exact ⟨rfl, K1.out.at _, F1.out.trans (Fr.set _ _ _ _) (fun _ _ x => x)⟩
end Go.Proofs.Ytcgkgncfmiaonaa
