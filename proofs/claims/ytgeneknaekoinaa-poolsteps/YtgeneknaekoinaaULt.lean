/- The good resting connection that began to rest last; how many there are. -/
import Derived.Test.YtgeneknaekoinaaUDl
namespace Go.Proofs.Ytgeneknaekoinaa
open Go.ChangeShapes Go.WideShapes Go.ChangeAt Go.RowKit
set_option linter.unusedVariables false

/-- Is a connection taken for the best one so far? -/
def tkB (p : Pm) (now : Int) (L : List Rk) (best : Int) (r : Rk) : Bool := (r.st == 2) && goodB p r now && ((best == -1) || decide ((match L[best.toNat]? with | some s => s.tu | none => 0) < r.tu))
def bst (p : Pm) (now : Int) (L : List Rk) : Nat → Int
  | 0 => -1
  | k + 1 => match L[k]? with | some r => if tkB p now L (bst p now L k) r then (k : Int) else bst p now L k | none => bst p now L k
theorem bst_succ {p : Pm} {now : Int} {L : List Rk} {k : Nat} {r : Rk} (h : L[k]? = some r) : bst p now L (k + 1) = if tkB p now L (bst p now L k) r then (k : Int) else bst p now L k := by
  show (match L[k]? with | some r => _ | none => _) = _
  rw [h]
theorem bst_bd (p : Pm) (now : Int) (L : List Rk) : ∀ k, k ≤ L.length → bst p now L k = -1 ∨ ∃ i : Nat, bst p now L k = (i : Int) ∧ i < k
  | 0, _ => .inl rfl
  | k + 1, h => by
    have hk : k < L.length := h
    rw [bst_succ (get_ok hk)]
    split
    · exact .inr ⟨k, rfl, by omega⟩
    · rcases bst_bd p now L k (by omega) with x | ⟨i, x, y⟩
      · exact .inl x
      · exact .inr ⟨i, x, by omega⟩
def lat (p : Pm) (now : Int) : Int := bst p now p.R p.R.length
set_option maxHeartbeats 4000000 in
set_option maxRecDepth 100000 in
theorem latest_any (p : Pm) (b : Nat) (vr vw : Value) (w : World) (now K : Int) (h : PV p b vr vw w) (k0 : POk p K) :
    Calls Try.prog 59 #[.pointer (some ⟨b, 0, none⟩), .int .i64 now] w fun e w' => e = .returned (.int .i64 (lat p now)) ∧ Fr none' w w' := by
  obtain ⟨a, cap, rfl, hc0, hc1⟩ := h.r
  have hl : p.R.length ≤ 64 := by have := k0.len; have := k0.cap1; omega
  have HV := hide h
  have HK := hide k0
  obtain ⟨c0, c1, c2, c3, c4, c5, c6, c7⟩ := h.c
  clear h k0
  unfold lat
  obtain ⟨n, Hn⟩ : ∃ n, Hid (p.R.length = n) := ⟨_, hide rfl⟩
  rw [Hn.out] at hl hc0 c6 HV ⊢
  go_enter Try.func59, Try.ntmps59
  go_wp2_with fail
  clear c0 c1 c2 c3 c4 c5 c6 c7
  go_loopw [5, 13] (fun s u wr => ∃ k : Nat, k ≤ n ∧ u = .int .i64 (k : Int) ∧ s = .int .i64 (bst p now p.R k) ∧ Hid (Fr none' w wr)) (fun _ u _ => n - (intOf u).toNat)
  case atStart => exact ⟨0, Nat.zero_le _, rfl, rfl, hide (Fr.refl _ _)⟩
  case round =>
    obtain ⟨k, hk, rfl, rfl, HF⟩ := hrel
    by_cases hlt : k < n
    · have hkl : k < p.R.length := by rw [Hn.out]; exact hlt
      have hr := get_ok hkl
      have HS := hide (bst_succ (p := p) (now := now) hr)
      have HBD := hide (bst_bd p now p.R k (by omega))
      obtain ⟨⟨b0, b1⟩, ⟨s0, s1⟩, -⟩ := HK.out.rows _ (List.mem_of_getElem? hr)
      have HVR := hide (HV.out.fr HF.out)
      obtain ⟨g1, off, cap1, e, -, -, r0, r1, r2, r3, r4, r5, -, -⟩ := row_cells HVR.out.R hr
      simp only [Value.slice.injEq] at e
      obtain ⟨rfl, -, rfl⟩ := e
      generalize p.R[k] = r at *
      clear hr hkl
      have HA : Hid (Fr none' w (wr.alloc (rkO r))) := hide (HF.out.trans (Fr.alloc none' wr _) (fun _ _ x => x))
      have HB : Hid ((wr.alloc (rkO r)).heap[wr.heap.size]? = some (rkO r)) := hide (hp_new _ _)
      have HV2 := hide (HVR.out.fr (Fr.alloc none' wr (rkO r)))
      unfold rkO at HA HB HV2
      go_upto_region 5 with fail
      clear r0 r1 r2 r3 r4 r5 HF HVR
      obtain ⟨e0, e1, e2, e3, e4, e5⟩ := rk_cells HB.out
      clear HB
      generalize wr.alloc _ = w1 at *
      generalize wr.heap.size = gg at *
      obtain ⟨c0, c1, c2, c3, c4, c5, c6, c7⟩ := HV2.out.c
      have HG := hide (fun u : Sw w1 => call_cw (good_any p b _ vw (cw u) r (HV2.out.fr (cw_fr u)) HK.out.life0 HK.out.life1 HK.out.idle0 HK.out.idle1 b0 b1 s0 s1 now))
      unfold rkV at HG
      generalize hbq : bst p now p.R k = best at *
      by_cases hst : r.st = 2
      · obtain ⟨rc, rst, rwh, rbo, rsi, rtu⟩ := r
        simp only at hst e0 e1 e2 e3 e4 e5
        subst hst
        simp only at HG
        cases hgd : goodB p ⟨rc, 2, rwh, rbo, rsi, rtu⟩ now with
        | false =>
          have HS2 : Hid (bst p now p.R (k + 1) = best) := hide (by rw [HS.out]; unfold tkB; rw [hgd]; simp)
          rw [hgd] at HG
          clear HS hgd HBD hbq
          have E0 := cw_cell e0; have E1 := cw_cell e1; have E2 := cw_cell e2; have E3 := cw_cell e3; have E4 := cw_cell e4; have E5 := cw_cell e5; have C6 := cw_cell c6
          refine wp_region_cw (by kernel_rfl) (by kernel_rfl) ?_
          repeat (go_big_quiet_step ((go_at_call 43; refine HG.out _)))
          refine wpQuiet_nil ?_
          intro _ hw'
          obtain ⟨z, hw''⟩ := hw'
          subst hw''
          have HF2 := hide (HA.out.trans (cw_fr z) (fun _ _ x => x))
          clear HA HG E0 E1 E2 E3 E4 E5 C6 e0 e1 e2 e3 e4 e5 c0 c1 c2 c3 c4 c5 c6 c7
          generalize cw z = w2 at *
          go_wp2_with fail
          go_roundw
          case rel => exact ⟨k + 1, by omega, by go_num, by rw [HS2.out], HF2⟩
          case measure => simp [intOf]; omega
        | true =>
          rcases HBD.out with hbb | ⟨i, hbb, hik⟩
          · subst hbb
            have HS2 : Hid (bst p now p.R (k + 1) = (k : Int)) := hide (by rw [HS.out]; unfold tkB; rw [hgd]; simp)
            rw [hgd] at HG
            clear HS hgd HBD hbq
            have E0 := cw_cell e0; have E1 := cw_cell e1; have E2 := cw_cell e2; have E3 := cw_cell e3; have E4 := cw_cell e4; have E5 := cw_cell e5; have C6 := cw_cell c6
            refine wp_region_cw (by kernel_rfl) (by kernel_rfl) ?_
            repeat (go_big_quiet_step ((go_at_call 43; refine HG.out _)))
            refine wpQuiet_nil ?_
            intro _ hw'
            obtain ⟨z, hw''⟩ := hw'
            subst hw''
            have HF2 := hide (HA.out.trans (cw_fr z) (fun _ _ x => x))
            clear HA HG E0 E1 E2 E3 E4 E5 C6 e0 e1 e2 e3 e4 e5 c0 c1 c2 c3 c4 c5 c6 c7
            generalize cw z = w2 at *
            go_wp2_with fail
            go_roundw
            case rel => exact ⟨k + 1, by omega, by go_num, by rw [HS2.out], HF2⟩
            case measure => simp [intOf]; omega
          · subst hbb
            have hil : i < p.R.length := by rw [Hn.out]; omega
            obtain ⟨g2, off2, cap2, e, -, -, -, -, -, -, -, q5, -, -⟩ := row_cells HV2.out.R (get_ok hil)
            simp only [Value.slice.injEq, Option.some.injEq, Addr.mk.injEq, and_true] at e
            obtain ⟨⟨rfl, rfl⟩, -, -⟩ := e
            have hin : (i : Int) < (n : Int) := by omega
            have hi1 : ((i : Int) == -1) = false := by simp
            have HS2 : Hid (bst p now p.R (k + 1) = if p.R[i].tu < rtu then (k : Int) else (i : Int)) := hide (by rw [HS.out]; unfold tkB; rw [hgd, hi1, Int.toNat_natCast, get_ok hil]; simp)
            generalize p.R[i].tu = itu at *
            rw [hgd] at HG
            clear HS hgd HBD hbq hil
            have E0 := cw_cell e0; have E1 := cw_cell e1; have E2 := cw_cell e2; have E3 := cw_cell e3; have E4 := cw_cell e4; have E5 := cw_cell e5; have C6 := cw_cell c6; have Q5 := cw_cell q5
            refine wp_region_cw (by kernel_rfl) (by kernel_rfl) ?_
            repeat (go_big_quiet_step ((go_at_call 43; refine HG.out _)))
            refine wpQuiet_nil ?_
            intro _ hw'
            obtain ⟨z, hw''⟩ := hw'
            subst hw''
            have HF2 := hide (HA.out.trans (cw_fr z) (fun _ _ x => x))
            clear HA HG E0 E1 E2 E3 E4 E5 C6 Q5 e0 e1 e2 e3 e4 e5 c0 c1 c2 c3 c4 c5 c6 c7 q5
            generalize cw z = w2 at *
            by_cases hcmp : itu < rtu
            · rw [if_pos hcmp] at HS2
              go_wp2_with fail
              go_roundw
              case rel => exact ⟨k + 1, by omega, by go_num, by rw [HS2.out], HF2⟩
              case measure => simp [intOf]; omega
            · rw [if_neg hcmp] at HS2
              go_wp2_with fail
              go_roundw
              case rel => exact ⟨k + 1, by omega, by go_num, by rw [HS2.out], HF2⟩
              case measure => simp [intOf]; omega
      · have hs2 : (r.st == 2) = false := by simpa using hst
        have HS2 : Hid (bst p now p.R (k + 1) = best) := hide (by rw [HS.out]; unfold tkB; rw [hs2]; simp)
        clear HS HBD hbq HG
        go_quiet (fail)
        have HF2 := hide (HA.out.d nq)
        clear HA e0 e1 e2 e3 e4 e5 c0 c1 c2 c3 c4 c5 c6 c7
        generalize w1.drewN nq = w2 at *
        go_wp2_with fail
        go_roundw
        case rel => exact ⟨k + 1, by omega, by go_num, by rw [HS2.out], HF2⟩
        case measure => simp [intOf]; omega
    · obtain rfl : k = n := by omega
      go_wp2_with fail
      go_ret
      exact ⟨rfl, HF.out⟩
/-- How many rest. -/
def nR (L : List Rk) : Nat := L.countP (fun r => r.st == 2)
theorem nR_take {L : List Rk} {i : Nat} (hi : i < L.length) : nR (L.take (i + 1)) = nR (L.take i) + (if L[i].st == 2 then 1 else 0) := by
  rw [List.take_add_one, get_ok hi]
  unfold nR
  rw [List.countP_append]
  simp [List.countP_cons]
theorem nR_le (L : List Rk) : nR L ≤ L.length := List.countP_le_length
set_option maxHeartbeats 4000000 in
set_option maxRecDepth 100000 in
theorem size_any (p : Pm) (b : Nat) (vr vw : Value) (w : World) (h : PV p b vr vw w) (hl : p.R.length ≤ 64) :
    Calls Try.prog 14 #[.pointer (some ⟨b, 0, none⟩)] w fun e w' => e = .returned (.tuple #[.int .i64 (p.R.length : Int), .int .i64 (nR p.R : Int), .int .i64 (p.Q.length : Int)]) ∧ Fr none' w w' := by
  obtain ⟨a, cap, rfl, hc0, hc1⟩ := h.r
  obtain ⟨a2, cap2, rfl, hd0, hd1⟩ := h.q
  have HV := hide h
  obtain ⟨c0, c1, c2, c3, c4, c5, c6, c7⟩ := h.c
  clear h
  obtain ⟨n, Hn⟩ : ∃ n, Hid (p.R.length = n) := ⟨_, hide rfl⟩
  obtain ⟨m, Hm⟩ : ∃ m, Hid (p.Q.length = m) := ⟨_, hide rfl⟩
  rw [Hn.out] at hl hc0 c6 HV ⊢
  rw [Hm.out] at hd0 c7 HV ⊢
  obtain ⟨y, HY⟩ : ∃ y, Hid (nR p.R = y) := ⟨_, hide rfl⟩
  rw [HY.out]
  go_enter Try.func14, Try.ntmps14
  go_wp2_with fail
  clear c0 c1 c2 c3 c4 c5 c6 c7
  go_loopw [5, 15] (fun s u wr => ∃ k x : Nat, k ≤ n ∧ x ≤ k ∧ u = .int .i64 (k : Int) ∧ s = .int .i64 (x : Int) ∧ Hid (nR (p.R.take k) = x) ∧ Hid (Fr none' w wr)) (fun _ u _ => n - (intOf u).toNat)
  case atStart => exact ⟨0, 0, Nat.zero_le _, Nat.zero_le _, rfl, rfl, hide rfl, hide (Fr.refl _ _)⟩
  case round =>
    obtain ⟨k, x, hk, hxk, rfl, rfl, HX, HF⟩ := hrel
    by_cases hlt : k < n
    · have hkl : k < p.R.length := by rw [Hn.out]; exact hlt
      have hr := get_ok hkl
      have HS := hide (nR_take hkl)
      rw [HX.out] at HS
      have HVR := hide (HV.out.fr HF.out)
      obtain ⟨g1, off, cap1, e, -, -, r0, r1, r2, r3, r4, r5, -, -⟩ := row_cells HVR.out.R hr
      simp only [Value.slice.injEq] at e
      obtain ⟨rfl, -, rfl⟩ := e
      generalize p.R[k] = r at *
      clear hr hkl
      have HA : Hid (Fr none' w (wr.alloc (rkO r))) := hide (HF.out.trans (Fr.alloc none' wr _) (fun _ _ x => x))
      have HB : Hid ((wr.alloc (rkO r)).heap[wr.heap.size]? = some (rkO r)) := hide (hp_new _ _)
      unfold rkO at HA HB
      go_upto_region 7 with fail
      clear r0 r1 r2 r3 r4 r5 HF HVR
      obtain ⟨e0, e1, e2, e3, e4, e5⟩ := rk_cells HB.out
      clear HB
      generalize wr.alloc _ = w1 at *
      generalize wr.heap.size = gg at *
      by_cases hst : r.st = 2
      · have hs2 : (r.st == 2) = true := by simpa using hst
        rw [hs2, if_pos rfl] at HS
        clear hst
        go_wp2_with fail
        go_roundw
        case rel => exact ⟨k + 1, x + 1, by omega, by omega, by go_num, by go_num, HS, HA⟩
        case measure => simp [intOf]; omega
      · have hs2 : (r.st == 2) = false := by simpa using hst
        rw [hs2, if_neg (by simp)] at HS
        go_wp2_with fail
        go_roundw
        case rel => exact ⟨k + 1, x, by omega, by omega, by go_num, rfl, HS, HA⟩
        case measure => simp [intOf]; omega
    · obtain rfl : k = n := by omega
      have hz : x = y := by rw [← HX.out, ← HY.out, ← Hn.out, List.take_length]
      obtain ⟨c0, c1, c2, c3, c4, c5, c6, c7⟩ := (HV.out.fr HF.out).c
      subst hz
      clear HX HY
      go_wp2_with fail
      go_quiet (fail)
      go_wp2_with fail
      go_ret3
      exact ⟨rfl, HF.out.d _⟩
theorem size_nil (w : World) : Calls Try.prog 14 #[.pointer none] w fun e w' => e = .returned (.tuple #[.int .i64 0, .int .i64 0, .int .i64 0]) ∧ w = w' := by
  go_enter Try.func14, Try.ntmps14
  go_wp2_with fail
  go_ret3
  exact ⟨rfl, rfl⟩
end Go.Proofs.Ytgeneknaekoinaa
