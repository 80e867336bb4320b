/- How much a proxy may hold: the program's. -/
import Derived.Test.YtekkhjlipijmcaaGreatDoorZChk
namespace Go.Proofs.YtekkhjlipijmcaaGreatDoor
open Go.ChangeShapes Go.WideShapes Go.ChangeAt Go.RowKit
set_option linter.unusedVariables false

set_option maxHeartbeats 4000000 in
set_option maxRecDepth 100000 in
theorem conns_any (w : World) (a1 a2 : Option Addr) (k1 k2 : Nat) (C : Cfg) (h : InC w a1 a2 k1 k2 C) :
    Calls Tryz.prog 7 #[cfgV a1 a2 k1 k2 C] w fun e w' => e = .returned (.tuple #[.int .i64 (if cfgB C then C.c14 + capsI C.H + (C.H.length : Int) else 0), .int .i64 (cfgE C)]) ∧ Below w.heap.size w w' := by
  have H0 := hide h
  have HC := hide (fun W b => check_any W a1 a2 k1 k2 C (h.below (w' := W) b))
  have HW := hide (fun (x : cfgB C = true) => Wt.of x)
  clear h
  unfold cfgE at HC ⊢
  obtain ⟨bb9, Hbb⟩ : ∃ b, Hid (cfgB C = b) := ⟨_, hide rfl⟩
  rw [Hbb.out] at HC HW ⊢
  unfold cfgV at HC ⊢
  obtain ⟨H, R, pa, c0, c1, c2, c3, c4, c5, c6, c7, c8, c9, c10, c11, c12, c13, c14⟩ := C
  simp only at HC ⊢
  have HH := hide (fun W b (hl : H.length ≤ 16) (hc : ∀ x ∈ H, 1 ≤ x.ca ∧ x.ca ≤ 64) => caps_any W _ H (H0.out.below (w' := W) b).h hl (fun x hx => by have := hc x hx; omega))
  have HA := hide (fun W b (hl : R.length ≤ 16) (hc : ∀ x ∈ R, (0 ≤ x.r10 ∧ x.r10 ≤ 5) ∧ (0 ≤ x.r11 ∧ x.r11 ≤ 3)) => att_any W _ R (H0.out.below (w' := W) b).r hl hc)
  simp only at HH HA
  obtain ⟨n1, Hn1⟩ : ∃ n1, Hid (H.length = n1) := ⟨_, hide rfl⟩
  obtain ⟨n2, Hn2⟩ : ∃ n2, Hid (R.length = n2) := ⟨_, hide rfl⟩
  rw [Hn1.out, Hn2.out] at HC
  rw [Hn1.out] at HH ⊢
  rw [Hn2.out] at HA ⊢
  cases bb9 with
  | false =>
    simp only [Bool.false_eq_true, if_false] at HC ⊢
    go_enter Tryz.func7, Tryz.ntmps7
    go_upto_region 1 with fail
    have T0 := hide (Bl.one w #[.slice a1 n1 k1, .slice a2 n2 k2, .int .i64 c0, .int .i64 c1, .int .i64 c2, .int .i64 c3, .string pa, .int .i64 c4, .int .i64 c5, .int .i64 c6, .int .i64 c7, .int .i64 c8, .int .i64 c9, .int .i64 c10, .int .i64 c11, .int .i64 c12, .int .i64 c13, .int .i64 c14] 25)
    generalize (w.alloc (.cells #[.slice a1 n1 k1, .slice a2 n2 k2, .int .i64 c0, .int .i64 c1, .int .i64 c2, .int .i64 c3, .string pa, .int .i64 c4, .int .i64 c5, .int .i64 c6, .int .i64 c7, .int .i64 c8, .int .i64 c9, .int .i64 c10, .int .i64 c11, .int .i64 c12, .int .i64 c13, .int .i64 c14] 25)) = x at T0 ⊢
    have HRA : Hid (x.rangeAt w.heap.size 0 ([.slice a1 n1 k1, .slice a2 n2 k2, .int .i64 c0, .int .i64 c1, .int .i64 c2, .int .i64 c3, .string pa, .int .i64 c4, .int .i64 c5, .int .i64 c6, .int .i64 c7, .int .i64 c8, .int .i64 c9, .int .i64 c10, .int .i64 c11, .int .i64 c12, .int .i64 c13, .int .i64 c14] : List Value)) := hide (by
      intro j v hv
      rw [Nat.zero_add]
      exact (T0.out.cell 0 rfl j).trans (by rw [List.getElem?_toArray]; exact hv))
    refine wp_region_lit ?_
    refine wpList_load_mid rfl 25 _ rfl w.heap.size 0 rfl ([.slice a1 n1 k1, .slice a2 n2 k2, .int .i64 c0, .int .i64 c1, .int .i64 c2, .int .i64 c3, .string pa, .int .i64 c4, .int .i64 c5, .int .i64 c6, .int .i64 c7, .int .i64 c8, .int .i64 c9, .int .i64 c10, .int .i64 c11, .int .i64 c12, .int .i64 c13, .int .i64 c14] : List Value) _ HRA.out Tryz.underlying25 rfl (by kernel_rfl) ?_
    simp only [Act.put, List.setIfInBounds_toArray, List.set_cons_zero, List.set_cons_succ]
    clear HRA
    go_wp2_with fail
    refine (HC.out _ T0.out.b).mono ?_
    rintro e w1 ⟨rfl, bb⟩
    have T1 := hide (T0.out.below bb)
    clear bb T0 HC
    go_wp2_with fail
    go_ret2
    exact ⟨rfl, T1.out.b⟩
  | true =>
    simp only [if_true] at HC ⊢
    obtain ⟨h0, h1, q0, q1, hca, hat, hmh, hmb, hmo, hcl⟩ := HW.out rfl
    simp only at h0 h1 q0 q1 hca hat hmh hmb hmo hcl
    have hcp := capsI_le H h1 (fun x hx => by have := hca x hx; omega) H.length (Nat.le_refl _)
    have hap := attI_le R hat R.length (Nat.le_refl _)
    rw [List.take_length] at hcp hap
    rw [Hn1.out] at h0 h1 hcp
    rw [Hn2.out] at q1
    have HH2 := hide (fun W b => HH.out W b h1 hca)
    have HA2 := hide (fun W b => HA.out W b q1 hat)
    clear HH HA hca hat HW Hbb q0 q1
    generalize capsI H = cp at *
    generalize attI R = ap at *
    obtain ⟨mh0, mh1⟩ := hmh
    obtain ⟨mb0, mb1⟩ := hmb
    obtain ⟨mo0, mo1⟩ := hmo
    obtain ⟨cl0, cl1⟩ := hcl
    obtain ⟨cp0, cp1⟩ := hcp
    obtain ⟨ap0, ap1⟩ := hap
    have w1' : IntKind.i64.wrap (c14 + cp) = c14 + cp := IntWalk.i64_in _ (by omega)
    have w2' : IntKind.i64.wrap (c14 + cp + (n1 : Int)) = c14 + cp + (n1 : Int) := IntWalk.i64_in _ (by omega)
    go_enter Tryz.func7, Tryz.ntmps7
    go_upto_region 1 with fail
    have T0 := hide (Bl.one w #[.slice a1 n1 k1, .slice a2 n2 k2, .int .i64 c0, .int .i64 c1, .int .i64 c2, .int .i64 c3, .string pa, .int .i64 c4, .int .i64 c5, .int .i64 c6, .int .i64 c7, .int .i64 c8, .int .i64 c9, .int .i64 c10, .int .i64 c11, .int .i64 c12, .int .i64 c13, .int .i64 c14] 25)
    generalize (w.alloc (.cells #[.slice a1 n1 k1, .slice a2 n2 k2, .int .i64 c0, .int .i64 c1, .int .i64 c2, .int .i64 c3, .string pa, .int .i64 c4, .int .i64 c5, .int .i64 c6, .int .i64 c7, .int .i64 c8, .int .i64 c9, .int .i64 c10, .int .i64 c11, .int .i64 c12, .int .i64 c13, .int .i64 c14] 25)) = x at T0 ⊢
    have HRA : Hid (x.rangeAt w.heap.size 0 ([.slice a1 n1 k1, .slice a2 n2 k2, .int .i64 c0, .int .i64 c1, .int .i64 c2, .int .i64 c3, .string pa, .int .i64 c4, .int .i64 c5, .int .i64 c6, .int .i64 c7, .int .i64 c8, .int .i64 c9, .int .i64 c10, .int .i64 c11, .int .i64 c12, .int .i64 c13, .int .i64 c14] : List Value)) := hide (by
      intro j v hv
      rw [Nat.zero_add]
      exact (T0.out.cell 0 rfl j).trans (by rw [List.getElem?_toArray]; exact hv))
    refine wp_region_lit ?_
    refine wpList_load_mid rfl 25 _ rfl w.heap.size 0 rfl ([.slice a1 n1 k1, .slice a2 n2 k2, .int .i64 c0, .int .i64 c1, .int .i64 c2, .int .i64 c3, .string pa, .int .i64 c4, .int .i64 c5, .int .i64 c6, .int .i64 c7, .int .i64 c8, .int .i64 c9, .int .i64 c10, .int .i64 c11, .int .i64 c12, .int .i64 c13, .int .i64 c14] : List Value) _ HRA.out Tryz.underlying25 rfl (by kernel_rfl) ?_
    simp only [Act.put, List.setIfInBounds_toArray, List.set_cons_zero, List.set_cons_succ]
    clear HRA
    go_wp2_with fail
    refine (HC.out _ T0.out.b).mono ?_
    rintro e w1 ⟨rfl, bb⟩
    have T1 := hide (T0.out.below bb)
    clear bb T0 HC
    have c0' : w1.cell? ⟨w.heap.size, 0, none⟩ = some (.slice a1 n1 k1) := T1.out.cell 0 rfl 0
    have c1' : w1.cell? ⟨w.heap.size, 1, none⟩ = some (.slice a2 n2 k2) := T1.out.cell 0 rfl 1
    have c11' : w1.cell? ⟨w.heap.size, 11, none⟩ = some (.int .i64 c8) := T1.out.cell 0 rfl 11
    have c12' : w1.cell? ⟨w.heap.size, 12, none⟩ = some (.int .i64 c9) := T1.out.cell 0 rfl 12
    have c13' : w1.cell? ⟨w.heap.size, 13, none⟩ = some (.int .i64 c10) := T1.out.cell 0 rfl 13
    have c17' : w1.cell? ⟨w.heap.size, 17, none⟩ = some (.int .i64 c14) := T1.out.cell 0 rfl 17
    have HCW := hide T1.out.b
    go_upto_region 4 with fail
    refine wp_region_cl (by kernel_rfl) (by kernel_rfl) ?_
    refine cl_val (v := ?_) rfl (fun W hW => ?_) ?_
    rotate_left
    · unfold Oper.quietAt; go_simp; try with_reducible rfl
    simp only [Act.put, List.setIfInBounds_toArray, List.set_cons_zero, List.set_cons_succ]
    refine cl_val (v := ?_) rfl (fun W hW => ?_) ?_
    rotate_left
    · have l0 := hW.cell c17'; unfold Oper.quietAt; go_simp; try with_reducible rfl
    simp only [Act.put, List.setIfInBounds_toArray, List.set_cons_zero, List.set_cons_succ]
    refine cl_val (v := ?_) rfl (fun W hW => ?_) ?_
    rotate_left
    · unfold Oper.quietAt; go_simp; try with_reducible rfl
    simp only [Act.put, List.setIfInBounds_toArray, List.set_cons_zero, List.set_cons_succ]
    refine cl_val (v := ?_) rfl (fun W hW => ?_) ?_
    rotate_left
    · have l0 := hW.cell c0'; unfold Oper.quietAt; go_simp; try with_reducible rfl
    simp only [Act.put, List.setIfInBounds_toArray, List.set_cons_zero, List.set_cons_succ]
    refine cl_val (v := .int .i64 cp) rfl (fun W hW => ?_) ?_
    · unfold Oper.quietAt; go_simp; exact call_cl hW (HH2.out _ (HCW.out.trans (hW.out.mono HCW.out.size)))
    simp only [Act.put, List.setIfInBounds_toArray, List.set_cons_zero, List.set_cons_succ]
    refine cl_val (v := ?_) rfl (fun W hW => ?_) ?_
    rotate_left
    · unfold Oper.quietAt; go_simp; try with_reducible rfl
    simp only [Act.put, List.setIfInBounds_toArray, List.set_cons_zero, List.set_cons_succ]
    refine cl_val (v := ?_) rfl (fun W hW => ?_) ?_
    rotate_left
    · unfold Oper.quietAt; go_simp; try with_reducible rfl
    simp only [Act.put, List.setIfInBounds_toArray, List.set_cons_zero, List.set_cons_succ]
    refine cl_val (v := ?_) rfl (fun W hW => ?_) ?_
    rotate_left
    · have l0 := hW.cell c0'; unfold Oper.quietAt; go_simp; try with_reducible rfl
    simp only [Act.put, List.setIfInBounds_toArray, List.set_cons_zero, List.set_cons_succ]
    refine cl_val (v := ?_) rfl (fun W hW => ?_) ?_
    rotate_left
    · unfold Oper.quietAt; go_simp; try with_reducible rfl
    simp only [Act.put, List.setIfInBounds_toArray, List.set_cons_zero, List.set_cons_succ]
    refine cl_val (v := ?_) rfl (fun W hW => ?_) ?_
    rotate_left
    · unfold Oper.quietAt; go_simp; try with_reducible rfl
    simp only [Act.put, List.setIfInBounds_toArray, List.set_cons_zero, List.set_cons_succ]
    refine cl_assign _ rfl rfl ?_
    simp only [Act.put, List.setIfInBounds_toArray, List.set_cons_zero, List.set_cons_succ]
    refine cl_assign _ rfl rfl ?_
    simp only [Act.put, List.setIfInBounds_toArray, List.set_cons_zero, List.set_cons_succ]
    refine wpQuiet_nil ?_
    intro z Hz
    have HZ : Hid (Below w.heap.size w z) := hide (T1.out.b.trans (Hz.out.mono T1.out.b.size))
    go_wp2_with fail
    go_ret2
    exact ⟨rfl, HZ.out⟩
set_option maxHeartbeats 4000000 in
set_option maxRecDepth 100000 in
theorem timers_any (w : World) (a1 a2 : Option Addr) (k1 k2 : Nat) (C : Cfg) (h : InC w a1 a2 k1 k2 C) :
    Calls Tryz.prog 8 #[cfgV a1 a2 k1 k2 C] w fun e w' => e = .returned (.tuple #[.int .i64 (if cfgB C then 4 * C.c14 + 3 * capsI C.H + 3 * (C.H.length : Int) + attI C.R * C.c14 else 0), .int .i64 (cfgE C)]) ∧ Below w.heap.size w w' := by
  have H0 := hide h
  have HC := hide (fun W b => check_any W a1 a2 k1 k2 C (h.below (w' := W) b))
  have HW := hide (fun (x : cfgB C = true) => Wt.of x)
  clear h
  unfold cfgE at HC ⊢
  obtain ⟨bb9, Hbb⟩ : ∃ b, Hid (cfgB C = b) := ⟨_, hide rfl⟩
  rw [Hbb.out] at HC HW ⊢
  unfold cfgV at HC ⊢
  obtain ⟨H, R, pa, c0, c1, c2, c3, c4, c5, c6, c7, c8, c9, c10, c11, c12, c13, c14⟩ := C
  simp only at HC ⊢
  have HH := hide (fun W b (hl : H.length ≤ 16) (hc : ∀ x ∈ H, 1 ≤ x.ca ∧ x.ca ≤ 64) => caps_any W _ H (H0.out.below (w' := W) b).h hl (fun x hx => by have := hc x hx; omega))
  have HA := hide (fun W b (hl : R.length ≤ 16) (hc : ∀ x ∈ R, (0 ≤ x.r10 ∧ x.r10 ≤ 5) ∧ (0 ≤ x.r11 ∧ x.r11 ≤ 3)) => att_any W _ R (H0.out.below (w' := W) b).r hl hc)
  simp only at HH HA
  obtain ⟨n1, Hn1⟩ : ∃ n1, Hid (H.length = n1) := ⟨_, hide rfl⟩
  obtain ⟨n2, Hn2⟩ : ∃ n2, Hid (R.length = n2) := ⟨_, hide rfl⟩
  rw [Hn1.out, Hn2.out] at HC
  rw [Hn1.out] at HH ⊢
  rw [Hn2.out] at HA ⊢
  cases bb9 with
  | false =>
    simp only [Bool.false_eq_true, if_false] at HC ⊢
    go_enter Tryz.func8, Tryz.ntmps8
    go_upto_region 1 with fail
    have T0 := hide (Bl.one w #[.slice a1 n1 k1, .slice a2 n2 k2, .int .i64 c0, .int .i64 c1, .int .i64 c2, .int .i64 c3, .string pa, .int .i64 c4, .int .i64 c5, .int .i64 c6, .int .i64 c7, .int .i64 c8, .int .i64 c9, .int .i64 c10, .int .i64 c11, .int .i64 c12, .int .i64 c13, .int .i64 c14] 25)
    generalize (w.alloc (.cells #[.slice a1 n1 k1, .slice a2 n2 k2, .int .i64 c0, .int .i64 c1, .int .i64 c2, .int .i64 c3, .string pa, .int .i64 c4, .int .i64 c5, .int .i64 c6, .int .i64 c7, .int .i64 c8, .int .i64 c9, .int .i64 c10, .int .i64 c11, .int .i64 c12, .int .i64 c13, .int .i64 c14] 25)) = x at T0 ⊢
    have HRA : Hid (x.rangeAt w.heap.size 0 ([.slice a1 n1 k1, .slice a2 n2 k2, .int .i64 c0, .int .i64 c1, .int .i64 c2, .int .i64 c3, .string pa, .int .i64 c4, .int .i64 c5, .int .i64 c6, .int .i64 c7, .int .i64 c8, .int .i64 c9, .int .i64 c10, .int .i64 c11, .int .i64 c12, .int .i64 c13, .int .i64 c14] : List Value)) := hide (by
      intro j v hv
      rw [Nat.zero_add]
      exact (T0.out.cell 0 rfl j).trans (by rw [List.getElem?_toArray]; exact hv))
    refine wp_region_lit ?_
    refine wpList_load_mid rfl 25 _ rfl w.heap.size 0 rfl ([.slice a1 n1 k1, .slice a2 n2 k2, .int .i64 c0, .int .i64 c1, .int .i64 c2, .int .i64 c3, .string pa, .int .i64 c4, .int .i64 c5, .int .i64 c6, .int .i64 c7, .int .i64 c8, .int .i64 c9, .int .i64 c10, .int .i64 c11, .int .i64 c12, .int .i64 c13, .int .i64 c14] : List Value) _ HRA.out Tryz.underlying25 rfl (by kernel_rfl) ?_
    simp only [Act.put, List.setIfInBounds_toArray, List.set_cons_zero, List.set_cons_succ]
    clear HRA
    go_wp2_with fail
    refine (HC.out _ T0.out.b).mono ?_
    rintro e w1 ⟨rfl, bb⟩
    have T1 := hide (T0.out.below bb)
    clear bb T0 HC
    go_wp2_with fail
    go_ret2
    exact ⟨rfl, T1.out.b⟩
  | true =>
    simp only [if_true] at HC ⊢
    obtain ⟨h0, h1, q0, q1, hca, hat, hmh, hmb, hmo, hcl⟩ := HW.out rfl
    simp only at h0 h1 q0 q1 hca hat hmh hmb hmo hcl
    have hcp := capsI_le H h1 (fun x hx => by have := hca x hx; omega) H.length (Nat.le_refl _)
    have hap := attI_le R hat R.length (Nat.le_refl _)
    rw [List.take_length] at hcp hap
    rw [Hn1.out] at h0 h1 hcp
    rw [Hn2.out] at q1
    have HH2 := hide (fun W b => HH.out W b h1 hca)
    have HA2 := hide (fun W b => HA.out W b q1 hat)
    clear HH HA hca hat HW Hbb q0 q1
    generalize capsI H = cp at *
    generalize attI R = ap at *
    obtain ⟨mh0, mh1⟩ := hmh
    obtain ⟨mb0, mb1⟩ := hmb
    obtain ⟨mo0, mo1⟩ := hmo
    obtain ⟨cl0, cl1⟩ := hcl
    obtain ⟨cp0, cp1⟩ := hcp
    obtain ⟨ap0, ap1⟩ := hap
    have p0 : 0 ≤ ap * c14 := Int.mul_nonneg ap0 (by omega)
    have p1 : ap * c14 ≤ 9 * 256 := Int.mul_le_mul ap1 cl1 (by omega) (by omega)
    have w1' : IntKind.i64.wrap (4 * c14) = 4 * c14 := IntWalk.i64_in _ (by omega)
    have w2' : IntKind.i64.wrap (3 * cp) = 3 * cp := IntWalk.i64_in _ (by omega)
    have w3' : IntKind.i64.wrap (4 * c14 + 3 * cp) = 4 * c14 + 3 * cp := IntWalk.i64_in _ (by omega)
    have w4' : IntKind.i64.wrap (3 * (n1 : Int)) = 3 * (n1 : Int) := IntWalk.i64_in _ (by omega)
    have w5' : IntKind.i64.wrap (4 * c14 + 3 * cp + 3 * (n1 : Int)) = 4 * c14 + 3 * cp + 3 * (n1 : Int) := IntWalk.i64_in _ (by omega)
    have w6' : IntKind.i64.wrap (ap * c14) = ap * c14 := IntWalk.i64_in _ (by omega)
    have w7' : IntKind.i64.wrap (4 * c14 + 3 * cp + 3 * (n1 : Int) + ap * c14) = 4 * c14 + 3 * cp + 3 * (n1 : Int) + ap * c14 := IntWalk.i64_in _ (by omega)
    go_enter Tryz.func8, Tryz.ntmps8
    go_upto_region 1 with fail
    have T0 := hide (Bl.one w #[.slice a1 n1 k1, .slice a2 n2 k2, .int .i64 c0, .int .i64 c1, .int .i64 c2, .int .i64 c3, .string pa, .int .i64 c4, .int .i64 c5, .int .i64 c6, .int .i64 c7, .int .i64 c8, .int .i64 c9, .int .i64 c10, .int .i64 c11, .int .i64 c12, .int .i64 c13, .int .i64 c14] 25)
    generalize (w.alloc (.cells #[.slice a1 n1 k1, .slice a2 n2 k2, .int .i64 c0, .int .i64 c1, .int .i64 c2, .int .i64 c3, .string pa, .int .i64 c4, .int .i64 c5, .int .i64 c6, .int .i64 c7, .int .i64 c8, .int .i64 c9, .int .i64 c10, .int .i64 c11, .int .i64 c12, .int .i64 c13, .int .i64 c14] 25)) = x at T0 ⊢
    have HRA : Hid (x.rangeAt w.heap.size 0 ([.slice a1 n1 k1, .slice a2 n2 k2, .int .i64 c0, .int .i64 c1, .int .i64 c2, .int .i64 c3, .string pa, .int .i64 c4, .int .i64 c5, .int .i64 c6, .int .i64 c7, .int .i64 c8, .int .i64 c9, .int .i64 c10, .int .i64 c11, .int .i64 c12, .int .i64 c13, .int .i64 c14] : List Value)) := hide (by
      intro j v hv
      rw [Nat.zero_add]
      exact (T0.out.cell 0 rfl j).trans (by rw [List.getElem?_toArray]; exact hv))
    refine wp_region_lit ?_
    refine wpList_load_mid rfl 25 _ rfl w.heap.size 0 rfl ([.slice a1 n1 k1, .slice a2 n2 k2, .int .i64 c0, .int .i64 c1, .int .i64 c2, .int .i64 c3, .string pa, .int .i64 c4, .int .i64 c5, .int .i64 c6, .int .i64 c7, .int .i64 c8, .int .i64 c9, .int .i64 c10, .int .i64 c11, .int .i64 c12, .int .i64 c13, .int .i64 c14] : List Value) _ HRA.out Tryz.underlying25 rfl (by kernel_rfl) ?_
    simp only [Act.put, List.setIfInBounds_toArray, List.set_cons_zero, List.set_cons_succ]
    clear HRA
    go_wp2_with fail
    refine (HC.out _ T0.out.b).mono ?_
    rintro e w1 ⟨rfl, bb⟩
    have T1 := hide (T0.out.below bb)
    clear bb T0 HC
    have c0' : w1.cell? ⟨w.heap.size, 0, none⟩ = some (.slice a1 n1 k1) := T1.out.cell 0 rfl 0
    have c1' : w1.cell? ⟨w.heap.size, 1, none⟩ = some (.slice a2 n2 k2) := T1.out.cell 0 rfl 1
    have c11' : w1.cell? ⟨w.heap.size, 11, none⟩ = some (.int .i64 c8) := T1.out.cell 0 rfl 11
    have c12' : w1.cell? ⟨w.heap.size, 12, none⟩ = some (.int .i64 c9) := T1.out.cell 0 rfl 12
    have c13' : w1.cell? ⟨w.heap.size, 13, none⟩ = some (.int .i64 c10) := T1.out.cell 0 rfl 13
    have c17' : w1.cell? ⟨w.heap.size, 17, none⟩ = some (.int .i64 c14) := T1.out.cell 0 rfl 17
    have HCW := hide T1.out.b
    go_upto_region 4 with fail
    refine wp_region_cl (by kernel_rfl) (by kernel_rfl) ?_
    refine cl_val (v := ?_) rfl (fun W hW => ?_) ?_
    rotate_left
    · unfold Oper.quietAt; go_simp; try with_reducible rfl
    simp only [Act.put, List.setIfInBounds_toArray, List.set_cons_zero, List.set_cons_succ]
    refine cl_val (v := ?_) rfl (fun W hW => ?_) ?_
    rotate_left
    · have l0 := hW.cell c17'; unfold Oper.quietAt; go_simp; try with_reducible rfl
    simp only [Act.put, List.setIfInBounds_toArray, List.set_cons_zero, List.set_cons_succ]
    refine cl_val (v := ?_) rfl (fun W hW => ?_) ?_
    rotate_left
    · unfold Oper.quietAt; go_simp; try with_reducible rfl
    simp only [Act.put, List.setIfInBounds_toArray, List.set_cons_zero, List.set_cons_succ]
    refine cl_val (v := ?_) rfl (fun W hW => ?_) ?_
    rotate_left
    · unfold Oper.quietAt; go_simp; try with_reducible rfl
    simp only [Act.put, List.setIfInBounds_toArray, List.set_cons_zero, List.set_cons_succ]
    refine cl_val (v := ?_) rfl (fun W hW => ?_) ?_
    rotate_left
    · have l0 := hW.cell c0'; unfold Oper.quietAt; go_simp; try with_reducible rfl
    simp only [Act.put, List.setIfInBounds_toArray, List.set_cons_zero, List.set_cons_succ]
    refine cl_val (v := .int .i64 cp) rfl (fun W hW => ?_) ?_
    · unfold Oper.quietAt; go_simp; exact call_cl hW (HH2.out _ (HCW.out.trans (hW.out.mono HCW.out.size)))
    simp only [Act.put, List.setIfInBounds_toArray, List.set_cons_zero, List.set_cons_succ]
    refine cl_val (v := ?_) rfl (fun W hW => ?_) ?_
    rotate_left
    · unfold Oper.quietAt; go_simp; try with_reducible rfl
    simp only [Act.put, List.setIfInBounds_toArray, List.set_cons_zero, List.set_cons_succ]
    refine cl_val (v := ?_) rfl (fun W hW => ?_) ?_
    rotate_left
    · unfold Oper.quietAt; go_simp; try with_reducible rfl
    simp only [Act.put, List.setIfInBounds_toArray, List.set_cons_zero, List.set_cons_succ]
    refine cl_val (v := ?_) rfl (fun W hW => ?_) ?_
    rotate_left
    · unfold Oper.quietAt; go_simp; try with_reducible rfl
    simp only [Act.put, List.setIfInBounds_toArray, List.set_cons_zero, List.set_cons_succ]
    refine cl_val (v := ?_) rfl (fun W hW => ?_) ?_
    rotate_left
    · have l0 := hW.cell c0'; unfold Oper.quietAt; go_simp; try with_reducible rfl
    simp only [Act.put, List.setIfInBounds_toArray, List.set_cons_zero, List.set_cons_succ]
    refine cl_val (v := ?_) rfl (fun W hW => ?_) ?_
    rotate_left
    · unfold Oper.quietAt; go_simp; try with_reducible rfl
    simp only [Act.put, List.setIfInBounds_toArray, List.set_cons_zero, List.set_cons_succ]
    refine cl_val (v := ?_) rfl (fun W hW => ?_) ?_
    rotate_left
    · unfold Oper.quietAt; go_simp; try with_reducible rfl
    simp only [Act.put, List.setIfInBounds_toArray, List.set_cons_zero, List.set_cons_succ]
    refine cl_val (v := ?_) rfl (fun W hW => ?_) ?_
    rotate_left
    · unfold Oper.quietAt; go_simp; try with_reducible rfl
    simp only [Act.put, List.setIfInBounds_toArray, List.set_cons_zero, List.set_cons_succ]
    refine cl_val (v := ?_) rfl (fun W hW => ?_) ?_
    rotate_left
    · unfold Oper.quietAt; go_simp; try with_reducible rfl
    simp only [Act.put, List.setIfInBounds_toArray, List.set_cons_zero, List.set_cons_succ]
    refine cl_val (v := ?_) rfl (fun W hW => ?_) ?_
    rotate_left
    · have l0 := hW.cell c1'; unfold Oper.quietAt; go_simp; try with_reducible rfl
    simp only [Act.put, List.setIfInBounds_toArray, List.set_cons_zero, List.set_cons_succ]
    refine cl_val (v := .int .i64 ap) rfl (fun W hW => ?_) ?_
    · unfold Oper.quietAt; go_simp; exact call_cl hW (HA2.out _ (HCW.out.trans (hW.out.mono HCW.out.size)))
    simp only [Act.put, List.setIfInBounds_toArray, List.set_cons_zero, List.set_cons_succ]
    refine cl_val (v := ?_) rfl (fun W hW => ?_) ?_
    rotate_left
    · unfold Oper.quietAt; go_simp; try with_reducible rfl
    simp only [Act.put, List.setIfInBounds_toArray, List.set_cons_zero, List.set_cons_succ]
    refine cl_val (v := ?_) rfl (fun W hW => ?_) ?_
    rotate_left
    · have l0 := hW.cell c17'; unfold Oper.quietAt; go_simp; try with_reducible rfl
    simp only [Act.put, List.setIfInBounds_toArray, List.set_cons_zero, List.set_cons_succ]
    refine cl_val (v := ?_) rfl (fun W hW => ?_) ?_
    rotate_left
    · unfold Oper.quietAt; go_simp; try with_reducible rfl
    simp only [Act.put, List.setIfInBounds_toArray, List.set_cons_zero, List.set_cons_succ]
    refine cl_val (v := ?_) rfl (fun W hW => ?_) ?_
    rotate_left
    · unfold Oper.quietAt; go_simp; try with_reducible rfl
    simp only [Act.put, List.setIfInBounds_toArray, List.set_cons_zero, List.set_cons_succ]
    refine cl_assign _ rfl rfl ?_
    simp only [Act.put, List.setIfInBounds_toArray, List.set_cons_zero, List.set_cons_succ]
    refine cl_assign _ rfl rfl ?_
    simp only [Act.put, List.setIfInBounds_toArray, List.set_cons_zero, List.set_cons_succ]
    refine wpQuiet_nil ?_
    intro z Hz
    have HZ : Hid (Below w.heap.size w z) := hide (T1.out.b.trans (Hz.out.mono T1.out.b.size))
    go_wp2_with fail
    go_ret2
    exact ⟨rfl, HZ.out⟩
set_option maxHeartbeats 4000000 in
set_option maxRecDepth 100000 in
theorem buffered_any (w : World) (a1 a2 : Option Addr) (k1 k2 : Nat) (C : Cfg) (h : InC w a1 a2 k1 k2 C) :
    Calls Tryz.prog 9 #[cfgV a1 a2 k1 k2 C] w fun e w' => e = .returned (.tuple #[.int .i64 (if cfgB C then C.c14 * (2 * C.c8 + C.c9 + C.c10 + 8192) + capsI C.H * (C.c8 + C.c9 + 8192) else 0), .int .i64 (cfgE C)]) ∧ Below w.heap.size w w' := by
  have H0 := hide h
  have HC := hide (fun W b => check_any W a1 a2 k1 k2 C (h.below (w' := W) b))
  have HW := hide (fun (x : cfgB C = true) => Wt.of x)
  clear h
  unfold cfgE at HC ⊢
  obtain ⟨bb9, Hbb⟩ : ∃ b, Hid (cfgB C = b) := ⟨_, hide rfl⟩
  rw [Hbb.out] at HC HW ⊢
  unfold cfgV at HC ⊢
  obtain ⟨H, R, pa, c0, c1, c2, c3, c4, c5, c6, c7, c8, c9, c10, c11, c12, c13, c14⟩ := C
  simp only at HC ⊢
  have HH := hide (fun W b (hl : H.length ≤ 16) (hc : ∀ x ∈ H, 1 ≤ x.ca ∧ x.ca ≤ 64) => caps_any W _ H (H0.out.below (w' := W) b).h hl (fun x hx => by have := hc x hx; omega))
  have HA := hide (fun W b (hl : R.length ≤ 16) (hc : ∀ x ∈ R, (0 ≤ x.r10 ∧ x.r10 ≤ 5) ∧ (0 ≤ x.r11 ∧ x.r11 ≤ 3)) => att_any W _ R (H0.out.below (w' := W) b).r hl hc)
  simp only at HH HA
  obtain ⟨n1, Hn1⟩ : ∃ n1, Hid (H.length = n1) := ⟨_, hide rfl⟩
  obtain ⟨n2, Hn2⟩ : ∃ n2, Hid (R.length = n2) := ⟨_, hide rfl⟩
  rw [Hn1.out, Hn2.out] at HC
  rw [Hn1.out] at HH ⊢
  rw [Hn2.out] at HA ⊢
  cases bb9 with
  | false =>
    simp only [Bool.false_eq_true, if_false] at HC ⊢
    go_enter Tryz.func9, Tryz.ntmps9
    go_upto_region 1 with fail
    have T0 := hide (Bl.one w #[.slice a1 n1 k1, .slice a2 n2 k2, .int .i64 c0, .int .i64 c1, .int .i64 c2, .int .i64 c3, .string pa, .int .i64 c4, .int .i64 c5, .int .i64 c6, .int .i64 c7, .int .i64 c8, .int .i64 c9, .int .i64 c10, .int .i64 c11, .int .i64 c12, .int .i64 c13, .int .i64 c14] 25)
    generalize (w.alloc (.cells #[.slice a1 n1 k1, .slice a2 n2 k2, .int .i64 c0, .int .i64 c1, .int .i64 c2, .int .i64 c3, .string pa, .int .i64 c4, .int .i64 c5, .int .i64 c6, .int .i64 c7, .int .i64 c8, .int .i64 c9, .int .i64 c10, .int .i64 c11, .int .i64 c12, .int .i64 c13, .int .i64 c14] 25)) = x at T0 ⊢
    have HRA : Hid (x.rangeAt w.heap.size 0 ([.slice a1 n1 k1, .slice a2 n2 k2, .int .i64 c0, .int .i64 c1, .int .i64 c2, .int .i64 c3, .string pa, .int .i64 c4, .int .i64 c5, .int .i64 c6, .int .i64 c7, .int .i64 c8, .int .i64 c9, .int .i64 c10, .int .i64 c11, .int .i64 c12, .int .i64 c13, .int .i64 c14] : List Value)) := hide (by
      intro j v hv
      rw [Nat.zero_add]
      exact (T0.out.cell 0 rfl j).trans (by rw [List.getElem?_toArray]; exact hv))
    refine wp_region_lit ?_
    refine wpList_load_mid rfl 25 _ rfl w.heap.size 0 rfl ([.slice a1 n1 k1, .slice a2 n2 k2, .int .i64 c0, .int .i64 c1, .int .i64 c2, .int .i64 c3, .string pa, .int .i64 c4, .int .i64 c5, .int .i64 c6, .int .i64 c7, .int .i64 c8, .int .i64 c9, .int .i64 c10, .int .i64 c11, .int .i64 c12, .int .i64 c13, .int .i64 c14] : List Value) _ HRA.out Tryz.underlying25 rfl (by kernel_rfl) ?_
    simp only [Act.put, List.setIfInBounds_toArray, List.set_cons_zero, List.set_cons_succ]
    clear HRA
    go_wp2_with fail
    refine (HC.out _ T0.out.b).mono ?_
    rintro e w1 ⟨rfl, bb⟩
    have T1 := hide (T0.out.below bb)
    clear bb T0 HC
    go_wp2_with fail
    go_ret2
    exact ⟨rfl, T1.out.b⟩
  | true =>
    simp only [if_true] at HC ⊢
    obtain ⟨h0, h1, q0, q1, hca, hat, hmh, hmb, hmo, hcl⟩ := HW.out rfl
    simp only at h0 h1 q0 q1 hca hat hmh hmb hmo hcl
    have hcp := capsI_le H h1 (fun x hx => by have := hca x hx; omega) H.length (Nat.le_refl _)
    have hap := attI_le R hat R.length (Nat.le_refl _)
    rw [List.take_length] at hcp hap
    rw [Hn1.out] at h0 h1 hcp
    rw [Hn2.out] at q1
    have HH2 := hide (fun W b => HH.out W b h1 hca)
    have HA2 := hide (fun W b => HA.out W b q1 hat)
    clear HH HA hca hat HW Hbb q0 q1
    generalize capsI H = cp at *
    generalize attI R = ap at *
    obtain ⟨mh0, mh1⟩ := hmh
    obtain ⟨mb0, mb1⟩ := hmb
    obtain ⟨mo0, mo1⟩ := hmo
    obtain ⟨cl0, cl1⟩ := hcl
    obtain ⟨cp0, cp1⟩ := hcp
    obtain ⟨ap0, ap1⟩ := hap
    have p0 : 0 ≤ c14 * (2 * c8 + c9 + c10 + 8192) := Int.mul_nonneg (by omega) (by omega)
    have p1 : c14 * (2 * c8 + c9 + c10 + 8192) ≤ 256 * 3000000 := Int.mul_le_mul cl1 (by omega) (by omega) (by omega)
    have p2 : 0 ≤ cp * (c8 + c9 + 8192) := Int.mul_nonneg cp0 (by omega)
    have p3 : cp * (c8 + c9 + 8192) ≤ 1024 * 3000000 := Int.mul_le_mul (by omega) (by omega) (by omega) (by omega)
    have w1' : IntKind.i64.wrap (c14 * (2 * c8 + c9 + c10 + 8192)) = c14 * (2 * c8 + c9 + c10 + 8192) := IntWalk.i64_in _ (by omega)
    have w2' : IntKind.i64.wrap (cp * (c8 + c9 + 8192)) = cp * (c8 + c9 + 8192) := IntWalk.i64_in _ (by omega)
    have w3' : IntKind.i64.wrap (c14 * (2 * c8 + c9 + c10 + 8192) + cp * (c8 + c9 + 8192)) = c14 * (2 * c8 + c9 + c10 + 8192) + cp * (c8 + c9 + 8192) := IntWalk.i64_in _ (by omega)
    go_enter Tryz.func9, Tryz.ntmps9
    go_upto_region 1 with fail
    have T0 := hide (Bl.one w #[.slice a1 n1 k1, .slice a2 n2 k2, .int .i64 c0, .int .i64 c1, .int .i64 c2, .int .i64 c3, .string pa, .int .i64 c4, .int .i64 c5, .int .i64 c6, .int .i64 c7, .int .i64 c8, .int .i64 c9, .int .i64 c10, .int .i64 c11, .int .i64 c12, .int .i64 c13, .int .i64 c14] 25)
    generalize (w.alloc (.cells #[.slice a1 n1 k1, .slice a2 n2 k2, .int .i64 c0, .int .i64 c1, .int .i64 c2, .int .i64 c3, .string pa, .int .i64 c4, .int .i64 c5, .int .i64 c6, .int .i64 c7, .int .i64 c8, .int .i64 c9, .int .i64 c10, .int .i64 c11, .int .i64 c12, .int .i64 c13, .int .i64 c14] 25)) = x at T0 ⊢
    have HRA : Hid (x.rangeAt w.heap.size 0 ([.slice a1 n1 k1, .slice a2 n2 k2, .int .i64 c0, .int .i64 c1, .int .i64 c2, .int .i64 c3, .string pa, .int .i64 c4, .int .i64 c5, .int .i64 c6, .int .i64 c7, .int .i64 c8, .int .i64 c9, .int .i64 c10, .int .i64 c11, .int .i64 c12, .int .i64 c13, .int .i64 c14] : List Value)) := hide (by
      intro j v hv
      rw [Nat.zero_add]
      exact (T0.out.cell 0 rfl j).trans (by rw [List.getElem?_toArray]; exact hv))
    refine wp_region_lit ?_
    refine wpList_load_mid rfl 25 _ rfl w.heap.size 0 rfl ([.slice a1 n1 k1, .slice a2 n2 k2, .int .i64 c0, .int .i64 c1, .int .i64 c2, .int .i64 c3, .string pa, .int .i64 c4, .int .i64 c5, .int .i64 c6, .int .i64 c7, .int .i64 c8, .int .i64 c9, .int .i64 c10, .int .i64 c11, .int .i64 c12, .int .i64 c13, .int .i64 c14] : List Value) _ HRA.out Tryz.underlying25 rfl (by kernel_rfl) ?_
    simp only [Act.put, List.setIfInBounds_toArray, List.set_cons_zero, List.set_cons_succ]
    clear HRA
    go_wp2_with fail
    refine (HC.out _ T0.out.b).mono ?_
    rintro e w1 ⟨rfl, bb⟩
    have T1 := hide (T0.out.below bb)
    clear bb T0 HC
    have c0' : w1.cell? ⟨w.heap.size, 0, none⟩ = some (.slice a1 n1 k1) := T1.out.cell 0 rfl 0
    have c1' : w1.cell? ⟨w.heap.size, 1, none⟩ = some (.slice a2 n2 k2) := T1.out.cell 0 rfl 1
    have c11' : w1.cell? ⟨w.heap.size, 11, none⟩ = some (.int .i64 c8) := T1.out.cell 0 rfl 11
    have c12' : w1.cell? ⟨w.heap.size, 12, none⟩ = some (.int .i64 c9) := T1.out.cell 0 rfl 12
    have c13' : w1.cell? ⟨w.heap.size, 13, none⟩ = some (.int .i64 c10) := T1.out.cell 0 rfl 13
    have c17' : w1.cell? ⟨w.heap.size, 17, none⟩ = some (.int .i64 c14) := T1.out.cell 0 rfl 17
    have HCW := hide T1.out.b
    go_upto_region 6 with fail
    refine wp_region_cl (by kernel_rfl) (by kernel_rfl) ?_
    refine cl_val (v := ?_) rfl (fun W hW => ?_) ?_
    rotate_left
    · unfold Oper.quietAt; go_simp; try with_reducible rfl
    simp only [Act.put, List.setIfInBounds_toArray, List.set_cons_zero, List.set_cons_succ]
    refine cl_val (v := ?_) rfl (fun W hW => ?_) ?_
    rotate_left
    · have l0 := hW.cell c17'; unfold Oper.quietAt; go_simp; try with_reducible rfl
    simp only [Act.put, List.setIfInBounds_toArray, List.set_cons_zero, List.set_cons_succ]
    refine cl_move _ rfl rfl ?_
    simp only [Act.put, List.setIfInBounds_toArray, List.set_cons_zero, List.set_cons_succ]
    refine cl_val (v := ?_) rfl (fun W hW => ?_) ?_
    rotate_left
    · unfold Oper.quietAt; go_simp; try with_reducible rfl
    simp only [Act.put, List.setIfInBounds_toArray, List.set_cons_zero, List.set_cons_succ]
    refine cl_val (v := ?_) rfl (fun W hW => ?_) ?_
    rotate_left
    · unfold Oper.quietAt; go_simp; try with_reducible rfl
    simp only [Act.put, List.setIfInBounds_toArray, List.set_cons_zero, List.set_cons_succ]
    refine cl_val (v := ?_) rfl (fun W hW => ?_) ?_
    rotate_left
    · have l0 := hW.cell c0'; unfold Oper.quietAt; go_simp; try with_reducible rfl
    simp only [Act.put, List.setIfInBounds_toArray, List.set_cons_zero, List.set_cons_succ]
    refine cl_val (v := .int .i64 cp) rfl (fun W hW => ?_) ?_
    · unfold Oper.quietAt; go_simp; exact call_cl hW (HH2.out _ (HCW.out.trans (hW.out.mono HCW.out.size)))
    simp only [Act.put, List.setIfInBounds_toArray, List.set_cons_zero, List.set_cons_succ]
    refine cl_move _ rfl rfl ?_
    simp only [Act.put, List.setIfInBounds_toArray, List.set_cons_zero, List.set_cons_succ]
    refine cl_val (v := ?_) rfl (fun W hW => ?_) ?_
    rotate_left
    · unfold Oper.quietAt; go_simp; try with_reducible rfl
    simp only [Act.put, List.setIfInBounds_toArray, List.set_cons_zero, List.set_cons_succ]
    refine cl_val (v := ?_) rfl (fun W hW => ?_) ?_
    rotate_left
    · unfold Oper.quietAt; go_simp; try with_reducible rfl
    simp only [Act.put, List.setIfInBounds_toArray, List.set_cons_zero, List.set_cons_succ]
    refine cl_assign _ rfl rfl ?_
    simp only [Act.put, List.setIfInBounds_toArray, List.set_cons_zero, List.set_cons_succ]
    refine cl_assign _ rfl rfl ?_
    simp only [Act.put, List.setIfInBounds_toArray, List.set_cons_zero, List.set_cons_succ]
    refine wpQuiet_nil ?_
    intro z Hz
    have HZ : Hid (Below w.heap.size w z) := hide (T1.out.b.trans (Hz.out.mono T1.out.b.size))
    go_wp2_with fail
    go_ret2
    exact ⟨rfl, HZ.out⟩
end Go.Proofs.YtekkhjlipijmcaaGreatDoor
