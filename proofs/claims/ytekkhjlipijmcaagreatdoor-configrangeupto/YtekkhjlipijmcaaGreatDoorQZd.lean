/- QZd: ZRb ZLaid ZCk. -/
import Derived.Test.YtekkhjlipijmcaaGreatDoorQZb
import Derived.Test.YtekkhjlipijmcaaGreatDoorRows
import Derived.Lib.LaidTab
import Derived.Stop.LaidErr
import Derived.LaidLaws
import Derived.LaidSub
import Derived.Shelf.Vars
import Derived.Lay
import Derived.MakeChecks
import Derived.Test.YtekkhjlipijmcaaGreatDoorQZc
/- How much a proxy may hold: the document's. -/
namespace Go.Proofs.YtekkhjlipijmcaaGreatDoor
open Go.ChangeShapes Go.WideShapes Go.ChangeAt Go.RowKit
set_option linter.unusedVariables false

set_option maxHeartbeats 4000000 in
set_option maxRecDepth 100000 in
theorem rbounds_any (w : World) (a1 a2 : Option Addr) (k1 k2 : Nat) (C : Cfg) (h : InC w a1 a2 k1 k2 C) (hB : cfgB C = true) :
    Calls Tryz.prog 13 #[cfgV a1 a2 k1 k2 C] w fun e w' => e = .returned (.tuple #[.int .i64 (C.c14 + capsI C.H + (C.H.length : Int)), .int .i64 (4 * C.c14 + 3 * capsI C.H + 3 * (C.H.length : Int) + attI C.R * C.c14), .int .i64 (C.c14 * (2 * C.c8 + C.c9 + C.c10 + 8192) + capsI C.H * (C.c8 + C.c9 + 8192))]) ∧ Below w.heap.size w w' := by
  have HHr := hide (fun W (b : Below w.heap.size w W) => (h.below (w' := W) b).h)
  have HRr := hide (fun W (b : Below w.heap.size w W) => (h.below (w' := W) b).r)
  obtain ⟨h0, h1, q0, q1, hca, hat, hmh, hmb, hmo, hcl⟩ := Wt.of hB
  have HL := hide (capsI_le C.H h1 (fun x hx => by have := hca x hx; omega))
  have HLA := hide (attI_le C.R hat)
  have HC := hide hat
  clear h hB hca hat
  unfold cfgV
  obtain ⟨H, L, pa, c0, c1, c2, c3, c4, c5, c6, c7, c8, c9, c10, c11, c12, c13, c14⟩ := C
  simp only at HHr HRr h0 h1 q0 q1 hmh hmb hmo hcl HL HLA HC ⊢
  obtain ⟨n1, Hn1⟩ : ∃ n1, Hid (H.length = n1) := ⟨_, hide rfl⟩
  obtain ⟨n2, Hn2⟩ : ∃ n2, Hid (L.length = n2) := ⟨_, hide rfl⟩
  rw [Hn1.out] at HHr h0 h1 ⊢
  rw [Hn2.out] at HRr q0 q1 ⊢
  obtain ⟨mh0, mh1⟩ := hmh
  obtain ⟨mb0, mb1⟩ := hmb
  obtain ⟨mo0, mo1⟩ := hmo
  obtain ⟨cl0, cl1⟩ := hcl
  obtain ⟨cp, Hcp⟩ : ∃ c, Hid (capsI H = c) := ⟨_, hide rfl⟩
  obtain ⟨ap, Hap⟩ : ∃ c, Hid (attI L = c) := ⟨_, hide rfl⟩
  rw [Hcp.out, Hap.out]
  go_enter Tryz.func13, Tryz.ntmps13
  go_upto_region 1 with fail
  have T0 := hide (Bl.one w #[.slice a1 n1 k1, .slice a2 n2 k2, .int .i64 c0, .int .i64 c1, .int .i64 c2, .int .i64 c3, .string pa, .int .i64 c4, .int .i64 c5, .int .i64 c6, .int .i64 c7, .int .i64 c8, .int .i64 c9, .int .i64 c10, .int .i64 c11, .int .i64 c12, .int .i64 c13, .int .i64 c14] 25)
  generalize (w.alloc (.cells #[.slice a1 n1 k1, .slice a2 n2 k2, .int .i64 c0, .int .i64 c1, .int .i64 c2, .int .i64 c3, .string pa, .int .i64 c4, .int .i64 c5, .int .i64 c6, .int .i64 c7, .int .i64 c8, .int .i64 c9, .int .i64 c10, .int .i64 c11, .int .i64 c12, .int .i64 c13, .int .i64 c14] 25)) = x at T0 ⊢
  have x0 : x.cell? ⟨w.heap.size, 0, none⟩ = some (.slice a1 n1 k1) := T0.out.cell 0 rfl 0
  go_wp2_with fail
  clear x0
  go_loopw [15, 5] (fun i s wr => ∃ (k : Nat) (z : Int), k ≤ n1 ∧ i = .int .i64 k ∧ s = .int .i64 z ∧ (0 ≤ z ∧ z ≤ 64 * (k : Int)) ∧ Hid (z = capsI (H.take k)) ∧ Hid (Bl w wr [(#[.slice a1 n1 k1, .slice a2 n2 k2, .int .i64 c0, .int .i64 c1, .int .i64 c2, .int .i64 c3, .string pa, .int .i64 c4, .int .i64 c5, .int .i64 c6, .int .i64 c7, .int .i64 c8, .int .i64 c9, .int .i64 c10, .int .i64 c11, .int .i64 c12, .int .i64 c13, .int .i64 c14], 25)])) (fun i _ _ => n1 - (intOf i).toNat)
  case atStart => exact ⟨0, 0, Nat.zero_le _, rfl, rfl, by omega, hide rfl, T0⟩
  case round =>
    clear T0
    obtain ⟨k, z, hk, rfl, rfl, hz, HZ, HT⟩ := hrel
    by_cases hlt : k < n1
    · obtain ⟨a9, c9', he2, hcv⟩ := HHr.out wr HT.out.b
      rw [Hn1.out] at he2
      simp only [Value.slice.injEq, true_and] at he2
      obtain ⟨rfl, rfl⟩ := he2
      have hlH : k < H.length := by rw [Hn1.out]; exact hlt
      obtain ⟨g, o, rfl, hg, r0, r1, r2⟩ := hcv k hlH
      have HS := hide (capsI_snoc H k hlH)
      have hz2 := HL.out (k + 1) (by omega)
      rw [HS.out, ← HZ.out] at hz2
      rw [← HZ.out] at HS
      generalize H[k] = y at r0 r1 r2 HS hz2
      obtain ⟨nm, ca, pe⟩ := y
      simp only at r0 r1 r2 hz2
      clear hcv hg hlH
      have HT2 := hide (HT.out.below (Bl.one wr #[.string nm, .int .i64 ca, .int .i64 pe] 43).b)
      go_wp2_with fail
      go_roundw
      case rel => exact ⟨k + 1, z + ca, by omega, by go_num, by go_num, by omega, hide HS.out.symm, HT2⟩
      case measure => simp [intOf]; omega
    · obtain rfl : n1 = k := by omega
      obtain rfl : cp = z := by rw [HZ.out, ← Hcp.out, ← Hn1.out, List.take_length]
      obtain ⟨cp0, cp1⟩ := hz
      clear HZ HL HHr
      have x1 : wr.cell? ⟨w.heap.size, 1, none⟩ = some (.slice a2 n2 k2) := HT.out.cell 0 rfl 1
      obtain ⟨wf, hwf⟩ : ∃ wf, wf = wr := ⟨_, rfl⟩
      subst hwf
      go_wp2_with fail
      clear x1
      go_loopw [27, 8] (fun i s wr => ∃ (k : Nat) (z : Int), k ≤ n2 ∧ i = .int .i64 k ∧ s = .int .i64 z ∧ (0 ≤ z ∧ z ≤ 9) ∧ Hid (z = attI (L.take k)) ∧ Hid (Bl w wr [(#[.slice a1 n1 k1, .slice a2 n2 k2, .int .i64 c0, .int .i64 c1, .int .i64 c2, .int .i64 c3, .string pa, .int .i64 c4, .int .i64 c5, .int .i64 c6, .int .i64 c7, .int .i64 c8, .int .i64 c9, .int .i64 c10, .int .i64 c11, .int .i64 c12, .int .i64 c13, .int .i64 c14], 25)])) (fun i _ _ => n2 - (intOf i).toNat)
      case atStart => exact ⟨0, 0, Nat.zero_le _, rfl, rfl, by omega, hide rfl, HT⟩
      case round =>
        clear HT
        obtain ⟨k, z, hk2, rfl, rfl, ⟨z0, z1⟩, HZ, HT⟩ := hrel
        by_cases hlt : k < n2
        · obtain ⟨a9, c9', he2, hcv⟩ := HRr.out wr HT.out.b
          rw [Hn2.out] at he2
          simp only [Value.slice.injEq, true_and] at he2
          obtain ⟨rfl, rfl⟩ := he2
          have hlL : k < L.length := by rw [Hn2.out]; exact hlt
          obtain ⟨g, o, m, q, rfl, hg, SM, SQ, cq, k0, k1, k2, k3, k4, k5, k6, k7, k8, k9, k10, k11, k12, k13, k14, k15, k16, k17, k18, k19, k20⟩ := hcv k hlL
          have HS := hide (attI_snoc L k hlL)
          have hz2 := HLA.out (k + 1) (by omega)
          have hcc := HC.out L[k] (List.getElem_mem hlL)
          rw [HS.out, ← HZ.out] at hz2
          rw [← HZ.out] at HS
          generalize L[k] = y at *
          obtain ⟨ho, pf, M, hd, va, HL9, r0, r1, r2, r3, r4, r5, r6, r7, r8, r9, r10, r11, r12, r13, r14⟩ := y
          simp only at SM SQ hcc hz2 k0 k1 k2 k3 k4 k5 k6 k7 k8 k9 k10 k11 k12 k13 k14 k15 k16 k17 k18 k19 k20
          simp only at HS
          obtain ⟨a1, c1, rfl, -⟩ := SM
          obtain ⟨a2, c2, rfl, -⟩ := SQ
          generalize M.length = n1 at *
          generalize HL9.length = n2 at *
          obtain ⟨⟨y0, y1⟩, y2, y3⟩ := hcc
          clear hcv hg cq hlL hz2
          have HRA : Hid (wr.rangeAt g (o + k * 21) ([.string ho, .string pf, .slice a1 n1 c1, .string hd, .string va, .slice a2 n2 c2, .int .i64 r0, .int .i64 r1, .int .i64 r2, .int .i64 r3, .int .i64 r4, .int .i64 r5, .int .i64 r6, .int .i64 r7, .int .i64 r8, .int .i64 r9, .int .i64 r10, .int .i64 r11, .int .i64 r12, .int .i64 r13, .int .i64 r14] : List Value)) := hide (by
            intro j v hv
            match j, hv with
            | 0, hv => simp at hv; subst hv; exact k0
            | 1, hv => simp at hv; subst hv; exact k1
            | 2, hv => simp at hv; subst hv; exact k2
            | 3, hv => simp at hv; subst hv; exact k3
            | 4, hv => simp at hv; subst hv; exact k4
            | 5, hv => simp at hv; subst hv; exact k5
            | 6, hv => simp at hv; subst hv; exact k6
            | 7, hv => simp at hv; subst hv; exact k7
            | 8, hv => simp at hv; subst hv; exact k8
            | 9, hv => simp at hv; subst hv; exact k9
            | 10, hv => simp at hv; subst hv; exact k10
            | 11, hv => simp at hv; subst hv; exact k11
            | 12, hv => simp at hv; subst hv; exact k12
            | 13, hv => simp at hv; subst hv; exact k13
            | 14, hv => simp at hv; subst hv; exact k14
            | 15, hv => simp at hv; subst hv; exact k15
            | 16, hv => simp at hv; subst hv; exact k16
            | 17, hv => simp at hv; subst hv; exact k17
            | 18, hv => simp at hv; subst hv; exact k18
            | 19, hv => simp at hv; subst hv; exact k19
            | 20, hv => simp at hv; subst hv; exact k20
            | j + 21, hv => simp at hv)
          clear k0 k1 k2 k3 k4 k5 k6 k7 k8 k9 k10 k11 k12 k13 k14 k15 k16 k17 k18 k19 k20
          go_upto_region 10 with fail
          refine wp_region_lit ?_
          refine wpList_plain rfl fun K hK => ?_
          go_simp
          refine hK _ _ ?_
          clear hK K
          refine wpList_load_mid rfl 40 _ rfl g (o + k * 21) rfl ([.string ho, .string pf, .slice a1 n1 c1, .string hd, .string va, .slice a2 n2 c2, .int .i64 r0, .int .i64 r1, .int .i64 r2, .int .i64 r3, .int .i64 r4, .int .i64 r5, .int .i64 r6, .int .i64 r7, .int .i64 r8, .int .i64 r9, .int .i64 r10, .int .i64 r11, .int .i64 r12, .int .i64 r13, .int .i64 r14] : List Value) _ HRA.out Tryz.underlying40 rfl (by kernel_rfl) ?_
          simp only [Act.put, List.setIfInBounds_toArray, List.set_cons_zero, List.set_cons_succ]
          refine wpList_plain rfl fun K hK => ?_
          go_simp
          refine hK _ _ ?_
          clear hK K
          refine wpList_store_new rfl 40 _ _ rfl _ #[.string ho, .string pf, .slice a1 n1 c1, .string hd, .string va, .slice a2 n2 c2, .int .i64 r0, .int .i64 r1, .int .i64 r2, .int .i64 r3, .int .i64 r4, .int .i64 r5, .int .i64 r6, .int .i64 r7, .int .i64 r8, .int .i64 r9, .int .i64 r10, .int .i64 r11, .int .i64 r12, .int .i64 r13, .int .i64 r14] rfl rfl (by kernel_rfl) rfl (by simp [Value.oneCell']) ?_
          simp only [Act.put]
          refine wpList_nil ?_
          clear HRA
          go_upto_region 11 with fail
          have U1 := hide (Bl.one wr #[.string ho, .string pf, .slice a1 n1 c1, .string hd, .string va, .slice a2 n2 c2, .int .i64 r0, .int .i64 r1, .int .i64 r2, .int .i64 r3, .int .i64 r4, .int .i64 r5, .int .i64 r6, .int .i64 r7, .int .i64 r8, .int .i64 r9, .int .i64 r10, .int .i64 r11, .int .i64 r12, .int .i64 r13, .int .i64 r14] 40)
          generalize (wr.alloc (.cells #[.string ho, .string pf, .slice a1 n1 c1, .string hd, .string va, .slice a2 n2 c2, .int .i64 r0, .int .i64 r1, .int .i64 r2, .int .i64 r3, .int .i64 r4, .int .i64 r5, .int .i64 r6, .int .i64 r7, .int .i64 r8, .int .i64 r9, .int .i64 r10, .int .i64 r11, .int .i64 r12, .int .i64 r13, .int .i64 r14] 40)) = x at U1 ⊢
          have d16 : x.cell? ⟨wr.heap.size, 16, none⟩ = some (.int .i64 r10) := U1.out.cell 0 rfl 16
          have d17 : x.cell? ⟨wr.heap.size, 17, none⟩ = some (.int .i64 r11) := U1.out.cell 0 rfl 17
          have HT2 := hide (HT.out.below U1.out.b)
          have E0 : Hid ((if z < r10 + r11 + 1 then r10 + r11 + 1 else z) = attI (L.take (k + 1))) := hide HS.out.symm
          clear HS HZ U1 HLA HT
          by_cases hgt : z < r10 + r11 + 1
          · rw [if_pos hgt] at E0
            have dgt : decide (z < r10 + r11 + 1) = true := decide_eq_true hgt
            go_wp2_with fail
            go_roundw
            case rel => exact ⟨k + 1, r10 + r11 + 1, by omega, by go_num, by go_num, by omega, E0, HT2⟩
            case measure => simp [intOf]; omega
          · rw [if_neg hgt] at E0
            have dgt : decide (z < r10 + r11 + 1) = false := decide_eq_false hgt
            go_wp2_with fail
            go_roundw
            case rel => exact ⟨k + 1, z, by omega, by go_num, rfl, by omega, E0, HT2⟩
            case measure => simp [intOf]; omega
        · obtain rfl : n2 = k := by omega
          obtain rfl : ap = z := by rw [HZ.out, ← Hap.out, ← Hn2.out, List.take_length]
          clear HZ HLA HRr HC
          have x0 : wr.cell? ⟨w.heap.size, 0, none⟩ = some (.slice a1 n1 k1) := HT.out.cell 0 rfl 0
          have x11 : wr.cell? ⟨w.heap.size, 11, none⟩ = some (.int .i64 c8) := HT.out.cell 0 rfl 11
          have x12 : wr.cell? ⟨w.heap.size, 12, none⟩ = some (.int .i64 c9) := HT.out.cell 0 rfl 12
          have x13 : wr.cell? ⟨w.heap.size, 13, none⟩ = some (.int .i64 c10) := HT.out.cell 0 rfl 13
          have x17 : wr.cell? ⟨w.heap.size, 17, none⟩ = some (.int .i64 c14) := HT.out.cell 0 rfl 17
          have p0 : 0 ≤ ap * c14 := Int.mul_nonneg z0 (by omega)
          have p1 : ap * c14 ≤ 9 * 256 := Int.mul_le_mul z1 cl1 (by omega) (by omega)
          have p2 : 0 ≤ c14 * (2 * c8 + c9 + c10 + 8192) := Int.mul_nonneg (by omega) (by omega)
          have p3 : c14 * (2 * c8 + c9 + c10 + 8192) ≤ 256 * 3000000 := Int.mul_le_mul cl1 (by omega) (by omega) (by omega)
          have p4 : 0 ≤ cp * (c8 + c9 + 8192) := Int.mul_nonneg cp0 (by omega)
          have p5 : cp * (c8 + c9 + 8192) ≤ 1024 * 3000000 := Int.mul_le_mul (by omega) (by omega) (by omega) (by omega)
          have w1' : IntKind.i64.wrap (4 * c14) = 4 * c14 := IntWalk.i64_in _ (by omega)
          have w2' : IntKind.i64.wrap (3 * cp) = 3 * cp := IntWalk.i64_in _ (by omega)
          have w3' : IntKind.i64.wrap (4 * c14 + 3 * cp) = 4 * c14 + 3 * cp := IntWalk.i64_in _ (by omega)
          have w4' : IntKind.i64.wrap (3 * (n1 : Int)) = 3 * (n1 : Int) := IntWalk.i64_in _ (by omega)
          have w5' : IntKind.i64.wrap (4 * c14 + 3 * cp + 3 * (n1 : Int)) = 4 * c14 + 3 * cp + 3 * (n1 : Int) := IntWalk.i64_in _ (by omega)
          have w6' : IntKind.i64.wrap (ap * c14) = ap * c14 := IntWalk.i64_in _ (by omega)
          have w7' : IntKind.i64.wrap (4 * c14 + 3 * cp + 3 * (n1 : Int) + ap * c14) = 4 * c14 + 3 * cp + 3 * (n1 : Int) + ap * c14 := IntWalk.i64_in _ (by omega)
          have v1' : IntKind.i64.wrap (c14 * (2 * c8 + c9 + c10 + 8192)) = c14 * (2 * c8 + c9 + c10 + 8192) := IntWalk.i64_in _ (by omega)
          have v2' : IntKind.i64.wrap (cp * (c8 + c9 + 8192)) = cp * (c8 + c9 + 8192) := IntWalk.i64_in _ (by omega)
          have v3' : IntKind.i64.wrap (c14 * (2 * c8 + c9 + c10 + 8192) + cp * (c8 + c9 + 8192)) = c14 * (2 * c8 + c9 + c10 + 8192) + cp * (c8 + c9 + 8192) := IntWalk.i64_in _ (by omega)
          have u1' : IntKind.i64.wrap (c14 + cp) = c14 + cp := IntWalk.i64_in _ (by omega)
          have u2' : IntKind.i64.wrap (c14 + cp + (n1 : Int)) = c14 + cp + (n1 : Int) := IntWalk.i64_in _ (by omega)
          have s1' : IntKind.i64.wrap (2 * c8) = 2 * c8 := IntWalk.i64_in _ (by omega)
          have s2' : IntKind.i64.wrap (2 * c8 + c9) = 2 * c8 + c9 := IntWalk.i64_in _ (by omega)
          have s3' : IntKind.i64.wrap (2 * c8 + c9 + c10) = 2 * c8 + c9 + c10 := IntWalk.i64_in _ (by omega)
          have s4' : IntKind.i64.wrap (2 * c8 + c9 + c10 + 8192) = 2 * c8 + c9 + c10 + 8192 := IntWalk.i64_in _ (by omega)
          have s5' : IntKind.i64.wrap (c8 + c9) = c8 + c9 := IntWalk.i64_in _ (by omega)
          have s6' : IntKind.i64.wrap (c8 + c9 + 8192) = c8 + c9 + 8192 := IntWalk.i64_in _ (by omega)
          go_wp2_with fail
          go_quiet (fail)
          have HZ2 : Hid (Below w.heap.size w (wr.drewN nq)) := hide (HT.out.b.trans ⟨rfl, rfl, rfl, Nat.le_refl _, fun _ _ => rfl⟩)
          go_wp2_with fail
          go_ret3
          exact ⟨rfl, HZ2.out⟩
end Go.Proofs.YtekkhjlipijmcaaGreatDoor
/- The tables of ranges, out of the row's list; worlds that hold the list. -/
namespace Go.Proofs.YtekkhjlipijmcaaGreatDoor
open Go.ChangeShapes Go.WideShapes Go.ChangeAt Go.RowKit
def laidZ : List (String × DataW Unit) := [("unicode/utf8.acceptRanges", Rows.laid_unicode_utf8_acceptRanges), ("headrace/config.hostRanges", Rows.laid_headrace_config_hostRanges), ("headrace/config.routeRanges", Rows.laid_headrace_config_routeRanges), ("headrace/config.restRanges", Rows.laid_headrace_config_restRanges), ("unicode/utf8.first", Rows.laid_unicode_utf8_first)]
theorem metZ (os : Os) (args : Array Value) : laidMet Tryz.prog laidZ ((World.laidAll Tryz.prog os laidZ).forCall (fun _ _ => 0) ⟨#[], args, []⟩).memory :=
  laidMet_laidAll args (by kernel_rfl) (by kernel_rfl)
theorem plainZ {W : World} (h : laidMetH Tryz.prog laidZ W) : laidMet Tryz.prog laidZ W := by
  rw [MakeChecks.laidMetH_plain _ _ _ (by kernel_rfl)] at h
  exact h
def pairsD {H : Type} (L : List (Int × Int)) : DataW H := .agg (L.map fun x => .agg [.lit (.int .i64 x.1), .lit (.int .i64 x.2)])
theorem cells_of_pairs {H : Type} {enc : TypeId × Value → H} {P : Program} {w : World} {base : Nat} {sp : Nat → Bool} {held : Bool} {fuel : Nat} {t e i64 : TypeId} {n : Nat} {f0 f1 : Field} {cs : List Value} {L : List (Int × Int)} {p : List MemPlace}
    (ht : P.underlying t = some (.array n e)) (he : P.underlying e = some (.struct #[f0, f1])) (hi : P.underlying i64 = some (.int .i64)) (t0 : f0.type = i64) (t1 : f1.type = i64) (o0 : f0.offset = 0) (o1 : f1.offset = 1) (hci : P.cellsOf i64 = 1) (hce : P.cellsOf e = 2)
    (h : DataW.trod enc P w base sp held fuel t cs = some (pairsD L, p)) : ∀ k a b, L[k]? = some (a, b) → cs[2 * k]? = some (.int .i64 a) ∧ cs[2 * k + 1]? = some (.int .i64 b) := by
  intro k a b hk
  obtain ⟨xs, m, _, hx, _, hlen, hel⟩ := DataW.trod_array ht h
  have hxs : xs.map (·.1) = L.map fun x => (DataW.agg [.lit (.int .i64 x.1), .lit (.int .i64 x.2)] : DataW H) := by
    have := congrArg Prod.fst hx
    simpa [pairsD] using this.symm
  have hkx : (xs.map (·.1))[k]? = some (DataW.agg [.lit (.int .i64 a), .lit (.int .i64 b)] : DataW H) := by rw [hxs]; simp [hk]
  rw [List.getElem?_map, Option.map_eq_some_iff] at hkx
  obtain ⟨y, hy, hy1⟩ := hkx
  have hkn : k < n := by rw [← hlen]; exact (List.getElem?_eq_some_iff.1 hy).1
  have hf := hel k hkn
  rw [hy] at hf
  obtain ⟨y0, y1, m2, hy2, _, h0, h1⟩ := trod_struct2 he hf
  rw [t0, o0, hci] at h0
  rw [t1, o1, hci] at h1
  obtain ⟨z0, hc0, hz0, _⟩ := DataW.trod_int hi h0
  obtain ⟨z1, hc1, hz1, _⟩ := DataW.trod_int hi h1
  rw [hy2, hz0, hz1] at hy1
  simp only [DataW.agg.injEq, List.cons.injEq, DataW.lit.injEq, Lit.int.injEq, true_and, and_true] at hy1
  obtain ⟨rfl, rfl⟩ := hy1
  rw [hce] at hc0 hc1
  constructor
  · have := congrArg (·[0]?) hc0
    simpa [List.getElem?_take, List.getElem?_drop, Nat.mul_comm] using this
  · have := congrArg (·[0]?) hc1
    simpa [List.getElem?_take, List.getElem?_drop, Nat.mul_comm] using this
theorem rg_head {W : World} {name : String} {L : List (Int × Int)} {rest : List (String × DataW Unit)} {g : Nat} {t e : TypeId} {n : Nat} {f0 f1 : Field}
    (hg : Tryz.prog.globalNamed name = some g) (hty : (Tryz.prog.globals[g]?).map (·.type) = some t) (ht : Tryz.prog.underlying t = some (.array n e)) (he : Tryz.prog.underlying e = some (.struct #[f0, f1])) (t0 : f0.type = 3) (t1 : f1.type = 3) (o0 : f0.offset = 0) (o1 : f1.offset = 1) (hce : Tryz.prog.cellsOf e = 2) (hL : L ≠ [])
    (h : laidMet Tryz.prog ((name, pairsD L) :: rest) W) : RG W g L := by
  obtain ⟨ps, ⟨g', t', cs, fuel, p, q, hg', ht', hvar, hd, _, _⟩, _⟩ := h
  obtain rfl := Option.some.inj (hg.symm.trans hg')
  obtain rfl := Option.some.inj (hty.symm.trans ht')
  have hc := cells_of_pairs ht he Tryz.underlying3 t0 t1 o0 o1 (by kernel_rfl) hce hd
  have hw : ∀ k a b, L[k]? = some (a, b) → W.cell? ⟨g, 2 * k, none⟩ = some (.int .i64 a) ∧ W.cell? ⟨g, 2 * k + 1, none⟩ = some (.int .i64 b) := fun k a b hk => by
    obtain ⟨h0, h1⟩ := hc k a b hk
    exact ⟨by rw [World.var?_cell hg hvar]; simpa using h0, by rw [World.var?_cell hg hvar]; simpa using h1⟩
  refine ⟨?_, hw⟩
  cases L with
  | nil => exact absurd rfl hL
  | cons x l => exact World.block_lt_of_cell? W _ (hw 0 x.1 x.2 rfl).1
theorem tbl_of {W : World} (h : laidMetH Tryz.prog laidZ W) (hs : W.ShapedOpen Tryz.prog) : Tbl W := by
  have h1 := laidMet.tail (plainZ h)
  have h2 := laidMet.tail h1
  have h3 := laidMet.tail h2
  refine ⟨?_, ?_, ?_, ?_⟩
  · exact rg_head (name := "headrace/config.hostRanges") (by kernel_rfl) (by kernel_rfl) Tryz.underlying71 Tryz.underlying70 rfl rfl rfl rfl (by kernel_rfl) (by decide) h1
  · exact rg_head (name := "headrace/config.routeRanges") (by kernel_rfl) (by kernel_rfl) Tryz.underlying75 Tryz.underlying70 rfl rfl rfl rfl (by kernel_rfl) (by decide) h2
  · exact rg_head (name := "headrace/config.restRanges") (by kernel_rfl) (by kernel_rfl) Tryz.underlying75 Tryz.underlying70 rfl rfl rfl rfl (by kernel_rfl) (by decide) h3
  · obtain ⟨m, hm⟩ := cell_of_shapedOpen_int (P := Tryz.prog) (g := 3) (t := 3) (zero := #[.int .i64 0]) hs (of_decide_eq_true (by kernel_rfl)) (by kernel_rfl) rfl (by kernel_rfl) (by kernel_rfl) Tryz.underlying3
    exact ⟨World.block_lt_of_cell? W _ hm, m, hm⟩
end Go.Proofs.YtekkhjlipijmcaaGreatDoor
/- ConfigChecks, walked. -/
namespace Go.Proofs.YtekkhjlipijmcaaGreatDoor
open Go.ChangeShapes Go.WideShapes Go.ChangeAt Go.RowKit Go.Deep
set_option linter.unusedVariables false

/-- The cells of a configuration, its two rows apart. -/
def cfgCs (v1 v2 : Value) (C : Cfg) : List Value := [v1, v2, .int .i64 C.c0, .int .i64 C.c1, .int .i64 C.c2, .int .i64 C.c3, .string C.pa, .int .i64 C.c4, .int .i64 C.c5, .int .i64 C.c6, .int .i64 C.c7, .int .i64 C.c8, .int .i64 C.c9, .int .i64 C.c10, .int .i64 C.c11, .int .i64 C.c12, .int .i64 C.c13, .int .i64 C.c14]
theorem range_of {W : World} {b : Nat} {cs : List Value} {t : TypeId} (h : W.heap[b]? = some (.cells cs.toArray t (0, 0))) : W.rangeAt b 0 cs := by
  intro j v hv
  rw [Nat.zero_add, cell_at h, List.getElem?_toArray]
  exact hv
def conI (C : Cfg) : Int := C.c14 + capsI C.H + (C.H.length : Int)
def timI (C : Cfg) : Int := 4 * C.c14 + 3 * capsI C.H + 3 * (C.H.length : Int) + attI C.R * C.c14
def bytI (C : Cfg) : Int := C.c14 * (2 * C.c8 + C.c9 + C.c10 + 8192) + capsI C.H * (C.c8 + C.c9 + 8192)
theorem cfg_same (a1 a2 : Option Addr) (k1 k2 : Nat) (C : Cfg) : cfgV a1 a2 k1 k2 C = .agg (cfgCs (.slice a1 C.H.length k1) (.slice a2 C.R.length k2) C).toArray := rfl
set_option maxHeartbeats 2000000 in
set_option maxRecDepth 100000 in
theorem checks_walk (w : World) (a1 a2 : Option Addr) (k1 k2 : Nat) (C : Cfg) (h : InC w a1 a2 k1 k2 C) :
    Calls Tryz.prog 3 #[cfgV a1 a2 k1 k2 C] w fun e w' => e = .returned (.bool true) ∧ Below w.heap.size w w' := by
  have HTB : Hid (Tbl w) := hide ⟨h.g0, h.g1, h.g2, h.mx⟩
  have HC1 := hide (fun W (b : Below w.heap.size w W) => conns_any W a1 a2 k1 k2 C (h.below (w' := W) b))
  have HC2 := hide (fun W (b : Below w.heap.size w W) => timers_any W a1 a2 k1 k2 C (h.below (w' := W) b))
  have HC3 := hide (fun W (b : Below w.heap.size w W) => buffered_any W a1 a2 k1 k2 C (h.below (w' := W) b))
  have HC4 := hide (fun W (b : Below w.heap.size w W) => rcheck_any W a1 a2 k1 k2 C (h.below (w' := W) b))
  have HC5 := hide (fun W (b : Below w.heap.size w W) => check_any W a1 a2 k1 k2 C (h.below (w' := W) b))
  have HC6 := hide (fun (hB : cfgB C = true) W (b : Below w.heap.size w W) => rbounds_any W a1 a2 k1 k2 C (h.below (w' := W) b) hB)
  clear h
  unfold cfgE at HC1 HC2 HC3 HC4 HC5
  rw [show C.c14 + capsI C.H + (C.H.length : Int) = conI C from rfl] at HC1 HC6
  rw [show 4 * C.c14 + 3 * capsI C.H + 3 * (C.H.length : Int) + attI C.R * C.c14 = timI C from rfl] at HC2 HC6
  rw [show C.c14 * (2 * C.c8 + C.c9 + C.c10 + 8192) + capsI C.H * (C.c8 + C.c9 + 8192) = bytI C from rfl] at HC3 HC6
  rw [cfg_same] at HC1 HC2 HC3 HC4 HC5 HC6
  unfold cfgV
  generalize C.H.length = n1 at *
  generalize C.R.length = n2 at *
  generalize conI C = X at *
  generalize timI C = Y at *
  generalize bytI C = Z at *
  cases hB : cfgB C with
  | false =>
    rw [hB] at HC1 HC2 HC3 HC4 HC5
    simp only [Bool.false_eq_true, if_false] at HC1 HC2 HC3 HC4 HC5
    clear HC6 hB
    go_enter Tryz.func3, Tryz.ntmps3
    go_upto_region 1 with fail
    have B0 := hide ((Below.refl w.heap.size w).alloc (Nat.le_refl _) (.cells #[.slice a1 n1 k1, .slice a2 n2 k2, .int .i64 C.c0, .int .i64 C.c1, .int .i64 C.c2, .int .i64 C.c3, .string C.pa, .int .i64 C.c4, .int .i64 C.c5, .int .i64 C.c6, .int .i64 C.c7, .int .i64 C.c8, .int .i64 C.c9, .int .i64 C.c10, .int .i64 C.c11, .int .i64 C.c12, .int .i64 C.c13, .int .i64 C.c14] 25))
    have FA := hide (hp_new w (.cells #[.slice a1 n1 k1, .slice a2 n2 k2, .int .i64 C.c0, .int .i64 C.c1, .int .i64 C.c2, .int .i64 C.c3, .string C.pa, .int .i64 C.c4, .int .i64 C.c5, .int .i64 C.c6, .int .i64 C.c7, .int .i64 C.c8, .int .i64 C.c9, .int .i64 C.c10, .int .i64 C.c11, .int .i64 C.c12, .int .i64 C.c13, .int .i64 C.c14] 25))
    generalize hx0 : w.alloc (.cells #[.slice a1 n1 k1, .slice a2 n2 k2, .int .i64 C.c0, .int .i64 C.c1, .int .i64 C.c2, .int .i64 C.c3, .string C.pa, .int .i64 C.c4, .int .i64 C.c5, .int .i64 C.c6, .int .i64 C.c7, .int .i64 C.c8, .int .i64 C.c9, .int .i64 C.c10, .int .i64 C.c11, .int .i64 C.c12, .int .i64 C.c13, .int .i64 C.c14] 25) = x at *
    clear hx0
    have FC : Hid (x.heap[w.heap.size]? = some (.cells (cfgCs (.slice a1 n1 k1) (.slice a2 n2 k2) C).toArray 25 (0, 0))) := FA
    clear FA
    go_upto_region 1 with fail
    refine wp_region_lit ?_
    refine wpList_load_mid rfl 25 _ rfl w.heap.size 0 rfl (cfgCs (.slice a1 n1 k1) (.slice a2 n2 k2) C) _ (range_of FC.out) Tryz.underlying25 rfl (by kernel_rfl) ?_
    simp only [Act.put, List.setIfInBounds_toArray, List.set_cons_zero, List.set_cons_succ]
    go_wp2_with fail
    refine (HC1.out x B0.out).mono ?_
    rintro e w1 ⟨rfl, bb⟩
    have FC := hide ((bb.block w.heap.size (blk_lt FC.out)).trans FC.out)
    have B0 := hide (B0.out.trans (bb.mono B0.out.size))
    clear bb
    go_upto_region 2 with fail
    refine wp_region_lit ?_
    refine wpList_load_mid rfl 25 _ rfl w.heap.size 0 rfl (cfgCs (.slice a1 n1 k1) (.slice a2 n2 k2) C) _ (range_of FC.out) Tryz.underlying25 rfl (by kernel_rfl) ?_
    simp only [Act.put, List.setIfInBounds_toArray, List.set_cons_zero, List.set_cons_succ]
    go_wp2_with fail
    refine (HC2.out w1 B0.out).mono ?_
    rintro e w2 ⟨rfl, bb⟩
    have FC := hide ((bb.block w.heap.size (blk_lt FC.out)).trans FC.out)
    have B0 := hide (B0.out.trans (bb.mono B0.out.size))
    clear bb
    go_upto_region 3 with fail
    refine wp_region_lit ?_
    refine wpList_load_mid rfl 25 _ rfl w.heap.size 0 rfl (cfgCs (.slice a1 n1 k1) (.slice a2 n2 k2) C) _ (range_of FC.out) Tryz.underlying25 rfl (by kernel_rfl) ?_
    simp only [Act.put, List.setIfInBounds_toArray, List.set_cons_zero, List.set_cons_succ]
    go_wp2_with fail
    refine (HC3.out w2 B0.out).mono ?_
    rintro e w3 ⟨rfl, bb⟩
    have FC := hide ((bb.block w.heap.size (blk_lt FC.out)).trans FC.out)
    have B0 := hide (B0.out.trans (bb.mono B0.out.size))
    clear bb
    go_upto_region 4 with fail
    refine wp_region_lit ?_
    refine wpList_load_mid rfl 25 _ rfl w.heap.size 0 rfl (cfgCs (.slice a1 n1 k1) (.slice a2 n2 k2) C) _ (range_of FC.out) Tryz.underlying25 rfl (by kernel_rfl) ?_
    simp only [Act.put, List.setIfInBounds_toArray, List.set_cons_zero, List.set_cons_succ]
    go_wp2_with fail
    refine (HC4.out w3 B0.out).mono ?_
    rintro e w4 ⟨rfl, bb⟩
    have FC := hide ((bb.block w.heap.size (blk_lt FC.out)).trans FC.out)
    have B0 := hide (B0.out.trans (bb.mono B0.out.size))
    clear bb
    go_upto_region 5 with fail
    refine wp_region_lit ?_
    refine wpList_load_mid rfl 25 _ rfl w.heap.size 0 rfl (cfgCs (.slice a1 n1 k1) (.slice a2 n2 k2) C) _ (range_of FC.out) Tryz.underlying25 rfl (by kernel_rfl) ?_
    simp only [Act.put, List.setIfInBounds_toArray, List.set_cons_zero, List.set_cons_succ]
    go_wp2_with fail
    refine (HC5.out w4 B0.out).mono ?_
    rintro e w5 ⟨rfl, bb⟩
    have FC := hide ((bb.block w.heap.size (blk_lt FC.out)).trans FC.out)
    have B0 := hide (B0.out.trans (bb.mono B0.out.size))
    clear bb
    have HSP := hide (speaks_any w5 (HTB.out.below B0.out))
    go_wp2_with (go_at_call 12; refine HSP.out.mono ?_; rintro e w9 ⟨rfl, HG⟩)
    go_ret
    exact ⟨rfl, B0.out.trans (HG.mono B0.out.size)⟩
  | true =>
    rw [hB] at HC1 HC2 HC3 HC4 HC5
    have HC6 := hide (HC6.out hB)
    simp only [if_true] at HC1 HC2 HC3 HC4 HC5
    clear hB
    go_enter Tryz.func3, Tryz.ntmps3
    go_upto_region 1 with fail
    have B0 := hide ((Below.refl w.heap.size w).alloc (Nat.le_refl _) (.cells #[.slice a1 n1 k1, .slice a2 n2 k2, .int .i64 C.c0, .int .i64 C.c1, .int .i64 C.c2, .int .i64 C.c3, .string C.pa, .int .i64 C.c4, .int .i64 C.c5, .int .i64 C.c6, .int .i64 C.c7, .int .i64 C.c8, .int .i64 C.c9, .int .i64 C.c10, .int .i64 C.c11, .int .i64 C.c12, .int .i64 C.c13, .int .i64 C.c14] 25))
    have FA := hide (hp_new w (.cells #[.slice a1 n1 k1, .slice a2 n2 k2, .int .i64 C.c0, .int .i64 C.c1, .int .i64 C.c2, .int .i64 C.c3, .string C.pa, .int .i64 C.c4, .int .i64 C.c5, .int .i64 C.c6, .int .i64 C.c7, .int .i64 C.c8, .int .i64 C.c9, .int .i64 C.c10, .int .i64 C.c11, .int .i64 C.c12, .int .i64 C.c13, .int .i64 C.c14] 25))
    generalize hx0 : w.alloc (.cells #[.slice a1 n1 k1, .slice a2 n2 k2, .int .i64 C.c0, .int .i64 C.c1, .int .i64 C.c2, .int .i64 C.c3, .string C.pa, .int .i64 C.c4, .int .i64 C.c5, .int .i64 C.c6, .int .i64 C.c7, .int .i64 C.c8, .int .i64 C.c9, .int .i64 C.c10, .int .i64 C.c11, .int .i64 C.c12, .int .i64 C.c13, .int .i64 C.c14] 25) = x at *
    clear hx0
    have FC : Hid (x.heap[w.heap.size]? = some (.cells (cfgCs (.slice a1 n1 k1) (.slice a2 n2 k2) C).toArray 25 (0, 0))) := FA
    clear FA
    go_upto_region 1 with fail
    refine wp_region_lit ?_
    refine wpList_load_mid rfl 25 _ rfl w.heap.size 0 rfl (cfgCs (.slice a1 n1 k1) (.slice a2 n2 k2) C) _ (range_of FC.out) Tryz.underlying25 rfl (by kernel_rfl) ?_
    simp only [Act.put, List.setIfInBounds_toArray, List.set_cons_zero, List.set_cons_succ]
    go_wp2_with fail
    refine (HC1.out x B0.out).mono ?_
    rintro e w1 ⟨rfl, bb⟩
    have FC := hide ((bb.block w.heap.size (blk_lt FC.out)).trans FC.out)
    have B0 := hide (B0.out.trans (bb.mono B0.out.size))
    clear bb
    go_upto_region 2 with fail
    refine wp_region_lit ?_
    refine wpList_load_mid rfl 25 _ rfl w.heap.size 0 rfl (cfgCs (.slice a1 n1 k1) (.slice a2 n2 k2) C) _ (range_of FC.out) Tryz.underlying25 rfl (by kernel_rfl) ?_
    simp only [Act.put, List.setIfInBounds_toArray, List.set_cons_zero, List.set_cons_succ]
    go_wp2_with fail
    refine (HC2.out w1 B0.out).mono ?_
    rintro e w2 ⟨rfl, bb⟩
    have FC := hide ((bb.block w.heap.size (blk_lt FC.out)).trans FC.out)
    have B0 := hide (B0.out.trans (bb.mono B0.out.size))
    clear bb
    go_upto_region 3 with fail
    refine wp_region_lit ?_
    refine wpList_load_mid rfl 25 _ rfl w.heap.size 0 rfl (cfgCs (.slice a1 n1 k1) (.slice a2 n2 k2) C) _ (range_of FC.out) Tryz.underlying25 rfl (by kernel_rfl) ?_
    simp only [Act.put, List.setIfInBounds_toArray, List.set_cons_zero, List.set_cons_succ]
    go_wp2_with fail
    refine (HC3.out w2 B0.out).mono ?_
    rintro e w3 ⟨rfl, bb⟩
    have FC := hide ((bb.block w.heap.size (blk_lt FC.out)).trans FC.out)
    have B0 := hide (B0.out.trans (bb.mono B0.out.size))
    clear bb
    go_upto_region 4 with fail
    refine wp_region_lit ?_
    refine wpList_load_mid rfl 25 _ rfl w.heap.size 0 rfl (cfgCs (.slice a1 n1 k1) (.slice a2 n2 k2) C) _ (range_of FC.out) Tryz.underlying25 rfl (by kernel_rfl) ?_
    simp only [Act.put, List.setIfInBounds_toArray, List.set_cons_zero, List.set_cons_succ]
    go_wp2_with fail
    refine (HC4.out w3 B0.out).mono ?_
    rintro e w4 ⟨rfl, bb⟩
    have FC := hide ((bb.block w.heap.size (blk_lt FC.out)).trans FC.out)
    have B0 := hide (B0.out.trans (bb.mono B0.out.size))
    clear bb
    go_upto_region 5 with fail
    refine wp_region_lit ?_
    refine wpList_load_mid rfl 25 _ rfl w.heap.size 0 rfl (cfgCs (.slice a1 n1 k1) (.slice a2 n2 k2) C) _ (range_of FC.out) Tryz.underlying25 rfl (by kernel_rfl) ?_
    simp only [Act.put, List.setIfInBounds_toArray, List.set_cons_zero, List.set_cons_succ]
    go_wp2_with fail
    refine (HC5.out w4 B0.out).mono ?_
    rintro e w5 ⟨rfl, bb⟩
    have FC := hide ((bb.block w.heap.size (blk_lt FC.out)).trans FC.out)
    have B0 := hide (B0.out.trans (bb.mono B0.out.size))
    clear bb
    go_upto_region 9 with fail
    refine wp_region_lit ?_
    refine wpList_load_mid rfl 25 _ rfl w.heap.size 0 rfl (cfgCs (.slice a1 n1 k1) (.slice a2 n2 k2) C) _ (range_of FC.out) Tryz.underlying25 rfl (by kernel_rfl) ?_
    simp only [Act.put, List.setIfInBounds_toArray, List.set_cons_zero, List.set_cons_succ]
    go_wp2_with fail
    refine (HC6.out w5 B0.out).mono ?_
    rintro e w6 ⟨rfl, bb⟩
    have FC := hide ((bb.block w.heap.size (blk_lt FC.out)).trans FC.out)
    have B0 := hide (B0.out.trans (bb.mono B0.out.size))
    clear bb
    have HSP := hide (speaks_any w6 (HTB.out.below B0.out))
    go_wp2_with (go_at_call 12; refine HSP.out.mono ?_; rintro e w9 ⟨rfl, HG⟩)
    go_ret
    exact ⟨rfl, B0.out.trans (HG.mono B0.out.size)⟩
end Go.Proofs.YtekkhjlipijmcaaGreatDoor
