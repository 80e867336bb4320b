/- How many attempts a request may have at most: the program's. -/
import Derived.Test.YtekkhjlipijmcaaGreatDoorZRoutes
namespace Go.Proofs.YtekkhjlipijmcaaGreatDoor
open Go.ChangeShapes Go.WideShapes Go.ChangeAt Go.RowKit
set_option linter.unusedVariables false

/-- How many attempts a request may have at most. -/
def attI (L : List Rt) : Int := L.foldl (fun m r => if m < r.r10 + r.r11 + 1 then r.r10 + r.r11 + 1 else m) 0
theorem attI_snoc (L : List Rt) (k : Nat) (h : k < L.length) : attI (L.take (k + 1)) = (if attI (L.take k) < L[k].r10 + L[k].r11 + 1 then L[k].r10 + L[k].r11 + 1 else attI (L.take k)) := by
  unfold attI
  rw [List.take_succ_eq_append_getElem h, List.foldl_append]
  rfl
theorem attI_le (L : List Rt) (hc : ∀ x ∈ L, (0 ≤ x.r10 ∧ x.r10 ≤ 5) ∧ (0 ≤ x.r11 ∧ x.r11 ≤ 3)) (k : Nat) (hk : k ≤ L.length) : 0 ≤ attI (L.take k) ∧ attI (L.take k) ≤ 9 := by
  induction k with
  | zero => simp [attI]
  | succ k ih =>
    have h := ih (by omega)
    have hm := hc L[k] (List.getElem_mem (by omega))
    rw [attI_snoc L k (by omega)]
    split <;> omega
set_option maxHeartbeats 2000000 in
set_option maxRecDepth 100000 in
theorem att_any (w : World) (v : Value) (L : List Rt) (h : RRow w v L) (hl : L.length ≤ 16) (hcs : ∀ x ∈ L, (0 ≤ x.r10 ∧ x.r10 ≤ 5) ∧ (0 ≤ x.r11 ∧ x.r11 ≤ 3)) :
    Calls Tryz.prog 15 #[v] w fun e w' => e = .returned (.int .i64 (attI L)) ∧ Below w.heap.size w w' := by
  have HL := hide (attI_le L hcs)
  have HC := hide hcs
  have H0 := hide h
  obtain ⟨a, c, rfl, _⟩ := h
  obtain ⟨n, Hn⟩ : ∃ n, Hid (L.length = n) := ⟨_, hide rfl⟩
  rw [Hn.out] at hl ⊢
  clear hcs
  go_enter Tryz.func15, Tryz.ntmps15
  go_wp2_with fail
  go_loopw [8, 3] (fun i s wr => ∃ (k : Nat) (z : Int), k ≤ n ∧ i = .int .i64 k ∧ s = .int .i64 z ∧ (0 ≤ z ∧ z ≤ 9) ∧ Hid (z = attI (L.take k)) ∧ Hid (Below w.heap.size w wr)) (fun i _ _ => n - (intOf i).toNat)
  case atStart => exact ⟨0, 0, Nat.zero_le _, rfl, rfl, by omega, hide rfl, hide (Below.refl _ _)⟩
  case round =>
    obtain ⟨k, z, hk, rfl, rfl, ⟨z0, z1⟩, H, HB⟩ := hrel
    by_cases hlt : k < n
    · obtain ⟨a9, c9, he2, hcv⟩ := H0.out.below HB.out
      rw [Hn.out] at he2
      simp only [Value.slice.injEq, true_and] at he2
      obtain ⟨rfl, rfl⟩ := he2
      have hlL : k < L.length := by rw [Hn.out]; exact hlt
      obtain ⟨g, o, m, q, rfl, hg, SM, SQ, cq, k0, k1, k2, k3, k4, k5, k6, k7, k8, k9, k10, k11, k12, k13, k14, k15, k16, k17, k18, k19, k20⟩ := hcv k hlL
      have HS := hide (attI_snoc L k hlL)
      have hz2 := HL.out (k + 1) (by omega)
      have hcc := HC.out L[k] (List.getElem_mem hlL)
      rw [HS.out, ← H.out] at hz2
      rw [← H.out] at HS
      generalize L[k] = y at *
      obtain ⟨ho, pf, M, hd, va, HL9, r0, r1, r2, r3, r4, r5, r6, r7, r8, r9, r10, r11, r12, r13, r14⟩ := y
      simp only at SM SQ hcc hz2 k0 k1 k2 k3 k4 k5 k6 k7 k8 k9 k10 k11 k12 k13 k14 k15 k16 k17 k18 k19 k20
      simp only at HS
      obtain ⟨a1, c1, rfl, -⟩ := SM
      obtain ⟨a2, c2, rfl, -⟩ := SQ
      generalize M.length = n1 at *
      generalize HL9.length = n2 at *
      obtain ⟨⟨y0, y1⟩, y2, y3⟩ := hcc
      clear hcv hg cq hlL hz2
      have HRA : Hid (wr.rangeAt g (o + k * 21) ([.string ho, .string pf, .slice a1 n1 c1, .string hd, .string va, .slice a2 n2 c2, .int .i64 r0, .int .i64 r1, .int .i64 r2, .int .i64 r3, .int .i64 r4, .int .i64 r5, .int .i64 r6, .int .i64 r7, .int .i64 r8, .int .i64 r9, .int .i64 r10, .int .i64 r11, .int .i64 r12, .int .i64 r13, .int .i64 r14] : List Value)) := hide (by
        intro j v hv
        match j, hv with
        | 0, hv => simp at hv; subst hv; exact k0
        | 1, hv => simp at hv; subst hv; exact k1
        | 2, hv => simp at hv; subst hv; exact k2
        | 3, hv => simp at hv; subst hv; exact k3
        | 4, hv => simp at hv; subst hv; exact k4
        | 5, hv => simp at hv; subst hv; exact k5
        | 6, hv => simp at hv; subst hv; exact k6
        | 7, hv => simp at hv; subst hv; exact k7
        | 8, hv => simp at hv; subst hv; exact k8
        | 9, hv => simp at hv; subst hv; exact k9
        | 10, hv => simp at hv; subst hv; exact k10
        | 11, hv => simp at hv; subst hv; exact k11
        | 12, hv => simp at hv; subst hv; exact k12
        | 13, hv => simp at hv; subst hv; exact k13
        | 14, hv => simp at hv; subst hv; exact k14
        | 15, hv => simp at hv; subst hv; exact k15
        | 16, hv => simp at hv; subst hv; exact k16
        | 17, hv => simp at hv; subst hv; exact k17
        | 18, hv => simp at hv; subst hv; exact k18
        | 19, hv => simp at hv; subst hv; exact k19
        | 20, hv => simp at hv; subst hv; exact k20
        | j + 21, hv => simp at hv)
      clear k0 k1 k2 k3 k4 k5 k6 k7 k8 k9 k10 k11 k12 k13 k14 k15 k16 k17 k18 k19 k20
      go_upto_region 4 with fail
      refine wp_region_lit ?_
      refine wpList_plain rfl fun K hK => ?_
      go_simp
      refine hK _ _ ?_
      clear hK K
      refine wpList_load_mid rfl 40 _ rfl g (o + k * 21) rfl ([.string ho, .string pf, .slice a1 n1 c1, .string hd, .string va, .slice a2 n2 c2, .int .i64 r0, .int .i64 r1, .int .i64 r2, .int .i64 r3, .int .i64 r4, .int .i64 r5, .int .i64 r6, .int .i64 r7, .int .i64 r8, .int .i64 r9, .int .i64 r10, .int .i64 r11, .int .i64 r12, .int .i64 r13, .int .i64 r14] : List Value) _ HRA.out Tryz.underlying40 rfl (by kernel_rfl) ?_
      simp only [Act.put, List.setIfInBounds_toArray, List.set_cons_zero, List.set_cons_succ]
      refine wpList_plain rfl fun K hK => ?_
      go_simp
      refine hK _ _ ?_
      clear hK K
      refine wpList_store_new rfl 40 _ _ rfl _ #[.string ho, .string pf, .slice a1 n1 c1, .string hd, .string va, .slice a2 n2 c2, .int .i64 r0, .int .i64 r1, .int .i64 r2, .int .i64 r3, .int .i64 r4, .int .i64 r5, .int .i64 r6, .int .i64 r7, .int .i64 r8, .int .i64 r9, .int .i64 r10, .int .i64 r11, .int .i64 r12, .int .i64 r13, .int .i64 r14] rfl rfl (by kernel_rfl) rfl (by simp [Value.oneCell']) ?_
      simp only [Act.put]
      refine wpList_nil ?_
      clear HRA
      go_upto_region 5 with fail
      have U1 := hide (Bl.one wr #[.string ho, .string pf, .slice a1 n1 c1, .string hd, .string va, .slice a2 n2 c2, .int .i64 r0, .int .i64 r1, .int .i64 r2, .int .i64 r3, .int .i64 r4, .int .i64 r5, .int .i64 r6, .int .i64 r7, .int .i64 r8, .int .i64 r9, .int .i64 r10, .int .i64 r11, .int .i64 r12, .int .i64 r13, .int .i64 r14] 40)
      generalize (wr.alloc (.cells #[.string ho, .string pf, .slice a1 n1 c1, .string hd, .string va, .slice a2 n2 c2, .int .i64 r0, .int .i64 r1, .int .i64 r2, .int .i64 r3, .int .i64 r4, .int .i64 r5, .int .i64 r6, .int .i64 r7, .int .i64 r8, .int .i64 r9, .int .i64 r10, .int .i64 r11, .int .i64 r12, .int .i64 r13, .int .i64 r14] 40)) = x at U1 ⊢
      have d16 : x.cell? ⟨wr.heap.size, 16, none⟩ = some (.int .i64 r10) := U1.out.cell 0 rfl 16
      have d17 : x.cell? ⟨wr.heap.size, 17, none⟩ = some (.int .i64 r11) := U1.out.cell 0 rfl 17
      have HB4 := hide (HB.out.trans (U1.out.b.mono HB.out.size))
      have E0 : Hid ((if z < r10 + r11 + 1 then r10 + r11 + 1 else z) = attI (L.take (k + 1))) := hide HS.out.symm
      obtain ⟨zz, Hzz⟩ : ∃ zz, Hid (zz = attI (L.take (k + 1))) := ⟨_, hide rfl⟩
      rw [← Hzz.out] at E0
      have hzz : 0 ≤ zz ∧ zz ≤ 9 := by have := E0.out; split at this <;> omega
      have hmx : Hid (max z (r10 + r11 + 1) = zz) := hide (by have := E0.out; split at this <;> omega)
      clear HS H U1 HL E0
      go_wp2_with fail
      go_roundw
      case rel => exact ⟨k + 1, zz, by omega, by go_num, congrArg (Value.int .i64) hmx.out, hzz, Hzz, HB4⟩
      case measure => simp [intOf]; omega
    · obtain rfl : k = n := by omega
      have HE : Hid (z = attI L) := hide (by rw [H.out, ← Hn.out, List.take_length])
      go_wp2_with fail
      go_ret
      exact ⟨ret_int HE.out, HB.out⟩
end Go.Proofs.YtekkhjlipijmcaaGreatDoor
