/- Whether a configuration may have these hosts: the program's. -/
import Derived.Test.YtekkhjlipijmcaaGreatDoorZCaps
import Derived.Test.YtekkhjlipijmcaaGreatDoorZNum
import Derived.Test.YtekkhjlipijmcaaGreatDoorQZ1
namespace Go.Proofs.YtekkhjlipijmcaaGreatDoor
open Go.ChangeShapes Go.WideShapes Go.ChangeAt Go.RowKit
set_option linter.unusedVariables false

def okH (x : Hst) : Bool := isHostB x.nm && fitK [x.ca, x.pe] hostFits_anyL 2
def nmsH (L : List Hst) : List ByteArray := L.map (·.nm)
def hostsB (L : List Hst) : Bool := decide (1 ≤ L.length ∧ L.length ≤ 16) && (L.all okH && !twB (nmsH L) L.length)
theorem allH_snoc {L : List Hst} {k : Nat} (h : k < L.length) : (L.take (k + 1)).all okH = ((L.take k).all okH && okH L[k]) := by
  rw [List.take_succ_eq_append_getElem h, List.all_append]; simp
theorem allH_no {L : List Hst} {k : Nat} (h : k < L.length) (hp : okH L[k] = false) : L.all okH = false := by
  rw [List.all_eq_false]
  exact ⟨L[k], List.getElem_mem h, by rw [hp]; decide⟩
theorem nmsH_snoc {L : List Hst} {k : Nat} (h : k < L.length) : nmsH (L.take (k + 1)) = nmsH (L.take k) ++ [L[k].nm] := by
  unfold nmsH
  rw [List.take_succ_eq_append_getElem h, List.map_append]; rfl
theorem nmsH_len (L : List Hst) (k : Nat) (h : k ≤ L.length) : (nmsH (L.take k)).length = k := by
  unfold nmsH
  rw [List.length_map, List.length_take, Nat.min_eq_left h]
theorem SRow.of_strs {W : World} {v : Value} {A : List ByteArray} (h : Strs W v A) : SRow W v A := by
  obtain ⟨a, c, rfl, hc⟩ := h
  refine ⟨a, c, rfl, fun j hj => ?_⟩
  obtain ⟨g, h1, h2, h3⟩ := hc j hj
  exact ⟨g, 0, h1, h2, by rw [Nat.zero_add]; exact h3⟩
set_option maxHeartbeats 4000000 in
set_option maxRecDepth 100000 in
theorem hosts_any (w : World) (v : Value) (L : List Hst) (h : HRow w v L) (hn : ∀ x ∈ L, x.nm.size ≤ 1048576) (hR : RG w 0 hostFits_anyL) :
    Calls Tryz.prog 17 #[v] w fun e w' => e = .returned (.bool (hostsB L)) ∧ Below w.heap.size w w' := by
  have H0 := hide h
  have HRG := hide hR
  have HN0 := hide hn
  obtain ⟨a, c, rfl, _⟩ := h
  obtain ⟨R, HV⟩ : ∃ R, Hid (hostsB L = R) := ⟨_, hide rfl⟩
  rw [HV.out]
  unfold hostsB at HV
  clear hR hn
  obtain ⟨n, Hn⟩ : ∃ n, Hid (L.length = n) := ⟨_, hide rfl⟩
  rw [Hn.out] at HV ⊢
  by_cases h1 : n < 1
  · have HD := hide (decide_eq_false (p := 1 ≤ n ∧ n ≤ 16) (by omega))
    go_enter Tryz.func17, Tryz.ntmps17
    go_wp2
    go_ret
    exact ⟨ret_bool (by rw [← HV.out, HD.out]; rfl), Below.refl _ _⟩
  · by_cases h2 : 16 < n
    · have HD := hide (decide_eq_false (p := 1 ≤ n ∧ n ≤ 16) (by omega))
      go_enter Tryz.func17, Tryz.ntmps17
      go_wp2
      go_ret
      exact ⟨ret_bool (by rw [← HV.out, HD.out]; rfl), Below.refl _ _⟩
    · have HD := hide (decide_eq_true (p := 1 ≤ n ∧ n ≤ 16) (by omega))
      rw [HD.out, Bool.true_and] at HV
      clear HD
      go_enter Tryz.func17, Tryz.ntmps17
      go_wp2
      go_loopw [16, 3] (fun i v wr => ∃ k : Nat, k ≤ n ∧ i = .int .i64 k ∧ Hid ((L.take k).all okH = true) ∧ Hid (Row wr w.heap.size 9 v (sc (nmsH (L.take k)))) ∧ Hid (Below w.heap.size w wr)) (fun i _ _ => n - (intOf i).toNat)
      case atStart => exact ⟨0, Nat.zero_le _, rfl, hide rfl, hide (Row.nil _ _ _), hide (Below.refl _ _)⟩
      case round =>
        obtain ⟨k, hk, rfl, H, HR, HB⟩ := hrel
        have HNL := hide (nmsH_len L k (by rw [Hn.out]; exact hk))
        obtain ⟨a6, c6, hv6, hs1, hs2⟩ := HR.out.shape
        rw [sc_len, HNL.out] at hv6 hs1
        subst hv6
        unfold maxLen at hs2
        by_cases hlt : k < n
        · obtain ⟨a2, c2, he2, hcv⟩ := H0.out.below HB.out
          rw [Hn.out] at he2
          simp only [Value.slice.injEq, true_and] at he2
          obtain ⟨rfl, rfl⟩ := he2
          have hlL : k < L.length := by rw [Hn.out]; exact hlt
          obtain ⟨g, o, rfl, hg, r0, r1, r2⟩ := hcv k hlL
          have HS := hide (allH_snoc hlL)
          have HNO := hide (allH_no hlL)
          have HNM := hide (nmsH_snoc hlL)
          have hsz := HN0.out L[k] (List.getElem_mem hlL)
          generalize L[k] = y at r0 r1 r2 HS HNO HNM hsz
          obtain ⟨nm, ca, pe⟩ := y
          have HI := hide (fun W => ishostC_any nm W (by have : nm.size ≤ 1048576 := hsz; omega))
          have HF := hide (fun W h => hostFits_any W nm ca pe h)
          have ho : okH ⟨nm, ca, pe⟩ = (isHostB nm && fitK [ca, pe] hostFits_anyL 2) := rfl
          rw [ho] at HS HNO
          generalize isHostB nm = b1 at HI HS HNO
          generalize fitK [ca, pe] hostFits_anyL 2 = b2 at HF HS HNO
          simp only at r0 r1 r2 HNM
          clear hcv hg ho hsz hlL
          go_upto_region 7 with fail
          have U1 := hide (Bl.one wr #[.string nm, .int .i64 ca, .int .i64 pe] 43)
          generalize (wr.alloc (.cells #[.string nm, .int .i64 ca, .int .i64 pe] 43)) = x at U1 ⊢
          have d0 : x.cell? ⟨wr.heap.size, 0, none⟩ = some (.string nm) := U1.out.cell 0 rfl 0
          clear r0 r1 r2
          go_wp2_with fail
          refine (HI.out _).mono ?_
          rintro e w1 ⟨rfl, bb⟩
          have U2 := hide (U1.out.below bb)
          clear bb U1 d0
          have d0 : w1.cell? ⟨wr.heap.size, 0, none⟩ = some (.string nm) := U2.out.cell 0 rfl 0
          have d1 : w1.cell? ⟨wr.heap.size, 1, none⟩ = some (.int .i64 ca) := U2.out.cell 0 rfl 1
          have d2 : w1.cell? ⟨wr.heap.size, 2, none⟩ = some (.int .i64 pe) := U2.out.cell 0 rfl 2
          cases b1
          · have HX := hide (HNO.out rfl)
            go_wp2_with fail
            go_ret
            exact ⟨ret_bool (by rw [← HV.out, HX.out]; rfl), HB.out.trans (U2.out.b.mono HB.out.size)⟩
          · go_wp2_with fail
            refine (HF.out _ (HRG.out.below (HB.out.trans (U2.out.b.mono HB.out.size)))).mono ?_
            rintro e w2 ⟨rfl, bb⟩
            have U3 := hide (U2.out.below bb)
            clear bb U2 d0 d1 d2
            cases b2
            · have HX := hide (HNO.out rfl)
              go_wp2_with fail
              go_ret
              exact ⟨ret_bool (by rw [← HV.out, HX.out]; rfl), HB.out.trans (U3.out.b.mono HB.out.size)⟩
            · have d0 : w2.cell? ⟨wr.heap.size, 0, none⟩ = some (.string nm) := U3.out.cell 0 rfl 0
              have HX : Hid ((L.take (k + 1)).all okH = true) := hide (by rw [HS.out, H.out]; rfl)
              have HB4 := hide (HB.out.trans (U3.out.b.mono HB.out.size))
              have HR4 := hide (HR.out.below U3.out.b)
              clear HR HB H HS HNO U3
              go_wp2_with (at_builtin; apply Hid.out)
              unfold Hid
              refine wpList_append_one elS rfl _ _ rfl w2 w.heap.size (.slice a6 k c6) (sc (nmsH (L.take k))) (.string nm) rfl rfl HR4.out rfl (by rw [sc_len, HNL.out]; omega) (by rw [sc_len, HNL.out]; omega) HB4.out.size ?_
              intro v' w4 O' B'
              have O5 := hide O'
              have B5 := hide (HB4.out.trans B')
              clear O' B' d0
              go_wp2_with fail
              go_roundw
              case rel => exact ⟨k + 1, by omega, by go_num, HX, hide (by rw [HNM.out, sc_snoc]; exact O5.out), B5⟩
              case measure => simp [intOf]; omega
        · obtain rfl : k = n := by omega
          have e9 : L.take k = L := by rw [← Hn.out, List.take_length]
          rw [e9] at H HR HNL
          have HS := hide (SRow.of_strs (Strs.of_row HR.out))
          have HT := hide (twiceS_any wr (.slice a6 k c6) (nmsH L) HS.out (by rintro a' n' c' he; simp only [Value.slice.injEq] at he; obtain ⟨_, rfl, rfl⟩ := he; exact ⟨hs1, by unfold maxLen; exact hs2⟩))
          rw [HNL.out] at HT
          rw [H.out, Bool.true_and] at HV
          clear e9 HS HR H
          generalize twB (nmsH L) k = tw at *
          go_wp2_with fail
          refine HT.out.mono ?_
          rintro e w' ⟨rfl, rfl⟩
          go_wp2_with fail
          go_ret
          exact ⟨ret_bool HV.out, HB.out⟩
end Go.Proofs.YtekkhjlipijmcaaGreatDoor
