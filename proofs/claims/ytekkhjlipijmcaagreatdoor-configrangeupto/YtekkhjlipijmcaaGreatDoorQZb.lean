/- QZb: ZHosts ZRoutes ZAtt ZChk ZBnd ZLit ZSay ZOpen ZTn. -/
import Derived.Test.YtekkhjlipijmcaaGreatDoorQZa
import Derived.Test.YtekkhjlipijmcaaGreatDoorAppK
import Derived.Test.YtekkhjlipijmcaaGreatDoorLst
import Derived.Deep.MidRow
import Derived.Deep.WholeRow
import Derived.Test.YtekkhjlipijmcaaGreatDoorBcl
import Derived.Test.YtekkhjlipijmcaaGreatDoorRows
import Derived.OpenShut
import Derived.ShutString
import Derived.Deep.Slices
import Derived.Deep.Strs
import Derived.Lib.SmallJoins
import Derived.Maps.AppendAt
import Derived.Great.BuildSlice
/- Whether a configuration may have these hosts: the program's. -/
namespace Go.Proofs.YtekkhjlipijmcaaGreatDoor
open Go.ChangeShapes Go.WideShapes Go.ChangeAt Go.RowKit
set_option linter.unusedVariables false

def okH (x : Hst) : Bool := isHostB x.nm && fitK [x.ca, x.pe] hostFits_anyL 2
def nmsH (L : List Hst) : List ByteArray := L.map (·.nm)
def hostsB (L : List Hst) : Bool := decide (1 ≤ L.length ∧ L.length ≤ 16) && (L.all okH && !twB (nmsH L) L.length)
theorem allH_snoc {L : List Hst} {k : Nat} (h : k < L.length) : (L.take (k + 1)).all okH = ((L.take k).all okH && okH L[k]) := by
  rw [List.take_succ_eq_append_getElem h, List.all_append]; simp
theorem allH_no {L : List Hst} {k : Nat} (h : k < L.length) (hp : okH L[k] = false) : L.all okH = false := by
  rw [List.all_eq_false]
  exact ⟨L[k], List.getElem_mem h, by rw [hp]; decide⟩
theorem nmsH_snoc {L : List Hst} {k : Nat} (h : k < L.length) : nmsH (L.take (k + 1)) = nmsH (L.take k) ++ [L[k].nm] := by
  unfold nmsH
  rw [List.take_succ_eq_append_getElem h, List.map_append]; rfl
theorem nmsH_len (L : List Hst) (k : Nat) (h : k ≤ L.length) : (nmsH (L.take k)).length = k := by
  unfold nmsH
  rw [List.length_map, List.length_take, Nat.min_eq_left h]
theorem SRow.of_strs {W : World} {v : Value} {A : List ByteArray} (h : Strs W v A) : SRow W v A := by
  obtain ⟨a, c, rfl, hc⟩ := h
  refine ⟨a, c, rfl, fun j hj => ?_⟩
  obtain ⟨g, h1, h2, h3⟩ := hc j hj
  exact ⟨g, 0, h1, h2, by rw [Nat.zero_add]; exact h3⟩
set_option maxHeartbeats 4000000 in
set_option maxRecDepth 100000 in
theorem hosts_any (w : World) (v : Value) (L : List Hst) (h : HRow w v L) (hn : ∀ x ∈ L, x.nm.size ≤ 1048576) (hR : RG w 0 hostFits_anyL) :
    Calls Tryz.prog 17 #[v] w fun e w' => e = .returned (.bool (hostsB L)) ∧ Below w.heap.size w w' := by
  have H0 := hide h
  have HRG := hide hR
  have HN0 := hide hn
  obtain ⟨a, c, rfl, _⟩ := h
  obtain ⟨R, HV⟩ : ∃ R, Hid (hostsB L = R) := ⟨_, hide rfl⟩
  rw [HV.out]
  unfold hostsB at HV
  clear hR hn
  obtain ⟨n, Hn⟩ : ∃ n, Hid (L.length = n) := ⟨_, hide rfl⟩
  rw [Hn.out] at HV ⊢
  by_cases h1 : n < 1
  · have HD := hide (decide_eq_false (p := 1 ≤ n ∧ n ≤ 16) (by omega))
    go_enter Tryz.func17, Tryz.ntmps17
    go_wp2
    go_ret
    exact ⟨ret_bool (by rw [← HV.out, HD.out]; rfl), Below.refl _ _⟩
  · by_cases h2 : 16 < n
    · have HD := hide (decide_eq_false (p := 1 ≤ n ∧ n ≤ 16) (by omega))
      go_enter Tryz.func17, Tryz.ntmps17
      go_wp2
      go_ret
      exact ⟨ret_bool (by rw [← HV.out, HD.out]; rfl), Below.refl _ _⟩
    · have HD := hide (decide_eq_true (p := 1 ≤ n ∧ n ≤ 16) (by omega))
      rw [HD.out, Bool.true_and] at HV
      clear HD
      go_enter Tryz.func17, Tryz.ntmps17
      go_wp2
      go_loopw [16, 3] (fun i v wr => ∃ k : Nat, k ≤ n ∧ i = .int .i64 k ∧ Hid ((L.take k).all okH = true) ∧ Hid (Row wr w.heap.size 9 v (sc (nmsH (L.take k)))) ∧ Hid (Below w.heap.size w wr)) (fun i _ _ => n - (intOf i).toNat)
      case atStart => exact ⟨0, Nat.zero_le _, rfl, hide rfl, hide (Row.nil _ _ _), hide (Below.refl _ _)⟩
      case round =>
        obtain ⟨k, hk, rfl, H, HR, HB⟩ := hrel
        have HNL := hide (nmsH_len L k (by rw [Hn.out]; exact hk))
        obtain ⟨a6, c6, hv6, hs1, hs2⟩ := HR.out.shape
        rw [sc_len, HNL.out] at hv6 hs1
        subst hv6
        unfold maxLen at hs2
        by_cases hlt : k < n
        · obtain ⟨a2, c2, he2, hcv⟩ := H0.out.below HB.out
          rw [Hn.out] at he2
          simp only [Value.slice.injEq, true_and] at he2
          obtain ⟨rfl, rfl⟩ := he2
          have hlL : k < L.length := by rw [Hn.out]; exact hlt
          obtain ⟨g, o, rfl, hg, r0, r1, r2⟩ := hcv k hlL
          have HS := hide (allH_snoc hlL)
          have HNO := hide (allH_no hlL)
          have HNM := hide (nmsH_snoc hlL)
          have hsz := HN0.out L[k] (List.getElem_mem hlL)
          generalize L[k] = y at r0 r1 r2 HS HNO HNM hsz
          obtain ⟨nm, ca, pe⟩ := y
          have HI := hide (fun W => ishostC_any nm W (by have : nm.size ≤ 1048576 := hsz; omega))
          have HF := hide (fun W h => hostFits_any W nm ca pe h)
          have ho : okH ⟨nm, ca, pe⟩ = (isHostB nm && fitK [ca, pe] hostFits_anyL 2) := rfl
          rw [ho] at HS HNO
          generalize isHostB nm = b1 at HI HS HNO
          generalize fitK [ca, pe] hostFits_anyL 2 = b2 at HF HS HNO
          simp only at r0 r1 r2 HNM
          clear hcv hg ho hsz hlL
          go_upto_region 7 with fail
          have U1 := hide (Bl.one wr #[.string nm, .int .i64 ca, .int .i64 pe] 43)
          generalize (wr.alloc (.cells #[.string nm, .int .i64 ca, .int .i64 pe] 43)) = x at U1 ⊢
          have d0 : x.cell? ⟨wr.heap.size, 0, none⟩ = some (.string nm) := U1.out.cell 0 rfl 0
          clear r0 r1 r2
          go_wp2_with fail
          refine (HI.out _).mono ?_
          rintro e w1 ⟨rfl, bb⟩
          have U2 := hide (U1.out.below bb)
          clear bb U1 d0
          have d0 : w1.cell? ⟨wr.heap.size, 0, none⟩ = some (.string nm) := U2.out.cell 0 rfl 0
          have d1 : w1.cell? ⟨wr.heap.size, 1, none⟩ = some (.int .i64 ca) := U2.out.cell 0 rfl 1
          have d2 : w1.cell? ⟨wr.heap.size, 2, none⟩ = some (.int .i64 pe) := U2.out.cell 0 rfl 2
          cases b1
          · have HX := hide (HNO.out rfl)
            go_wp2_with fail
            go_ret
            exact ⟨ret_bool (by rw [← HV.out, HX.out]; rfl), HB.out.trans (U2.out.b.mono HB.out.size)⟩
          · go_wp2_with fail
            refine (HF.out _ (HRG.out.below (HB.out.trans (U2.out.b.mono HB.out.size)))).mono ?_
            rintro e w2 ⟨rfl, bb⟩
            have U3 := hide (U2.out.below bb)
            clear bb U2 d0 d1 d2
            cases b2
            · have HX := hide (HNO.out rfl)
              go_wp2_with fail
              go_ret
              exact ⟨ret_bool (by rw [← HV.out, HX.out]; rfl), HB.out.trans (U3.out.b.mono HB.out.size)⟩
            · have d0 : w2.cell? ⟨wr.heap.size, 0, none⟩ = some (.string nm) := U3.out.cell 0 rfl 0
              have HX : Hid ((L.take (k + 1)).all okH = true) := hide (by rw [HS.out, H.out]; rfl)
              have HB4 := hide (HB.out.trans (U3.out.b.mono HB.out.size))
              have HR4 := hide (HR.out.below U3.out.b)
              clear HR HB H HS HNO U3
              go_wp2_with (at_builtin; apply Hid.out)
              unfold Hid
              refine wpList_append_one elS rfl _ _ rfl w2 w.heap.size (.slice a6 k c6) (sc (nmsH (L.take k))) (.string nm) rfl rfl HR4.out rfl (by rw [sc_len, HNL.out]; omega) (by rw [sc_len, HNL.out]; omega) HB4.out.size ?_
              intro v' w4 O' B'
              have O5 := hide O'
              have B5 := hide (HB4.out.trans B')
              clear O' B' d0
              go_wp2_with fail
              go_roundw
              case rel => exact ⟨k + 1, by omega, by go_num, HX, hide (by rw [HNM.out, sc_snoc]; exact O5.out), B5⟩
              case measure => simp [intOf]; omega
        · obtain rfl : k = n := by omega
          have e9 : L.take k = L := by rw [← Hn.out, List.take_length]
          rw [e9] at H HR HNL
          have HS := hide (SRow.of_strs (Strs.of_row HR.out))
          have HT := hide (twiceS_any wr (.slice a6 k c6) (nmsH L) HS.out (by rintro a' n' c' he; simp only [Value.slice.injEq] at he; obtain ⟨_, rfl, rfl⟩ := he; exact ⟨hs1, by unfold maxLen; exact hs2⟩))
          rw [HNL.out] at HT
          rw [H.out, Bool.true_and] at HV
          clear e9 HS HR H
          generalize twB (nmsH L) k = tw at *
          go_wp2_with fail
          refine HT.out.mono ?_
          rintro e w' ⟨rfl, rfl⟩
          go_wp2_with fail
          go_ret
          exact ⟨ret_bool HV.out, HB.out⟩
end Go.Proofs.YtekkhjlipijmcaaGreatDoor
/- Rows of routes; whether a configuration may have these routes: the program's. -/
namespace Go.Proofs.YtekkhjlipijmcaaGreatDoor
open Go.ChangeShapes Go.WideShapes Go.ChangeAt Go.RowKit
set_option linter.unusedVariables false

/-- A struct that was loaded goes into the block that was made for it. -/
theorem wpList_store_new {P : Program} {ops : Array Oper} {rest : List Oper} {op : Oper} {a : Act} {w : World} {Q : Exit → Act → World → Prop} (hgd : op.guard = none) (ty : TypeId) (x y : Operand) (ho : op.op = .store ty x y)
    (c cells : Array Value) (hx : a.eval x = .pointer (some ⟨w.heap.size, 0, none⟩)) (hy : a.eval y = .agg cells) (hi : (P.info? ty).map (·.size) = some cells.size) (hc : c.size = cells.size) (h1 : cells.all (·.oneCell') = true)
    (h : wpList P ops Q rest (a.put op.dst undef) (w.alloc (.cells cells ty))) : wpList P ops Q (op :: rest) a (w.alloc (.cells c ty)) := by
  refine wpList_plain hgd fun K hK => ?_
  unfold Oper.wp execOp
  simp only [ho, hx, hy, Sem.run_bind, run_storeAt_new w ty c cells hi hc h1, Sem.run_pure, Result.andThen_ok]
  exact hK _ _ h
/-- An operation that is wanted, behind whatever guard. -/
theorem wpList_want {P : Program} {ops : Array Oper} {rest : List Oper} {o : Oper} {a : Act} {w : World} {Q : Exit → Act → World → Prop} (hw : Region.wanted o (yielded ops a.tmps) = true)
    (h : ∀ K : Act → World → Prop, (∀ a w, wpList P ops Q rest a w → K a w) → o.wp P a w K Q) : wpList P ops Q (o :: rest) a w := by
  unfold wpList
  rw [if_pos hw]
  exact .inl (h _ (fun _ _ x => x))
/-- A route. -/
structure Rt where
  ho : ByteArray
  pf : ByteArray
  M : List ByteArray
  hd : ByteArray
  va : ByteArray
  H : List Int
  r0 : Int
  r1 : Int
  r2 : Int
  r3 : Int
  r4 : Int
  r5 : Int
  r6 : Int
  r7 : Int
  r8 : Int
  r9 : Int
  r10 : Int
  r11 : Int
  r12 : Int
  r13 : Int
  r14 : Int

/-- The texts of a route are not too long. -/
structure Rt.Sz (r : Rt) : Prop where
  ho : r.ho.size ≤ 1048576
  hd : r.hd.size ≤ 1048576
  va : r.va.size ≤ 1048576
  M : ∀ x ∈ r.M, x.size ≤ 1048576
def capOk (v : Value) : Prop := ∀ a n c, v = .slice a n c → n ≤ c ∧ c ≤ maxLen
/-- The slice v reads as the routes L, wherever it begins. -/
def RRow (W : World) (v : Value) (L : List Rt) : Prop := ∃ (a : Option Addr) (c : Nat), v = .slice a L.length c ∧ ∀ j (h : j < L.length), ∃ g o m q, a = some ⟨g, o, none⟩ ∧ g < W.heap.size ∧ SRow W m L[j].M ∧ IRow W q L[j].H ∧ capOk q ∧ W.cell? ⟨g, o + j * 21, none⟩ = some (.string L[j].ho) ∧ W.cell? ⟨g, o + j * 21 + 1, none⟩ = some (.string L[j].pf) ∧ W.cell? ⟨g, o + j * 21 + 2, none⟩ = some (m) ∧ W.cell? ⟨g, o + j * 21 + 3, none⟩ = some (.string L[j].hd) ∧ W.cell? ⟨g, o + j * 21 + 4, none⟩ = some (.string L[j].va) ∧ W.cell? ⟨g, o + j * 21 + 5, none⟩ = some (q) ∧ W.cell? ⟨g, o + j * 21 + 6, none⟩ = some (.int .i64 L[j].r0) ∧ W.cell? ⟨g, o + j * 21 + 7, none⟩ = some (.int .i64 L[j].r1) ∧ W.cell? ⟨g, o + j * 21 + 8, none⟩ = some (.int .i64 L[j].r2) ∧ W.cell? ⟨g, o + j * 21 + 9, none⟩ = some (.int .i64 L[j].r3) ∧ W.cell? ⟨g, o + j * 21 + 10, none⟩ = some (.int .i64 L[j].r4) ∧ W.cell? ⟨g, o + j * 21 + 11, none⟩ = some (.int .i64 L[j].r5) ∧ W.cell? ⟨g, o + j * 21 + 12, none⟩ = some (.int .i64 L[j].r6) ∧ W.cell? ⟨g, o + j * 21 + 13, none⟩ = some (.int .i64 L[j].r7) ∧ W.cell? ⟨g, o + j * 21 + 14, none⟩ = some (.int .i64 L[j].r8) ∧ W.cell? ⟨g, o + j * 21 + 15, none⟩ = some (.int .i64 L[j].r9) ∧ W.cell? ⟨g, o + j * 21 + 16, none⟩ = some (.int .i64 L[j].r10) ∧ W.cell? ⟨g, o + j * 21 + 17, none⟩ = some (.int .i64 L[j].r11) ∧ W.cell? ⟨g, o + j * 21 + 18, none⟩ = some (.int .i64 L[j].r12) ∧ W.cell? ⟨g, o + j * 21 + 19, none⟩ = some (.int .i64 L[j].r13) ∧ W.cell? ⟨g, o + j * 21 + 20, none⟩ = some (.int .i64 L[j].r14)
theorem RRow.below {W W' : World} {v : Value} {L : List Rt} (h : RRow W v L) (hb : Below W.heap.size W W') : RRow W' v L := by
  obtain ⟨a, c, rfl, hc⟩ := h
  refine ⟨a, c, rfl, fun j hj => ?_⟩
  obtain ⟨g, o, m, q, h1, h2, hm, hq, hcq, k0, k1, k2, k3, k4, k5, k6, k7, k8, k9, k10, k11, k12, k13, k14, k15, k16, k17, k18, k19, k20⟩ := hc j hj
  exact ⟨g, o, m, q, h1, Nat.lt_of_lt_of_le h2 hb.size, hm.below hb, hq.below hb, hcq, (hb.cell (p := ⟨g, o + j * 21, none⟩) h2).trans k0, (hb.cell (p := ⟨g, o + j * 21 + 1, none⟩) h2).trans k1, (hb.cell (p := ⟨g, o + j * 21 + 2, none⟩) h2).trans k2, (hb.cell (p := ⟨g, o + j * 21 + 3, none⟩) h2).trans k3, (hb.cell (p := ⟨g, o + j * 21 + 4, none⟩) h2).trans k4, (hb.cell (p := ⟨g, o + j * 21 + 5, none⟩) h2).trans k5, (hb.cell (p := ⟨g, o + j * 21 + 6, none⟩) h2).trans k6, (hb.cell (p := ⟨g, o + j * 21 + 7, none⟩) h2).trans k7, (hb.cell (p := ⟨g, o + j * 21 + 8, none⟩) h2).trans k8, (hb.cell (p := ⟨g, o + j * 21 + 9, none⟩) h2).trans k9, (hb.cell (p := ⟨g, o + j * 21 + 10, none⟩) h2).trans k10, (hb.cell (p := ⟨g, o + j * 21 + 11, none⟩) h2).trans k11, (hb.cell (p := ⟨g, o + j * 21 + 12, none⟩) h2).trans k12, (hb.cell (p := ⟨g, o + j * 21 + 13, none⟩) h2).trans k13, (hb.cell (p := ⟨g, o + j * 21 + 14, none⟩) h2).trans k14, (hb.cell (p := ⟨g, o + j * 21 + 15, none⟩) h2).trans k15, (hb.cell (p := ⟨g, o + j * 21 + 16, none⟩) h2).trans k16, (hb.cell (p := ⟨g, o + j * 21 + 17, none⟩) h2).trans k17, (hb.cell (p := ⟨g, o + j * 21 + 18, none⟩) h2).trans k18, (hb.cell (p := ⟨g, o + j * 21 + 19, none⟩) h2).trans k19, (hb.cell (p := ⟨g, o + j * 21 + 20, none⟩) h2).trans k20⟩
def numsR (r : Rt) : List Int := [r.r0, r.r1, r.r2, r.r3, r.r4, r.r5, r.r6, r.r7, r.r8, r.r9, r.r10, r.r11, r.r12, r.r13, r.r14]
def okR (n : Int) (r : Rt) : Bool := matB r.ho r.pf r.M r.hd r.va && (numsB r.H n && fitK (numsR r) routeFits_anyL 15)
def routesB (L : List Rt) (n : Int) : Bool := decide (1 ≤ L.length ∧ L.length ≤ 16) && L.all (okR n)
theorem allR_snoc {L : List Rt} {n : Int} {k : Nat} (h : k < L.length) : (L.take (k + 1)).all (okR n) = ((L.take k).all (okR n) && okR n L[k]) := by
  rw [List.take_succ_eq_append_getElem h, List.all_append]; simp
theorem allR_no {L : List Rt} {n : Int} {k : Nat} (h : k < L.length) (hp : okR n L[k] = false) : L.all (okR n) = false := by
  rw [List.all_eq_false]
  exact ⟨L[k], List.getElem_mem h, by rw [hp]; decide⟩
set_option maxHeartbeats 4000000 in
set_option maxRecDepth 100000 in
theorem routes_any (w : World) (v : Value) (L : List Rt) (hn : Int) (h : RRow w v L) (hs : ∀ x ∈ L, x.Sz) (hR : RG w 1 routeFits_anyL) (hm : MX w) :
    Calls Tryz.prog 18 #[v, .int .i64 hn] w fun e w' => e = .returned (.bool (routesB L hn)) ∧ Below w.heap.size w w' := by
  have H0 := hide h
  have HRG := hide hR
  have HS0 := hide hs
  have HM := hide hm
  obtain ⟨a, c, rfl, _⟩ := h
  obtain ⟨R, HV⟩ : ∃ R, Hid (routesB L hn = R) := ⟨_, hide rfl⟩
  rw [HV.out]
  unfold routesB at HV
  clear hR hs hm
  obtain ⟨n, Hn⟩ : ∃ n, Hid (L.length = n) := ⟨_, hide rfl⟩
  rw [Hn.out] at HV ⊢
  by_cases h1 : n < 1
  · have HD := hide (decide_eq_false (p := 1 ≤ n ∧ n ≤ 16) (by omega))
    go_enter Tryz.func18, Tryz.ntmps18
    go_wp2
    go_ret
    exact ⟨ret_bool (by rw [← HV.out, HD.out]; rfl), Below.refl _ _⟩
  · by_cases h2 : 16 < n
    · have HD := hide (decide_eq_false (p := 1 ≤ n ∧ n ≤ 16) (by omega))
      go_enter Tryz.func18, Tryz.ntmps18
      go_wp2
      go_ret
      exact ⟨ret_bool (by rw [← HV.out, HD.out]; rfl), Below.refl _ _⟩
    · have HD := hide (decide_eq_true (p := 1 ≤ n ∧ n ≤ 16) (by omega))
      rw [HD.out, Bool.true_and] at HV
      clear HD
      go_enter Tryz.func18, Tryz.ntmps18
      go_wp2
      go_loopw [17] (fun i wr => ∃ k : Nat, k ≤ n ∧ i = .int .i64 k ∧ Hid ((L.take k).all (okR hn) = true) ∧ Hid (Below w.heap.size w wr)) (fun i _ => n - (intOf i).toNat)
      case atStart => exact ⟨0, Nat.zero_le _, rfl, hide rfl, hide (Below.refl _ _)⟩
      case round =>
        obtain ⟨k, hk, rfl, H, HB⟩ := hrel
        by_cases hlt : k < n
        · obtain ⟨a9, c9, he2, hcv⟩ := H0.out.below HB.out
          rw [Hn.out] at he2
          simp only [Value.slice.injEq, true_and] at he2
          obtain ⟨rfl, rfl⟩ := he2
          have hlL : k < L.length := by rw [Hn.out]; exact hlt
          obtain ⟨g, o, m, q, rfl, hg, SM, SQ, cq, k0, k1, k2, k3, k4, k5, k6, k7, k8, k9, k10, k11, k12, k13, k14, k15, k16, k17, k18, k19, k20⟩ := hcv k hlL
          have HS := hide (allR_snoc (n := hn) hlL)
          have HNO := hide (allR_no (n := hn) hlL)
          have hsz := HS0.out L[k] (List.getElem_mem hlL)
          generalize L[k] = y at *
          obtain ⟨ho, pf, M, hd, va, HL, r0, r1, r2, r3, r4, r5, r6, r7, r8, r9, r10, r11, r12, r13, r14⟩ := y
          simp only at SM SQ k0 k1 k2 k3 k4 k5 k6 k7 k8 k9 k10 k11 k12 k13 k14 k15 k16 k17 k18 k19 k20
          have HSM := hide SM
          have HSQ := hide SQ
          have Hcq := hide cq
          have HSZ := hide hsz
          have ho9 : okR hn ⟨ho, pf, M, hd, va, HL, r0, r1, r2, r3, r4, r5, r6, r7, r8, r9, r10, r11, r12, r13, r14⟩ = (matB ho pf M hd va && (numsB HL hn && fitK [r0, r1, r2, r3, r4, r5, r6, r7, r8, r9, r10, r11, r12, r13, r14] routeFits_anyL 15)) := rfl
          rw [ho9] at HS HNO
          obtain ⟨a1, c1, rfl, -⟩ := SM
          obtain ⟨a2, c2, rfl, -⟩ := SQ
          have HMA := hide (fun W h h2 => match_any W ho pf (.slice a1 M.length c1) M hd va h HSZ.out.M HSZ.out.ho HSZ.out.hd HSZ.out.va h2)
          have HNU := hide (fun W h => nums_any W (.slice a2 HL.length c2) HL hn h Hcq.out)
          obtain ⟨n1, Hn1⟩ : ∃ n1, Hid (M.length = n1) := ⟨_, hide rfl⟩
          obtain ⟨n2, Hn2⟩ : ∃ n2, Hid (HL.length = n2) := ⟨_, hide rfl⟩
          rw [Hn1.out] at k2 HMA HSM
          rw [Hn2.out] at k5 HNU HSQ
          have HFI := hide (fun W h => routeFits_any W ho pf a1 n1 c1 hd va a2 n2 c2 r0 r1 r2 r3 r4 r5 r6 r7 r8 r9 r10 r11 r12 r13 r14 h)
          generalize matB ho pf M hd va = b1 at HMA HS HNO
          generalize numsB HL hn = b2 at HNU HS HNO
          generalize fitK [r0, r1, r2, r3, r4, r5, r6, r7, r8, r9, r10, r11, r12, r13, r14] routeFits_anyL 15 = b3 at HFI HS HNO
          clear hcv hg ho9 hsz hlL cq Hcq HSZ
          have HRA : Hid (wr.rangeAt g (o + k * 21) ([.string ho, .string pf, .slice a1 n1 c1, .string hd, .string va, .slice a2 n2 c2, .int .i64 r0, .int .i64 r1, .int .i64 r2, .int .i64 r3, .int .i64 r4, .int .i64 r5, .int .i64 r6, .int .i64 r7, .int .i64 r8, .int .i64 r9, .int .i64 r10, .int .i64 r11, .int .i64 r12, .int .i64 r13, .int .i64 r14] : List Value)) := hide (by
            intro j v hv
            match j, hv with
            | 0, hv => simp at hv; subst hv; exact k0
            | 1, hv => simp at hv; subst hv; exact k1
            | 2, hv => simp at hv; subst hv; exact k2
            | 3, hv => simp at hv; subst hv; exact k3
            | 4, hv => simp at hv; subst hv; exact k4
            | 5, hv => simp at hv; subst hv; exact k5
            | 6, hv => simp at hv; subst hv; exact k6
            | 7, hv => simp at hv; subst hv; exact k7
            | 8, hv => simp at hv; subst hv; exact k8
            | 9, hv => simp at hv; subst hv; exact k9
            | 10, hv => simp at hv; subst hv; exact k10
            | 11, hv => simp at hv; subst hv; exact k11
            | 12, hv => simp at hv; subst hv; exact k12
            | 13, hv => simp at hv; subst hv; exact k13
            | 14, hv => simp at hv; subst hv; exact k14
            | 15, hv => simp at hv; subst hv; exact k15
            | 16, hv => simp at hv; subst hv; exact k16
            | 17, hv => simp at hv; subst hv; exact k17
            | 18, hv => simp at hv; subst hv; exact k18
            | 19, hv => simp at hv; subst hv; exact k19
            | 20, hv => simp at hv; subst hv; exact k20
            | j + 21, hv => simp at hv)
          clear k0 k1 k2 k3 k4 k5 k6 k7 k8 k9 k10 k11 k12 k13 k14 k15 k16 k17 k18 k19 k20
          go_upto_region 5 with fail
          refine wp_region_lit ?_
          refine wpList_plain rfl fun K hK => ?_
          go_simp
          refine hK _ _ ?_
          clear hK K
          refine wpList_load_mid rfl 40 _ rfl g (o + k * 21) rfl ([.string ho, .string pf, .slice a1 n1 c1, .string hd, .string va, .slice a2 n2 c2, .int .i64 r0, .int .i64 r1, .int .i64 r2, .int .i64 r3, .int .i64 r4, .int .i64 r5, .int .i64 r6, .int .i64 r7, .int .i64 r8, .int .i64 r9, .int .i64 r10, .int .i64 r11, .int .i64 r12, .int .i64 r13, .int .i64 r14] : List Value) _ HRA.out Tryz.underlying40 rfl (by kernel_rfl) ?_
          simp only [Act.put, List.setIfInBounds_toArray, List.set_cons_zero, List.set_cons_succ]
          refine wpList_plain rfl fun K hK => ?_
          go_simp
          refine hK _ _ ?_
          clear hK K
          refine wpList_store_new rfl 40 _ _ rfl _ #[.string ho, .string pf, .slice a1 n1 c1, .string hd, .string va, .slice a2 n2 c2, .int .i64 r0, .int .i64 r1, .int .i64 r2, .int .i64 r3, .int .i64 r4, .int .i64 r5, .int .i64 r6, .int .i64 r7, .int .i64 r8, .int .i64 r9, .int .i64 r10, .int .i64 r11, .int .i64 r12, .int .i64 r13, .int .i64 r14] rfl rfl (by kernel_rfl) rfl (by simp [Value.oneCell']) ?_
          simp only [Act.put]
          refine wpList_nil ?_
          clear HRA
          go_upto_region 6 with fail
          have U1 := hide (Bl.one wr #[.string ho, .string pf, .slice a1 n1 c1, .string hd, .string va, .slice a2 n2 c2, .int .i64 r0, .int .i64 r1, .int .i64 r2, .int .i64 r3, .int .i64 r4, .int .i64 r5, .int .i64 r6, .int .i64 r7, .int .i64 r8, .int .i64 r9, .int .i64 r10, .int .i64 r11, .int .i64 r12, .int .i64 r13, .int .i64 r14] 40)
          generalize (wr.alloc (.cells #[.string ho, .string pf, .slice a1 n1 c1, .string hd, .string va, .slice a2 n2 c2, .int .i64 r0, .int .i64 r1, .int .i64 r2, .int .i64 r3, .int .i64 r4, .int .i64 r5, .int .i64 r6, .int .i64 r7, .int .i64 r8, .int .i64 r9, .int .i64 r10, .int .i64 r11, .int .i64 r12, .int .i64 r13, .int .i64 r14] 40)) = x at U1 ⊢
          have d0 : x.cell? ⟨wr.heap.size, 0, none⟩ = some (.string ho) := U1.out.cell 0 rfl 0
          have d1 : x.cell? ⟨wr.heap.size, 1, none⟩ = some (.string pf) := U1.out.cell 0 rfl 1
          have d2 : x.cell? ⟨wr.heap.size, 2, none⟩ = some (.slice a1 n1 c1) := U1.out.cell 0 rfl 2
          have d3 : x.cell? ⟨wr.heap.size, 3, none⟩ = some (.string hd) := U1.out.cell 0 rfl 3
          have d4 : x.cell? ⟨wr.heap.size, 4, none⟩ = some (.string va) := U1.out.cell 0 rfl 4
          go_wp2_with fail
          refine (HMA.out _ (HSM.out.below U1.out.b) (HM.out.below (HB.out.trans (U1.out.b.mono HB.out.size)))).mono ?_
          rintro e w1 ⟨rfl, bb⟩
          have U2 := hide (U1.out.below bb)
          clear bb U1 d0 d1 d2 d3 d4
          cases b1
          · have HX := hide (HNO.out rfl)
            go_wp2_with fail
            go_ret
            exact ⟨ret_bool (by rw [← HV.out, HX.out]), HB.out.trans (U2.out.b.mono HB.out.size)⟩
          · have d5 : w1.cell? ⟨wr.heap.size, 5, none⟩ = some (.slice a2 n2 c2) := U2.out.cell 0 rfl 5
            go_wp2_with fail
            refine (HNU.out _ (HSQ.out.below U2.out.b)).mono ?_
            rintro e w2 ⟨rfl, e9⟩
            rw [e9]
            clear d5 e9 w2
            cases b2
            · have HX := hide (HNO.out rfl)
              go_wp2_with fail
              go_ret
              exact ⟨ret_bool (by rw [← HV.out, HX.out]), HB.out.trans (U2.out.b.mono HB.out.size)⟩
            · have HRA2 : Hid (w1.rangeAt wr.heap.size 0 ([.string ho, .string pf, .slice a1 n1 c1, .string hd, .string va, .slice a2 n2 c2, .int .i64 r0, .int .i64 r1, .int .i64 r2, .int .i64 r3, .int .i64 r4, .int .i64 r5, .int .i64 r6, .int .i64 r7, .int .i64 r8, .int .i64 r9, .int .i64 r10, .int .i64 r11, .int .i64 r12, .int .i64 r13, .int .i64 r14] : List Value)) := hide (by
                intro j v hv
                rw [Nat.zero_add]
                exact (U2.out.cell 0 rfl j).trans (by rw [List.getElem?_toArray]; exact hv))
              rename_i hKK
              refine hKK _ _ ?_
              clear hKK
              refine wpList_want (by kernel_rfl) fun K hK => ?_
              go_simp
              refine hK _ _ ?_
              clear hK K
              refine wpList_want (by kernel_rfl) fun K hK => ?_
              go_simp
              refine hK _ _ ?_
              clear hK K
              refine wpList_want (by kernel_rfl) fun K hK => ?_
              go_simp
              refine hK _ _ ?_
              clear hK K
              refine wpList_want (by kernel_rfl) fun K hK => ?_
              refine wp_load_mid 40 _ rfl wr.heap.size 0 rfl ([.string ho, .string pf, .slice a1 n1 c1, .string hd, .string va, .slice a2 n2 c2, .int .i64 r0, .int .i64 r1, .int .i64 r2, .int .i64 r3, .int .i64 r4, .int .i64 r5, .int .i64 r6, .int .i64 r7, .int .i64 r8, .int .i64 r9, .int .i64 r10, .int .i64 r11, .int .i64 r12, .int .i64 r13, .int .i64 r14] : List Value) _ HRA2.out Tryz.underlying40 rfl (by kernel_rfl) (hK _ _ ?_)
              clear hK K HRA2
              simp only [Act.put, List.setIfInBounds_toArray, List.set_cons_zero, List.set_cons_succ]
              go_wp2_with fail
              refine (HFI.out _ (HRG.out.below (HB.out.trans (U2.out.b.mono HB.out.size)))).mono ?_
              rintro e w3 ⟨rfl, bb⟩
              have U3 := hide (U2.out.below bb)
              clear bb U2
              cases b3
              · have HX := hide (HNO.out rfl)
                go_wp2_with fail
                go_ret
                exact ⟨ret_bool (by rw [← HV.out, HX.out]), HB.out.trans (U3.out.b.mono HB.out.size)⟩
              · have HX : Hid ((L.take (k + 1)).all (okR hn) = true) := hide (by rw [HS.out, H.out]; rfl)
                have HB4 := hide (HB.out.trans (U3.out.b.mono HB.out.size))
                go_wp2_with fail
                go_roundw
                case rel => exact ⟨k + 1, by omega, by go_num, HX, HB4⟩
                case measure => simp [intOf]; omega
        · obtain rfl : k = n := by omega
          have e9 : L.take k = L := by rw [← Hn.out, List.take_length]
          rw [e9] at H
          go_wp2_with fail
          go_ret
          exact ⟨ret_bool (by rw [← HV.out, H.out]), HB.out⟩

end Go.Proofs.YtekkhjlipijmcaaGreatDoor
/- How many attempts a request may have at most: the program's. -/
namespace Go.Proofs.YtekkhjlipijmcaaGreatDoor
open Go.ChangeShapes Go.WideShapes Go.ChangeAt Go.RowKit
set_option linter.unusedVariables false

/-- How many attempts a request may have at most. -/
def attI (L : List Rt) : Int := L.foldl (fun m r => if m < r.r10 + r.r11 + 1 then r.r10 + r.r11 + 1 else m) 0
theorem attI_snoc (L : List Rt) (k : Nat) (h : k < L.length) : attI (L.take (k + 1)) = (if attI (L.take k) < L[k].r10 + L[k].r11 + 1 then L[k].r10 + L[k].r11 + 1 else attI (L.take k)) := by
  unfold attI
  rw [List.take_succ_eq_append_getElem h, List.foldl_append]
  rfl
theorem attI_le (L : List Rt) (hc : ∀ x ∈ L, (0 ≤ x.r10 ∧ x.r10 ≤ 5) ∧ (0 ≤ x.r11 ∧ x.r11 ≤ 3)) (k : Nat) (hk : k ≤ L.length) : 0 ≤ attI (L.take k) ∧ attI (L.take k) ≤ 9 := by
  induction k with
  | zero => simp [attI]
  | succ k ih =>
    have h := ih (by omega)
    have hm := hc L[k] (List.getElem_mem (by omega))
    rw [attI_snoc L k (by omega)]
    split <;> omega
set_option maxHeartbeats 2000000 in
set_option maxRecDepth 100000 in
theorem att_any (w : World) (v : Value) (L : List Rt) (h : RRow w v L) (hl : L.length ≤ 16) (hcs : ∀ x ∈ L, (0 ≤ x.r10 ∧ x.r10 ≤ 5) ∧ (0 ≤ x.r11 ∧ x.r11 ≤ 3)) :
    Calls Tryz.prog 15 #[v] w fun e w' => e = .returned (.int .i64 (attI L)) ∧ Below w.heap.size w w' := by
  have HL := hide (attI_le L hcs)
  have HC := hide hcs
  have H0 := hide h
  obtain ⟨a, c, rfl, _⟩ := h
  obtain ⟨n, Hn⟩ : ∃ n, Hid (L.length = n) := ⟨_, hide rfl⟩
  rw [Hn.out] at hl ⊢
  clear hcs
  go_enter Tryz.func15, Tryz.ntmps15
  go_wp2_with fail
  go_loopw [8, 3] (fun i s wr => ∃ (k : Nat) (z : Int), k ≤ n ∧ i = .int .i64 k ∧ s = .int .i64 z ∧ (0 ≤ z ∧ z ≤ 9) ∧ Hid (z = attI (L.take k)) ∧ Hid (Below w.heap.size w wr)) (fun i _ _ => n - (intOf i).toNat)
  case atStart => exact ⟨0, 0, Nat.zero_le _, rfl, rfl, by omega, hide rfl, hide (Below.refl _ _)⟩
  case round =>
    obtain ⟨k, z, hk, rfl, rfl, ⟨z0, z1⟩, H, HB⟩ := hrel
    by_cases hlt : k < n
    · obtain ⟨a9, c9, he2, hcv⟩ := H0.out.below HB.out
      rw [Hn.out] at he2
      simp only [Value.slice.injEq, true_and] at he2
      obtain ⟨rfl, rfl⟩ := he2
      have hlL : k < L.length := by rw [Hn.out]; exact hlt
      obtain ⟨g, o, m, q, rfl, hg, SM, SQ, cq, k0, k1, k2, k3, k4, k5, k6, k7, k8, k9, k10, k11, k12, k13, k14, k15, k16, k17, k18, k19, k20⟩ := hcv k hlL
      have HS := hide (attI_snoc L k hlL)
      have hz2 := HL.out (k + 1) (by omega)
      have hcc := HC.out L[k] (List.getElem_mem hlL)
      rw [HS.out, ← H.out] at hz2
      rw [← H.out] at HS
      generalize L[k] = y at *
      obtain ⟨ho, pf, M, hd, va, HL9, r0, r1, r2, r3, r4, r5, r6, r7, r8, r9, r10, r11, r12, r13, r14⟩ := y
      simp only at SM SQ hcc hz2 k0 k1 k2 k3 k4 k5 k6 k7 k8 k9 k10 k11 k12 k13 k14 k15 k16 k17 k18 k19 k20
      simp only at HS
      obtain ⟨a1, c1, rfl, -⟩ := SM
      obtain ⟨a2, c2, rfl, -⟩ := SQ
      generalize M.length = n1 at *
      generalize HL9.length = n2 at *
      obtain ⟨⟨y0, y1⟩, y2, y3⟩ := hcc
      clear hcv hg cq hlL hz2
      have HRA : Hid (wr.rangeAt g (o + k * 21) ([.string ho, .string pf, .slice a1 n1 c1, .string hd, .string va, .slice a2 n2 c2, .int .i64 r0, .int .i64 r1, .int .i64 r2, .int .i64 r3, .int .i64 r4, .int .i64 r5, .int .i64 r6, .int .i64 r7, .int .i64 r8, .int .i64 r9, .int .i64 r10, .int .i64 r11, .int .i64 r12, .int .i64 r13, .int .i64 r14] : List Value)) := hide (by
        intro j v hv
        match j, hv with
        | 0, hv => simp at hv; subst hv; exact k0
        | 1, hv => simp at hv; subst hv; exact k1
        | 2, hv => simp at hv; subst hv; exact k2
        | 3, hv => simp at hv; subst hv; exact k3
        | 4, hv => simp at hv; subst hv; exact k4
        | 5, hv => simp at hv; subst hv; exact k5
        | 6, hv => simp at hv; subst hv; exact k6
        | 7, hv => simp at hv; subst hv; exact k7
        | 8, hv => simp at hv; subst hv; exact k8
        | 9, hv => simp at hv; subst hv; exact k9
        | 10, hv => simp at hv; subst hv; exact k10
        | 11, hv => simp at hv; subst hv; exact k11
        | 12, hv => simp at hv; subst hv; exact k12
        | 13, hv => simp at hv; subst hv; exact k13
        | 14, hv => simp at hv; subst hv; exact k14
        | 15, hv => simp at hv; subst hv; exact k15
        | 16, hv => simp at hv; subst hv; exact k16
        | 17, hv => simp at hv; subst hv; exact k17
        | 18, hv => simp at hv; subst hv; exact k18
        | 19, hv => simp at hv; subst hv; exact k19
        | 20, hv => simp at hv; subst hv; exact k20
        | j + 21, hv => simp at hv)
      clear k0 k1 k2 k3 k4 k5 k6 k7 k8 k9 k10 k11 k12 k13 k14 k15 k16 k17 k18 k19 k20
      go_upto_region 4 with fail
      refine wp_region_lit ?_
      refine wpList_plain rfl fun K hK => ?_
      go_simp
      refine hK _ _ ?_
      clear hK K
      refine wpList_load_mid rfl 40 _ rfl g (o + k * 21) rfl ([.string ho, .string pf, .slice a1 n1 c1, .string hd, .string va, .slice a2 n2 c2, .int .i64 r0, .int .i64 r1, .int .i64 r2, .int .i64 r3, .int .i64 r4, .int .i64 r5, .int .i64 r6, .int .i64 r7, .int .i64 r8, .int .i64 r9, .int .i64 r10, .int .i64 r11, .int .i64 r12, .int .i64 r13, .int .i64 r14] : List Value) _ HRA.out Tryz.underlying40 rfl (by kernel_rfl) ?_
      simp only [Act.put, List.setIfInBounds_toArray, List.set_cons_zero, List.set_cons_succ]
      refine wpList_plain rfl fun K hK => ?_
      go_simp
      refine hK _ _ ?_
      clear hK K
      refine wpList_store_new rfl 40 _ _ rfl _ #[.string ho, .string pf, .slice a1 n1 c1, .string hd, .string va, .slice a2 n2 c2, .int .i64 r0, .int .i64 r1, .int .i64 r2, .int .i64 r3, .int .i64 r4, .int .i64 r5, .int .i64 r6, .int .i64 r7, .int .i64 r8, .int .i64 r9, .int .i64 r10, .int .i64 r11, .int .i64 r12, .int .i64 r13, .int .i64 r14] rfl rfl (by kernel_rfl) rfl (by simp [Value.oneCell']) ?_
      simp only [Act.put]
      refine wpList_nil ?_
      clear HRA
      go_upto_region 5 with fail
      have U1 := hide (Bl.one wr #[.string ho, .string pf, .slice a1 n1 c1, .string hd, .string va, .slice a2 n2 c2, .int .i64 r0, .int .i64 r1, .int .i64 r2, .int .i64 r3, .int .i64 r4, .int .i64 r5, .int .i64 r6, .int .i64 r7, .int .i64 r8, .int .i64 r9, .int .i64 r10, .int .i64 r11, .int .i64 r12, .int .i64 r13, .int .i64 r14] 40)
      generalize (wr.alloc (.cells #[.string ho, .string pf, .slice a1 n1 c1, .string hd, .string va, .slice a2 n2 c2, .int .i64 r0, .int .i64 r1, .int .i64 r2, .int .i64 r3, .int .i64 r4, .int .i64 r5, .int .i64 r6, .int .i64 r7, .int .i64 r8, .int .i64 r9, .int .i64 r10, .int .i64 r11, .int .i64 r12, .int .i64 r13, .int .i64 r14] 40)) = x at U1 ⊢
      have d16 : x.cell? ⟨wr.heap.size, 16, none⟩ = some (.int .i64 r10) := U1.out.cell 0 rfl 16
      have d17 : x.cell? ⟨wr.heap.size, 17, none⟩ = some (.int .i64 r11) := U1.out.cell 0 rfl 17
      have HB4 := hide (HB.out.trans (U1.out.b.mono HB.out.size))
      have E0 : Hid ((if z < r10 + r11 + 1 then r10 + r11 + 1 else z) = attI (L.take (k + 1))) := hide HS.out.symm
      obtain ⟨zz, Hzz⟩ : ∃ zz, Hid (zz = attI (L.take (k + 1))) := ⟨_, hide rfl⟩
      rw [← Hzz.out] at E0
      have hzz : 0 ≤ zz ∧ zz ≤ 9 := by have := E0.out; split at this <;> omega
      have hmx : Hid (max z (r10 + r11 + 1) = zz) := hide (by have := E0.out; split at this <;> omega)
      clear HS H U1 HL E0
      go_wp2_with fail
      go_roundw
      case rel => exact ⟨k + 1, zz, by omega, by go_num, congrArg (Value.int .i64) hmx.out, hzz, Hzz, HB4⟩
      case measure => simp [intOf]; omega
    · obtain rfl : k = n := by omega
      have HE : Hid (z = attI L) := hide (by rw [H.out, ← Hn.out, List.take_length])
      go_wp2_with fail
      go_ret
      exact ⟨ret_int HE.out, HB.out⟩
end Go.Proofs.YtekkhjlipijmcaaGreatDoor
/- Whether a configuration is right: the program's. -/
namespace Go.Proofs.YtekkhjlipijmcaaGreatDoor
open Go.ChangeShapes Go.WideShapes Go.ChangeAt Go.RowKit
set_option linter.unusedVariables false

/-- A configuration. -/
structure Cfg where
  H : List Hst
  R : List Rt
  pa : ByteArray
  c0 : Int
  c1 : Int
  c2 : Int
  c3 : Int
  c4 : Int
  c5 : Int
  c6 : Int
  c7 : Int
  c8 : Int
  c9 : Int
  c10 : Int
  c11 : Int
  c12 : Int
  c13 : Int
  c14 : Int
def cfgB (C : Cfg) : Bool := hostsB C.H && (routesB C.R (C.H.length : Int) && restB C.pa C.c0 C.c1 C.c2 C.c3 C.c4 C.c5 C.c6 C.c7 C.c8 C.c9 C.c10 C.c11 C.c12 C.c13 C.c14)
def cfgE (C : Cfg) : Int := if cfgB C then 0 else 3
def cfgV (a1 a2 : Option Addr) (k1 k2 : Nat) (C : Cfg) : Value := .agg #[.slice a1 C.H.length k1, .slice a2 C.R.length k2, .int .i64 C.c0, .int .i64 C.c1, .int .i64 C.c2, .int .i64 C.c3, .string C.pa, .int .i64 C.c4, .int .i64 C.c5, .int .i64 C.c6, .int .i64 C.c7, .int .i64 C.c8, .int .i64 C.c9, .int .i64 C.c10, .int .i64 C.c11, .int .i64 C.c12, .int .i64 C.c13, .int .i64 C.c14]
/-- A configuration that came in, and the tables of ranges. -/
structure InC (w : World) (a1 a2 : Option Addr) (k1 k2 : Nat) (C : Cfg) : Prop where
  h : HRow w (.slice a1 C.H.length k1) C.H
  r : RRow w (.slice a2 C.R.length k2) C.R
  hs : ∀ x ∈ C.H, x.nm.size ≤ 1048576
  rs : ∀ x ∈ C.R, x.Sz
  g0 : RG w 0 hostFits_anyL
  g1 : RG w 1 routeFits_anyL
  g2 : RG w 2 restFits_anyL
  mx : MX w
theorem InC.below {w w' : World} {a1 a2 : Option Addr} {k1 k2 : Nat} {C : Cfg} (h : InC w a1 a2 k1 k2 C) (b : Below w.heap.size w w') : InC w' a1 a2 k1 k2 C :=
  ⟨h.h.below b, h.r.below b, h.hs, h.rs, h.g0.below b, h.g1.below b, h.g2.below b, h.mx.below b⟩

set_option maxHeartbeats 4000000 in
set_option maxRecDepth 100000 in
theorem check_any (w : World) (a1 a2 : Option Addr) (k1 k2 : Nat) (C : Cfg) (h : InC w a1 a2 k1 k2 C) :
    Calls Tryz.prog 11 #[cfgV a1 a2 k1 k2 C] w fun e w' => e = .returned (.int .i64 (cfgE C)) ∧ Below w.heap.size w w' := by
  have H0 := hide h
  clear h
  obtain ⟨E, HE⟩ : ∃ E, Hid (cfgE C = E) := ⟨_, hide rfl⟩
  rw [HE.out]
  unfold cfgE cfgB at HE
  unfold cfgV
  obtain ⟨H, R, pa, c0, c1, c2, c3, c4, c5, c6, c7, c8, c9, c10, c11, c12, c13, c14⟩ := C
  simp only at HE ⊢
  have HH := hide (fun W b => hosts_any W _ H (H0.out.below (w' := W) b).h H0.out.hs (H0.out.below b).g0)
  have HR := hide (fun W b => routes_any W _ R (H.length : Int) (H0.out.below (w' := W) b).r H0.out.rs (H0.out.below b).g1 (H0.out.below b).mx)
  simp only at HH HR
  obtain ⟨n1, Hn1⟩ : ∃ n1, Hid (H.length = n1) := ⟨_, hide rfl⟩
  obtain ⟨n2, Hn2⟩ : ∃ n2, Hid (R.length = n2) := ⟨_, hide rfl⟩
  rw [Hn1.out] at HH HR HE ⊢
  rw [Hn2.out] at HR ⊢
  have HT := hide (fun W b => rest_any W a1 n1 k1 a2 n2 k2 pa c0 c1 c2 c3 c4 c5 c6 c7 c8 c9 c10 c11 c12 c13 c14 (H0.out.below (w' := W) b).g2 (H0.out.below b).mx)
  generalize hostsB H = b1 at HH HE
  generalize routesB R (n1 : Int) = b2 at HR HE
  generalize restB pa c0 c1 c2 c3 c4 c5 c6 c7 c8 c9 c10 c11 c12 c13 c14 = b3 at HT HE
  go_enter Tryz.func11, Tryz.ntmps11
  go_upto_region 1 with fail
  have T0 := hide (Bl.one w #[.slice a1 n1 k1, .slice a2 n2 k2, .int .i64 c0, .int .i64 c1, .int .i64 c2, .int .i64 c3, .string pa, .int .i64 c4, .int .i64 c5, .int .i64 c6, .int .i64 c7, .int .i64 c8, .int .i64 c9, .int .i64 c10, .int .i64 c11, .int .i64 c12, .int .i64 c13, .int .i64 c14] 25)
  generalize (w.alloc (.cells #[.slice a1 n1 k1, .slice a2 n2 k2, .int .i64 c0, .int .i64 c1, .int .i64 c2, .int .i64 c3, .string pa, .int .i64 c4, .int .i64 c5, .int .i64 c6, .int .i64 c7, .int .i64 c8, .int .i64 c9, .int .i64 c10, .int .i64 c11, .int .i64 c12, .int .i64 c13, .int .i64 c14] 25)) = x at T0 ⊢
  have m0 : x.cell? ⟨w.heap.size, 0, none⟩ = some (.slice a1 n1 k1) := T0.out.cell 0 rfl 0
  go_wp2_with fail
  refine (HH.out _ T0.out.b).mono ?_
  rintro e w1 ⟨rfl, bb⟩
  have T1 := hide (T0.out.below bb)
  clear bb T0 HH m0
  cases b1
  · have hE : E = 3 := by rw [← HE.out]; rfl
    subst hE
    go_wp2_with fail
    go_ret
    exact ⟨rfl, T1.out.b⟩
  · have m0 : w1.cell? ⟨w.heap.size, 0, none⟩ = some (.slice a1 n1 k1) := T1.out.cell 0 rfl 0
    have m1 : w1.cell? ⟨w.heap.size, 1, none⟩ = some (.slice a2 n2 k2) := T1.out.cell 0 rfl 1
    go_wp2_with fail
    refine (HR.out _ T1.out.b).mono ?_
    rintro e w2 ⟨rfl, bb⟩
    have T2 := hide (T1.out.below bb)
    clear bb T1 HR m0 m1
    cases b2
    · have hE : E = 3 := by rw [← HE.out]; rfl
      subst hE
      go_wp2_with fail
      go_ret
      exact ⟨rfl, T2.out.b⟩
    · have HRA2 : Hid (w2.rangeAt w.heap.size 0 ([.slice a1 n1 k1, .slice a2 n2 k2, .int .i64 c0, .int .i64 c1, .int .i64 c2, .int .i64 c3, .string pa, .int .i64 c4, .int .i64 c5, .int .i64 c6, .int .i64 c7, .int .i64 c8, .int .i64 c9, .int .i64 c10, .int .i64 c11, .int .i64 c12, .int .i64 c13, .int .i64 c14] : List Value)) := hide (by
        intro j v hv
        rw [Nat.zero_add]
        exact (T2.out.cell 0 rfl j).trans (by rw [List.getElem?_toArray]; exact hv))
      rename_i hKK
      refine hKK _ _ ?_
      clear hKK
      refine wpList_want (by kernel_rfl) fun K hK => ?_
      go_simp
      refine hK _ _ ?_
      clear hK K
      refine wpList_want (by kernel_rfl) fun K hK => ?_
      go_simp
      refine hK _ _ ?_
      clear hK K
      refine wpList_want (by kernel_rfl) fun K hK => ?_
      refine wp_load_mid 25 _ rfl w.heap.size 0 rfl ([.slice a1 n1 k1, .slice a2 n2 k2, .int .i64 c0, .int .i64 c1, .int .i64 c2, .int .i64 c3, .string pa, .int .i64 c4, .int .i64 c5, .int .i64 c6, .int .i64 c7, .int .i64 c8, .int .i64 c9, .int .i64 c10, .int .i64 c11, .int .i64 c12, .int .i64 c13, .int .i64 c14] : List Value) _ HRA2.out Tryz.underlying25 rfl (by kernel_rfl) (hK _ _ ?_)
      clear hK K HRA2
      simp only [Act.put, List.setIfInBounds_toArray, List.set_cons_zero, List.set_cons_succ]
      go_wp2_with fail
      refine (HT.out _ T2.out.b).mono ?_
      rintro e w3 ⟨rfl, bb⟩
      have T3 := hide (T2.out.below bb)
      clear bb T2 HT
      cases b3
      · have hE : E = 3 := by rw [← HE.out]; rfl
        subst hE
        go_wp2_with fail
        go_ret
        exact ⟨rfl, T3.out.b⟩
      · have hE : E = 0 := by rw [← HE.out]; rfl
        subst hE
        go_wp2_with fail
        go_ret
        exact ⟨rfl, T3.out.b⟩

/-- What a right configuration is within. -/
structure Wt (C : Cfg) : Prop where
  h0 : 1 ≤ C.H.length
  h1 : C.H.length ≤ 16
  q0 : 1 ≤ C.R.length
  q1 : C.R.length ≤ 16
  ca : ∀ x ∈ C.H, 1 ≤ x.ca ∧ x.ca ≤ 64
  at_ : ∀ x ∈ C.R, (0 ≤ x.r10 ∧ x.r10 ≤ 5) ∧ (0 ≤ x.r11 ∧ x.r11 ≤ 3)
  mh : 16 ≤ C.c8 ∧ C.c8 ≤ 65536
  mb : 0 ≤ C.c9 ∧ C.c9 ≤ 1048576
  mo : 1 ≤ C.c10 ∧ C.c10 ≤ 1048576
  cl : 1 ≤ C.c14 ∧ C.c14 ≤ 256
theorem fit_in {N : List Int} {L : List (Int × Int)} {k m : Nat} {n a b : Int} (hf : fitK N L m = true) (h : (N.zip L)[k]? = some (n, (a, b))) (hk : k < m) : a ≤ n ∧ n ≤ b := by
  cases hb : inB n a b with
  | true => unfold inB at hb; simpa using hb
  | false => rw [fit_no h hk hb] at hf; cases hf
theorem Wt.of {C : Cfg} (h : cfgB C = true) : Wt C := by
  unfold cfgB hostsB routesB restB at h
  simp only [Bool.and_eq_true, decide_eq_true_eq] at h
  obtain ⟨⟨⟨a0, a1⟩, a2, -⟩, ⟨⟨b0, b1⟩, b2⟩, c1, -, -⟩ := h
  refine ⟨a0, a1, b0, b1, fun x hx => ?_, fun x hx => ?_, fit_in c1 (k := 8) rfl (by omega), fit_in c1 (k := 9) rfl (by omega), fit_in c1 (k := 10) rfl (by omega), fit_in c1 (k := 14) rfl (by omega)⟩
  · have := (List.all_eq_true.1 a2) x hx
    unfold okH at this
    rw [Bool.and_eq_true] at this
    exact fit_in this.2 (k := 0) rfl (by omega)
  · have := (List.all_eq_true.1 b2) x hx
    unfold okR at this
    rw [Bool.and_eq_true, Bool.and_eq_true] at this
    exact ⟨fit_in this.2.2 (k := 10) rfl (by omega), fit_in this.2.2 (k := 11) rfl (by omega)⟩
end Go.Proofs.YtekkhjlipijmcaaGreatDoor
/- How much a proxy may hold: the program's. -/
namespace Go.Proofs.YtekkhjlipijmcaaGreatDoor
open Go.ChangeShapes Go.WideShapes Go.ChangeAt Go.RowKit
set_option linter.unusedVariables false

set_option maxHeartbeats 4000000 in
set_option maxRecDepth 100000 in
theorem conns_any (w : World) (a1 a2 : Option Addr) (k1 k2 : Nat) (C : Cfg) (h : InC w a1 a2 k1 k2 C) :
    Calls Tryz.prog 7 #[cfgV a1 a2 k1 k2 C] w fun e w' => e = .returned (.tuple #[.int .i64 (if cfgB C then C.c14 + capsI C.H + (C.H.length : Int) else 0), .int .i64 (cfgE C)]) ∧ Below w.heap.size w w' := by
  have H0 := hide h
  have HC := hide (fun W b => check_any W a1 a2 k1 k2 C (h.below (w' := W) b))
  have HW := hide (fun (x : cfgB C = true) => Wt.of x)
  clear h
  unfold cfgE at HC ⊢
  obtain ⟨bb9, Hbb⟩ : ∃ b, Hid (cfgB C = b) := ⟨_, hide rfl⟩
  rw [Hbb.out] at HC HW ⊢
  unfold cfgV at HC ⊢
  obtain ⟨H, R, pa, c0, c1, c2, c3, c4, c5, c6, c7, c8, c9, c10, c11, c12, c13, c14⟩ := C
  simp only at HC ⊢
  have HH := hide (fun W b (hl : H.length ≤ 16) (hc : ∀ x ∈ H, 1 ≤ x.ca ∧ x.ca ≤ 64) => caps_any W _ H (H0.out.below (w' := W) b).h hl (fun x hx => by have := hc x hx; omega))
  have HA := hide (fun W b (hl : R.length ≤ 16) (hc : ∀ x ∈ R, (0 ≤ x.r10 ∧ x.r10 ≤ 5) ∧ (0 ≤ x.r11 ∧ x.r11 ≤ 3)) => att_any W _ R (H0.out.below (w' := W) b).r hl hc)
  simp only at HH HA
  obtain ⟨n1, Hn1⟩ : ∃ n1, Hid (H.length = n1) := ⟨_, hide rfl⟩
  obtain ⟨n2, Hn2⟩ : ∃ n2, Hid (R.length = n2) := ⟨_, hide rfl⟩
  rw [Hn1.out, Hn2.out] at HC
  rw [Hn1.out] at HH ⊢
  rw [Hn2.out] at HA ⊢
  cases bb9 with
  | false =>
    simp only [Bool.false_eq_true, if_false] at HC ⊢
    go_enter Tryz.func7, Tryz.ntmps7
    go_upto_region 1 with fail
    have T0 := hide (Bl.one w #[.slice a1 n1 k1, .slice a2 n2 k2, .int .i64 c0, .int .i64 c1, .int .i64 c2, .int .i64 c3, .string pa, .int .i64 c4, .int .i64 c5, .int .i64 c6, .int .i64 c7, .int .i64 c8, .int .i64 c9, .int .i64 c10, .int .i64 c11, .int .i64 c12, .int .i64 c13, .int .i64 c14] 25)
    generalize (w.alloc (.cells #[.slice a1 n1 k1, .slice a2 n2 k2, .int .i64 c0, .int .i64 c1, .int .i64 c2, .int .i64 c3, .string pa, .int .i64 c4, .int .i64 c5, .int .i64 c6, .int .i64 c7, .int .i64 c8, .int .i64 c9, .int .i64 c10, .int .i64 c11, .int .i64 c12, .int .i64 c13, .int .i64 c14] 25)) = x at T0 ⊢
    have HRA : Hid (x.rangeAt w.heap.size 0 ([.slice a1 n1 k1, .slice a2 n2 k2, .int .i64 c0, .int .i64 c1, .int .i64 c2, .int .i64 c3, .string pa, .int .i64 c4, .int .i64 c5, .int .i64 c6, .int .i64 c7, .int .i64 c8, .int .i64 c9, .int .i64 c10, .int .i64 c11, .int .i64 c12, .int .i64 c13, .int .i64 c14] : List Value)) := hide (by
      intro j v hv
      rw [Nat.zero_add]
      exact (T0.out.cell 0 rfl j).trans (by rw [List.getElem?_toArray]; exact hv))
    refine wp_region_lit ?_
    refine wpList_load_mid rfl 25 _ rfl w.heap.size 0 rfl ([.slice a1 n1 k1, .slice a2 n2 k2, .int .i64 c0, .int .i64 c1, .int .i64 c2, .int .i64 c3, .string pa, .int .i64 c4, .int .i64 c5, .int .i64 c6, .int .i64 c7, .int .i64 c8, .int .i64 c9, .int .i64 c10, .int .i64 c11, .int .i64 c12, .int .i64 c13, .int .i64 c14] : List Value) _ HRA.out Tryz.underlying25 rfl (by kernel_rfl) ?_
    simp only [Act.put, List.setIfInBounds_toArray, List.set_cons_zero, List.set_cons_succ]
    clear HRA
    go_wp2_with fail
    refine (HC.out _ T0.out.b).mono ?_
    rintro e w1 ⟨rfl, bb⟩
    have T1 := hide (T0.out.below bb)
    clear bb T0 HC
    go_wp2_with fail
    go_ret2
    exact ⟨rfl, T1.out.b⟩
  | true =>
    simp only [if_true] at HC ⊢
    obtain ⟨h0, h1, q0, q1, hca, hat, hmh, hmb, hmo, hcl⟩ := HW.out rfl
    simp only at h0 h1 q0 q1 hca hat hmh hmb hmo hcl
    have hcp := capsI_le H h1 (fun x hx => by have := hca x hx; omega) H.length (Nat.le_refl _)
    have hap := attI_le R hat R.length (Nat.le_refl _)
    rw [List.take_length] at hcp hap
    rw [Hn1.out] at h0 h1 hcp
    rw [Hn2.out] at q1
    have HH2 := hide (fun W b => HH.out W b h1 hca)
    have HA2 := hide (fun W b => HA.out W b q1 hat)
    clear HH HA hca hat HW Hbb q0 q1
    generalize capsI H = cp at *
    generalize attI R = ap at *
    obtain ⟨mh0, mh1⟩ := hmh
    obtain ⟨mb0, mb1⟩ := hmb
    obtain ⟨mo0, mo1⟩ := hmo
    obtain ⟨cl0, cl1⟩ := hcl
    obtain ⟨cp0, cp1⟩ := hcp
    obtain ⟨ap0, ap1⟩ := hap
    have w1' : IntKind.i64.wrap (c14 + cp) = c14 + cp := IntWalk.i64_in _ (by omega)
    have w2' : IntKind.i64.wrap (c14 + cp + (n1 : Int)) = c14 + cp + (n1 : Int) := IntWalk.i64_in _ (by omega)
    go_enter Tryz.func7, Tryz.ntmps7
    go_upto_region 1 with fail
    have T0 := hide (Bl.one w #[.slice a1 n1 k1, .slice a2 n2 k2, .int .i64 c0, .int .i64 c1, .int .i64 c2, .int .i64 c3, .string pa, .int .i64 c4, .int .i64 c5, .int .i64 c6, .int .i64 c7, .int .i64 c8, .int .i64 c9, .int .i64 c10, .int .i64 c11, .int .i64 c12, .int .i64 c13, .int .i64 c14] 25)
    generalize (w.alloc (.cells #[.slice a1 n1 k1, .slice a2 n2 k2, .int .i64 c0, .int .i64 c1, .int .i64 c2, .int .i64 c3, .string pa, .int .i64 c4, .int .i64 c5, .int .i64 c6, .int .i64 c7, .int .i64 c8, .int .i64 c9, .int .i64 c10, .int .i64 c11, .int .i64 c12, .int .i64 c13, .int .i64 c14] 25)) = x at T0 ⊢
    have HRA : Hid (x.rangeAt w.heap.size 0 ([.slice a1 n1 k1, .slice a2 n2 k2, .int .i64 c0, .int .i64 c1, .int .i64 c2, .int .i64 c3, .string pa, .int .i64 c4, .int .i64 c5, .int .i64 c6, .int .i64 c7, .int .i64 c8, .int .i64 c9, .int .i64 c10, .int .i64 c11, .int .i64 c12, .int .i64 c13, .int .i64 c14] : List Value)) := hide (by
      intro j v hv
      rw [Nat.zero_add]
      exact (T0.out.cell 0 rfl j).trans (by rw [List.getElem?_toArray]; exact hv))
    refine wp_region_lit ?_
    refine wpList_load_mid rfl 25 _ rfl w.heap.size 0 rfl ([.slice a1 n1 k1, .slice a2 n2 k2, .int .i64 c0, .int .i64 c1, .int .i64 c2, .int .i64 c3, .string pa, .int .i64 c4, .int .i64 c5, .int .i64 c6, .int .i64 c7, .int .i64 c8, .int .i64 c9, .int .i64 c10, .int .i64 c11, .int .i64 c12, .int .i64 c13, .int .i64 c14] : List Value) _ HRA.out Tryz.underlying25 rfl (by kernel_rfl) ?_
    simp only [Act.put, List.setIfInBounds_toArray, List.set_cons_zero, List.set_cons_succ]
    clear HRA
    go_wp2_with fail
    refine (HC.out _ T0.out.b).mono ?_
    rintro e w1 ⟨rfl, bb⟩
    have T1 := hide (T0.out.below bb)
    clear bb T0 HC
    have c0' : w1.cell? ⟨w.heap.size, 0, none⟩ = some (.slice a1 n1 k1) := T1.out.cell 0 rfl 0
    have c1' : w1.cell? ⟨w.heap.size, 1, none⟩ = some (.slice a2 n2 k2) := T1.out.cell 0 rfl 1
    have c11' : w1.cell? ⟨w.heap.size, 11, none⟩ = some (.int .i64 c8) := T1.out.cell 0 rfl 11
    have c12' : w1.cell? ⟨w.heap.size, 12, none⟩ = some (.int .i64 c9) := T1.out.cell 0 rfl 12
    have c13' : w1.cell? ⟨w.heap.size, 13, none⟩ = some (.int .i64 c10) := T1.out.cell 0 rfl 13
    have c17' : w1.cell? ⟨w.heap.size, 17, none⟩ = some (.int .i64 c14) := T1.out.cell 0 rfl 17
    have HCW := hide T1.out.b
    go_upto_region 4 with fail
    refine wp_region_cl (by kernel_rfl) (by kernel_rfl) ?_
    refine cl_val (v := ?_) rfl (fun W hW => ?_) ?_
    rotate_left
    · unfold Oper.quietAt; go_simp; try with_reducible rfl
    simp only [Act.put, List.setIfInBounds_toArray, List.set_cons_zero, List.set_cons_succ]
    refine cl_val (v := ?_) rfl (fun W hW => ?_) ?_
    rotate_left
    · have l0 := hW.cell c17'; unfold Oper.quietAt; go_simp; try with_reducible rfl
    simp only [Act.put, List.setIfInBounds_toArray, List.set_cons_zero, List.set_cons_succ]
    refine cl_val (v := ?_) rfl (fun W hW => ?_) ?_
    rotate_left
    · unfold Oper.quietAt; go_simp; try with_reducible rfl
    simp only [Act.put, List.setIfInBounds_toArray, List.set_cons_zero, List.set_cons_succ]
    refine cl_val (v := ?_) rfl (fun W hW => ?_) ?_
    rotate_left
    · have l0 := hW.cell c0'; unfold Oper.quietAt; go_simp; try with_reducible rfl
    simp only [Act.put, List.setIfInBounds_toArray, List.set_cons_zero, List.set_cons_succ]
    refine cl_val (v := .int .i64 cp) rfl (fun W hW => ?_) ?_
    · unfold Oper.quietAt; go_simp; exact call_cl hW (HH2.out _ (HCW.out.trans (hW.out.mono HCW.out.size)))
    simp only [Act.put, List.setIfInBounds_toArray, List.set_cons_zero, List.set_cons_succ]
    refine cl_val (v := ?_) rfl (fun W hW => ?_) ?_
    rotate_left
    · unfold Oper.quietAt; go_simp; try with_reducible rfl
    simp only [Act.put, List.setIfInBounds_toArray, List.set_cons_zero, List.set_cons_succ]
    refine cl_val (v := ?_) rfl (fun W hW => ?_) ?_
    rotate_left
    · unfold Oper.quietAt; go_simp; try with_reducible rfl
    simp only [Act.put, List.setIfInBounds_toArray, List.set_cons_zero, List.set_cons_succ]
    refine cl_val (v := ?_) rfl (fun W hW => ?_) ?_
    rotate_left
    · have l0 := hW.cell c0'; unfold Oper.quietAt; go_simp; try with_reducible rfl
    simp only [Act.put, List.setIfInBounds_toArray, List.set_cons_zero, List.set_cons_succ]
    refine cl_val (v := ?_) rfl (fun W hW => ?_) ?_
    rotate_left
    · unfold Oper.quietAt; go_simp; try with_reducible rfl
    simp only [Act.put, List.setIfInBounds_toArray, List.set_cons_zero, List.set_cons_succ]
    refine cl_val (v := ?_) rfl (fun W hW => ?_) ?_
    rotate_left
    · unfold Oper.quietAt; go_simp; try with_reducible rfl
    simp only [Act.put, List.setIfInBounds_toArray, List.set_cons_zero, List.set_cons_succ]
    refine cl_assign _ rfl rfl ?_
    simp only [Act.put, List.setIfInBounds_toArray, List.set_cons_zero, List.set_cons_succ]
    refine cl_assign _ rfl rfl ?_
    simp only [Act.put, List.setIfInBounds_toArray, List.set_cons_zero, List.set_cons_succ]
    refine wpQuiet_nil ?_
    intro z Hz
    have HZ : Hid (Below w.heap.size w z) := hide (T1.out.b.trans (Hz.out.mono T1.out.b.size))
    go_wp2_with fail
    go_ret2
    exact ⟨rfl, HZ.out⟩
set_option maxHeartbeats 4000000 in
set_option maxRecDepth 100000 in
theorem timers_any (w : World) (a1 a2 : Option Addr) (k1 k2 : Nat) (C : Cfg) (h : InC w a1 a2 k1 k2 C) :
    Calls Tryz.prog 8 #[cfgV a1 a2 k1 k2 C] w fun e w' => e = .returned (.tuple #[.int .i64 (if cfgB C then 4 * C.c14 + 3 * capsI C.H + 3 * (C.H.length : Int) + attI C.R * C.c14 else 0), .int .i64 (cfgE C)]) ∧ Below w.heap.size w w' := by
  have H0 := hide h
  have HC := hide (fun W b => check_any W a1 a2 k1 k2 C (h.below (w' := W) b))
  have HW := hide (fun (x : cfgB C = true) => Wt.of x)
  clear h
  unfold cfgE at HC ⊢
  obtain ⟨bb9, Hbb⟩ : ∃ b, Hid (cfgB C = b) := ⟨_, hide rfl⟩
  rw [Hbb.out] at HC HW ⊢
  unfold cfgV at HC ⊢
  obtain ⟨H, R, pa, c0, c1, c2, c3, c4, c5, c6, c7, c8, c9, c10, c11, c12, c13, c14⟩ := C
  simp only at HC ⊢
  have HH := hide (fun W b (hl : H.length ≤ 16) (hc : ∀ x ∈ H, 1 ≤ x.ca ∧ x.ca ≤ 64) => caps_any W _ H (H0.out.below (w' := W) b).h hl (fun x hx => by have := hc x hx; omega))
  have HA := hide (fun W b (hl : R.length ≤ 16) (hc : ∀ x ∈ R, (0 ≤ x.r10 ∧ x.r10 ≤ 5) ∧ (0 ≤ x.r11 ∧ x.r11 ≤ 3)) => att_any W _ R (H0.out.below (w' := W) b).r hl hc)
  simp only at HH HA
  obtain ⟨n1, Hn1⟩ : ∃ n1, Hid (H.length = n1) := ⟨_, hide rfl⟩
  obtain ⟨n2, Hn2⟩ : ∃ n2, Hid (R.length = n2) := ⟨_, hide rfl⟩
  rw [Hn1.out, Hn2.out] at HC
  rw [Hn1.out] at HH ⊢
  rw [Hn2.out] at HA ⊢
  cases bb9 with
  | false =>
    simp only [Bool.false_eq_true, if_false] at HC ⊢
    go_enter Tryz.func8, Tryz.ntmps8
    go_upto_region 1 with fail
    have T0 := hide (Bl.one w #[.slice a1 n1 k1, .slice a2 n2 k2, .int .i64 c0, .int .i64 c1, .int .i64 c2, .int .i64 c3, .string pa, .int .i64 c4, .int .i64 c5, .int .i64 c6, .int .i64 c7, .int .i64 c8, .int .i64 c9, .int .i64 c10, .int .i64 c11, .int .i64 c12, .int .i64 c13, .int .i64 c14] 25)
    generalize (w.alloc (.cells #[.slice a1 n1 k1, .slice a2 n2 k2, .int .i64 c0, .int .i64 c1, .int .i64 c2, .int .i64 c3, .string pa, .int .i64 c4, .int .i64 c5, .int .i64 c6, .int .i64 c7, .int .i64 c8, .int .i64 c9, .int .i64 c10, .int .i64 c11, .int .i64 c12, .int .i64 c13, .int .i64 c14] 25)) = x at T0 ⊢
    have HRA : Hid (x.rangeAt w.heap.size 0 ([.slice a1 n1 k1, .slice a2 n2 k2, .int .i64 c0, .int .i64 c1, .int .i64 c2, .int .i64 c3, .string pa, .int .i64 c4, .int .i64 c5, .int .i64 c6, .int .i64 c7, .int .i64 c8, .int .i64 c9, .int .i64 c10, .int .i64 c11, .int .i64 c12, .int .i64 c13, .int .i64 c14] : List Value)) := hide (by
      intro j v hv
      rw [Nat.zero_add]
      exact (T0.out.cell 0 rfl j).trans (by rw [List.getElem?_toArray]; exact hv))
    refine wp_region_lit ?_
    refine wpList_load_mid rfl 25 _ rfl w.heap.size 0 rfl ([.slice a1 n1 k1, .slice a2 n2 k2, .int .i64 c0, .int .i64 c1, .int .i64 c2, .int .i64 c3, .string pa, .int .i64 c4, .int .i64 c5, .int .i64 c6, .int .i64 c7, .int .i64 c8, .int .i64 c9, .int .i64 c10, .int .i64 c11, .int .i64 c12, .int .i64 c13, .int .i64 c14] : List Value) _ HRA.out Tryz.underlying25 rfl (by kernel_rfl) ?_
    simp only [Act.put, List.setIfInBounds_toArray, List.set_cons_zero, List.set_cons_succ]
    clear HRA
    go_wp2_with fail
    refine (HC.out _ T0.out.b).mono ?_
    rintro e w1 ⟨rfl, bb⟩
    have T1 := hide (T0.out.below bb)
    clear bb T0 HC
    go_wp2_with fail
    go_ret2
    exact ⟨rfl, T1.out.b⟩
  | true =>
    simp only [if_true] at HC ⊢
    obtain ⟨h0, h1, q0, q1, hca, hat, hmh, hmb, hmo, hcl⟩ := HW.out rfl
    simp only at h0 h1 q0 q1 hca hat hmh hmb hmo hcl
    have hcp := capsI_le H h1 (fun x hx => by have := hca x hx; omega) H.length (Nat.le_refl _)
    have hap := attI_le R hat R.length (Nat.le_refl _)
    rw [List.take_length] at hcp hap
    rw [Hn1.out] at h0 h1 hcp
    rw [Hn2.out] at q1
    have HH2 := hide (fun W b => HH.out W b h1 hca)
    have HA2 := hide (fun W b => HA.out W b q1 hat)
    clear HH HA hca hat HW Hbb q0 q1
    generalize capsI H = cp at *
    generalize attI R = ap at *
    obtain ⟨mh0, mh1⟩ := hmh
    obtain ⟨mb0, mb1⟩ := hmb
    obtain ⟨mo0, mo1⟩ := hmo
    obtain ⟨cl0, cl1⟩ := hcl
    obtain ⟨cp0, cp1⟩ := hcp
    obtain ⟨ap0, ap1⟩ := hap
    have p0 : 0 ≤ ap * c14 := Int.mul_nonneg ap0 (by omega)
    have p1 : ap * c14 ≤ 9 * 256 := Int.mul_le_mul ap1 cl1 (by omega) (by omega)
    have w1' : IntKind.i64.wrap (4 * c14) = 4 * c14 := IntWalk.i64_in _ (by omega)
    have w2' : IntKind.i64.wrap (3 * cp) = 3 * cp := IntWalk.i64_in _ (by omega)
    have w3' : IntKind.i64.wrap (4 * c14 + 3 * cp) = 4 * c14 + 3 * cp := IntWalk.i64_in _ (by omega)
    have w4' : IntKind.i64.wrap (3 * (n1 : Int)) = 3 * (n1 : Int) := IntWalk.i64_in _ (by omega)
    have w5' : IntKind.i64.wrap (4 * c14 + 3 * cp + 3 * (n1 : Int)) = 4 * c14 + 3 * cp + 3 * (n1 : Int) := IntWalk.i64_in _ (by omega)
    have w6' : IntKind.i64.wrap (ap * c14) = ap * c14 := IntWalk.i64_in _ (by omega)
    have w7' : IntKind.i64.wrap (4 * c14 + 3 * cp + 3 * (n1 : Int) + ap * c14) = 4 * c14 + 3 * cp + 3 * (n1 : Int) + ap * c14 := IntWalk.i64_in _ (by omega)
    go_enter Tryz.func8, Tryz.ntmps8
    go_upto_region 1 with fail
    have T0 := hide (Bl.one w #[.slice a1 n1 k1, .slice a2 n2 k2, .int .i64 c0, .int .i64 c1, .int .i64 c2, .int .i64 c3, .string pa, .int .i64 c4, .int .i64 c5, .int .i64 c6, .int .i64 c7, .int .i64 c8, .int .i64 c9, .int .i64 c10, .int .i64 c11, .int .i64 c12, .int .i64 c13, .int .i64 c14] 25)
    generalize (w.alloc (.cells #[.slice a1 n1 k1, .slice a2 n2 k2, .int .i64 c0, .int .i64 c1, .int .i64 c2, .int .i64 c3, .string pa, .int .i64 c4, .int .i64 c5, .int .i64 c6, .int .i64 c7, .int .i64 c8, .int .i64 c9, .int .i64 c10, .int .i64 c11, .int .i64 c12, .int .i64 c13, .int .i64 c14] 25)) = x at T0 ⊢
    have HRA : Hid (x.rangeAt w.heap.size 0 ([.slice a1 n1 k1, .slice a2 n2 k2, .int .i64 c0, .int .i64 c1, .int .i64 c2, .int .i64 c3, .string pa, .int .i64 c4, .int .i64 c5, .int .i64 c6, .int .i64 c7, .int .i64 c8, .int .i64 c9, .int .i64 c10, .int .i64 c11, .int .i64 c12, .int .i64 c13, .int .i64 c14] : List Value)) := hide (by
      intro j v hv
      rw [Nat.zero_add]
      exact (T0.out.cell 0 rfl j).trans (by rw [List.getElem?_toArray]; exact hv))
    refine wp_region_lit ?_
    refine wpList_load_mid rfl 25 _ rfl w.heap.size 0 rfl ([.slice a1 n1 k1, .slice a2 n2 k2, .int .i64 c0, .int .i64 c1, .int .i64 c2, .int .i64 c3, .string pa, .int .i64 c4, .int .i64 c5, .int .i64 c6, .int .i64 c7, .int .i64 c8, .int .i64 c9, .int .i64 c10, .int .i64 c11, .int .i64 c12, .int .i64 c13, .int .i64 c14] : List Value) _ HRA.out Tryz.underlying25 rfl (by kernel_rfl) ?_
    simp only [Act.put, List.setIfInBounds_toArray, List.set_cons_zero, List.set_cons_succ]
    clear HRA
    go_wp2_with fail
    refine (HC.out _ T0.out.b).mono ?_
    rintro e w1 ⟨rfl, bb⟩
    have T1 := hide (T0.out.below bb)
    clear bb T0 HC
    have c0' : w1.cell? ⟨w.heap.size, 0, none⟩ = some (.slice a1 n1 k1) := T1.out.cell 0 rfl 0
    have c1' : w1.cell? ⟨w.heap.size, 1, none⟩ = some (.slice a2 n2 k2) := T1.out.cell 0 rfl 1
    have c11' : w1.cell? ⟨w.heap.size, 11, none⟩ = some (.int .i64 c8) := T1.out.cell 0 rfl 11
    have c12' : w1.cell? ⟨w.heap.size, 12, none⟩ = some (.int .i64 c9) := T1.out.cell 0 rfl 12
    have c13' : w1.cell? ⟨w.heap.size, 13, none⟩ = some (.int .i64 c10) := T1.out.cell 0 rfl 13
    have c17' : w1.cell? ⟨w.heap.size, 17, none⟩ = some (.int .i64 c14) := T1.out.cell 0 rfl 17
    have HCW := hide T1.out.b
    go_upto_region 4 with fail
    refine wp_region_cl (by kernel_rfl) (by kernel_rfl) ?_
    refine cl_val (v := ?_) rfl (fun W hW => ?_) ?_
    rotate_left
    · unfold Oper.quietAt; go_simp; try with_reducible rfl
    simp only [Act.put, List.setIfInBounds_toArray, List.set_cons_zero, List.set_cons_succ]
    refine cl_val (v := ?_) rfl (fun W hW => ?_) ?_
    rotate_left
    · have l0 := hW.cell c17'; unfold Oper.quietAt; go_simp; try with_reducible rfl
    simp only [Act.put, List.setIfInBounds_toArray, List.set_cons_zero, List.set_cons_succ]
    refine cl_val (v := ?_) rfl (fun W hW => ?_) ?_
    rotate_left
    · unfold Oper.quietAt; go_simp; try with_reducible rfl
    simp only [Act.put, List.setIfInBounds_toArray, List.set_cons_zero, List.set_cons_succ]
    refine cl_val (v := ?_) rfl (fun W hW => ?_) ?_
    rotate_left
    · unfold Oper.quietAt; go_simp; try with_reducible rfl
    simp only [Act.put, List.setIfInBounds_toArray, List.set_cons_zero, List.set_cons_succ]
    refine cl_val (v := ?_) rfl (fun W hW => ?_) ?_
    rotate_left
    · have l0 := hW.cell c0'; unfold Oper.quietAt; go_simp; try with_reducible rfl
    simp only [Act.put, List.setIfInBounds_toArray, List.set_cons_zero, List.set_cons_succ]
    refine cl_val (v := .int .i64 cp) rfl (fun W hW => ?_) ?_
    · unfold Oper.quietAt; go_simp; exact call_cl hW (HH2.out _ (HCW.out.trans (hW.out.mono HCW.out.size)))
    simp only [Act.put, List.setIfInBounds_toArray, List.set_cons_zero, List.set_cons_succ]
    refine cl_val (v := ?_) rfl (fun W hW => ?_) ?_
    rotate_left
    · unfold Oper.quietAt; go_simp; try with_reducible rfl
    simp only [Act.put, List.setIfInBounds_toArray, List.set_cons_zero, List.set_cons_succ]
    refine cl_val (v := ?_) rfl (fun W hW => ?_) ?_
    rotate_left
    · unfold Oper.quietAt; go_simp; try with_reducible rfl
    simp only [Act.put, List.setIfInBounds_toArray, List.set_cons_zero, List.set_cons_succ]
    refine cl_val (v := ?_) rfl (fun W hW => ?_) ?_
    rotate_left
    · unfold Oper.quietAt; go_simp; try with_reducible rfl
    simp only [Act.put, List.setIfInBounds_toArray, List.set_cons_zero, List.set_cons_succ]
    refine cl_val (v := ?_) rfl (fun W hW => ?_) ?_
    rotate_left
    · have l0 := hW.cell c0'; unfold Oper.quietAt; go_simp; try with_reducible rfl
    simp only [Act.put, List.setIfInBounds_toArray, List.set_cons_zero, List.set_cons_succ]
    refine cl_val (v := ?_) rfl (fun W hW => ?_) ?_
    rotate_left
    · unfold Oper.quietAt; go_simp; try with_reducible rfl
    simp only [Act.put, List.setIfInBounds_toArray, List.set_cons_zero, List.set_cons_succ]
    refine cl_val (v := ?_) rfl (fun W hW => ?_) ?_
    rotate_left
    · unfold Oper.quietAt; go_simp; try with_reducible rfl
    simp only [Act.put, List.setIfInBounds_toArray, List.set_cons_zero, List.set_cons_succ]
    refine cl_val (v := ?_) rfl (fun W hW => ?_) ?_
    rotate_left
    · unfold Oper.quietAt; go_simp; try with_reducible rfl
    simp only [Act.put, List.setIfInBounds_toArray, List.set_cons_zero, List.set_cons_succ]
    refine cl_val (v := ?_) rfl (fun W hW => ?_) ?_
    rotate_left
    · unfold Oper.quietAt; go_simp; try with_reducible rfl
    simp only [Act.put, List.setIfInBounds_toArray, List.set_cons_zero, List.set_cons_succ]
    refine cl_val (v := ?_) rfl (fun W hW => ?_) ?_
    rotate_left
    · have l0 := hW.cell c1'; unfold Oper.quietAt; go_simp; try with_reducible rfl
    simp only [Act.put, List.setIfInBounds_toArray, List.set_cons_zero, List.set_cons_succ]
    refine cl_val (v := .int .i64 ap) rfl (fun W hW => ?_) ?_
    · unfold Oper.quietAt; go_simp; exact call_cl hW (HA2.out _ (HCW.out.trans (hW.out.mono HCW.out.size)))
    simp only [Act.put, List.setIfInBounds_toArray, List.set_cons_zero, List.set_cons_succ]
    refine cl_val (v := ?_) rfl (fun W hW => ?_) ?_
    rotate_left
    · unfold Oper.quietAt; go_simp; try with_reducible rfl
    simp only [Act.put, List.setIfInBounds_toArray, List.set_cons_zero, List.set_cons_succ]
    refine cl_val (v := ?_) rfl (fun W hW => ?_) ?_
    rotate_left
    · have l0 := hW.cell c17'; unfold Oper.quietAt; go_simp; try with_reducible rfl
    simp only [Act.put, List.setIfInBounds_toArray, List.set_cons_zero, List.set_cons_succ]
    refine cl_val (v := ?_) rfl (fun W hW => ?_) ?_
    rotate_left
    · unfold Oper.quietAt; go_simp; try with_reducible rfl
    simp only [Act.put, List.setIfInBounds_toArray, List.set_cons_zero, List.set_cons_succ]
    refine cl_val (v := ?_) rfl (fun W hW => ?_) ?_
    rotate_left
    · unfold Oper.quietAt; go_simp; try with_reducible rfl
    simp only [Act.put, List.setIfInBounds_toArray, List.set_cons_zero, List.set_cons_succ]
    refine cl_assign _ rfl rfl ?_
    simp only [Act.put, List.setIfInBounds_toArray, List.set_cons_zero, List.set_cons_succ]
    refine cl_assign _ rfl rfl ?_
    simp only [Act.put, List.setIfInBounds_toArray, List.set_cons_zero, List.set_cons_succ]
    refine wpQuiet_nil ?_
    intro z Hz
    have HZ : Hid (Below w.heap.size w z) := hide (T1.out.b.trans (Hz.out.mono T1.out.b.size))
    go_wp2_with fail
    go_ret2
    exact ⟨rfl, HZ.out⟩
set_option maxHeartbeats 4000000 in
set_option maxRecDepth 100000 in
theorem buffered_any (w : World) (a1 a2 : Option Addr) (k1 k2 : Nat) (C : Cfg) (h : InC w a1 a2 k1 k2 C) :
    Calls Tryz.prog 9 #[cfgV a1 a2 k1 k2 C] w fun e w' => e = .returned (.tuple #[.int .i64 (if cfgB C then C.c14 * (2 * C.c8 + C.c9 + C.c10 + 8192) + capsI C.H * (C.c8 + C.c9 + 8192) else 0), .int .i64 (cfgE C)]) ∧ Below w.heap.size w w' := by
  have H0 := hide h
  have HC := hide (fun W b => check_any W a1 a2 k1 k2 C (h.below (w' := W) b))
  have HW := hide (fun (x : cfgB C = true) => Wt.of x)
  clear h
  unfold cfgE at HC ⊢
  obtain ⟨bb9, Hbb⟩ : ∃ b, Hid (cfgB C = b) := ⟨_, hide rfl⟩
  rw [Hbb.out] at HC HW ⊢
  unfold cfgV at HC ⊢
  obtain ⟨H, R, pa, c0, c1, c2, c3, c4, c5, c6, c7, c8, c9, c10, c11, c12, c13, c14⟩ := C
  simp only at HC ⊢
  have HH := hide (fun W b (hl : H.length ≤ 16) (hc : ∀ x ∈ H, 1 ≤ x.ca ∧ x.ca ≤ 64) => caps_any W _ H (H0.out.below (w' := W) b).h hl (fun x hx => by have := hc x hx; omega))
  have HA := hide (fun W b (hl : R.length ≤ 16) (hc : ∀ x ∈ R, (0 ≤ x.r10 ∧ x.r10 ≤ 5) ∧ (0 ≤ x.r11 ∧ x.r11 ≤ 3)) => att_any W _ R (H0.out.below (w' := W) b).r hl hc)
  simp only at HH HA
  obtain ⟨n1, Hn1⟩ : ∃ n1, Hid (H.length = n1) := ⟨_, hide rfl⟩
  obtain ⟨n2, Hn2⟩ : ∃ n2, Hid (R.length = n2) := ⟨_, hide rfl⟩
  rw [Hn1.out, Hn2.out] at HC
  rw [Hn1.out] at HH ⊢
  rw [Hn2.out] at HA ⊢
  cases bb9 with
  | false =>
    simp only [Bool.false_eq_true, if_false] at HC ⊢
    go_enter Tryz.func9, Tryz.ntmps9
    go_upto_region 1 with fail
    have T0 := hide (Bl.one w #[.slice a1 n1 k1, .slice a2 n2 k2, .int .i64 c0, .int .i64 c1, .int .i64 c2, .int .i64 c3, .string pa, .int .i64 c4, .int .i64 c5, .int .i64 c6, .int .i64 c7, .int .i64 c8, .int .i64 c9, .int .i64 c10, .int .i64 c11, .int .i64 c12, .int .i64 c13, .int .i64 c14] 25)
    generalize (w.alloc (.cells #[.slice a1 n1 k1, .slice a2 n2 k2, .int .i64 c0, .int .i64 c1, .int .i64 c2, .int .i64 c3, .string pa, .int .i64 c4, .int .i64 c5, .int .i64 c6, .int .i64 c7, .int .i64 c8, .int .i64 c9, .int .i64 c10, .int .i64 c11, .int .i64 c12, .int .i64 c13, .int .i64 c14] 25)) = x at T0 ⊢
    have HRA : Hid (x.rangeAt w.heap.size 0 ([.slice a1 n1 k1, .slice a2 n2 k2, .int .i64 c0, .int .i64 c1, .int .i64 c2, .int .i64 c3, .string pa, .int .i64 c4, .int .i64 c5, .int .i64 c6, .int .i64 c7, .int .i64 c8, .int .i64 c9, .int .i64 c10, .int .i64 c11, .int .i64 c12, .int .i64 c13, .int .i64 c14] : List Value)) := hide (by
      intro j v hv
      rw [Nat.zero_add]
      exact (T0.out.cell 0 rfl j).trans (by rw [List.getElem?_toArray]; exact hv))
    refine wp_region_lit ?_
    refine wpList_load_mid rfl 25 _ rfl w.heap.size 0 rfl ([.slice a1 n1 k1, .slice a2 n2 k2, .int .i64 c0, .int .i64 c1, .int .i64 c2, .int .i64 c3, .string pa, .int .i64 c4, .int .i64 c5, .int .i64 c6, .int .i64 c7, .int .i64 c8, .int .i64 c9, .int .i64 c10, .int .i64 c11, .int .i64 c12, .int .i64 c13, .int .i64 c14] : List Value) _ HRA.out Tryz.underlying25 rfl (by kernel_rfl) ?_
    simp only [Act.put, List.setIfInBounds_toArray, List.set_cons_zero, List.set_cons_succ]
    clear HRA
    go_wp2_with fail
    refine (HC.out _ T0.out.b).mono ?_
    rintro e w1 ⟨rfl, bb⟩
    have T1 := hide (T0.out.below bb)
    clear bb T0 HC
    go_wp2_with fail
    go_ret2
    exact ⟨rfl, T1.out.b⟩
  | true =>
    simp only [if_true] at HC ⊢
    obtain ⟨h0, h1, q0, q1, hca, hat, hmh, hmb, hmo, hcl⟩ := HW.out rfl
    simp only at h0 h1 q0 q1 hca hat hmh hmb hmo hcl
    have hcp := capsI_le H h1 (fun x hx => by have := hca x hx; omega) H.length (Nat.le_refl _)
    have hap := attI_le R hat R.length (Nat.le_refl _)
    rw [List.take_length] at hcp hap
    rw [Hn1.out] at h0 h1 hcp
    rw [Hn2.out] at q1
    have HH2 := hide (fun W b => HH.out W b h1 hca)
    have HA2 := hide (fun W b => HA.out W b q1 hat)
    clear HH HA hca hat HW Hbb q0 q1
    generalize capsI H = cp at *
    generalize attI R = ap at *
    obtain ⟨mh0, mh1⟩ := hmh
    obtain ⟨mb0, mb1⟩ := hmb
    obtain ⟨mo0, mo1⟩ := hmo
    obtain ⟨cl0, cl1⟩ := hcl
    obtain ⟨cp0, cp1⟩ := hcp
    obtain ⟨ap0, ap1⟩ := hap
    have p0 : 0 ≤ c14 * (2 * c8 + c9 + c10 + 8192) := Int.mul_nonneg (by omega) (by omega)
    have p1 : c14 * (2 * c8 + c9 + c10 + 8192) ≤ 256 * 3000000 := Int.mul_le_mul cl1 (by omega) (by omega) (by omega)
    have p2 : 0 ≤ cp * (c8 + c9 + 8192) := Int.mul_nonneg cp0 (by omega)
    have p3 : cp * (c8 + c9 + 8192) ≤ 1024 * 3000000 := Int.mul_le_mul (by omega) (by omega) (by omega) (by omega)
    have w1' : IntKind.i64.wrap (c14 * (2 * c8 + c9 + c10 + 8192)) = c14 * (2 * c8 + c9 + c10 + 8192) := IntWalk.i64_in _ (by omega)
    have w2' : IntKind.i64.wrap (cp * (c8 + c9 + 8192)) = cp * (c8 + c9 + 8192) := IntWalk.i64_in _ (by omega)
    have w3' : IntKind.i64.wrap (c14 * (2 * c8 + c9 + c10 + 8192) + cp * (c8 + c9 + 8192)) = c14 * (2 * c8 + c9 + c10 + 8192) + cp * (c8 + c9 + 8192) := IntWalk.i64_in _ (by omega)
    go_enter Tryz.func9, Tryz.ntmps9
    go_upto_region 1 with fail
    have T0 := hide (Bl.one w #[.slice a1 n1 k1, .slice a2 n2 k2, .int .i64 c0, .int .i64 c1, .int .i64 c2, .int .i64 c3, .string pa, .int .i64 c4, .int .i64 c5, .int .i64 c6, .int .i64 c7, .int .i64 c8, .int .i64 c9, .int .i64 c10, .int .i64 c11, .int .i64 c12, .int .i64 c13, .int .i64 c14] 25)
    generalize (w.alloc (.cells #[.slice a1 n1 k1, .slice a2 n2 k2, .int .i64 c0, .int .i64 c1, .int .i64 c2, .int .i64 c3, .string pa, .int .i64 c4, .int .i64 c5, .int .i64 c6, .int .i64 c7, .int .i64 c8, .int .i64 c9, .int .i64 c10, .int .i64 c11, .int .i64 c12, .int .i64 c13, .int .i64 c14] 25)) = x at T0 ⊢
    have HRA : Hid (x.rangeAt w.heap.size 0 ([.slice a1 n1 k1, .slice a2 n2 k2, .int .i64 c0, .int .i64 c1, .int .i64 c2, .int .i64 c3, .string pa, .int .i64 c4, .int .i64 c5, .int .i64 c6, .int .i64 c7, .int .i64 c8, .int .i64 c9, .int .i64 c10, .int .i64 c11, .int .i64 c12, .int .i64 c13, .int .i64 c14] : List Value)) := hide (by
      intro j v hv
      rw [Nat.zero_add]
      exact (T0.out.cell 0 rfl j).trans (by rw [List.getElem?_toArray]; exact hv))
    refine wp_region_lit ?_
    refine wpList_load_mid rfl 25 _ rfl w.heap.size 0 rfl ([.slice a1 n1 k1, .slice a2 n2 k2, .int .i64 c0, .int .i64 c1, .int .i64 c2, .int .i64 c3, .string pa, .int .i64 c4, .int .i64 c5, .int .i64 c6, .int .i64 c7, .int .i64 c8, .int .i64 c9, .int .i64 c10, .int .i64 c11, .int .i64 c12, .int .i64 c13, .int .i64 c14] : List Value) _ HRA.out Tryz.underlying25 rfl (by kernel_rfl) ?_
    simp only [Act.put, List.setIfInBounds_toArray, List.set_cons_zero, List.set_cons_succ]
    clear HRA
    go_wp2_with fail
    refine (HC.out _ T0.out.b).mono ?_
    rintro e w1 ⟨rfl, bb⟩
    have T1 := hide (T0.out.below bb)
    clear bb T0 HC
    have c0' : w1.cell? ⟨w.heap.size, 0, none⟩ = some (.slice a1 n1 k1) := T1.out.cell 0 rfl 0
    have c1' : w1.cell? ⟨w.heap.size, 1, none⟩ = some (.slice a2 n2 k2) := T1.out.cell 0 rfl 1
    have c11' : w1.cell? ⟨w.heap.size, 11, none⟩ = some (.int .i64 c8) := T1.out.cell 0 rfl 11
    have c12' : w1.cell? ⟨w.heap.size, 12, none⟩ = some (.int .i64 c9) := T1.out.cell 0 rfl 12
    have c13' : w1.cell? ⟨w.heap.size, 13, none⟩ = some (.int .i64 c10) := T1.out.cell 0 rfl 13
    have c17' : w1.cell? ⟨w.heap.size, 17, none⟩ = some (.int .i64 c14) := T1.out.cell 0 rfl 17
    have HCW := hide T1.out.b
    go_upto_region 6 with fail
    refine wp_region_cl (by kernel_rfl) (by kernel_rfl) ?_
    refine cl_val (v := ?_) rfl (fun W hW => ?_) ?_
    rotate_left
    · unfold Oper.quietAt; go_simp; try with_reducible rfl
    simp only [Act.put, List.setIfInBounds_toArray, List.set_cons_zero, List.set_cons_succ]
    refine cl_val (v := ?_) rfl (fun W hW => ?_) ?_
    rotate_left
    · have l0 := hW.cell c17'; unfold Oper.quietAt; go_simp; try with_reducible rfl
    simp only [Act.put, List.setIfInBounds_toArray, List.set_cons_zero, List.set_cons_succ]
    refine cl_move _ rfl rfl ?_
    simp only [Act.put, List.setIfInBounds_toArray, List.set_cons_zero, List.set_cons_succ]
    refine cl_val (v := ?_) rfl (fun W hW => ?_) ?_
    rotate_left
    · unfold Oper.quietAt; go_simp; try with_reducible rfl
    simp only [Act.put, List.setIfInBounds_toArray, List.set_cons_zero, List.set_cons_succ]
    refine cl_val (v := ?_) rfl (fun W hW => ?_) ?_
    rotate_left
    · unfold Oper.quietAt; go_simp; try with_reducible rfl
    simp only [Act.put, List.setIfInBounds_toArray, List.set_cons_zero, List.set_cons_succ]
    refine cl_val (v := ?_) rfl (fun W hW => ?_) ?_
    rotate_left
    · have l0 := hW.cell c0'; unfold Oper.quietAt; go_simp; try with_reducible rfl
    simp only [Act.put, List.setIfInBounds_toArray, List.set_cons_zero, List.set_cons_succ]
    refine cl_val (v := .int .i64 cp) rfl (fun W hW => ?_) ?_
    · unfold Oper.quietAt; go_simp; exact call_cl hW (HH2.out _ (HCW.out.trans (hW.out.mono HCW.out.size)))
    simp only [Act.put, List.setIfInBounds_toArray, List.set_cons_zero, List.set_cons_succ]
    refine cl_move _ rfl rfl ?_
    simp only [Act.put, List.setIfInBounds_toArray, List.set_cons_zero, List.set_cons_succ]
    refine cl_val (v := ?_) rfl (fun W hW => ?_) ?_
    rotate_left
    · unfold Oper.quietAt; go_simp; try with_reducible rfl
    simp only [Act.put, List.setIfInBounds_toArray, List.set_cons_zero, List.set_cons_succ]
    refine cl_val (v := ?_) rfl (fun W hW => ?_) ?_
    rotate_left
    · unfold Oper.quietAt; go_simp; try with_reducible rfl
    simp only [Act.put, List.setIfInBounds_toArray, List.set_cons_zero, List.set_cons_succ]
    refine cl_assign _ rfl rfl ?_
    simp only [Act.put, List.setIfInBounds_toArray, List.set_cons_zero, List.set_cons_succ]
    refine cl_assign _ rfl rfl ?_
    simp only [Act.put, List.setIfInBounds_toArray, List.set_cons_zero, List.set_cons_succ]
    refine wpQuiet_nil ?_
    intro z Hz
    have HZ : Hid (Below w.heap.size w z) := hide (T1.out.b.trans (Hz.out.mono T1.out.b.size))
    go_wp2_with fail
    go_ret2
    exact ⟨rfl, HZ.out⟩
end Go.Proofs.YtekkhjlipijmcaaGreatDoor
/- A little configuration. -/
namespace Go.Proofs.YtekkhjlipijmcaaGreatDoor
open Go.ChangeShapes Go.WideShapes Go.ChangeAt Go.RowKit
set_option linter.unusedVariables false

def rtL (p : Int) : Rt := ⟨⟨#[]⟩, ⟨#[47]⟩, [], ⟨#[]⟩, ⟨#[]⟩, [0], 1, p, 1, 1, 0, 1, 1, 0, 0, 1, 0, 0, 1, 1, 1⟩
def cfgL (p : Int) : Cfg := ⟨[⟨⟨#[97]⟩, 1, 0⟩], [rtL p], ⟨#[]⟩, 0, 1, 1, 1, 0, 1, 1, 0, 16, 0, 1, 1, 1, 1, 1⟩
theorem cfgL_yes : cfgB (cfgL 1) = true := by decide +kernel
theorem cfgL_no : cfgB (cfgL 0) = false := by decide +kernel
abbrev rtA (q : Nat) (p : Int) : Array Value := #[.string ⟨#[]⟩, .string ⟨#[47]⟩, .slice none 0 0, .string ⟨#[]⟩, .string ⟨#[]⟩, .slice (some ⟨q, 0, none⟩) 1 1, .int .i64 1, .int .i64 p, .int .i64 1, .int .i64 1, .int .i64 0, .int .i64 1, .int .i64 1, .int .i64 0, .int .i64 0, .int .i64 1, .int .i64 0, .int .i64 0, .int .i64 1, .int .i64 1, .int .i64 1]
abbrev cfA (h r : Nat) : Array Value := #[.slice (some ⟨h, 0, none⟩) 1 1, .slice (some ⟨r, 0, none⟩) 1 1, .int .i64 0, .int .i64 1, .int .i64 1, .int .i64 1, .string ⟨#[]⟩, .int .i64 0, .int .i64 1, .int .i64 1, .int .i64 0, .int .i64 16, .int .i64 0, .int .i64 1, .int .i64 1, .int .i64 1, .int .i64 1, .int .i64 1]
theorem keepA {W : World} {o x : Obj} {b : Nat} (h : W.heap[b]? = some x) : (W.alloc o).heap[b]? = some x := (Below.heap_alloc W o b (blk_lt h)).trans h
set_option maxHeartbeats 4000000 in
set_option maxRecDepth 100000 in
theorem little_any (w : World) : Calls Tryz.prog 20 #[] w fun e w' => ∃ h q r, e = .returned (.agg (cfA h r)) ∧ Below w.heap.size w w' ∧ (w.heap.size ≤ h ∧ w.heap.size ≤ q ∧ w.heap.size ≤ r) ∧ (h ≠ r ∧ q ≠ r) ∧ w'.heap[h]? = some (.cells #[.string ⟨#[97]⟩, .int .i64 1, .int .i64 0] 43 (0, 0)) ∧ w'.heap[q]? = some (.cells #[.int .i64 0] 3 (0, 0)) ∧ w'.heap[r]? = some (.cells (rtA q 1) 40 (0, 0)) := by
  go_enter Tryz.func20, Tryz.ntmps20
  go_upto_region 1 with fail
  have B0 := hide ((Below.refl w.heap.size w).alloc (Nat.le_refl _) (.cells #[.slice none 0 0, .slice none 0 0, .int .i64 0, .int .i64 0, .int .i64 0, .int .i64 0, .string ⟨#[]⟩, .int .i64 0, .int .i64 0, .int .i64 0, .int .i64 0, .int .i64 0, .int .i64 0, .int .i64 0, .int .i64 0, .int .i64 0, .int .i64 0, .int .i64 0] 25))
  have FA := hide (hp_new w (.cells #[.slice none 0 0, .slice none 0 0, .int .i64 0, .int .i64 0, .int .i64 0, .int .i64 0, .string ⟨#[]⟩, .int .i64 0, .int .i64 0, .int .i64 0, .int .i64 0, .int .i64 0, .int .i64 0, .int .i64 0, .int .i64 0, .int .i64 0, .int .i64 0, .int .i64 0] 25))
  generalize hW0 : w.alloc (.cells #[.slice none 0 0, .slice none 0 0, .int .i64 0, .int .i64 0, .int .i64 0, .int .i64 0, .string ⟨#[]⟩, .int .i64 0, .int .i64 0, .int .i64 0, .int .i64 0, .int .i64 0, .int .i64 0, .int .i64 0, .int .i64 0, .int .i64 0, .int .i64 0, .int .i64 0] 25) = W0 at B0 FA ⊢
  clear hW0
  generalize ha : w.heap.size = a at *
  refine wp_region_lit ?_
  refine wpList_plain rfl fun K hK => ?_
  go_simp
  refine hK _ _ ?_
  clear hK K
  refine wpList_plain rfl fun K hK => ?_
  go_simp
  refine hK _ _ ?_
  clear hK K
  have Lq : Hid (a < W0.heap.size) := hide (blk_lt FA.out)
  have B1 := hide (B0.out.alloc (by have := Lq.out; omega) (.cells #[.int .i64 0] 3))
  have FQ := hide (hp_new W0 (.cells #[.int .i64 0] 3))
  have FA := hide (keepA (o := .cells #[.int .i64 0] 3) FA.out)
  generalize hW1 : W0.alloc (.cells #[.int .i64 0] 3) = W1 at B1 FA FQ ⊢
  clear hW1 B0
  generalize W0.heap.size = q at *
  refine wpList_plain rfl fun K hK => ?_
  go_simp
  refine hK _ _ ?_
  clear hK K
  refine wpList_plain rfl fun K hK => ?_
  go_simp
  refine hK _ _ ?_
  clear hK K
  refine wpList_store_new rfl 40 _ _ rfl _ (rtA q 1) rfl rfl (by kernel_rfl) rfl (by simp [Value.oneCell']) ?_
  simp only [Act.put]
  refine wpList_nil ?_
  have Lr : Hid (q < W1.heap.size) := hide (blk_lt FQ.out)
  have B2 := hide (B1.out.alloc (by have := Lq.out; have := Lr.out; omega) (.cells (rtA q 1) 40))
  have FA := hide (keepA (o := .cells (rtA q 1) 40) FA.out)
  have FQ := hide (keepA (o := .cells (rtA q 1) 40) FQ.out)
  have FR := hide (hp_new W1 (.cells (rtA q 1) 40))
  generalize hW2 : W1.alloc (.cells (rtA q 1) 40) = W2 at B2 FA FQ FR ⊢
  clear hW2 B1
  generalize W1.heap.size = r0 at *
  go_upto_region 2 with fail
  refine wp_region_lit ?_
  refine wpList_plain rfl fun K hK => ?_
  go_simp
  refine hK _ _ ?_
  clear hK K
  refine wpList_plain rfl fun K hK => ?_
  go_simp
  refine hK _ _ ?_
  clear hK K
  have Lh : Hid (r0 < W2.heap.size) := hide (blk_lt FR.out)
  have B3 := hide (B2.out.alloc (by have := Lq.out; have := Lr.out; have := Lh.out; omega) (.cells #[.string ⟨#[97]⟩, .int .i64 1, .int .i64 0] 43))
  have FA := hide (keepA (o := .cells #[.string ⟨#[97]⟩, .int .i64 1, .int .i64 0] 43) FA.out)
  have FQ := hide (keepA (o := .cells #[.string ⟨#[97]⟩, .int .i64 1, .int .i64 0] 43) FQ.out)
  have FR := hide (keepA (o := .cells #[.string ⟨#[97]⟩, .int .i64 1, .int .i64 0] 43) FR.out)
  have FH := hide (hp_new W2 (.cells #[.string ⟨#[97]⟩, .int .i64 1, .int .i64 0] 43))
  generalize hW3 : W2.alloc (.cells #[.string ⟨#[97]⟩, .int .i64 1, .int .i64 0] 43) = W3 at B3 FA FQ FR FH ⊢
  clear hW3 B2
  generalize W2.heap.size = h at *
  have HRA : Hid (W3.rangeAt r0 0 (rtA q 1).toList) := hide (by
    intro j v hv
    rw [Nat.zero_add, cell_at FR.out]
    simpa using hv)
  refine wpList_load_mid rfl 40 _ rfl r0 0 rfl (rtA q 1).toList _ HRA.out Tryz.underlying40 rfl (by kernel_rfl) ?_
  simp only [Act.put, List.setIfInBounds_toArray, List.set_cons_zero, List.set_cons_succ]
  clear HRA
  refine wpList_plain rfl fun K hK => ?_
  go_simp
  refine hK _ _ ?_
  clear hK K
  have Ls : Hid (h < W3.heap.size) := hide (blk_lt FH.out)
  have B4 := hide (B3.out.alloc (by have := Lq.out; have := Lr.out; have := Lh.out; have := Ls.out; omega) (.cells (rtA q 1) 40))
  have FA := hide (keepA (o := .cells (rtA q 1) 40) FA.out)
  have FQ := hide (keepA (o := .cells (rtA q 1) 40) FQ.out)
  have FH := hide (keepA (o := .cells (rtA q 1) 40) FH.out)
  have FS := hide (hp_new W3 (.cells (rtA q 1) 40))
  generalize hW4 : W3.alloc (.cells (rtA q 1) 40) = W4 at B4 FA FQ FH FS ⊢
  clear hW4 B3 FR
  generalize W3.heap.size = r at *
  refine wpList_plain rfl fun K hK => ?_
  go_simp
  refine hK _ _ ?_
  clear hK K
  refine wpList_plain rfl fun K hK => ?_
  refine wp_store_row 25 _ _ rfl a (cfA h r) rfl rfl 25 _ FA.out (by kernel_rfl) rfl (by simp [Value.oneCell']) (hK _ _ ?_)
  clear hK K
  simp only [Act.put]
  refine wpList_nil ?_
  have Lz : Hid (r < W4.heap.size) := hide (blk_lt FS.out)
  have B5 : Hid (Below a w (W4.setRow a (cfA h r))) := hide ⟨B4.out.os, B4.out.tape, B4.out.output, by rw [show (W4.setRow a (cfA h r)).heap.size = W4.heap.size by simp [World.setRow]]; exact B4.out.size, fun k hk => by rw [setRow_other _ _ _ _ (by omega)]; exact B4.out.block k hk⟩
  have FA := hide (setRow_heap W4 a _ (cfA h r) 25 (0, 0) FA.out)
  have FQ := hide ((setRow_other W4 a q (cfA h r) (by have := Lq.out; omega)).trans FQ.out)
  have FH := hide ((setRow_other W4 a h (cfA h r) (by have := Lq.out; have := Lr.out; have := Lh.out; omega)).trans FH.out)
  have FS := hide ((setRow_other W4 a r (cfA h r) (by have := Lq.out; have := Lr.out; have := Lh.out; have := Ls.out; omega)).trans FS.out)
  generalize W4.setRow a (cfA h r) = W5 at *
  go_wp2_with fail
  have hld := run_loadVar_row (P := Tryz.prog) W5 a 25 25 (cfA h r) (0, 0) _ FA.out Tryz.underlying25 rfl (by kernel_rfl)
  refine bodyPost_ret (v := .agg (cfA h r)) ?_ rfl ⟨h, q, r, rfl, by rw [ha]; exact B5.out, ?_, ?_, FH.out, FQ.out, FS.out⟩
  · clear FA FQ FH FS B5
    simp [results, asAddr, hld]
  · have := Lq.out; have := Lr.out; have := Lh.out; have := Ls.out; omega
  · have := Lq.out; have := Lr.out; have := Lh.out; have := Ls.out; omega
end Go.Proofs.YtekkhjlipijmcaaGreatDoor
/- What a little configuration says. -/
namespace Go.Proofs.YtekkhjlipijmcaaGreatDoor
open Go.ChangeShapes Go.WideShapes Go.ChangeAt Go.RowKit
set_option linter.unusedVariables false

/-- The tables of ranges, and the longest text. -/
structure Tbl (w : World) : Prop where
  g0 : RG w 0 hostFits_anyL
  g1 : RG w 1 routeFits_anyL
  g2 : RG w 2 restFits_anyL
  mx : MX w
theorem Tbl.below {w w' : World} (h : Tbl w) (b : Below w.heap.size w w') : Tbl w' := ⟨h.g0.below b, h.g1.below b, h.g2.below b, h.mx.below b⟩
theorem inL {W : World} {h q r : Nat} {p : Int} (FH : W.heap[h]? = some (.cells #[.string ⟨#[97]⟩, .int .i64 1, .int .i64 0] 43 (0, 0))) (FQ : W.heap[q]? = some (.cells #[.int .i64 0] 3 (0, 0))) (FR : W.heap[r]? = some (.cells (rtA q p) 40 (0, 0))) (t : Tbl W) :
    InC W (some ⟨h, 0, none⟩) (some ⟨r, 0, none⟩) 1 1 (cfgL p) := by
  refine ⟨⟨_, _, rfl, fun j hj => ?_⟩, ⟨_, _, rfl, fun j hj => ?_⟩, fun x hx => ?_, fun x hx => ?_, t.g0, t.g1, t.g2, t.mx⟩
  · obtain rfl : j = 0 := by simp [cfgL] at hj; omega
    exact ⟨h, 0, rfl, blk_lt FH, cell_at FH 0, cell_at FH 1, cell_at FH 2⟩
  · obtain rfl : j = 0 := by simp [cfgL] at hj; omega
    refine ⟨r, 0, .slice none 0 0, .slice (some ⟨q, 0, none⟩) 1 1, rfl, blk_lt FR, ⟨none, 0, rfl, fun i hi => absurd hi (by simp [cfgL, rtL])⟩, ⟨some ⟨q, 0, none⟩, 1, rfl, fun i hi => ?_⟩, ?_, cell_at FR 0, cell_at FR 1, cell_at FR 2, cell_at FR 3, cell_at FR 4, cell_at FR 5, cell_at FR 6, cell_at FR 7, cell_at FR 8, cell_at FR 9, cell_at FR 10, cell_at FR 11, cell_at FR 12, cell_at FR 13, cell_at FR 14, cell_at FR 15, cell_at FR 16, cell_at FR 17, cell_at FR 18, cell_at FR 19, cell_at FR 20⟩
    · obtain rfl : i = 0 := by simp [cfgL, rtL] at hi; omega
      exact ⟨q, 0, rfl, blk_lt FQ, cell_at FQ 0⟩
    · intro a n c e
      simp only [Value.slice.injEq] at e
      obtain ⟨-, rfl, rfl⟩ := e
      unfold maxLen
      omega
  · simp [cfgL] at hx
    subst hx
    decide
  · simp [cfgL] at hx
    subst hx
    exact ⟨by show (0 : Nat) ≤ 1048576; omega, by show (0 : Nat) ≤ 1048576; omega, by show (0 : Nat) ≤ 1048576; omega, fun y hy => by simp [rtL] at hy⟩
set_option maxHeartbeats 4000000 in
set_option maxRecDepth 100000 in
theorem speaks_any (w : World) (t : Tbl w) : Calls Tryz.prog 12 #[] w fun e w' => e = .returned (.bool true) ∧ Below w.heap.size w w' := by
  have HL := hide (little_any w)
  have HT := hide t
  clear t
  go_enter Tryz.func12, Tryz.ntmps12
  go_wp2_with fail
  refine HL.out.mono ?_
  rintro e w1 ⟨h, q, r, rfl, b1, l1, n1, fh, fq, fr⟩
  have B1 := hide b1
  have HLE := hide l1
  have HNE := hide n1
  have FH := hide fh
  have FQ := hide fq
  have FR := hide fr
  clear b1 l1 n1 HL fh fq fr
  rename_i hKK
  refine hKK _ _ ?_
  clear hKK
  refine wpList_plain rfl fun K hK => ?_
  go_simp
  refine hK _ _ ?_
  clear hK K
  refine wpList_store_new rfl 25 _ _ rfl _ (cfA h r) rfl rfl (by kernel_rfl) rfl (by simp [Value.oneCell']) ?_
  simp only [Act.put]
  refine wpList_nil ?_
  have B2 := hide (B1.out.alloc (by have := B1.out.size; omega) (.cells (cfA h r) 25))
  have FA := hide (hp_new w1 (.cells (cfA h r) 25))
  have FH := hide (keepA (o := .cells (cfA h r) 25) FH.out)
  have FQ := hide (keepA (o := .cells (cfA h r) 25) FQ.out)
  have LR : Hid (r < w1.heap.size) := hide (blk_lt FR.out)
  have FR := hide (keepA (o := .cells (cfA h r) 25) FR.out)
  generalize hW2 : w1.alloc (.cells (cfA h r) 25) = W2 at B2 FA FH FQ FR ⊢
  clear hW2 B1
  generalize w1.heap.size = a at *
  have HC : Hid (Calls Tryz.prog 7 #[.agg (cfA h r)] W2 fun e w' => e = .returned (.tuple #[.int .i64 3, .int .i64 0]) ∧ Below W2.heap.size W2 w') := hide (by
    have := conns_any W2 _ _ _ _ (cfgL 1) (inL FH.out FQ.out FR.out (HT.out.below B2.out))
    rw [show cfgE (cfgL 1) = 0 by unfold cfgE; rw [cfgL_yes]; rfl, cfgL_yes] at this
    exact this)
  have HRA : Hid (W2.rangeAt a 0 (cfA h r).toList) := hide (by
    intro j v hv
    rw [Nat.zero_add, cell_at FA.out]
    simpa using hv)
  go_upto_region 2 with fail
  refine wp_region_lit ?_
  refine wpList_load_mid rfl 25 _ rfl a 0 rfl (cfA h r).toList _ HRA.out Tryz.underlying25 rfl (by kernel_rfl) ?_
  simp only [Act.put, List.setIfInBounds_toArray, List.set_cons_zero, List.set_cons_succ]
  clear HRA
  go_wp2_with fail
  refine HC.out.mono ?_
  rintro e W3 ⟨rfl, bb⟩
  have B3 := hide (B2.out.trans (bb.mono B2.out.size))
  have FA := hide ((bb.block a (blk_lt FA.out)).trans FA.out)
  have FH := hide ((bb.block h (blk_lt FH.out)).trans FH.out)
  have FQ := hide ((bb.block q (blk_lt FQ.out)).trans FQ.out)
  have FR := hide ((bb.block r (blk_lt FR.out)).trans FR.out)
  clear bb B2 HC
  have HC : Hid (Calls Tryz.prog 11 #[.agg (cfA h r)] W3 fun e w' => e = .returned (.int .i64 0) ∧ Below W3.heap.size W3 w') := hide (by
    have := check_any W3 _ _ _ _ (cfgL 1) (inL FH.out FQ.out FR.out (HT.out.below B3.out))
    rw [show cfgE (cfgL 1) = 0 by unfold cfgE; rw [cfgL_yes]; rfl] at this
    exact this)
  have HRA : Hid (W3.rangeAt a 0 (cfA h r).toList) := hide (by
    intro j v hv
    rw [Nat.zero_add, cell_at FA.out]
    simpa using hv)
  go_upto_region 3 with fail
  refine wp_region_lit ?_
  refine wpList_load_mid rfl 25 _ rfl a 0 rfl (cfA h r).toList _ HRA.out Tryz.underlying25 rfl (by kernel_rfl) ?_
  simp only [Act.put, List.setIfInBounds_toArray, List.set_cons_zero, List.set_cons_succ]
  clear HRA
  go_wp2_with fail
  refine HC.out.mono ?_
  rintro e W4 ⟨rfl, bb⟩
  have B4 := hide (B3.out.trans (bb.mono B3.out.size))
  have FA := hide ((bb.block a (blk_lt FA.out)).trans FA.out)
  have FH := hide ((bb.block h (blk_lt FH.out)).trans FH.out)
  have FQ := hide ((bb.block q (blk_lt FQ.out)).trans FQ.out)
  have FR := hide ((bb.block r (blk_lt FR.out)).trans FR.out)
  clear bb B3 HC
  have m1 : W4.cell? ⟨a, 1, none⟩ = some (.slice (some ⟨r, 0, none⟩) 1 1) := cell_at FA.out 1
  have m7 : W4.cell? ⟨r, 7, none⟩ = some (.int .i64 1) := cell_at FR.out 7
  have f7 : W4.frozen? ⟨r, 7, none⟩ = false := by rw [frozen_at FR.out]; simp
  go_upto_region 5 with fail
  have B5 : Hid (Below w.heap.size w (W4.setCell ⟨r, 7, none⟩ (.int .i64 0))) := hide (B4.out.setCell (by have := HLE.out; exact this.2.2) _)
  have FA := hide ((Below.heap_setCell W4 ⟨r, 7, none⟩ (.int .i64 0) a (by have := LR.out; simp; omega)).trans FA.out)
  have FH := hide ((Below.heap_setCell W4 ⟨r, 7, none⟩ (.int .i64 0) h (by have := HNE.out; exact this.1)).trans FH.out)
  have FQ := hide ((Below.heap_setCell W4 ⟨r, 7, none⟩ (.int .i64 0) q (by have := HNE.out; exact this.2)).trans FQ.out)
  have FR : Hid ((W4.setCell ⟨r, 7, none⟩ (.int .i64 0)).heap[r]? = some (.cells (rtA q 0) 40 (0, 0))) := hide (hp_set FR.out 7 _)
  generalize W4.setCell ⟨r, 7, none⟩ (.int .i64 0) = W5 at *
  clear m1 m7 f7 B4
  have HC : Hid (Calls Tryz.prog 11 #[.agg (cfA h r)] W5 fun e w' => e = .returned (.int .i64 3) ∧ Below W5.heap.size W5 w') := hide (by
    have := check_any W5 _ _ _ _ (cfgL 0) (inL FH.out FQ.out FR.out (HT.out.below B5.out))
    rw [show cfgE (cfgL 0) = 3 by unfold cfgE; rw [cfgL_no]; rfl] at this
    exact this)
  have HRA : Hid (W5.rangeAt a 0 (cfA h r).toList) := hide (by
    intro j v hv
    rw [Nat.zero_add, cell_at FA.out]
    simpa using hv)
  refine wp_region_lit ?_
  refine wpList_want (by kernel_rfl) fun K hK => ?_
  go_simp
  refine hK _ _ ?_
  clear hK K
  refine wpList_want (by kernel_rfl) fun K hK => ?_
  go_simp
  refine hK _ _ ?_
  clear hK K
  refine wpList_want (by kernel_rfl) fun K hK => ?_
  go_simp
  refine hK _ _ ?_
  clear hK K
  refine wpList_want (by kernel_rfl) fun K hK => ?_
  go_simp
  refine hK _ _ ?_
  clear hK K
  refine wpList_want (by kernel_rfl) fun K hK => ?_
  go_simp
  refine hK _ _ ?_
  clear hK K
  refine wpList_want (by kernel_rfl) fun K hK => ?_
  go_simp
  refine hK _ _ ?_
  clear hK K
  refine wpList_want (by kernel_rfl) fun K hK => ?_
  go_simp
  refine hK _ _ ?_
  clear hK K
  refine wpList_want (by kernel_rfl) fun K hK => ?_
  go_simp
  refine hK _ _ ?_
  clear hK K
  refine wpList_want (by kernel_rfl) fun K hK => ?_
  go_simp
  refine hK _ _ ?_
  clear hK K
  refine wpList_want (by kernel_rfl) fun K hK => ?_
  go_simp
  refine hK _ _ ?_
  clear hK K
  refine wpList_want (by kernel_rfl) fun K hK => ?_
  go_simp
  refine hK _ _ ?_
  clear hK K
  refine wpList_want (by kernel_rfl) fun K hK => ?_
  refine wp_load_mid 25 _ rfl a 0 rfl (cfA h r).toList _ HRA.out Tryz.underlying25 rfl (by kernel_rfl) (hK _ _ ?_)
  clear hK K HRA
  simp only [Act.put, List.setIfInBounds_toArray, List.set_cons_zero, List.set_cons_succ]
  go_wp2_with fail
  refine HC.out.mono ?_
  rintro e W6 ⟨rfl, bb⟩
  have B6 := hide (B5.out.trans (bb.mono B5.out.size))
  clear bb B5 HC
  go_wp2_with fail
  go_ret
  exact ⟨rfl, B6.out⟩
end Go.Proofs.YtekkhjlipijmcaaGreatDoor
/- A configuration that came in, opened. -/
namespace Go.Proofs.YtekkhjlipijmcaaGreatDoor
open Go.ChangeShapes Go.WideShapes Go.ChangeAt Go.RowKit Go.Deep Go.Joins
set_option linter.unusedVariables false

theorem bulk_memZ {H : Type} {d : DataW H} : ∀ {l : List (DataW H)}, d ∈ l → Rows.uptoBulk d ≤ Rows.uptoBulkAll l
  | x :: r, h => by
    simp only [Rows.uptoBulkAll]
    rcases List.mem_cons.1 h with rfl | h
    · omega
    · have := bulk_memZ h
      omega
theorem addr_plusZ (b off i : Nat) : (⟨b, off, none⟩ : Addr).add i = ⟨b, off + i, none⟩ := by unfold Addr.add; split <;> simp_all
section
variable {H : Type} {enc : TypeId × Value → H} {W : World}
abbrev Trd (enc : TypeId × Value → H) (W : World) (fuel : Nat) (t : TypeId) (cs : List Value) (x : DataW H × List MemPlace) : Prop := DataW.trod enc Tryz.prog W 0 (fun _ => true) true fuel t cs = some x
theorem fld_at {fs : Array Field} {t : TypeId} {fuel : Nat} {cs : List Value} {x : DataW H × List MemPlace} (ht : Tryz.prog.underlying t = some (.struct fs)) (h : Trd enc W fuel t cs x) :
    cs.length = Tryz.prog.cellsOf t ∧ ∀ (i : Nat) (ty off : Nat), (fs[i]?).map (fun f => (f.type, f.offset)) = some (ty, off) → ∃ y n, Trd enc W n ty ((cs.drop off).take (Tryz.prog.cellsOf ty)) y ∧ Rows.uptoBulk y.1 ≤ Rows.uptoBulk x.1 := by
  obtain ⟨xs, n, _, rfl, hl, hlen, hf⟩ := DataW.trod_struct ht h
  refine ⟨hl, fun i ty off hi0 => ?_⟩
  obtain ⟨f, hi, hi1⟩ := Option.map_eq_some_iff.1 hi0
  simp only [Prod.mk.injEq] at hi1
  obtain ⟨rfl, rfl⟩ := hi1
  have h1 := hf i f hi
  have hix : i < xs.length := by rw [hlen]; exact (Array.getElem?_eq_some_iff.1 hi).1
  rw [List.getElem?_eq_getElem hix] at h1
  refine ⟨xs[i], n, h1, ?_⟩
  have := bulk_memZ (d := xs[i].1) (l := xs.map (·.1)) (List.mem_map.2 ⟨_, List.getElem_mem hix, rfl⟩)
  simp only [Rows.uptoBulk]
  omega
/-- A slice that came in, by what each of its elements is. -/
theorem slice_in {β : Type} [Inhabited β] {T E : TypeId} {m : Nat} (ht : Tryz.prog.underlying T = some (.slice E)) (hc : Tryz.prog.cellsOf E = m) (hm0 : 0 < m) (Rl : List Value → β → Nat → Prop)
    (each : ∀ fuel cs x, Trd enc W fuel E cs x → ∃ b, cs.length = m ∧ Rl cs b (Rows.uptoBulk x.1)) {fuel : Nat} {v : Value} {x : DataW H × List MemPlace} (h : Trd enc W fuel T [v] x) :
    ∃ (a : Option Addr) (c : Nat) (L : List β), v = .slice a L.length c ∧ (L.length ≤ c ∧ c ≤ maxLen) ∧ ∀ j (hj : j < L.length), ∃ g o cs k, a = some ⟨g, o, none⟩ ∧ g < W.heap.size ∧ (∀ i, i < m → W.cell? ⟨g, o + j * m + i, none⟩ = cs[i]?) ∧ Rl cs L[j] k ∧ k ≤ Rows.uptoBulk x.1 := by
  rcases open_slice ht h with ⟨hcs, _⟩ | ⟨ad, len, cap, mm, n, D, Pl, hcs, _, hl, hm, hmm, hx, hel⟩
  · simp only [List.cons.injEq, and_true] at hcs
    subst hcs
    exact ⟨none, 0, [], rfl, ⟨Nat.le_refl _, Nat.zero_le _⟩, fun j hj => absurd hj (Nat.not_lt_zero _)⟩
  · simp only [List.cons.injEq, and_true] at hcs
    subst hcs
    simp only [if_true] at hmm
    subst hmm
    have key : ∀ i, i < len → ∃ b : β, ∃ cs', W.cells? 0 (ad.add (i * m)) m = some cs' ∧ cs'.length = m ∧ Rl cs' b (Rows.uptoBulk (D i)) := fun i hi => by
      obtain ⟨cs', h1, h2⟩ := hel i (by omega)
      obtain ⟨b, h3, h4⟩ := each _ _ _ h2
      rw [hc] at h1
      exact ⟨b, cs', h1, h3, h4⟩
    refine ⟨some ad, mm, (List.range len).map (fun i => if hi : i < len then Classical.choose (key i hi) else default), by simp, by simpa using ⟨hl, hm⟩, fun j hj => ?_⟩
    have hj2 : j < len := by simpa using hj
    obtain ⟨b, off, spot⟩ := ad
    obtain ⟨cs0, h00, hl0, _⟩ := Classical.choose_spec (key 0 (by omega))
    have hspot : spot = none := by
      obtain ⟨_, _, hc0⟩ := World.cells?_some h00
      have e0 := hc0 0 (by omega)
      match cs0, hl0 with
      | v0 :: _, _ =>
        simp [Addr.add] at e0
        simpa using World.cell?_spot e0
      | [], hl1 => simp at hl1; omega
    subst hspot
    obtain ⟨cs', h1, h2, h3⟩ := Classical.choose_spec (key j hj2)
    obtain ⟨_, _, hcc⟩ := World.cells?_some h1
    have hcell : ∀ i, i < m → W.cell? ⟨b, off + j * m + i, none⟩ = cs'[i]? := fun i hi => by
      have := hcc i hi
      rw [addr_plusZ, addr_plusZ] at this
      exact this
    refine ⟨b, off, cs', Rows.uptoBulk (D j), rfl, ?_, hcell, ?_, ?_⟩
    · have := hcell 0 hm0
      rw [List.getElem?_eq_getElem (by omega)] at this
      exact World.block_lt_of_cell? W _ this
    · simp only [List.getElem_map, List.getElem_range, dif_pos hj2]
      exact h3
    · rw [(Prod.mk.inj hx).1]
      have := bulk_memZ (d := D j) (l := (List.range len).map D) (List.mem_map.2 ⟨j, List.mem_range.2 hj2, rfl⟩)
      simp only [Rows.uptoBulk]
      omega
theorem int_one {fuel : Nat} {cs : List Value} {x : DataW H × List MemPlace} (h : Trd enc W fuel 3 cs x) : ∃ b : Int, cs = [.int .i64 b] := by
  obtain ⟨n, e, _⟩ := DataW.trod_int Tryz.underlying3 h
  exact ⟨n, e⟩
theorem str_one {fuel : Nat} {cs : List Value} {x : DataW H × List MemPlace} (h : Trd enc W fuel 9 cs x) : ∃ b : ByteArray, cs = [.string b] ∧ b.size ≤ Rows.uptoBulk x.1 := by
  obtain ⟨s, e, hx, _⟩ := DataW.trod_string Tryz.underlying9 h
  refine ⟨s, e, ?_⟩
  rw [hx]
  simp only [Rows.uptoBulk, size_len]
  omega
set_option maxRecDepth 100000 in
theorem strs_in {fuel : Nat} {v : Value} {x : DataW H × List MemPlace} (h : Trd enc W fuel 35 [v] x) : ∃ M : List ByteArray, SRow W v M ∧ ∀ y ∈ M, y.size ≤ Rows.uptoBulk x.1 := by
  obtain ⟨a, c, L, rfl, _, hj⟩ := slice_in (β := ByteArray) (m := 1) Tryz.underlying35 (by kernel_rfl) (by omega) (fun cs b k => cs = [.string b] ∧ b.size ≤ k) (fun _ _ _ h => by obtain ⟨b, e, hb⟩ := str_one h; exact ⟨b, by rw [e]; rfl, e, hb⟩) h
  refine ⟨L, ⟨a, c, rfl, fun j hjl => ?_⟩, fun y hy => ?_⟩
  · obtain ⟨g, o, cs, k, h1, h2, h3, ⟨h4, _⟩, _⟩ := hj j hjl
    have := h3 0 (by omega)
    rw [h4] at this
    exact ⟨g, o, h1, h2, by simpa using this⟩
  · obtain ⟨j, hjl, rfl⟩ := List.getElem_of_mem hy
    obtain ⟨g, o, cs, k, _, _, _, ⟨_, h5⟩, h6⟩ := hj j hjl
    omega
set_option maxRecDepth 100000 in
theorem ints_in {fuel : Nat} {v : Value} {x : DataW H × List MemPlace} (h : Trd enc W fuel 38 [v] x) : ∃ M : List Int, IRow W v M ∧ capOk v := by
  obtain ⟨a, c, L, rfl, hcap, hj⟩ := slice_in (β := Int) (m := 1) Tryz.underlying38 (by kernel_rfl) (by omega) (fun cs b k => cs = [.int .i64 b]) (fun _ _ _ h => by obtain ⟨b, e⟩ := int_one h; exact ⟨b, by rw [e]; rfl, e⟩) h
  refine ⟨L, ⟨a, c, rfl, fun j hjl => ?_⟩, fun a' n' c' e => ?_⟩
  · obtain ⟨g, o, cs, k, h1, h2, h3, h4, _⟩ := hj j hjl
    have := h3 0 (by omega)
    rw [h4] at this
    exact ⟨g, o, h1, h2, by simpa using this⟩
  · simp only [Value.slice.injEq] at e
    obtain ⟨-, rfl, rfl⟩ := e
    exact hcap
theorem c1_3 : Tryz.prog.cellsOf 3 = 1 := by kernel_rfl
theorem c1_9 : Tryz.prog.cellsOf 9 = 1 := by kernel_rfl
theorem c1_s : Tryz.prog.cellsOf 35 = 1 := by kernel_rfl
theorem c1_i : Tryz.prog.cellsOf 38 = 1 := by kernel_rfl
theorem c1_h : Tryz.prog.cellsOf 22 = 1 := by kernel_rfl
theorem c1_r : Tryz.prog.cellsOf 23 = 1 := by kernel_rfl
theorem c5_m : Tryz.prog.cellsOf 37 = 5 := by kernel_rfl
theorem c3_h : Tryz.prog.cellsOf 43 = 3 := by kernel_rfl
theorem c21_r : Tryz.prog.cellsOf 40 = 21 := by kernel_rfl
theorem c18_c : Tryz.prog.cellsOf 25 = 18 := by kernel_rfl
instance : Inhabited Hst := ⟨⟨⟨#[]⟩, 0, 0⟩⟩
instance : Inhabited Rt := ⟨rtL 0⟩
set_option maxRecDepth 100000 in
theorem host_one {fuel : Nat} {cs : List Value} {x : DataW H × List MemPlace} (h : Trd enc W fuel 43 cs x) : ∃ b : Hst, cs.length = 3 ∧ (cs = [.string b.nm, .int .i64 b.ca, .int .i64 b.pe] ∧ b.nm.size ≤ Rows.uptoBulk x.1) := by
  obtain ⟨hl, F⟩ := fld_at Tryz.underlying43 h
  rw [c3_h] at hl
  match cs, hl with
  | [v0, v1, v2], _ =>
    obtain ⟨y0, n0, h0, b0⟩ := F 0 9 0 rfl
    obtain ⟨y1, n1, h1, b1⟩ := F 1 3 1 rfl
    obtain ⟨y2, n2, h2, b2⟩ := F 2 3 2 rfl
    simp only [c1_3, c1_9, List.drop_zero, List.drop_succ_cons, List.take_succ_cons, List.take_zero] at h0 h1 h2
    obtain ⟨nm, e0, s0⟩ := str_one h0
    obtain ⟨ca, e1⟩ := int_one h1
    obtain ⟨pe, e2⟩ := int_one h2
    simp only [List.cons.injEq, and_true] at e0 e1 e2
    subst e0 e1 e2
    exact ⟨⟨nm, ca, pe⟩, rfl, rfl, by show nm.size ≤ _; omega⟩
structure MOk (W : World) (cs : List Value) (ho pf : ByteArray) (M : List ByteArray) (hd va : ByteArray) (k : Nat) : Prop where
  c : ∃ m, cs = [.string ho, .string pf, m, .string hd, .string va] ∧ SRow W m M
  ho : ho.size ≤ k
  hd : hd.size ≤ k
  va : va.size ≤ k
  M : ∀ y ∈ M, y.size ≤ k
set_option maxRecDepth 100000 in
theorem match_one {fuel : Nat} {cs : List Value} {x : DataW H × List MemPlace} (h : Trd enc W fuel 37 cs x) : ∃ ho pf M hd va, MOk W cs ho pf M hd va (Rows.uptoBulk x.1) := by
  obtain ⟨hl, F⟩ := fld_at Tryz.underlying37 h
  rw [c5_m] at hl
  match cs, hl with
  | [v0, v1, v2, v3, v4], _ =>
    obtain ⟨y0, n0, h0, b0⟩ := F 0 9 0 rfl
    obtain ⟨y1, n1, h1, b1⟩ := F 1 9 1 rfl
    obtain ⟨y2, n2, h2, b2⟩ := F 2 35 2 rfl
    obtain ⟨y3, n3, h3, b3⟩ := F 3 9 3 rfl
    obtain ⟨y4, n4, h4, b4⟩ := F 4 9 4 rfl
    simp only [c1_s, c1_9, List.drop_zero, List.drop_succ_cons, List.take_succ_cons, List.take_zero] at h0 h1 h2 h3 h4
    obtain ⟨ho, e0, s0⟩ := str_one h0
    obtain ⟨pf, e1, s1⟩ := str_one h1
    obtain ⟨M, e2, s2⟩ := strs_in h2
    obtain ⟨hd, e3, s3⟩ := str_one h3
    obtain ⟨va, e4, s4⟩ := str_one h4
    simp only [List.cons.injEq, and_true] at e0 e1 e3 e4
    subst e0 e1 e3 e4
    exact ⟨ho, pf, M, hd, va, ⟨v2, rfl, e2⟩, by omega, by omega, by omega, fun y hy => by have := s2 y hy; omega⟩
/-- The cells of a route. -/
def rtC (r : Rt) (m q : Value) : List Value := [.string r.ho, .string r.pf, m, .string r.hd, .string r.va, q, .int .i64 r.r0, .int .i64 r.r1, .int .i64 r.r2, .int .i64 r.r3, .int .i64 r.r4, .int .i64 r.r5, .int .i64 r.r6, .int .i64 r.r7, .int .i64 r.r8, .int .i64 r.r9, .int .i64 r.r10, .int .i64 r.r11, .int .i64 r.r12, .int .i64 r.r13, .int .i64 r.r14]
structure ROk (W : World) (cs : List Value) (r : Rt) (k : Nat) : Prop where
  c : ∃ m q, cs = rtC r m q ∧ SRow W m r.M ∧ IRow W q r.H ∧ capOk q
  ho : r.ho.size ≤ k
  hd : r.hd.size ≤ k
  va : r.va.size ≤ k
  M : ∀ y ∈ r.M, y.size ≤ k
set_option maxHeartbeats 1000000 in
set_option maxRecDepth 100000 in
theorem route_one {fuel : Nat} {cs : List Value} {x : DataW H × List MemPlace} (h : Trd enc W fuel 40 cs x) : ∃ b : Rt, cs.length = 21 ∧ ROk W cs b (Rows.uptoBulk x.1) := by
  obtain ⟨hl, F⟩ := fld_at Tryz.underlying40 h
  rw [c21_r] at hl
  match cs, hl with
  | [v0, v1, v2, v3, v4, v5, v6, v7, v8, v9, v10, v11, v12, v13, v14, v15, v16, v17, v18, v19, v20], _ =>
    obtain ⟨y0, n0, h0, b0⟩ := F 0 37 0 rfl
    obtain ⟨y1, n1, h1, b1⟩ := F 1 38 5 rfl
    obtain ⟨y2, n2, h2, b2⟩ := F 2 3 6 rfl
    obtain ⟨y3, n3, h3, b3⟩ := F 3 3 7 rfl
    obtain ⟨y4, n4, h4, b4⟩ := F 4 3 8 rfl
    obtain ⟨y5, n5, h5, b5⟩ := F 5 3 9 rfl
    obtain ⟨y6, n6, h6, b6⟩ := F 6 3 10 rfl
    obtain ⟨y7, n7, h7, b7⟩ := F 7 3 11 rfl
    obtain ⟨y8, n8, h8, b8⟩ := F 8 3 12 rfl
    obtain ⟨y9, n9, h9, b9⟩ := F 9 3 13 rfl
    obtain ⟨y10, n10, h10, b10⟩ := F 10 3 14 rfl
    obtain ⟨y11, n11, h11, b11⟩ := F 11 3 15 rfl
    obtain ⟨y12, n12, h12, b12⟩ := F 12 3 16 rfl
    obtain ⟨y13, n13, h13, b13⟩ := F 13 3 17 rfl
    obtain ⟨y14, n14, h14, b14⟩ := F 14 3 18 rfl
    obtain ⟨y15, n15, h15, b15⟩ := F 15 3 19 rfl
    obtain ⟨y16, n16, h16, b16⟩ := F 16 3 20 rfl
    simp only [c5_m, c1_i, c1_3, List.drop_zero, List.drop_succ_cons, List.take_succ_cons, List.take_zero] at h0 h1 h2 h3 h4 h5 h6 h7 h8 h9 h10 h11 h12 h13 h14 h15 h16
    obtain ⟨ho, pf, M, hd, va, ⟨⟨m, em, hm⟩, s0, s1, s2, s3⟩⟩ := match_one h0
    obtain ⟨HL, e1, q1⟩ := ints_in h1
    obtain ⟨r0, e2⟩ := int_one h2
    obtain ⟨r1, e3⟩ := int_one h3
    obtain ⟨r2, e4⟩ := int_one h4
    obtain ⟨r3, e5⟩ := int_one h5
    obtain ⟨r4, e6⟩ := int_one h6
    obtain ⟨r5, e7⟩ := int_one h7
    obtain ⟨r6, e8⟩ := int_one h8
    obtain ⟨r7, e9⟩ := int_one h9
    obtain ⟨r8, e10⟩ := int_one h10
    obtain ⟨r9, e11⟩ := int_one h11
    obtain ⟨r10, e12⟩ := int_one h12
    obtain ⟨r11, e13⟩ := int_one h13
    obtain ⟨r12, e14⟩ := int_one h14
    obtain ⟨r13, e15⟩ := int_one h15
    obtain ⟨r14, e16⟩ := int_one h16
    simp only [List.cons.injEq, and_true] at em e2 e3 e4 e5 e6 e7 e8 e9 e10 e11 e12 e13 e14 e15 e16
    obtain ⟨rfl, rfl, rfl, rfl, rfl⟩ := em
    subst e2 e3 e4 e5 e6 e7 e8 e9 e10 e11 e12 e13 e14 e15 e16
    exact ⟨⟨ho, pf, M, hd, va, HL, r0, r1, r2, r3, r4, r5, r6, r7, r8, r9, r10, r11, r12, r13, r14⟩, rfl, ⟨_, _, rfl, hm, e1, q1⟩, by show ho.size ≤ _; omega, by show hd.size ≤ _; omega, by show va.size ≤ _; omega, fun y hy => by have := s3 y hy; omega⟩
set_option maxRecDepth 100000 in
theorem hosts_in {fuel : Nat} {v : Value} {x : DataW H × List MemPlace} (h : Trd enc W fuel 22 [v] x) : ∃ (a : Option Addr) (c : Nat) (L : List Hst), v = .slice a L.length c ∧ (L.length ≤ c ∧ c ≤ maxLen) ∧ HRow W v L ∧ ∀ y ∈ L, y.nm.size ≤ Rows.uptoBulk x.1 := by
  obtain ⟨a, c, L, rfl, hcap, hj⟩ := slice_in (β := Hst) (m := 3) Tryz.underlying22 c3_h (by omega) (fun cs b k => cs = [.string b.nm, .int .i64 b.ca, .int .i64 b.pe] ∧ b.nm.size ≤ k) (fun _ _ _ h => host_one h) h
  refine ⟨a, c, L, rfl, hcap, ⟨a, c, rfl, fun j hjl => ?_⟩, fun y hy => ?_⟩
  · obtain ⟨g, o, cs, k, h1, h2, h3, ⟨rfl, _⟩, _⟩ := hj j hjl
    exact ⟨g, o, h1, h2, h3 0 (by omega), h3 1 (by omega), h3 2 (by omega)⟩
  · obtain ⟨j, hjl, rfl⟩ := List.getElem_of_mem hy
    obtain ⟨g, o, cs, k, _, _, _, ⟨_, h5⟩, h6⟩ := hj j hjl
    omega
set_option maxRecDepth 100000 in
theorem routes_in {fuel : Nat} {v : Value} {x : DataW H × List MemPlace} (h : Trd enc W fuel 23 [v] x) (hb : Rows.uptoBulk x.1 ≤ 1048576) : ∃ (a : Option Addr) (c : Nat) (L : List Rt), v = .slice a L.length c ∧ (L.length ≤ c ∧ c ≤ maxLen) ∧ RRow W v L ∧ ∀ y ∈ L, y.Sz := by
  obtain ⟨a, c, L, rfl, hcap, hj⟩ := slice_in (β := Rt) (m := 21) Tryz.underlying23 c21_r (by omega) (fun cs b k => ROk W cs b k) (fun _ _ _ h => route_one h) h
  refine ⟨a, c, L, rfl, hcap, ⟨a, c, rfl, fun j hjl => ?_⟩, fun y hy => ?_⟩
  · obtain ⟨g, o, cs, k, h1, h2, h3, ⟨⟨m, q, rfl, hm, hq, hcq⟩, _, _, _, _⟩, _⟩ := hj j hjl
    exact ⟨g, o, m, q, h1, h2, hm, hq, hcq, h3 0 (by omega), h3 1 (by omega), h3 2 (by omega), h3 3 (by omega), h3 4 (by omega), h3 5 (by omega), h3 6 (by omega), h3 7 (by omega), h3 8 (by omega), h3 9 (by omega), h3 10 (by omega), h3 11 (by omega), h3 12 (by omega), h3 13 (by omega), h3 14 (by omega), h3 15 (by omega), h3 16 (by omega), h3 17 (by omega), h3 18 (by omega), h3 19 (by omega), h3 20 (by omega)⟩
  · obtain ⟨j, hjl, rfl⟩ := List.getElem_of_mem hy
    obtain ⟨g, o, cs, k, _, _, _, ⟨_, h5, h6, h7, h8⟩, h9⟩ := hj j hjl
    exact ⟨by omega, by omega, by omega, fun y hy => by have := h8 y hy; omega⟩
set_option maxRecDepth 100000 in
theorem array18 {α : Type} {cs : Array α} (h : cs.size = 18) : ∃ c0 c1 c2 c3 c4 c5 c6 c7 c8 c9 c10 c11 c12 c13 c14 c15 c16 c17, cs = #[c0, c1, c2, c3, c4, c5, c6, c7, c8, c9, c10, c11, c12, c13, c14, c15, c16, c17] := by
  obtain ⟨l⟩ := cs
  match l, h with
  | [c0, c1, c2, c3, c4, c5, c6, c7, c8, c9, c10, c11, c12, c13, c14, c15, c16, c17], _ => exact ⟨c0, c1, c2, c3, c4, c5, c6, c7, c8, c9, c10, c11, c12, c13, c14, c15, c16, c17, rfl⟩
set_option maxHeartbeats 1000000 in
set_option maxRecDepth 100000 in
theorem cfg_in {r : Reach} {b0 : Nat} {v : Value} {d : DataW H} {p : List MemPlace} (hv : Value.okWide Tryz.prog W r b0 25 v) (h : DataW.Trod enc Tryz.prog W 0 (fun _ => true) true 25 v d p) (hb : Rows.uptoBulk d ≤ 1048576) :
    ∃ a1 a2 k1 k2 C, v = cfgV a1 a2 k1 k2 C ∧ HRow W (.slice a1 C.H.length k1) C.H ∧ RRow W (.slice a2 C.R.length k2) C.R ∧ (∀ x ∈ C.H, x.nm.size ≤ 1048576) ∧ (∀ x ∈ C.R, x.Sz) ∧ (C.H.length ≤ k1 ∧ k1 ≤ maxLen) ∧ (C.R.length ≤ k2 ∧ k2 ≤ maxLen) := by
  obtain ⟨cs, rfl, hsz⟩ := okWide_struct Tryz.underlying25 hv
  obtain ⟨v0, v1, v2, v3, v4, v5, v6, v7, v8, v9, v10, v11, v12, v13, v14, v15, v16, v17, rfl⟩ := array18 (hsz.trans c18_c)
  obtain ⟨fuel, hf⟩ := h
  obtain ⟨hl, F⟩ := fld_at Tryz.underlying25 hf
  simp only [Value.cells] at F
  obtain ⟨y0, n0, h0, b0⟩ := F 0 22 0 rfl
  obtain ⟨y1, n1, h1, b1⟩ := F 1 23 1 rfl
  obtain ⟨y2, n2, h2, b2⟩ := F 2 3 2 rfl
  obtain ⟨y3, n3, h3, b3⟩ := F 3 3 3 rfl
  obtain ⟨y4, n4, h4, b4⟩ := F 4 3 4 rfl
  obtain ⟨y5, n5, h5, b5⟩ := F 5 3 5 rfl
  obtain ⟨y6, n6, h6, b6⟩ := F 6 9 6 rfl
  obtain ⟨y7, n7, h7, b7⟩ := F 7 3 7 rfl
  obtain ⟨y8, n8, h8, b8⟩ := F 8 3 8 rfl
  obtain ⟨y9, n9, h9, b9⟩ := F 9 3 9 rfl
  obtain ⟨y10, n10, h10, b10⟩ := F 10 3 10 rfl
  obtain ⟨y11, n11, h11, b11⟩ := F 11 3 11 rfl
  obtain ⟨y12, n12, h12, b12⟩ := F 12 3 12 rfl
  obtain ⟨y13, n13, h13, b13⟩ := F 13 3 13 rfl
  obtain ⟨y14, n14, h14, b14⟩ := F 14 3 14 rfl
  obtain ⟨y15, n15, h15, b15⟩ := F 15 3 15 rfl
  obtain ⟨y16, n16, h16, b16⟩ := F 16 3 16 rfl
  obtain ⟨y17, n17, h17, b17⟩ := F 17 3 17 rfl
  simp only [c1_h, c1_r, c1_3, c1_9, List.drop_zero, List.drop_succ_cons, List.take_succ_cons, List.take_zero] at h0 h1 h2 h3 h4 h5 h6 h7 h8 h9 h10 h11 h12 h13 h14 h15 h16 h17
  obtain ⟨a1, k1, LH, e0, q0, t0, s0⟩ := hosts_in h0
  obtain ⟨a2, k2, LR, e1, q1, t1, s1⟩ := routes_in h1 (by omega)
  obtain ⟨x2, e2⟩ := int_one h2
  obtain ⟨x3, e3⟩ := int_one h3
  obtain ⟨x4, e4⟩ := int_one h4
  obtain ⟨x5, e5⟩ := int_one h5
  obtain ⟨pa, e6, s6⟩ := str_one h6
  obtain ⟨x7, e7⟩ := int_one h7
  obtain ⟨x8, e8⟩ := int_one h8
  obtain ⟨x9, e9⟩ := int_one h9
  obtain ⟨x10, e10⟩ := int_one h10
  obtain ⟨x11, e11⟩ := int_one h11
  obtain ⟨x12, e12⟩ := int_one h12
  obtain ⟨x13, e13⟩ := int_one h13
  obtain ⟨x14, e14⟩ := int_one h14
  obtain ⟨x15, e15⟩ := int_one h15
  obtain ⟨x16, e16⟩ := int_one h16
  obtain ⟨x17, e17⟩ := int_one h17
  simp only [List.cons.injEq, and_true] at e2 e3 e4 e5 e6 e7 e8 e9 e10 e11 e12 e13 e14 e15 e16 e17
  subst e0 e1 e2 e3 e4 e5 e6 e7 e8 e9 e10 e11 e12 e13 e14 e15 e16 e17
  exact ⟨a1, a2, k1, k2, ⟨LH, LR, pa, x2, x3, x4, x5, x7, x8, x9, x10, x11, x12, x13, x14, x15, x16, x17⟩, rfl, t0, t1, fun x hx => by have := s0 x hx; omega, s1, q0, q1⟩
end
end Go.Proofs.YtekkhjlipijmcaaGreatDoor
/- Rows of structs of the call's own, one by one; a configuration turned about. -/
namespace Go.Proofs.YtekkhjlipijmcaaGreatDoor
open Go.ChangeShapes Go.WideShapes Go.ChangeAt Go.RowKit Go.Deep Go.Joins
set_option linter.unusedVariables false

/-- A row's structs, as lists of cells. -/
def Tb (W : World) (a : Option Addr) (m : Nat) (CS : List (List Value)) : Prop := ∀ j (h : j < CS.length), ∃ g o, a = some ⟨g, o, none⟩ ∧ g < W.heap.size ∧ W.rangeAt g (o + j * m) CS[j]
theorem Tb.below {W W' : World} {a : Option Addr} {m : Nat} {CS : List (List Value)} (h : Tb W a m CS) (b : Below W.heap.size W W') : Tb W' a m CS := fun j hj => by
  obtain ⟨g, o, h1, h2, h3⟩ := h j hj
  exact ⟨g, o, h1, Nat.lt_of_lt_of_le h2 b.size, fun i v hv => (b.cell (p := ⟨g, o + j * m + i, none⟩) h2).trans (h3 i v hv)⟩
/-- Each has m cells. -/
def Cm (m : Nat) (CS : List (List Value)) : Prop := ∀ c ∈ CS, c.length = m ∧ ∀ u ∈ c, u.oneCell' = true
theorem own_frame {W W' : World} {base m n : Nat} {e : TypeId} {v : Value} {xs : List Value} (h : W.ownsRow base e m v n xs) (hb : ∀ g, v.ownBlock = some g → W'.heap[g]? = W.heap[g]?) : W'.ownsRow base e m v n xs := by
  refine ⟨h.1, ?_⟩
  rcases h.2 with x | ⟨g, cap, cur, rfl, h1, hg, hc, hm, hs, ht⟩
  · exact .inl x
  · exact .inr ⟨g, cap, cur, rfl, h1, (hb g rfl).trans hg, hc, hm, hs, ht⟩
theorem own_below {W W' : World} {base m n : Nat} {e : TypeId} {v : Value} {xs : List Value} (h : W.ownsRow base e m v n xs) (b : Below W.heap.size W W') : W'.ownsRow base e m v n xs := own_frame h fun g hg => b.block g (World.ownsRow.lt h g hg).2
theorem own_shape {W : World} {base m n : Nat} {e : TypeId} {v : Value} {xs : List Value} (h : W.ownsRow base e m v n xs) : ∃ a c, v = .slice a n c := by
  rcases h.2 with ⟨rfl, h0⟩ | ⟨g, cap, cur, rfl, _⟩
  · exact ⟨none, 0, by rw [h0]⟩
  · exact ⟨_, cap, rfl⟩
theorem own_nil (W : World) (base m : Nat) (e : TypeId) : W.ownsRow base e m (.slice none 0 0) 0 [] := ⟨by simp, .inl ⟨rfl, rfl⟩⟩
theorem flat_at : ∀ {CS : List (List Value)} {m : Nat}, Cm m CS → ∀ (j i : Nat) (hj : j < CS.length), i < m → CS.flatten[j * m + i]? = CS[j][i]?
  | [], _, _, j, _, hj, _ => by simp at hj
  | c :: r, m, h, 0, i, hj, hi => by
    rw [Nat.zero_mul, Nat.zero_add, List.flatten_cons, List.getElem?_append_left (by rw [(h c (by simp)).1]; exact hi)]
    rfl
  | c :: r, m, h, j + 1, i, hj, hi => by
    have hc := (h c (by simp)).1
    rw [List.flatten_cons, List.getElem?_append_right (by rw [hc, Nat.add_mul]; omega), hc, show (j + 1) * m + i - m = j * m + i by rw [Nat.add_mul]; omega]
    exact flat_at (fun c' hc' => h c' (List.mem_cons_of_mem _ hc')) j i (by simpa using hj) hi
/-- A row of the call's own, as structs. -/
theorem own_tb {W : World} {base m n : Nat} {e : TypeId} {a : Option Addr} {k c : Nat} {CS : List (List Value)} (h : W.ownsRow base e m (.slice a k c) n CS.flatten) (hl : CS.length = n) (hc : Cm m CS) : Tb W a m CS := by
  rcases h.2 with ⟨h1, h0⟩ | ⟨g, cap, cur, h1, hb, hg, hcp, hm, hs, ht⟩
  · intro j hj
    omega
  · simp only [Value.slice.injEq] at h1
    obtain ⟨rfl, rfl, rfl⟩ := h1
    refine fun j hj => ⟨g, 0, rfl, blk_lt hg, fun i v hv => ?_⟩
    have hi : i < m := by
      have := (hc _ (List.getElem_mem hj)).1
      rw [← this]
      exact (List.getElem?_eq_some_iff.1 hv).1
    have e1 := flat_at hc j i hj hi
    rw [cell_at hg, Nat.zero_add, ← hv, ← e1, ← ht, List.getElem?_take, if_pos (by
      have : (j + 1) * m ≤ k * m := Nat.mul_le_mul_right _ (by omega)
      rw [Nat.add_mul] at this
      omega)]
    simp
/-- One struct appended to a row of the call's own. -/
theorem append_st {t e : TypeId} {z : Value} {m bts : Nat} (ht : Tryz.prog.underlying t = some (.slice e)) (hi : ∃ i, Tryz.prog.info? e = some i ∧ i.zero = some z ∧ i.size = m ∧ i.bytes = bts) (hz : z.cells.size = m) (hm : 0 < m)
    (W : World) (base : Nat) (ty : TypeId) (v : Value) (n : Nat) (xs c : List Value) (hown : W.ownsRow base e m v n xs) (hc : c.length = m) (h1 : ∀ u ∈ c, u.oneCell' = true) (hn : (n + 1) * bts ≤ 140737488355328) (hn2 : n + 1 ≤ 140737488355328) (hbase : base ≤ W.heap.size) :
    ∃ v' W', (Builtin.append_ #[t, t] ty #[v, .slice (some ⟨W.heap.size, 0, none⟩) 1 1]).run Tryz.prog (W.alloc (.cells c.toArray e)) = .ok v' W' ∧ W'.ownsRow base e m v' (n + 1) (xs ++ c) ∧ Below base W W' := by
  obtain ⟨i, hi, hz1, hs1, hb1⟩ := hi
  have ho : (W.alloc (.cells c.toArray e)).ownsRow base e m v n xs := own_frame hown fun g hg => Below.heap_alloc W _ g (World.ownsRow.lt hown g hg).2
  have hsz : (W.alloc (.cells c.toArray e)).heap.size = W.heap.size + 1 := by show (W.heap.push _).size = _; simp
  obtain ⟨v', W', hr, h2, hg, _⟩ := run_append_own (w := W.alloc (.cells c.toArray e)) base t ty e i z m bts ht hi hz1 hs1 hb1 hz hm v n xs ho ⟨W.heap.size, 0, none⟩ 1 1 c (by omega) (fun j u hu => by
    have e1 : ((⟨W.heap.size, 0, none⟩ : Addr).add j) = ⟨W.heap.size, j, none⟩ := by unfold Addr.add; split <;> simp_all
    rw [e1, cell_at (hp_new W _), List.getElem?_toArray]
    exact hu) h1 (by unfold maxLen; omega) hn (by rw [hsz]; omega)
  exact ⟨v', W', hr, h2, ((Below.refl base W).alloc hbase _).grown hg (by rw [hsz]; omega) (fun k hk => (World.ownsRow.lt hown k hk).1)⟩
theorem wpList_append_st {t e : TypeId} {z : Value} {m bts : Nat} (ht : Tryz.prog.underlying t = some (.slice e)) (hi : ∃ i, Tryz.prog.info? e = some i ∧ i.zero = some z ∧ i.size = m ∧ i.bytes = bts) (hz : z.cells.size = m) (hm : 0 < m)
    {ops : Array Oper} {rest : List Oper} {o : Oper} {a : Act} {Q : Exit → Act → World → Prop} (hgd : o.guard = none) (s x : Operand)
    (ho : o.op = .call { callee := .builtin .append, args := #[s, x], argTypes := #[t, t] }) (W : World) (base : Nat) (v : Value) (n : Nat) (xs c : List Value) (hs : a.eval s = v) (hx : a.eval x = .slice (some ⟨W.heap.size, 0, none⟩) 1 1)
    (hown : W.ownsRow base e m v n xs) (hc : c.length = m) (h1 : ∀ u ∈ c, u.oneCell' = true) (hn : (n + 1) * bts ≤ 140737488355328) (hn2 : n + 1 ≤ 140737488355328) (hbase : base ≤ W.heap.size)
    (h : ∀ v' W', W'.ownsRow base e m v' (n + 1) (xs ++ c) → Below base W W' → wpList Tryz.prog ops Q rest (a.put o.dst v') W') : wpList Tryz.prog ops Q (o :: rest) a (W.alloc (.cells c.toArray e)) := by
  refine wpList_plain hgd fun K hK => ?_
  obtain ⟨v', W', hr, h2, h3⟩ := append_st ht hi hz hm W base o.type v n xs c hown hc h1 hn hn2 hbase
  unfold Oper.wp execOp
  simp only [ho, resolve, invoke, builtin, Sem.run_bind, Sem.run_pure, Result.andThen_ok, List.map_toArray, List.map_cons, List.map_nil, hs, hx, hr]
  exact hK _ _ (h v' W' h2 h3)

theorem fold_set : ∀ (l pre post : List Value), post.length = l.length → (l.zipIdx pre.length).foldl (fun (cs : Array Value) (x : Value × Nat) => cs.setIfInBounds (0 + x.2) x.1) (pre ++ post).toArray = (pre ++ l).toArray
  | [], pre, post, h => by
    have : post = [] := List.eq_nil_of_length_eq_zero h
    subst this
    rfl
  | c :: l, pre, [], h => by simp at h
  | c :: l, pre, p :: post, h => by
    have ih := fold_set l (pre ++ [c]) post (by simpa using h)
    rw [List.length_append, List.length_singleton] at ih
    rw [List.zipIdx_cons, List.foldl_cons, Nat.zero_add, List.setIfInBounds_toArray, List.set_append_right _ _ (Nat.le_refl _), Nat.sub_self, List.set_cons_zero]
    simpa using ih
theorem fill_one (c : List Value) (A : Array Value) (m : Nat) (hc : c.length = m) (hA : A.size = m) : Instr.fill (fun i => some (i * m, m)) A [(0, .agg c.toArray)] = some c.toArray := by
  have e := fold_set c [] A.toList (by rw [Array.length_toList]; omega)
  have e3 : (Value.agg c.toArray).cells = c.toArray := rfl
  unfold Instr.fill
  simp only [e3, Nat.zero_mul]
  rw [if_neg (by simp; omega)]
  unfold Instr.fill
  rw [← Array.foldl_toList, Array.toList_zipIdx]
  exact congrArg some (by simpa using e)
theorem wpList_build_st {t e : TypeId} {z : Value} {m bts : Nat} (ht : Tryz.prog.underlying t = some (.slice e)) (hi : ∃ i, Tryz.prog.info? e = some i ∧ i.zero = some z ∧ i.size = m ∧ i.bytes = bts) (hm : 0 < m) (hm2 : m ≤ 1024)
    {ops : Array Oper} {rest : List Oper} {o : Oper} {a : Act} {w : World} {Q : Exit → Act → World → Prop} (hgd : o.guard = none) (x : Operand) (ho : o.op = .buildSlice t 1 #[(0, x)]) (c : List Value) (hx : a.eval x = .agg c.toArray) (hc : c.length = m)
    (h : wpList Tryz.prog ops Q rest (a.put o.dst (.slice (some ⟨w.heap.size, 0, none⟩) 1 1)) (w.alloc (.cells c.toArray e))) : wpList Tryz.prog ops Q (o :: rest) a w := by
  obtain ⟨i, hi, hz1, hs1, hb1⟩ := hi
  refine wpList_buildSlice hgd t e 1 _ ho c.toArray i z ht hi hz1 (by rw [hs1]; omega) (by rw [hs1]; omega) ?_ h
  simp only [List.map_toArray, List.map_cons, List.map_nil, hx, hs1]
  exact fill_one c _ m hc (by simp)

/-! ### What is turned about -/
theorem memB_iff (A : List ByteArray) (n : ByteArray) : memB A n = true ↔ n ∈ A := by
  unfold memB
  rw [List.any_eq_true]
  constructor
  · rintro ⟨x, hx, h⟩
    rw [of_decide_eq_true h]
    exact hx
  · exact fun h => ⟨n, h, by simp⟩
theorem twB_iff (A : List ByteArray) : twB A A.length = true ↔ ¬ A.Nodup := by
  unfold twB
  rw [List.any_eq_true]
  constructor
  · rintro ⟨i, hi, hm⟩ hn
    have hil := List.mem_range.1 hi
    rw [memB_iff, List.getD_eq_getElem?_getD, List.getElem?_eq_getElem hil, Option.getD_some] at hm
    obtain ⟨j, hj, e⟩ := List.getElem_of_mem hm
    rw [List.length_take] at hj
    rw [List.getElem_take] at e
    exact (List.pairwise_iff_getElem.1 hn j i (by omega) hil (by omega)) e
  · intro hn
    apply Classical.byContradiction
    intro hx
    apply hn
    refine List.pairwise_iff_getElem.2 fun i j hi hj hij e => hx ⟨j, List.mem_range.2 hj, ?_⟩
    rw [memB_iff, List.getD_eq_getElem?_getD, List.getElem?_eq_getElem hj, Option.getD_some, ← e]
    exact List.mem_iff_getElem.2 ⟨i, by rw [List.length_take]; omega, by rw [List.getElem_take]⟩
theorem twB_rev (A : List ByteArray) : twB A.reverse A.length = twB A A.length := by
  rw [Bool.eq_iff_iff, twB_iff]
  have := twB_iff A.reverse
  rw [List.length_reverse] at this
  rw [this, (List.reverse_perm A).nodup_iff]
def revC (C : Cfg) : Cfg := { C with H := C.H.reverse, R := C.R.reverse }
theorem hostsB_rev (L : List Hst) : hostsB L.reverse = hostsB L := by
  unfold hostsB
  have e : nmsH L.reverse = (nmsH L).reverse := by unfold nmsH; rw [List.map_reverse]
  have e2 : L.length = (nmsH L).length := by unfold nmsH; rw [List.length_map]
  rw [List.all_reverse, e, List.length_reverse]
  congr 2
  rw [e2, twB_rev]
theorem routesB_rev (L : List Rt) (n : Int) : routesB L.reverse n = routesB L n := by
  unfold routesB
  rw [List.all_reverse, List.length_reverse]
theorem cfgB_rev (C : Cfg) : cfgB (revC C) = cfgB C := by
  unfold cfgB revC
  simp only
  rw [hostsB_rev, List.length_reverse, routesB_rev]
theorem cfgE_rev (C : Cfg) : cfgE (revC C) = cfgE C := by unfold cfgE; rw [cfgB_rev]
theorem capsI_app (A B : List Hst) : capsI (A ++ B) = capsI A + capsI B := by unfold capsI; rw [List.map_append, List.sum_append]
theorem capsI_rev : ∀ L : List Hst, capsI L.reverse = capsI L
  | [] => rfl
  | x :: r => by
    rw [List.reverse_cons, capsI_app, capsI_rev r]
    unfold capsI
    simp
    omega
/-! ### Its rows -/
def hC (x : Hst) : List Value := [.string x.nm, .int .i64 x.ca, .int .i64 x.pe]
theorem HRow.tb {W : World} {a : Option Addr} {k : Nat} {L : List Hst} (h : HRow W (.slice a L.length k) L) : Tb W a 3 (L.map hC) := by
  obtain ⟨a', c', e, h⟩ := h
  simp only [Value.slice.injEq] at e
  obtain ⟨rfl, -, rfl⟩ := e
  intro j hj
  rw [List.length_map] at hj
  obtain ⟨g, o, h1, h2, h3, h4, h5⟩ := h j hj
  refine ⟨g, o, h1, h2, fun i v hv => ?_⟩
  rw [List.getElem_map] at hv
  unfold hC at hv
  match i, hv with
  | 0, hv => simp at hv; rw [← hv]; exact h3
  | 1, hv => simp at hv; rw [← hv]; exact h4
  | 2, hv => simp at hv; rw [← hv]; exact h5
  | i + 3, hv => simp at hv
theorem HRow.of_tb {W : World} {a : Option Addr} {k : Nat} {L : List Hst} (h : Tb W a 3 (L.map hC)) : HRow W (.slice a L.length k) L := by
  refine ⟨a, k, rfl, fun j hj => ?_⟩
  obtain ⟨g, o, h1, h2, h3⟩ := h j (by rw [List.length_map]; exact hj)
  rw [List.getElem_map] at h3
  exact ⟨g, o, h1, h2, h3 0 _ rfl, h3 1 _ rfl, h3 2 _ rfl⟩
theorem hC_cm (L : List Hst) : Cm 3 (L.map hC) := by
  intro c hc
  obtain ⟨x, _, rfl⟩ := List.mem_map.1 hc
  refine ⟨rfl, fun u hu => ?_⟩
  unfold hC at hu
  simp only [List.mem_cons, List.not_mem_nil, or_false] at hu
  rcases hu with rfl | rfl | rfl <;> rfl
/-- The cells c are those of the route r. -/
def RC (W : World) (r : Rt) (c : List Value) : Prop := ∃ m q, c = rtC r m q ∧ SRow W m r.M ∧ IRow W q r.H ∧ capOk q
theorem RC.below {W W' : World} {r : Rt} {c : List Value} (h : RC W r c) (b : Below W.heap.size W W') : RC W' r c := by
  obtain ⟨m, q, e, h1, h2, h3⟩ := h
  exact ⟨m, q, e, h1.below b, h2.below b, h3⟩
theorem RRow.tb {W : World} {a : Option Addr} {k : Nat} {L : List Rt} (h : RRow W (.slice a L.length k) L) : ∃ CS : List (List Value), CS.length = L.length ∧ Tb W a 21 CS ∧ ∀ j (h1 : j < L.length) (h2 : j < CS.length), RC W L[j] CS[j] := by
  obtain ⟨a', c', e, h⟩ := h
  simp only [Value.slice.injEq] at e
  obtain ⟨rfl, -, rfl⟩ := e
  have key : ∀ j (hj : j < L.length), ∃ c, RC W L[j] c ∧ ∃ g o, a = some ⟨g, o, none⟩ ∧ g < W.heap.size ∧ W.rangeAt g (o + j * 21) c := fun j hj => by
    obtain ⟨g, o, m, q, h1, h2, hm, hq, hcq, z0, z1, z2, z3, z4, z5, z6, z7, z8, z9, z10, z11, z12, z13, z14, z15, z16, z17, z18, z19, z20⟩ := h j hj
    refine ⟨rtC L[j] m q, ⟨m, q, rfl, hm, hq, hcq⟩, g, o, h1, h2, fun i v hv => ?_⟩
    unfold rtC at hv
    match i, hv with
    | 0, hv => simp at hv; rw [← hv]; exact z0
    | 1, hv => simp at hv; rw [← hv]; exact z1
    | 2, hv => simp at hv; rw [← hv]; exact z2
    | 3, hv => simp at hv; rw [← hv]; exact z3
    | 4, hv => simp at hv; rw [← hv]; exact z4
    | 5, hv => simp at hv; rw [← hv]; exact z5
    | 6, hv => simp at hv; rw [← hv]; exact z6
    | 7, hv => simp at hv; rw [← hv]; exact z7
    | 8, hv => simp at hv; rw [← hv]; exact z8
    | 9, hv => simp at hv; rw [← hv]; exact z9
    | 10, hv => simp at hv; rw [← hv]; exact z10
    | 11, hv => simp at hv; rw [← hv]; exact z11
    | 12, hv => simp at hv; rw [← hv]; exact z12
    | 13, hv => simp at hv; rw [← hv]; exact z13
    | 14, hv => simp at hv; rw [← hv]; exact z14
    | 15, hv => simp at hv; rw [← hv]; exact z15
    | 16, hv => simp at hv; rw [← hv]; exact z16
    | 17, hv => simp at hv; rw [← hv]; exact z17
    | 18, hv => simp at hv; rw [← hv]; exact z18
    | 19, hv => simp at hv; rw [← hv]; exact z19
    | 20, hv => simp at hv; rw [← hv]; exact z20
    | i + 21, hv => simp at hv
  refine ⟨(List.range L.length).map fun j => if hj : j < L.length then Classical.choose (key j hj) else [], by simp, fun j hj => ?_, fun j h1 h2 => ?_⟩
  · have hj2 : j < L.length := by simpa using hj
    obtain ⟨_, g, o, h1, h2, h3⟩ := Classical.choose_spec (key j hj2)
    refine ⟨g, o, h1, h2, ?_⟩
    simp only [List.getElem_map, List.getElem_range, dif_pos hj2]
    exact h3
  · simp only [List.getElem_map, List.getElem_range, dif_pos h1]
    exact (Classical.choose_spec (key j h1)).1
theorem RRow.of_tb {W : World} {a : Option Addr} {k : Nat} {L : List Rt} {CS : List (List Value)} (hl : CS.length = L.length) (h : Tb W a 21 CS) (hr : ∀ j (h1 : j < L.length) (h2 : j < CS.length), RC W L[j] CS[j]) : RRow W (.slice a L.length k) L := by
  refine ⟨a, k, rfl, fun j hj => ?_⟩
  obtain ⟨g, o, h1, h2, h3⟩ := h j (by omega)
  obtain ⟨m, q, e, hm, hq, hcq⟩ := hr j hj (by omega)
  rw [e] at h3
  exact ⟨g, o, m, q, h1, h2, hm, hq, hcq, h3 0 _ rfl, h3 1 _ rfl, h3 2 _ rfl, h3 3 _ rfl, h3 4 _ rfl, h3 5 _ rfl, h3 6 _ rfl, h3 7 _ rfl, h3 8 _ rfl, h3 9 _ rfl, h3 10 _ rfl, h3 11 _ rfl, h3 12 _ rfl, h3 13 _ rfl, h3 14 _ rfl, h3 15 _ rfl, h3 16 _ rfl, h3 17 _ rfl, h3 18 _ rfl, h3 19 _ rfl, h3 20 _ rfl⟩
theorem RC.cm {W : World} {L : List Rt} {CS : List (List Value)} (hl : CS.length = L.length) (hr : ∀ j (h1 : j < L.length) (h2 : j < CS.length), RC W L[j] CS[j]) : Cm 21 CS := by
  intro c hc
  obtain ⟨j, hj, rfl⟩ := List.getElem_of_mem hc
  obtain ⟨m, q, e, hm, hq, hcq⟩ := hr j (by omega) hj
  obtain ⟨am, cm, rfl, _⟩ := hm
  obtain ⟨aq, cq, rfl, _⟩ := hq
  rw [e]
  refine ⟨rfl, fun u hu => ?_⟩
  unfold rtC at hu
  simp only [List.mem_cons, List.not_mem_nil, or_false] at hu
  rcases hu with rfl | rfl | rfl | rfl | rfl | rfl | rfl | rfl | rfl | rfl | rfl | rfl | rfl | rfl | rfl | rfl | rfl | rfl | rfl | rfl | rfl <;> rfl
theorem InC.turned {w W : World} {a1 a2 b1 b2 : Option Addr} {k1 k2 l1 l2 : Nat} {C : Cfg} {CS : List (List Value)} (h : InC w a1 a2 k1 k2 C) (b : Below w.heap.size w W) (hl : CS.length = C.R.length) (hr : ∀ j (h1 : j < C.R.length) (h2 : j < CS.length), RC w C.R[j] CS[j])
    (t1 : Tb W b1 3 (C.H.map hC).reverse) (t2 : Tb W b2 21 CS.reverse) : InC W b1 b2 l1 l2 (revC C) := by
  have q := h.below b
  refine ⟨HRow.of_tb (L := C.H.reverse) (by rw [List.map_reverse]; exact t1), RRow.of_tb (L := C.R.reverse) (CS := CS.reverse) (by simp [hl]) t2 (fun j h1 h2 => ?_), fun x hx => h.hs x (List.mem_reverse.1 hx), fun x hx => h.rs x (List.mem_reverse.1 hx), q.g0, q.g1, q.g2, q.mx⟩
  have h3 : j < C.R.length := by simpa using h1
  rw [List.getElem_reverse, List.getElem_reverse]
  have := (hr (C.R.length - 1 - j) (by omega) (by omega)).below b
  simp only [hl]
  exact this
/-! ### Its lengths -/
theorem bulk_manyZ {H : Type} : ∀ (l : List (DataW H)), l.length ≤ Rows.uptoBulkAll l
  | [] => Nat.zero_le _
  | d :: r => by
    have h1 := bulk_manyZ r
    have h2 : 1 ≤ Rows.uptoBulk d := by
      cases d with
      | lit x => cases x <;> simp [Rows.uptoBulk]
      | _ => simp [Rows.uptoBulk]
    simp only [Rows.uptoBulkAll, List.length_cons]
    omega
section
variable {H : Type} {enc : TypeId × Value → H} {W : World}
theorem slice_len {T E : TypeId} (ht : Tryz.prog.underlying T = some (.slice E)) {fuel : Nat} {a : Option Addr} {n c : Nat} {x : DataW H × List MemPlace} (h : Trd enc W fuel T [.slice a n c] x) : n ≤ Rows.uptoBulk x.1 := by
  rcases open_slice ht h with ⟨hcs, _⟩ | ⟨ad, len, cap, mm, n', D, Pl, hcs, _, hl, hm, hmm, hx, hel⟩
  · simp only [List.cons.injEq, and_true, Value.slice.injEq] at hcs
    omega
  · simp only [List.cons.injEq, and_true, Value.slice.injEq] at hcs
    obtain ⟨-, rfl, rfl⟩ := hcs
    rw [(Prod.mk.inj hx).1]
    have := bulk_manyZ ((List.range n).map D)
    simp only [Rows.uptoBulk]
    simp only [List.length_map, List.length_range] at this
    omega
set_option maxRecDepth 100000 in
theorem cfg_len {a1 a2 : Option Addr} {k1 k2 : Nat} {C : Cfg} {d : DataW H} {p : List MemPlace} (h : DataW.Trod enc Tryz.prog W 0 (fun _ => true) true 25 (cfgV a1 a2 k1 k2 C) d p) (hb : Rows.uptoBulk d ≤ 1048576) : C.H.length ≤ 1048576 ∧ C.R.length ≤ 1048576 := by
  obtain ⟨fuel, hf⟩ := h
  obtain ⟨hl, F⟩ := fld_at Tryz.underlying25 hf
  unfold cfgV at F
  simp only [Value.cells] at F
  obtain ⟨y0, n0, h0, b0⟩ := F 0 22 0 rfl
  obtain ⟨y1, n1, h1, b1⟩ := F 1 23 1 rfl
  simp only [c1_h, c1_r, List.drop_zero, List.drop_succ_cons, List.take_succ_cons, List.take_zero] at h0 h1
  have q0 := slice_len Tryz.underlying22 h0
  have q1 := slice_len Tryz.underlying23 h1
  omega
end
end Go.Proofs.YtekkhjlipijmcaaGreatDoor
