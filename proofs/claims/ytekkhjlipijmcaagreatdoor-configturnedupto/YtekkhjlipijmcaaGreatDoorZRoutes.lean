/- Rows of routes; whether a configuration may have these routes: the program's. -/
import Derived.Test.YtekkhjlipijmcaaGreatDoorZHosts
import Derived.Test.YtekkhjlipijmcaaGreatDoorZMatch
import Derived.Test.YtekkhjlipijmcaaGreatDoorZFits2
import Derived.Deep.MidRow
import Derived.Deep.WholeRow
namespace Go.Proofs.YtekkhjlipijmcaaGreatDoor
open Go.ChangeShapes Go.WideShapes Go.ChangeAt Go.RowKit
set_option linter.unusedVariables false

/-- A struct that was loaded goes into the block that was made for it. -/
theorem wpList_store_new {P : Program} {ops : Array Oper} {rest : List Oper} {op : Oper} {a : Act} {w : World} {Q : Exit → Act → World → Prop} (hgd : op.guard = none) (ty : TypeId) (x y : Operand) (ho : op.op = .store ty x y)
    (c cells : Array Value) (hx : a.eval x = .pointer (some ⟨w.heap.size, 0, none⟩)) (hy : a.eval y = .agg cells) (hi : (P.info? ty).map (·.size) = some cells.size) (hc : c.size = cells.size) (h1 : cells.all (·.oneCell') = true)
    (h : wpList P ops Q rest (a.put op.dst undef) (w.alloc (.cells cells ty))) : wpList P ops Q (op :: rest) a (w.alloc (.cells c ty)) := by
  refine wpList_plain hgd fun K hK => ?_
  unfold Oper.wp execOp
  simp only [ho, hx, hy, Sem.run_bind, run_storeAt_new w ty c cells hi hc h1, Sem.run_pure, Result.andThen_ok]
  exact hK _ _ h
/-- An operation that is wanted, behind whatever guard. -/
theorem wpList_want {P : Program} {ops : Array Oper} {rest : List Oper} {o : Oper} {a : Act} {w : World} {Q : Exit → Act → World → Prop} (hw : Region.wanted o (yielded ops a.tmps) = true)
    (h : ∀ K : Act → World → Prop, (∀ a w, wpList P ops Q rest a w → K a w) → o.wp P a w K Q) : wpList P ops Q (o :: rest) a w := by
  unfold wpList
  rw [if_pos hw]
  exact .inl (h _ (fun _ _ x => x))
/-- A route. -/
structure Rt where
  ho : ByteArray
  pf : ByteArray
  M : List ByteArray
  hd : ByteArray
  va : ByteArray
  H : List Int
  r0 : Int
  r1 : Int
  r2 : Int
  r3 : Int
  r4 : Int
  r5 : Int
  r6 : Int
  r7 : Int
  r8 : Int
  r9 : Int
  r10 : Int
  r11 : Int
  r12 : Int
  r13 : Int
  r14 : Int

/-- The texts of a route are not too long. -/
structure Rt.Sz (r : Rt) : Prop where
  ho : r.ho.size ≤ 1048576
  hd : r.hd.size ≤ 1048576
  va : r.va.size ≤ 1048576
  M : ∀ x ∈ r.M, x.size ≤ 1048576
def capOk (v : Value) : Prop := ∀ a n c, v = .slice a n c → n ≤ c ∧ c ≤ maxLen
/-- The slice v reads as the routes L, wherever it begins. -/
def RRow (W : World) (v : Value) (L : List Rt) : Prop := ∃ (a : Option Addr) (c : Nat), v = .slice a L.length c ∧ ∀ j (h : j < L.length), ∃ g o m q, a = some ⟨g, o, none⟩ ∧ g < W.heap.size ∧ SRow W m L[j].M ∧ IRow W q L[j].H ∧ capOk q ∧ W.cell? ⟨g, o + j * 21, none⟩ = some (.string L[j].ho) ∧ W.cell? ⟨g, o + j * 21 + 1, none⟩ = some (.string L[j].pf) ∧ W.cell? ⟨g, o + j * 21 + 2, none⟩ = some (m) ∧ W.cell? ⟨g, o + j * 21 + 3, none⟩ = some (.string L[j].hd) ∧ W.cell? ⟨g, o + j * 21 + 4, none⟩ = some (.string L[j].va) ∧ W.cell? ⟨g, o + j * 21 + 5, none⟩ = some (q) ∧ W.cell? ⟨g, o + j * 21 + 6, none⟩ = some (.int .i64 L[j].r0) ∧ W.cell? ⟨g, o + j * 21 + 7, none⟩ = some (.int .i64 L[j].r1) ∧ W.cell? ⟨g, o + j * 21 + 8, none⟩ = some (.int .i64 L[j].r2) ∧ W.cell? ⟨g, o + j * 21 + 9, none⟩ = some (.int .i64 L[j].r3) ∧ W.cell? ⟨g, o + j * 21 + 10, none⟩ = some (.int .i64 L[j].r4) ∧ W.cell? ⟨g, o + j * 21 + 11, none⟩ = some (.int .i64 L[j].r5) ∧ W.cell? ⟨g, o + j * 21 + 12, none⟩ = some (.int .i64 L[j].r6) ∧ W.cell? ⟨g, o + j * 21 + 13, none⟩ = some (.int .i64 L[j].r7) ∧ W.cell? ⟨g, o + j * 21 + 14, none⟩ = some (.int .i64 L[j].r8) ∧ W.cell? ⟨g, o + j * 21 + 15, none⟩ = some (.int .i64 L[j].r9) ∧ W.cell? ⟨g, o + j * 21 + 16, none⟩ = some (.int .i64 L[j].r10) ∧ W.cell? ⟨g, o + j * 21 + 17, none⟩ = some (.int .i64 L[j].r11) ∧ W.cell? ⟨g, o + j * 21 + 18, none⟩ = some (.int .i64 L[j].r12) ∧ W.cell? ⟨g, o + j * 21 + 19, none⟩ = some (.int .i64 L[j].r13) ∧ W.cell? ⟨g, o + j * 21 + 20, none⟩ = some (.int .i64 L[j].r14)
theorem RRow.below {W W' : World} {v : Value} {L : List Rt} (h : RRow W v L) (hb : Below W.heap.size W W') : RRow W' v L := by
  obtain ⟨a, c, rfl, hc⟩ := h
  refine ⟨a, c, rfl, fun j hj => ?_⟩
  obtain ⟨g, o, m, q, h1, h2, hm, hq, hcq, k0, k1, k2, k3, k4, k5, k6, k7, k8, k9, k10, k11, k12, k13, k14, k15, k16, k17, k18, k19, k20⟩ := hc j hj
  exact ⟨g, o, m, q, h1, Nat.lt_of_lt_of_le h2 hb.size, hm.below hb, hq.below hb, hcq, (hb.cell (p := ⟨g, o + j * 21, none⟩) h2).trans k0, (hb.cell (p := ⟨g, o + j * 21 + 1, none⟩) h2).trans k1, (hb.cell (p := ⟨g, o + j * 21 + 2, none⟩) h2).trans k2, (hb.cell (p := ⟨g, o + j * 21 + 3, none⟩) h2).trans k3, (hb.cell (p := ⟨g, o + j * 21 + 4, none⟩) h2).trans k4, (hb.cell (p := ⟨g, o + j * 21 + 5, none⟩) h2).trans k5, (hb.cell (p := ⟨g, o + j * 21 + 6, none⟩) h2).trans k6, (hb.cell (p := ⟨g, o + j * 21 + 7, none⟩) h2).trans k7, (hb.cell (p := ⟨g, o + j * 21 + 8, none⟩) h2).trans k8, (hb.cell (p := ⟨g, o + j * 21 + 9, none⟩) h2).trans k9, (hb.cell (p := ⟨g, o + j * 21 + 10, none⟩) h2).trans k10, (hb.cell (p := ⟨g, o + j * 21 + 11, none⟩) h2).trans k11, (hb.cell (p := ⟨g, o + j * 21 + 12, none⟩) h2).trans k12, (hb.cell (p := ⟨g, o + j * 21 + 13, none⟩) h2).trans k13, (hb.cell (p := ⟨g, o + j * 21 + 14, none⟩) h2).trans k14, (hb.cell (p := ⟨g, o + j * 21 + 15, none⟩) h2).trans k15, (hb.cell (p := ⟨g, o + j * 21 + 16, none⟩) h2).trans k16, (hb.cell (p := ⟨g, o + j * 21 + 17, none⟩) h2).trans k17, (hb.cell (p := ⟨g, o + j * 21 + 18, none⟩) h2).trans k18, (hb.cell (p := ⟨g, o + j * 21 + 19, none⟩) h2).trans k19, (hb.cell (p := ⟨g, o + j * 21 + 20, none⟩) h2).trans k20⟩
def numsR (r : Rt) : List Int := [r.r0, r.r1, r.r2, r.r3, r.r4, r.r5, r.r6, r.r7, r.r8, r.r9, r.r10, r.r11, r.r12, r.r13, r.r14]
def okR (n : Int) (r : Rt) : Bool := matB r.ho r.pf r.M r.hd r.va && (numsB r.H n && fitK (numsR r) routeFits_anyL 15)
def routesB (L : List Rt) (n : Int) : Bool := decide (1 ≤ L.length ∧ L.length ≤ 16) && L.all (okR n)
theorem allR_snoc {L : List Rt} {n : Int} {k : Nat} (h : k < L.length) : (L.take (k + 1)).all (okR n) = ((L.take k).all (okR n) && okR n L[k]) := by
  rw [List.take_succ_eq_append_getElem h, List.all_append]; simp
theorem allR_no {L : List Rt} {n : Int} {k : Nat} (h : k < L.length) (hp : okR n L[k] = false) : L.all (okR n) = false := by
  rw [List.all_eq_false]
  exact ⟨L[k], List.getElem_mem h, by rw [hp]; decide⟩
set_option maxHeartbeats 4000000 in
set_option maxRecDepth 100000 in
theorem routes_any (w : World) (v : Value) (L : List Rt) (hn : Int) (h : RRow w v L) (hs : ∀ x ∈ L, x.Sz) (hR : RG w 1 routeFits_anyL) (hm : MX w) :
    Calls Tryz.prog 18 #[v, .int .i64 hn] w fun e w' => e = .returned (.bool (routesB L hn)) ∧ Below w.heap.size w w' := by
  have H0 := hide h
  have HRG := hide hR
  have HS0 := hide hs
  have HM := hide hm
  obtain ⟨a, c, rfl, _⟩ := h
  obtain ⟨R, HV⟩ : ∃ R, Hid (routesB L hn = R) := ⟨_, hide rfl⟩
  rw [HV.out]
  unfold routesB at HV
  clear hR hs hm
  obtain ⟨n, Hn⟩ : ∃ n, Hid (L.length = n) := ⟨_, hide rfl⟩
  rw [Hn.out] at HV ⊢
  by_cases h1 : n < 1
  · have HD := hide (decide_eq_false (p := 1 ≤ n ∧ n ≤ 16) (by omega))
    go_enter Tryz.func18, Tryz.ntmps18
    go_wp2
    go_ret
    exact ⟨ret_bool (by rw [← HV.out, HD.out]; rfl), Below.refl _ _⟩
  · by_cases h2 : 16 < n
    · have HD := hide (decide_eq_false (p := 1 ≤ n ∧ n ≤ 16) (by omega))
      go_enter Tryz.func18, Tryz.ntmps18
      go_wp2
      go_ret
      exact ⟨ret_bool (by rw [← HV.out, HD.out]; rfl), Below.refl _ _⟩
    · have HD := hide (decide_eq_true (p := 1 ≤ n ∧ n ≤ 16) (by omega))
      rw [HD.out, Bool.true_and] at HV
      clear HD
      go_enter Tryz.func18, Tryz.ntmps18
      go_wp2
      go_loopw [17] (fun i wr => ∃ k : Nat, k ≤ n ∧ i = .int .i64 k ∧ Hid ((L.take k).all (okR hn) = true) ∧ Hid (Below w.heap.size w wr)) (fun i _ => n - (intOf i).toNat)
      case atStart => exact ⟨0, Nat.zero_le _, rfl, hide rfl, hide (Below.refl _ _)⟩
      case round =>
        obtain ⟨k, hk, rfl, H, HB⟩ := hrel
        by_cases hlt : k < n
        · obtain ⟨a9, c9, he2, hcv⟩ := H0.out.below HB.out
          rw [Hn.out] at he2
          simp only [Value.slice.injEq, true_and] at he2
          obtain ⟨rfl, rfl⟩ := he2
          have hlL : k < L.length := by rw [Hn.out]; exact hlt
          obtain ⟨g, o, m, q, rfl, hg, SM, SQ, cq, k0, k1, k2, k3, k4, k5, k6, k7, k8, k9, k10, k11, k12, k13, k14, k15, k16, k17, k18, k19, k20⟩ := hcv k hlL
          have HS := hide (allR_snoc (n := hn) hlL)
          have HNO := hide (allR_no (n := hn) hlL)
          have hsz := HS0.out L[k] (List.getElem_mem hlL)
          generalize L[k] = y at *
          obtain ⟨ho, pf, M, hd, va, HL, r0, r1, r2, r3, r4, r5, r6, r7, r8, r9, r10, r11, r12, r13, r14⟩ := y
          simp only at SM SQ k0 k1 k2 k3 k4 k5 k6 k7 k8 k9 k10 k11 k12 k13 k14 k15 k16 k17 k18 k19 k20
          have HSM := hide SM
          have HSQ := hide SQ
          have Hcq := hide cq
          have HSZ := hide hsz
          have ho9 : okR hn ⟨ho, pf, M, hd, va, HL, r0, r1, r2, r3, r4, r5, r6, r7, r8, r9, r10, r11, r12, r13, r14⟩ = (matB ho pf M hd va && (numsB HL hn && fitK [r0, r1, r2, r3, r4, r5, r6, r7, r8, r9, r10, r11, r12, r13, r14] routeFits_anyL 15)) := rfl
          rw [ho9] at HS HNO
          obtain ⟨a1, c1, rfl, -⟩ := SM
          obtain ⟨a2, c2, rfl, -⟩ := SQ
          have HMA := hide (fun W h h2 => match_any W ho pf (.slice a1 M.length c1) M hd va h HSZ.out.M HSZ.out.ho HSZ.out.hd HSZ.out.va h2)
          have HNU := hide (fun W h => nums_any W (.slice a2 HL.length c2) HL hn h Hcq.out)
          obtain ⟨n1, Hn1⟩ : ∃ n1, Hid (M.length = n1) := ⟨_, hide rfl⟩
          obtain ⟨n2, Hn2⟩ : ∃ n2, Hid (HL.length = n2) := ⟨_, hide rfl⟩
          rw [Hn1.out] at k2 HMA HSM
          rw [Hn2.out] at k5 HNU HSQ
          have HFI := hide (fun W h => routeFits_any W ho pf a1 n1 c1 hd va a2 n2 c2 r0 r1 r2 r3 r4 r5 r6 r7 r8 r9 r10 r11 r12 r13 r14 h)
          generalize matB ho pf M hd va = b1 at HMA HS HNO
          generalize numsB HL hn = b2 at HNU HS HNO
          generalize fitK [r0, r1, r2, r3, r4, r5, r6, r7, r8, r9, r10, r11, r12, r13, r14] routeFits_anyL 15 = b3 at HFI HS HNO
          clear hcv hg ho9 hsz hlL cq Hcq HSZ
          have HRA : Hid (wr.rangeAt g (o + k * 21) ([.string ho, .string pf, .slice a1 n1 c1, .string hd, .string va, .slice a2 n2 c2, .int .i64 r0, .int .i64 r1, .int .i64 r2, .int .i64 r3, .int .i64 r4, .int .i64 r5, .int .i64 r6, .int .i64 r7, .int .i64 r8, .int .i64 r9, .int .i64 r10, .int .i64 r11, .int .i64 r12, .int .i64 r13, .int .i64 r14] : List Value)) := hide (by
            intro j v hv
            match j, hv with
            | 0, hv => simp at hv; subst hv; exact k0
            | 1, hv => simp at hv; subst hv; exact k1
            | 2, hv => simp at hv; subst hv; exact k2
            | 3, hv => simp at hv; subst hv; exact k3
            | 4, hv => simp at hv; subst hv; exact k4
            | 5, hv => simp at hv; subst hv; exact k5
            | 6, hv => simp at hv; subst hv; exact k6
            | 7, hv => simp at hv; subst hv; exact k7
            | 8, hv => simp at hv; subst hv; exact k8
            | 9, hv => simp at hv; subst hv; exact k9
            | 10, hv => simp at hv; subst hv; exact k10
            | 11, hv => simp at hv; subst hv; exact k11
            | 12, hv => simp at hv; subst hv; exact k12
            | 13, hv => simp at hv; subst hv; exact k13
            | 14, hv => simp at hv; subst hv; exact k14
            | 15, hv => simp at hv; subst hv; exact k15
            | 16, hv => simp at hv; subst hv; exact k16
            | 17, hv => simp at hv; subst hv; exact k17
            | 18, hv => simp at hv; subst hv; exact k18
            | 19, hv => simp at hv; subst hv; exact k19
            | 20, hv => simp at hv; subst hv; exact k20
            | j + 21, hv => simp at hv)
          clear k0 k1 k2 k3 k4 k5 k6 k7 k8 k9 k10 k11 k12 k13 k14 k15 k16 k17 k18 k19 k20
          go_upto_region 5 with fail
          refine wp_region_lit ?_
          refine wpList_plain rfl fun K hK => ?_
          go_simp
          refine hK _ _ ?_
          clear hK K
          refine wpList_load_mid rfl 40 _ rfl g (o + k * 21) rfl ([.string ho, .string pf, .slice a1 n1 c1, .string hd, .string va, .slice a2 n2 c2, .int .i64 r0, .int .i64 r1, .int .i64 r2, .int .i64 r3, .int .i64 r4, .int .i64 r5, .int .i64 r6, .int .i64 r7, .int .i64 r8, .int .i64 r9, .int .i64 r10, .int .i64 r11, .int .i64 r12, .int .i64 r13, .int .i64 r14] : List Value) _ HRA.out Tryz.underlying40 rfl (by kernel_rfl) ?_
          simp only [Act.put, List.setIfInBounds_toArray, List.set_cons_zero, List.set_cons_succ]
          refine wpList_plain rfl fun K hK => ?_
          go_simp
          refine hK _ _ ?_
          clear hK K
          refine wpList_store_new rfl 40 _ _ rfl _ #[.string ho, .string pf, .slice a1 n1 c1, .string hd, .string va, .slice a2 n2 c2, .int .i64 r0, .int .i64 r1, .int .i64 r2, .int .i64 r3, .int .i64 r4, .int .i64 r5, .int .i64 r6, .int .i64 r7, .int .i64 r8, .int .i64 r9, .int .i64 r10, .int .i64 r11, .int .i64 r12, .int .i64 r13, .int .i64 r14] rfl rfl (by kernel_rfl) rfl (by simp [Value.oneCell']) ?_
          simp only [Act.put]
          refine wpList_nil ?_
          clear HRA
          go_upto_region 6 with fail
          have U1 := hide (Bl.one wr #[.string ho, .string pf, .slice a1 n1 c1, .string hd, .string va, .slice a2 n2 c2, .int .i64 r0, .int .i64 r1, .int .i64 r2, .int .i64 r3, .int .i64 r4, .int .i64 r5, .int .i64 r6, .int .i64 r7, .int .i64 r8, .int .i64 r9, .int .i64 r10, .int .i64 r11, .int .i64 r12, .int .i64 r13, .int .i64 r14] 40)
          generalize (wr.alloc (.cells #[.string ho, .string pf, .slice a1 n1 c1, .string hd, .string va, .slice a2 n2 c2, .int .i64 r0, .int .i64 r1, .int .i64 r2, .int .i64 r3, .int .i64 r4, .int .i64 r5, .int .i64 r6, .int .i64 r7, .int .i64 r8, .int .i64 r9, .int .i64 r10, .int .i64 r11, .int .i64 r12, .int .i64 r13, .int .i64 r14] 40)) = x at U1 ⊢
          have d0 : x.cell? ⟨wr.heap.size, 0, none⟩ = some (.string ho) := U1.out.cell 0 rfl 0
          have d1 : x.cell? ⟨wr.heap.size, 1, none⟩ = some (.string pf) := U1.out.cell 0 rfl 1
          have d2 : x.cell? ⟨wr.heap.size, 2, none⟩ = some (.slice a1 n1 c1) := U1.out.cell 0 rfl 2
          have d3 : x.cell? ⟨wr.heap.size, 3, none⟩ = some (.string hd) := U1.out.cell 0 rfl 3
          have d4 : x.cell? ⟨wr.heap.size, 4, none⟩ = some (.string va) := U1.out.cell 0 rfl 4
          go_wp2_with fail
          refine (HMA.out _ (HSM.out.below U1.out.b) (HM.out.below (HB.out.trans (U1.out.b.mono HB.out.size)))).mono ?_
          rintro e w1 ⟨rfl, bb⟩
          have U2 := hide (U1.out.below bb)
          clear bb U1 d0 d1 d2 d3 d4
          cases b1
          · have HX := hide (HNO.out rfl)
            go_wp2_with fail
            go_ret
            exact ⟨ret_bool (by rw [← HV.out, HX.out]), HB.out.trans (U2.out.b.mono HB.out.size)⟩
          · have d5 : w1.cell? ⟨wr.heap.size, 5, none⟩ = some (.slice a2 n2 c2) := U2.out.cell 0 rfl 5
            go_wp2_with fail
            refine (HNU.out _ (HSQ.out.below U2.out.b)).mono ?_
            rintro e w2 ⟨rfl, e9⟩
            rw [e9]
            clear d5 e9 w2
            cases b2
            · have HX := hide (HNO.out rfl)
              go_wp2_with fail
              go_ret
              exact ⟨ret_bool (by rw [← HV.out, HX.out]), HB.out.trans (U2.out.b.mono HB.out.size)⟩
            · have HRA2 : Hid (w1.rangeAt wr.heap.size 0 ([.string ho, .string pf, .slice a1 n1 c1, .string hd, .string va, .slice a2 n2 c2, .int .i64 r0, .int .i64 r1, .int .i64 r2, .int .i64 r3, .int .i64 r4, .int .i64 r5, .int .i64 r6, .int .i64 r7, .int .i64 r8, .int .i64 r9, .int .i64 r10, .int .i64 r11, .int .i64 r12, .int .i64 r13, .int .i64 r14] : List Value)) := hide (by
                intro j v hv
                rw [Nat.zero_add]
                exact (U2.out.cell 0 rfl j).trans (by rw [List.getElem?_toArray]; exact hv))
              rename_i hKK
              refine hKK _ _ ?_
              clear hKK
              refine wpList_want (by kernel_rfl) fun K hK => ?_
              go_simp
              refine hK _ _ ?_
              clear hK K
              refine wpList_want (by kernel_rfl) fun K hK => ?_
              go_simp
              refine hK _ _ ?_
              clear hK K
              refine wpList_want (by kernel_rfl) fun K hK => ?_
              go_simp
              refine hK _ _ ?_
              clear hK K
              refine wpList_want (by kernel_rfl) fun K hK => ?_
              refine wp_load_mid 40 _ rfl wr.heap.size 0 rfl ([.string ho, .string pf, .slice a1 n1 c1, .string hd, .string va, .slice a2 n2 c2, .int .i64 r0, .int .i64 r1, .int .i64 r2, .int .i64 r3, .int .i64 r4, .int .i64 r5, .int .i64 r6, .int .i64 r7, .int .i64 r8, .int .i64 r9, .int .i64 r10, .int .i64 r11, .int .i64 r12, .int .i64 r13, .int .i64 r14] : List Value) _ HRA2.out Tryz.underlying40 rfl (by kernel_rfl) (hK _ _ ?_)
              clear hK K HRA2
              simp only [Act.put, List.setIfInBounds_toArray, List.set_cons_zero, List.set_cons_succ]
              go_wp2_with fail
              refine (HFI.out _ (HRG.out.below (HB.out.trans (U2.out.b.mono HB.out.size)))).mono ?_
              rintro e w3 ⟨rfl, bb⟩
              have U3 := hide (U2.out.below bb)
              clear bb U2
              cases b3
              · have HX := hide (HNO.out rfl)
                go_wp2_with fail
                go_ret
                exact ⟨ret_bool (by rw [← HV.out, HX.out]), HB.out.trans (U3.out.b.mono HB.out.size)⟩
              · have HX : Hid ((L.take (k + 1)).all (okR hn) = true) := hide (by rw [HS.out, H.out]; rfl)
                have HB4 := hide (HB.out.trans (U3.out.b.mono HB.out.size))
                go_wp2_with fail
                go_roundw
                case rel => exact ⟨k + 1, by omega, by go_num, HX, HB4⟩
                case measure => simp [intOf]; omega
        · obtain rfl : k = n := by omega
          have e9 : L.take k = L := by rw [← Hn.out, List.take_length]
          rw [e9] at H
          go_wp2_with fail
          go_ret
          exact ⟨ret_bool (by rw [← HV.out, H.out]), HB.out⟩

end Go.Proofs.YtekkhjlipijmcaaGreatDoor
