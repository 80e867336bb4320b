/- WN: ZRf1 ZRf3. -/
import Derived.Test.YtacnnomkacfdbaaGreatDoorWE
import Derived.Test.YtacnnomkacfdbaaGreatDoorWM
import Derived.Test.YtacnnomkacfdbaaGreatDoorWJ
/- The document's side of what a configuration is made of: in, span, host, place. -/
namespace Go.Proofs.YtacnnomkacfdbaaGreatDoor
open Go.ChangeShapes Go.WideShapes Go.ChangeAt Go.RowKit
set_option linter.unusedVariables false

theorem rcin_any (w : World) (n a b : Int) : Calls Tryz.prog 34 #[.int .i64 n, .int .i64 a, .int .i64 b] w fun e w' => e = .returned (.bool (inB n a b)) ∧ Below w.heap.size w w' := by
  unfold inB
  by_cases h : a ≤ n
  · have HD := hide (decide_eq_true h)
    go_enter Tryz.func34, Tryz.ntmps34
    go_wp2
    go_ret
    exact ⟨ret_bool (by rw [HD.out]; rfl), Below.refl _ _⟩
  · have HD := hide (decide_eq_false h)
    go_enter Tryz.func34, Tryz.ntmps34
    go_wp2
    go_ret
    exact ⟨ret_bool (by rw [HD.out]; rfl), Below.refl _ _⟩
theorem rspan_any (w : World) (n : Int) : Calls Tryz.prog 37 #[.int .i64 n] w fun e w' => e = .returned (.bool (inB n 1 1000000)) ∧ Below w.heap.size w w' := by
  have H := hide (rcin_any w n 1 1000000)
  generalize inB n 1 1000000 = b at H ⊢
  go_enter Tryz.func37, Tryz.ntmps37
  go_wp2_with fail
  refine H.out.mono ?_
  rintro e w1 ⟨rfl, bb⟩
  have B1 := hide bb
  clear bb H
  go_wp2
  go_ret
  exact ⟨rfl, B1.out⟩
theorem isHost_port {s : ByteArray} (h : hostE s.data.toList = 0) (e : hostS s = s) : hostP s.data.toList = -1 := by
  have hl : hostH s.data.toList = s.data.toList := by
    have := congrArg (fun x : ByteArray => x.data.toList) e
    simpa [hostS, sS] using this
  generalize s.data.toList = l at h hl
  have ho : hostOk l = true := by
    unfold hostE at h
    unfold hostOk
    split at h
    · rename_i hb
      rw [hb]
      simpa using h
    · omega
  unfold hostH at hl
  rw [if_pos ho] at hl
  unfold hostP
  rw [if_pos ho]
  have hlen := congrArg List.length hl
  unfold lowerB at hlen
  rw [List.length_map] at hlen
  unfold nameOf at hlen
  unfold digsOf
  have := (pstate_le l).1
  split at hlen
  · rename_i hp
    rw [if_pos hp]
    rfl
  · rw [List.length_take] at hlen
    omega
theorem host_is (s : ByteArray) : (decide (rhostE s.data.toList = 0) && (decide (rhostP s.data.toList = -1) && decide (rhostS s = s))) = isHostB s := by
  obtain ⟨h1, h2⟩ := host_same2 s.data.toList
  unfold isHostB
  by_cases h : hostE s.data.toList = 0
  · obtain ⟨e1, e2⟩ := h2 h
    have e3 : rhostS s = hostS s := by unfold rhostS hostS; rw [e1]
    rw [e3, ← e2]
    by_cases e : hostS s = s
    · rw [isHost_port h e]
      simp [h, h1.1 h, e]
    · simp [e]
  · have : ¬ rhostE s.data.toList = 0 := fun x => h (h1.2 x)
    simp [h, this]
theorem rishost_any (s : ByteArray) (w : World) (hs : s.size ≤ 140737488355328) : Calls Tryz.prog 35 #[.string s] w fun e w' => e = .returned (.bool (isHostB s)) ∧ Below w.heap.size w w' := by
  have HH := hide (rhost_any s w hs)
  have hbe := bytes_eq (rhostS s) s
  rw [← host_is]
  generalize rhostS s = t at HH hbe ⊢
  generalize rhostE s.data.toList = ee at HH ⊢
  generalize rhostP s.data.toList = p at HH ⊢
  clear hs
  by_cases h0 : ee = 0
  · subst h0
    by_cases hp : p = -1
    · subst hp
      go_enter Tryz.func35, Tryz.ntmps35
      go_wp2_with fail
      refine HH.out.mono ?_
      rintro e w1 ⟨rfl, bb⟩
      have B1 := hide bb
      clear bb HH
      go_wp2
      go_ret
      exact ⟨ret_bool (by simp), B1.out⟩
    · have t0 : (p == -1) = false := beq_eq_false_iff_ne.2 hp
      have HD := hide (decide_eq_false hp)
      go_enter Tryz.func35, Tryz.ntmps35
      go_wp2_with fail
      refine HH.out.mono ?_
      rintro e w1 ⟨rfl, bb⟩
      have B1 := hide bb
      clear bb HH
      go_wp2
      go_ret
      exact ⟨ret_bool (by rw [HD.out]; simp), B1.out⟩
  · have t0 : ((ee : Int) == 0) = false := beq_eq_false_iff_ne.2 (by omega)
    have HD := hide (decide_eq_false h0)
    go_enter Tryz.func35, Tryz.ntmps35
    go_wp2_with fail
    refine HH.out.mono ?_
    rintro e w1 ⟨rfl, bb⟩
    have B1 := hide bb
    clear bb HH
    go_wp2
    go_ret
    exact ⟨ret_bool (by rw [HD.out]; rfl), B1.out⟩
theorem rparse_get (s : ByteArray) : ∃ (f : Int) (h : ByteArray) (p : Int) (pa q : ByteArray) (a : Bool) (re : Int), RParses getN s (tgV f h p pa q a) re ∧ ((re = 0 ∧ f = 1 ∧ a = false) ↔ pathB s = true) := by
  obtain ⟨t, re, h1, h2, h3, h4⟩ := rparse_total getN s
  have key : ∀ (f : Int) (h : ByteArray) (p : Int) (pa q : ByteArray) (a : Bool), t = tgV f h p pa q a → ∃ (f : Int) (h : ByteArray) (p : Int) (pa q : ByteArray) (a : Bool) (re : Int), RParses getN s (tgV f h p pa q a) re ∧ ((re = 0 ∧ f = 1 ∧ a = false) ↔ pathB s = true) := by
    intro f h p pa q a ht
    refine ⟨f, h, p, pa, q, a, re, by rw [← ht]; exact h1, ⟨?_, ?_⟩⟩
    · rintro ⟨r0, rfl, rfl⟩
      obtain ⟨tk, hz⟩ := h2 r0
      rw [ht] at tk
      unfold pathB
      refine decide_eq_true ⟨hz, ?_⟩
      generalize hg : tgV 1 h p pa q false = g at tk
      cases tk with
      | auth hf _ _ => exact absurd (tgV_inj hg).1 (by decide)
      | ast hf => exact absurd (tgV_inj hg).1 (by decide)
      | origin hf h0 => exact ⟨hf, h0, (tgV_inj hg).2.symm⟩
      | abs hf _ _ => exact absurd (tgV_inj hg).1 (by decide)
    · intro hb
      obtain ⟨hz, hf, hl, hc⟩ := of_decide_eq_true hb
      obtain ⟨r0, e⟩ := h4 _ (Taken.origin hf hl) hz
      rw [ht] at e
      obtain ⟨e1, e2⟩ := tgV_inj e
      exact ⟨r0, e1, e2.trans hc⟩
  by_cases r0 : re = 0
  · obtain ⟨tk, _⟩ := h2 r0
    generalize hg : t = g at tk
    cases tk with
    | auth _ _ _ => exact key _ _ _ _ _ _ hg
    | ast _ => exact key _ _ _ _ _ _ hg
    | origin _ _ => exact key _ _ _ _ _ _ hg
    | abs _ _ _ => exact key _ _ _ _ _ _ hg
  · exact key _ _ _ _ _ _ (h3 r0)
set_option maxHeartbeats 2000000 in
set_option maxRecDepth 100000 in
theorem rplace_any (s : ByteArray) (w : World) : Calls Tryz.prog 38 #[.string s] w fun e w' => e = .returned (.bool (placeB s)) ∧ Below w.heap.size w w' := by
  obtain ⟨f, h, p, pa, q, a, re, hP, hI⟩ := rparse_get s
  have HP := hide (hP w)
  have HC := hide (fun W => rclean_any s W)
  have hbe := bytes_eq (cleanS s) s
  unfold placeB
  generalize pathB s = pb at hI ⊢
  generalize cleanS s = cs at HC hbe ⊢
  generalize cleanE s.data.toList = ce at HC ⊢
  unfold tgV at HP
  unfold getN at HP
  clear hP
  by_cases r0 : re = 0
  · by_cases f1 : f = 1
    · cases a
      · have HB : Hid (pb = true) := hide (hI.1 ⟨r0, f1, rfl⟩)
        subst r0 f1
        clear hI
        go_enter Tryz.func38, Tryz.ntmps38
        go_wp2_with fail
        refine HP.out.mono ?_
        rintro e w1 ⟨rfl, bb⟩
        have B1 := hide bb
        clear bb HP
        go_wp2_with fail
        have U1 := hide (Bl.one w1 #[.int .i64 1, .string h, .int .i64 p, .string pa, .string q, .bool false] 53)
        generalize (w1.alloc (.cells #[.int .i64 1, .string h, .int .i64 p, .string pa, .string q, .bool false] 53)) = y at U1 ⊢
        have B2 := hide (B1.out.trans (U1.out.b.mono B1.out.size))
        refine (HC.out _).mono ?_
        rintro e w2 ⟨rfl, bb⟩
        have B3 := hide (B2.out.trans (bb.mono B2.out.size))
        clear bb U1
        by_cases c0 : ce = 0
        · subst c0
          go_wp2
          go_ret
          exact ⟨ret_bool (by rw [HB.out]; simp), B3.out⟩
        · have t0 : ((ce : Int) == 0) = false := beq_eq_false_iff_ne.2 (by omega)
          have HD := hide (decide_eq_false c0)
          go_wp2
          go_ret
          exact ⟨ret_bool (by rw [HB.out, HD.out]; rfl), B3.out⟩
      · have HB : Hid (pb = false) := hide (by cases hpb : pb with | false => rfl | true => exact absurd (hI.2 hpb).2.2 (by decide))
        subst r0 f1
        clear hI
        go_enter Tryz.func38, Tryz.ntmps38
        go_wp2_with fail
        refine HP.out.mono ?_
        rintro e w1 ⟨rfl, bb⟩
        have B1 := hide bb
        clear bb HP
        go_wp2
        go_ret
        exact ⟨ret_bool (by rw [HB.out]; rfl), B1.out.trans ((Bl.one w1 _ _).b.mono B1.out.size)⟩
    · have HB : Hid (pb = false) := hide (by cases hpb : pb with | false => rfl | true => exact absurd (hI.2 hpb).2.1 f1)
      have t1 : (f == 1) = false := beq_eq_false_iff_ne.2 f1
      subst r0
      clear hI
      go_enter Tryz.func38, Tryz.ntmps38
      go_wp2_with fail
      refine HP.out.mono ?_
      rintro e w1 ⟨rfl, bb⟩
      have B1 := hide bb
      clear bb HP
      go_wp2
      go_ret
      exact ⟨ret_bool (by rw [HB.out]; rfl), B1.out.trans ((Bl.one w1 _ _).b.mono B1.out.size)⟩
  · have HB : Hid (pb = false) := hide (by cases hpb : pb with | false => rfl | true => exact absurd (hI.2 hpb).1 r0)
    have t1 : (re == 0) = false := beq_eq_false_iff_ne.2 r0
    clear hI
    go_enter Tryz.func38, Tryz.ntmps38
    go_wp2_with fail
    refine HP.out.mono ?_
    rintro e w1 ⟨rfl, bb⟩
    have B1 := hide bb
    clear bb HP
    go_wp2
    go_ret
    exact ⟨ret_bool (by rw [HB.out]; rfl), B1.out.trans ((Bl.one w1 _ _).b.mono B1.out.size)⟩
end Go.Proofs.YtacnnomkacfdbaaGreatDoor
/- The document's side: a route's match. -/
namespace Go.Proofs.YtacnnomkacfdbaaGreatDoor
open Go.ChangeShapes Go.WideShapes Go.ChangeAt Go.RowKit
set_option linter.unusedVariables false

theorem isHost_nil : isHostB ⟨#[]⟩ = false := by decide +kernel
def starB (s : ByteArray) : Bool := decide (2 < s.size) && ((s.extract 0 2).data.toList == [42, 46])
theorem pat_is (s : ByteArray) : patB s = (decide (s.size = 0) || (isHostB s || (starB s && isHostB (s.extract 2 s.size)))) := by
  unfold patB
  congr 1
  cases h1 : isHostB s with
  | true => rfl
  | false =>
    simp only [Bool.false_or]
    unfold starB
    cases hp : Lib.hasPrefix s.data.toList [42, 46] with
    | true =>
      have e0 : s.data.toList.take 2 = [42, 46] := by
        have := hp
        unfold Lib.hasPrefix at this
        rw [List.isPrefixOf_iff_prefix, List.prefix_iff_eq_take] at this
        exact this.symm
      have e1 : trimW s = s.extract 2 s.size := by
        apply ByteArray.ext
        apply Array.ext'
        rw [ext_list]
        unfold trimW Lib.trimPrefix
        rw [hp]
        simp only [if_true]
        show s.data.toList.drop 2 = _
        rw [List.take_of_length_le]
        rw [List.length_drop, size_len]
        omega
      have e2 : (s.extract 0 2).data.toList = [42, 46] := by rw [ext_list]; simpa using e0
      rw [e1, e2]
      by_cases h2 : 2 < s.size
      · simp [h2]
      · have e3 : s.extract 2 s.size = ⟨#[]⟩ := by
          apply ByteArray.ext
          apply Array.ext'
          rw [ext_list, List.drop_of_length_le (by rw [size_len]; omega)]
          simp
        rw [e3, isHost_nil]
        simp
    | false =>
      have e1 : trimW s = s := by
        apply ByteArray.ext
        apply Array.ext'
        unfold trimW Lib.trimPrefix
        rw [hp]
        simp
      have e2 : ((s.extract 0 2).data.toList == [42, 46]) = false := by
        rw [beq_eq_false_iff_ne]
        intro e
        rw [ext_list, List.drop_zero] at e
        have : Lib.hasPrefix s.data.toList [42, 46] = true := by
          unfold Lib.hasPrefix
          rw [List.isPrefixOf_iff_prefix, List.prefix_iff_eq_take]
          exact e.symm
        rw [hp] at this
        cases this
      rw [e1, h1, e2]
      simp
set_option maxHeartbeats 2000000 in
set_option maxRecDepth 100000 in
theorem rmatch_any (w : World) (ho pf : ByteArray) (ml : Value) (M : List ByteArray) (hd va : ByteArray) (hM : SRow w ml M) (hMs : ∀ x ∈ M, x.size ≤ 1048576) (hho : ho.size ≤ 1048576) (hhd : hd.size ≤ 1048576) (hva : va.size ≤ 1048576) :
    Calls Tryz.prog 67 #[.agg #[.string ho, .string pf, ml, .string hd, .string va]] w fun e w' => e = .returned (.bool (matB ho pf M hd va)) ∧ Below w.heap.size w w' := by
  have HP := hide (fun W => rplace_any pf W)
  have HQ := hide (fun W => rishost_any ho W (by omega))
  have HQ2 := hide (fun W => rishost_any (ho.extract 2 ho.size) W (by rw [ext_size]; omega))
  have HT := hide (fun W (x : ByteArray) (hx : x.size ≤ 1048576) => rtoken_any x W (by unfold maxLen; omega))
  have HTh := hide (fun W => rtoken_any hd W (by unfold maxLen; omega))
  have HVv := hide (fun W => rvalue_any va W (by unfold maxLen; omega))
  have M0 := hide hM
  have MS := hide hMs
  obtain ⟨a1, c1, rfl, _⟩ := hM
  obtain ⟨R, hR⟩ : ∃ R, matB ho pf M hd va = R := ⟨_, rfl⟩
  rw [hR]
  have HV := hide hR
  unfold matB at HV
  rw [pat_is] at HV
  clear hR hMs hhd hva
  generalize placeB pf = bp at HP HV
  generalize isHostB ho = b1 at HQ HV
  generalize isHostB (ho.extract 2 ho.size) = b2 at HQ2 HV
  by_cases h0 : ho.size = 0
  · have he : ho.toList.isEmpty = true := by rw [Lib.toList_data, isEmpty_size]; exact decide_eq_true h0
    rw [decide_eq_true h0] at HV
    clear h0
    go_enter Tryz.func67, Tryz.ntmps67
    go_upto_region 1 with fail
    have T0 := hide (Bl.one w #[.string ho, .string pf, .slice a1 M.length c1, .string hd, .string va] 38)
    generalize (w.alloc (.cells #[.string ho, .string pf, .slice a1 M.length c1, .string hd, .string va] 38)) = x at T0 ⊢
    have m0 : x.cell? ⟨w.heap.size, 0, none⟩ = some (.string ho) := T0.out.cell 0 rfl 0
    go_upto_region 2 with fail
    clear m0
    have HNM : Hid (R = (decide (M.length ≤ 8) && (bp && (M.all tokS && askB hd va)))) := hide (by rw [← HV.out]; simp)
    have m1 : x.cell? ⟨w.heap.size, 1, none⟩ = some (.string pf) := T0.out.cell 0 rfl 1
    clear HV
    go_wp2_with fail
    refine (HP.out _).mono ?_
    rintro e u1 ⟨rfl, bb⟩
    have P1 := hide (T0.out.below bb)
    clear bb m1 HP T0
    cases bp
    · have HE : Hid (R = false) := hide (by rw [HNM.out]; simp)
      go_wp2_with fail
      go_ret
      exact ⟨ret_bool (by rw [HE.out]), P1.out.b⟩
    · have m2 : u1.cell? ⟨w.heap.size, 2, none⟩ = some (.slice a1 M.length c1) := P1.out.cell 0 rfl 2
      by_cases h8 : 8 < M.length
      · have HE : Hid (R = false) := hide (by rw [HNM.out, decide_eq_false (p := M.length ≤ 8) (by omega)]; rfl)
        go_wp2_with fail
        go_ret
        exact ⟨ret_bool (by rw [HE.out]), P1.out.b⟩
      · have HNN : Hid (R = (M.all tokS && askB hd va)) := hide (by rw [HNM.out, decide_eq_true (p := M.length ≤ 8) (by omega)]; rfl)
        have MR := hide (M0.out.below P1.out.b)
        clear HNM
        go_wp2
        go_loopw [49] (fun i wr => ∃ k : Nat, k ≤ M.length ∧ i = .int .i64 k ∧ Hid ((M.take k).all tokS = true) ∧ Hid (Below u1.heap.size u1 wr)) (fun i _ => M.length - (intOf i).toNat)
        case atStart => exact ⟨0, Nat.zero_le _, rfl, hide rfl, hide (Below.refl _ _)⟩
        case round =>
          obtain ⟨k, hk, rfl, H, HB⟩ := hrel
          have P2 := hide (P1.out.below HB.out)
          by_cases hlt : k < M.length
          · obtain ⟨a2, c2, he2, hcv⟩ := MR.out.below HB.out
            simp only [Value.slice.injEq, true_and] at he2
            obtain ⟨rfl, rfl⟩ := he2
            obtain ⟨g, o, rfl, hg, r1⟩ := hcv k hlt
            have HX := hide (HT.out wr M[k] (MS.out _ (List.getElem_mem hlt)))
            have HS := hide (allS_snocM (A := M) tokS hlt)
            have HN := hide (allS_noM (A := M) tokS hlt)
            generalize M[k] = y at r1 HX HS HN
            have hty : tokenB y.data.toList = tokS y := rfl
            rw [hty] at HX
            generalize tokS y = bq at HX HS HN
            clear hcv hg hty m2
            go_wp2_with fail
            refine HX.out.mono ?_
            rintro e u2 ⟨rfl, bb⟩
            have HB2 := hide (HB.out.trans (bb.mono HB.out.size))
            have P3 := hide (P2.out.below bb)
            clear bb r1
            cases bq
            · have HE : Hid (R = false) := hide (by rw [HNN.out, HN.out rfl]; rfl)
              clear HS HN
              go_wp2_with fail
              go_ret
              exact ⟨ret_bool (by rw [HE.out]), P3.out.b⟩
            · have HZ : Hid ((M.take (k + 1)).all tokS = true) := hide (by rw [HS.out, H.out]; rfl)
              clear HS HN
              go_wp2
              exact ⟨⟨k + 1, by omega, by go_num, HZ, HB2⟩, by simp [intOf]; omega⟩
          · have HZ : Hid (M.all tokS = true) := hide (by have := H.out; rw [List.take_of_length_le (by omega)] at this; exact this)
            have HA : Hid (R = askB hd va) := hide (by rw [HNN.out, HZ.out]; rfl)
            clear m2 HNN HZ H
            have m3 : wr.cell? ⟨w.heap.size, 3, none⟩ = some (.string hd) := P2.out.cell 0 rfl 3
            have m4 : wr.cell? ⟨w.heap.size, 4, none⟩ = some (.string va) := P2.out.cell 0 rfl 4
            unfold askB at HA
            by_cases h0 : hd.size = 0
            · have hee : hd.toList.isEmpty = true := by rw [Lib.toList_data, isEmpty_size]; exact decide_eq_true h0
              have HE : Hid (va.toList.isEmpty = R) := hide (by rw [HA.out, if_pos h0, Lib.toList_data, isEmpty_size])
              clear h0 HA
              go_wp2_with fail
              go_ret
              exact ⟨ret_bool HE.out, P2.out.b⟩
            · have hee : hd.toList.isEmpty = false := by rw [Lib.toList_data, isEmpty_size]; exact decide_eq_false h0
              have HE : Hid (R = (tokenB hd.data.toList && valueB va.data.toList)) := hide (by rw [HA.out, if_neg h0]; rfl)
              clear h0 HA
              generalize tokenB hd.data.toList = t1 at HTh HE
              generalize valueB va.data.toList = t2 at HVv HE
              go_wp2_with fail
              refine (HTh.out _).mono ?_
              rintro e u2 ⟨rfl, bb⟩
              have P3 := hide (P2.out.below bb)
              clear bb m3 m4
              have m4 : u2.cell? ⟨w.heap.size, 4, none⟩ = some (.string va) := P3.out.cell 0 rfl 4
              cases t1
              · go_wp2_with fail
                go_ret
                exact ⟨ret_bool HE.out.symm, P3.out.b⟩
              · go_wp2_with fail
                refine (HVv.out _).mono ?_
                rintro e u3 ⟨rfl, rfl⟩
                go_wp2_with fail
                go_ret
                exact ⟨ret_bool HE.out.symm, P3.out.b⟩

  · have he : ho.toList.isEmpty = false := by rw [Lib.toList_data, isEmpty_size]; exact decide_eq_false h0
    rw [decide_eq_false h0] at HV
    clear h0
    go_enter Tryz.func67, Tryz.ntmps67
    go_upto_region 1 with fail
    have T0 := hide (Bl.one w #[.string ho, .string pf, .slice a1 M.length c1, .string hd, .string va] 38)
    generalize (w.alloc (.cells #[.string ho, .string pf, .slice a1 M.length c1, .string hd, .string va] 38)) = x at T0 ⊢
    have m0 : x.cell? ⟨w.heap.size, 0, none⟩ = some (.string ho) := T0.out.cell 0 rfl 0
    go_wp2_with fail
    refine (HQ.out _).mono ?_
    rintro e w1 ⟨rfl, bb⟩
    have T1 := hide (T0.out.below bb)
    clear bb m0 HQ T0
    have m0 : w1.cell? ⟨w.heap.size, 0, none⟩ = some (.string ho) := T1.out.cell 0 rfl 0
    cases b1
    · unfold starB at HV
      by_cases h2 : 2 < ho.size
      · rw [decide_eq_true h2] at HV
        rw [← Lib.toList_data] at HV
        cases hst : ((ho.extract 0 2).toList == [42, 46]) with
        | false =>
          rw [hst] at HV
          have HE : Hid (R = false) := hide (by rw [← HV.out]; simp)
          go_wp2_with fail
          go_ret
          exact ⟨ret_bool (by rw [HE.out]), T1.out.b⟩

        | true =>
          rw [hst] at HV
          go_wp2_with fail
          refine (HQ2.out _).mono ?_
          rintro e w2 ⟨rfl, bb⟩
          have T2 := hide (T1.out.below bb)
          clear bb m0 HQ2 T1
          cases b2
          · skip
            have HE : Hid (R = false) := hide (by rw [← HV.out]; simp)
            go_wp2_with fail
            go_ret
            exact ⟨ret_bool (by rw [HE.out]), T2.out.b⟩

          · go_upto_region 2 with fail
            clear hst
            have HNM : Hid (R = (decide (M.length ≤ 8) && (bp && (M.all tokS && askB hd va)))) := hide (by rw [← HV.out]; simp)
            have m1 : w2.cell? ⟨w.heap.size, 1, none⟩ = some (.string pf) := T2.out.cell 0 rfl 1
            clear HV
            go_wp2_with fail
            refine (HP.out _).mono ?_
            rintro e u1 ⟨rfl, bb⟩
            have P1 := hide (T2.out.below bb)
            clear bb m1 HP T2
            cases bp
            · have HE : Hid (R = false) := hide (by rw [HNM.out]; simp)
              go_wp2_with fail
              go_ret
              exact ⟨ret_bool (by rw [HE.out]), P1.out.b⟩
            · have m2 : u1.cell? ⟨w.heap.size, 2, none⟩ = some (.slice a1 M.length c1) := P1.out.cell 0 rfl 2
              by_cases h8 : 8 < M.length
              · have HE : Hid (R = false) := hide (by rw [HNM.out, decide_eq_false (p := M.length ≤ 8) (by omega)]; rfl)
                go_wp2_with fail
                go_ret
                exact ⟨ret_bool (by rw [HE.out]), P1.out.b⟩
              · have HNN : Hid (R = (M.all tokS && askB hd va)) := hide (by rw [HNM.out, decide_eq_true (p := M.length ≤ 8) (by omega)]; rfl)
                have MR := hide (M0.out.below P1.out.b)
                clear HNM
                go_wp2
                go_loopw [49] (fun i wr => ∃ k : Nat, k ≤ M.length ∧ i = .int .i64 k ∧ Hid ((M.take k).all tokS = true) ∧ Hid (Below u1.heap.size u1 wr)) (fun i _ => M.length - (intOf i).toNat)
                case atStart => exact ⟨0, Nat.zero_le _, rfl, hide rfl, hide (Below.refl _ _)⟩
                case round =>
                  obtain ⟨k, hk, rfl, H, HB⟩ := hrel
                  have P2 := hide (P1.out.below HB.out)
                  by_cases hlt : k < M.length
                  · obtain ⟨a2, c2, he2, hcv⟩ := MR.out.below HB.out
                    simp only [Value.slice.injEq, true_and] at he2
                    obtain ⟨rfl, rfl⟩ := he2
                    obtain ⟨g, o, rfl, hg, r1⟩ := hcv k hlt
                    have HX := hide (HT.out wr M[k] (MS.out _ (List.getElem_mem hlt)))
                    have HS := hide (allS_snocM (A := M) tokS hlt)
                    have HN := hide (allS_noM (A := M) tokS hlt)
                    generalize M[k] = y at r1 HX HS HN
                    have hty : tokenB y.data.toList = tokS y := rfl
                    rw [hty] at HX
                    generalize tokS y = bq at HX HS HN
                    clear hcv hg hty m2
                    go_wp2_with fail
                    refine HX.out.mono ?_
                    rintro e u2 ⟨rfl, bb⟩
                    have HB2 := hide (HB.out.trans (bb.mono HB.out.size))
                    have P3 := hide (P2.out.below bb)
                    clear bb r1
                    cases bq
                    · have HE : Hid (R = false) := hide (by rw [HNN.out, HN.out rfl]; rfl)
                      clear HS HN
                      go_wp2_with fail
                      go_ret
                      exact ⟨ret_bool (by rw [HE.out]), P3.out.b⟩
                    · have HZ : Hid ((M.take (k + 1)).all tokS = true) := hide (by rw [HS.out, H.out]; rfl)
                      clear HS HN
                      go_wp2
                      exact ⟨⟨k + 1, by omega, by go_num, HZ, HB2⟩, by simp [intOf]; omega⟩
                  · have HZ : Hid (M.all tokS = true) := hide (by have := H.out; rw [List.take_of_length_le (by omega)] at this; exact this)
                    have HA : Hid (R = askB hd va) := hide (by rw [HNN.out, HZ.out]; rfl)
                    clear m2 HNN HZ H
                    have m3 : wr.cell? ⟨w.heap.size, 3, none⟩ = some (.string hd) := P2.out.cell 0 rfl 3
                    have m4 : wr.cell? ⟨w.heap.size, 4, none⟩ = some (.string va) := P2.out.cell 0 rfl 4
                    unfold askB at HA
                    by_cases h0 : hd.size = 0
                    · have hee : hd.toList.isEmpty = true := by rw [Lib.toList_data, isEmpty_size]; exact decide_eq_true h0
                      have HE : Hid (va.toList.isEmpty = R) := hide (by rw [HA.out, if_pos h0, Lib.toList_data, isEmpty_size])
                      clear h0 HA
                      go_wp2_with fail
                      go_ret
                      exact ⟨ret_bool HE.out, P2.out.b⟩
                    · have hee : hd.toList.isEmpty = false := by rw [Lib.toList_data, isEmpty_size]; exact decide_eq_false h0
                      have HE : Hid (R = (tokenB hd.data.toList && valueB va.data.toList)) := hide (by rw [HA.out, if_neg h0]; rfl)
                      clear h0 HA
                      generalize tokenB hd.data.toList = t1 at HTh HE
                      generalize valueB va.data.toList = t2 at HVv HE
                      go_wp2_with fail
                      refine (HTh.out _).mono ?_
                      rintro e u2 ⟨rfl, bb⟩
                      have P3 := hide (P2.out.below bb)
                      clear bb m3 m4
                      have m4 : u2.cell? ⟨w.heap.size, 4, none⟩ = some (.string va) := P3.out.cell 0 rfl 4
                      cases t1
                      · go_wp2_with fail
                        go_ret
                        exact ⟨ret_bool HE.out.symm, P3.out.b⟩
                      · go_wp2_with fail
                        refine (HVv.out _).mono ?_
                        rintro e u3 ⟨rfl, rfl⟩
                        go_wp2_with fail
                        go_ret
                        exact ⟨ret_bool HE.out.symm, P3.out.b⟩

      · rw [decide_eq_false h2] at HV
        have HE : Hid (R = false) := hide (by rw [← HV.out]; simp)
        go_wp2_with fail
        go_ret
        exact ⟨ret_bool (by rw [HE.out]), T1.out.b⟩

    · go_upto_region 2 with fail
      clear m0
      have HNM : Hid (R = (decide (M.length ≤ 8) && (bp && (M.all tokS && askB hd va)))) := hide (by rw [← HV.out]; simp)
      have m1 : w1.cell? ⟨w.heap.size, 1, none⟩ = some (.string pf) := T1.out.cell 0 rfl 1
      clear HV
      go_wp2_with fail
      refine (HP.out _).mono ?_
      rintro e u1 ⟨rfl, bb⟩
      have P1 := hide (T1.out.below bb)
      clear bb m1 HP T1
      cases bp
      · have HE : Hid (R = false) := hide (by rw [HNM.out]; simp)
        go_wp2_with fail
        go_ret
        exact ⟨ret_bool (by rw [HE.out]), P1.out.b⟩
      · have m2 : u1.cell? ⟨w.heap.size, 2, none⟩ = some (.slice a1 M.length c1) := P1.out.cell 0 rfl 2
        by_cases h8 : 8 < M.length
        · have HE : Hid (R = false) := hide (by rw [HNM.out, decide_eq_false (p := M.length ≤ 8) (by omega)]; rfl)
          go_wp2_with fail
          go_ret
          exact ⟨ret_bool (by rw [HE.out]), P1.out.b⟩
        · have HNN : Hid (R = (M.all tokS && askB hd va)) := hide (by rw [HNM.out, decide_eq_true (p := M.length ≤ 8) (by omega)]; rfl)
          have MR := hide (M0.out.below P1.out.b)
          clear HNM
          go_wp2
          go_loopw [49] (fun i wr => ∃ k : Nat, k ≤ M.length ∧ i = .int .i64 k ∧ Hid ((M.take k).all tokS = true) ∧ Hid (Below u1.heap.size u1 wr)) (fun i _ => M.length - (intOf i).toNat)
          case atStart => exact ⟨0, Nat.zero_le _, rfl, hide rfl, hide (Below.refl _ _)⟩
          case round =>
            obtain ⟨k, hk, rfl, H, HB⟩ := hrel
            have P2 := hide (P1.out.below HB.out)
            by_cases hlt : k < M.length
            · obtain ⟨a2, c2, he2, hcv⟩ := MR.out.below HB.out
              simp only [Value.slice.injEq, true_and] at he2
              obtain ⟨rfl, rfl⟩ := he2
              obtain ⟨g, o, rfl, hg, r1⟩ := hcv k hlt
              have HX := hide (HT.out wr M[k] (MS.out _ (List.getElem_mem hlt)))
              have HS := hide (allS_snocM (A := M) tokS hlt)
              have HN := hide (allS_noM (A := M) tokS hlt)
              generalize M[k] = y at r1 HX HS HN
              have hty : tokenB y.data.toList = tokS y := rfl
              rw [hty] at HX
              generalize tokS y = bq at HX HS HN
              clear hcv hg hty m2
              go_wp2_with fail
              refine HX.out.mono ?_
              rintro e u2 ⟨rfl, bb⟩
              have HB2 := hide (HB.out.trans (bb.mono HB.out.size))
              have P3 := hide (P2.out.below bb)
              clear bb r1
              cases bq
              · have HE : Hid (R = false) := hide (by rw [HNN.out, HN.out rfl]; rfl)
                clear HS HN
                go_wp2_with fail
                go_ret
                exact ⟨ret_bool (by rw [HE.out]), P3.out.b⟩
              · have HZ : Hid ((M.take (k + 1)).all tokS = true) := hide (by rw [HS.out, H.out]; rfl)
                clear HS HN
                go_wp2
                exact ⟨⟨k + 1, by omega, by go_num, HZ, HB2⟩, by simp [intOf]; omega⟩
            · have HZ : Hid (M.all tokS = true) := hide (by have := H.out; rw [List.take_of_length_le (by omega)] at this; exact this)
              have HA : Hid (R = askB hd va) := hide (by rw [HNN.out, HZ.out]; rfl)
              clear m2 HNN HZ H
              have m3 : wr.cell? ⟨w.heap.size, 3, none⟩ = some (.string hd) := P2.out.cell 0 rfl 3
              have m4 : wr.cell? ⟨w.heap.size, 4, none⟩ = some (.string va) := P2.out.cell 0 rfl 4
              unfold askB at HA
              by_cases h0 : hd.size = 0
              · have hee : hd.toList.isEmpty = true := by rw [Lib.toList_data, isEmpty_size]; exact decide_eq_true h0
                have HE : Hid (va.toList.isEmpty = R) := hide (by rw [HA.out, if_pos h0, Lib.toList_data, isEmpty_size])
                clear h0 HA
                go_wp2_with fail
                go_ret
                exact ⟨ret_bool HE.out, P2.out.b⟩
              · have hee : hd.toList.isEmpty = false := by rw [Lib.toList_data, isEmpty_size]; exact decide_eq_false h0
                have HE : Hid (R = (tokenB hd.data.toList && valueB va.data.toList)) := hide (by rw [HA.out, if_neg h0]; rfl)
                clear h0 HA
                generalize tokenB hd.data.toList = t1 at HTh HE
                generalize valueB va.data.toList = t2 at HVv HE
                go_wp2_with fail
                refine (HTh.out _).mono ?_
                rintro e u2 ⟨rfl, bb⟩
                have P3 := hide (P2.out.below bb)
                clear bb m3 m4
                have m4 : u2.cell? ⟨w.heap.size, 4, none⟩ = some (.string va) := P3.out.cell 0 rfl 4
                cases t1
                · go_wp2_with fail
                  go_ret
                  exact ⟨ret_bool HE.out.symm, P3.out.b⟩
                · go_wp2_with fail
                  refine (HVv.out _).mono ?_
                  rintro e u3 ⟨rfl, rfl⟩
                  go_wp2_with fail
                  go_ret
                  exact ⟨ret_bool HE.out.symm, P3.out.b⟩

end Go.Proofs.YtacnnomkacfdbaaGreatDoor
