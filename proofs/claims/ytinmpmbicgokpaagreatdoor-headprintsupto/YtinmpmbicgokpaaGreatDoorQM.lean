/- QM: HRS HRPr HPrW. -/
import Derived.Test.YtinmpmbicgokpaaGreatDoorQE
import Derived.Test.YtinmpmbicgokpaaGreatDoorQI
import Derived.Test.YtinmpmbicgokpaaGreatDoorQH
/- The document's Same. -/
namespace Go.Proofs.YtinmpmbicgokpaaGreatDoor
open Go.ChangeShapes Go.WideShapes Go.ChangeAt Go.RowKit

set_option maxHeartbeats 8000000 in
set_option maxRecDepth 100000 in
theorem rsame_any (w : World) (X Y : Hi) (la lb : Value) (hA : Flds w la X.fs) (hB : Flds w lb Y.fs) (hl : X.fs.length ≤ 1099511627776) (hl2 : Y.fs.length ≤ 1099511627776) :
    Calls Tryz.prog 30 #[hiV X la, hiV Y lb] w fun e w' => e = .returned (.bool (hiEq X Y)) ∧ Below w.heap.size w w' := by
  have FA := hide hA
  have FB := hide hB
  obtain ⟨D, hD⟩ : ∃ D, hiEq X Y = D := ⟨_, rfl⟩
  rw [hD]
  unfold hiEq at hD
  unfold hiV
  obtain ⟨aa, ac, rfl, _, _⟩ := hA
  obtain ⟨ba, bc, rfl, _, _⟩ := hB
  obtain ⟨ar, ame, ata, ami, ast, are, A⟩ := X
  obtain ⟨br, bme, bta, bmi, bst, bre, B⟩ := Y
  dsimp only at *
  have HD := hide hD
  clear hD
  have e1 := bytes_eq ame bme
  have e2 := bytes_eq ata bta
  have e5 := bytes_eq are bre
  by_cases h0 : ar = br
  · subst h0
    by_cases h1 : ame = bme
    · subst h1
      clear e1
      by_cases h2 : ata = bta
      · subst h2
        clear e2
        by_cases h3 : ami = bmi
        · subst h3
          by_cases h4 : ast = bst
          · subst h4
            by_cases h5 : are = bre
            · subst h5
              clear e5
              by_cases hn : A.length = B.length
              · have t : ((A.length : Int) != (B.length : Int)) = false := by rw [bne_eq_false_iff_eq]; omega
                have hl3 : B.length ≤ A.length := by omega
                have hl4 : A.length ≤ B.length := by omega
                clear hn
                go_enter Tryz.func30, Tryz.ntmps30
                go_upto_region 1 with fail
                have T0 := hide (Bl.two w #[.bool ar, .string ame, .string ata, .int .i64 ami, .int .i64 ast, .string are, .slice aa A.length ac] 25 #[.bool ar, .string ame, .string ata, .int .i64 ami, .int .i64 ast, .string are, .slice ba B.length bc] 25)
                generalize ((w.alloc (.cells #[.bool ar, .string ame, .string ata, .int .i64 ami, .int .i64 ast, .string are, .slice aa A.length ac] 25)).alloc (.cells #[.bool ar, .string ame, .string ata, .int .i64 ami, .int .i64 ast, .string are, .slice ba B.length bc] 25)) = x at T0 ⊢
                have GA := hide (FA.out.below T0.out.b)
                have GB := hide (FB.out.below T0.out.b)
                clear FA FB
                obtain ⟨p0, p1, p2, p3, p4, p5, p6⟩ := T0.out.hd 0 w.heap.size rfl rfl
                obtain ⟨q0, q1, q2, q3, q4, q5, q6⟩ := T0.out.hd 1 (w.heap.size + 1) rfl rfl
                go_upto_region 3 with fail
                clear p0 p1 p2 p3 p4 p5 q0 q1 q2 q3 q4 q5
                go_wp2_with fail
                go_loopw [58] (fun i wr => ∃ k : Nat, k ≤ A.length ∧ i = .int .i64 k ∧ Hid (A.take k = B.take k) ∧ Hid (∃ n, wr = x.drewN n)) (fun i _ => A.length - (intOf i).toNat)
                case atStart => exact ⟨0, Nat.zero_le _, rfl, hide rfl, hide ⟨0, rfl⟩⟩
                case round =>
                  obtain ⟨k, hk, rfl, H, HW⟩ := hrel
                  by_cases hlt : k < A.length
                  · have hlb : k < B.length := by omega
                    obtain ⟨a', c', he, _, hca⟩ := GA.out
                    simp only [Value.slice.injEq] at he
                    obtain ⟨rfl, _, rfl⟩ := he
                    obtain ⟨b', d', he, _, hcb⟩ := GB.out
                    simp only [Value.slice.injEq] at he
                    obtain ⟨rfl, _, rfl⟩ := he
                    obtain ⟨g1, o1, rfl, _, r1, r2⟩ := hca k hlt
                    obtain ⟨g2, o2, rfl, _, r3, r4⟩ := hcb k hlb
                    clear hca hcb
                    obtain ⟨n, hwn⟩ := HW.out
                    subst hwn
                    have hsa := hide (take_snocP A k hlt)
                    have hsb := hide (take_snocP B k hlb)
                    obtain ⟨⟨fa, fb⟩, hf⟩ : ∃ f, A[k] = f := ⟨_, rfl⟩
                    obtain ⟨⟨ga, gb⟩, hg⟩ : ∃ f, B[k] = f := ⟨_, rfl⟩
                    have HNE : Hid ((fa, fb) ≠ (ga, gb) → A ≠ B) := hide (by rintro hne rfl; exact hne (hf.symm.trans hg))
                    rw [hf] at r1 r2 hsa
                    rw [hg] at r3 r4 hsb
                    dsimp only at r1 r2 r3 r4
                    clear hf hg
                    have e1 := bytes_eq fa ga
                    have e2 := bytes_eq fb gb
                    by_cases h1 : fa = ga
                    · subst h1
                      clear e1
                      by_cases h2 : fb = gb
                      · subst h2
                        clear e2
                        have HTK : Hid (A.take (k + 1) = B.take (k + 1)) := hide (by rw [hsa.out, hsb.out, H.out])
                        go_wp2
                        go_quiet (fail)
                        go_wp2
                        exact ⟨⟨k + 1, by omega, by go_num, HTK, hide ⟨n + nq, rfl⟩⟩, by simp [intOf]; omega⟩
                      · have t2 : (fb.toList == gb.toList) = false := by rw [e2]; exact decide_eq_false h2
                        have HE : Hid (A ≠ B) := hide (HNE.out (fun e => h2 (Prod.mk.inj e).2))
                        clear e2 h2
                        go_wp2
                        go_quiet (fail)
                        go_wp2
                        go_ret
                        exact ⟨ret_bool (by rw [← HD.out]; simp [HE.out]), by rw [World.drewN_drewN]; exact T0.out.b.trans ((below_drewN x _).mono T0.out.b.size)⟩
                    · have t1 : (fa.toList == ga.toList) = false := by rw [e1]; exact decide_eq_false h1
                      have HE : Hid (A ≠ B) := hide (HNE.out (fun e => h1 (Prod.mk.inj e).1))
                      clear e1 e2 h1
                      go_wp2
                      go_quiet (fail)
                      go_wp2
                      go_ret
                      exact ⟨ret_bool (by rw [← HD.out]; simp [HE.out]), by rw [World.drewN_drewN]; exact T0.out.b.trans ((below_drewN x _).mono T0.out.b.size)⟩
                  · have HE : Hid (A = B) := hide (by
                      have := H.out
                      rw [List.take_of_length_le (by omega), List.take_of_length_le (by omega)] at this
                      exact this)
                    obtain ⟨n, hwn⟩ := HW.out
                    subst hwn
                    go_wp2
                    go_ret
                    exact ⟨ret_bool (by rw [← HD.out]; simp [HE.out]), T0.out.b.trans ((below_drewN x _).mono T0.out.b.size)⟩
              · have t : ((A.length : Int) != (B.length : Int)) = true := by rw [bne_iff_ne]; omega
                have HN : Hid (A ≠ B) := hide (by rintro rfl; exact hn rfl)
                clear hn
                go_enter Tryz.func30, Tryz.ntmps30
                go_wp2
                go_ret
                exact ⟨ret_bool (by rw [← HD.out]; simp [HN.out]), (Bl.two w _ _ _ _).b⟩
            · have t5 : (are.toList == bre.toList) = false := by rw [e5]; exact decide_eq_false h5
              have HN := hide h5
              clear e5 h5
              go_enter Tryz.func30, Tryz.ntmps30
              go_wp2
              go_ret
              exact ⟨ret_bool (by rw [← HD.out]; simp [HN.out]), (Bl.two w _ _ _ _).b⟩
          · have HN := hide h4
            clear e5
            have t4 : (ast != bst) = true := bne_iff_ne.2 h4
            go_enter Tryz.func30, Tryz.ntmps30
            go_wp2
            go_ret
            exact ⟨ret_bool (by rw [← HD.out]; simp [HN.out]), (Bl.two w _ _ _ _).b⟩
        · have HN := hide h3
          clear e5
          have t3 : (ami != bmi) = true := bne_iff_ne.2 h3
          go_enter Tryz.func30, Tryz.ntmps30
          go_wp2
          go_ret
          exact ⟨ret_bool (by rw [← HD.out]; simp [HN.out]), (Bl.two w _ _ _ _).b⟩
      · have t2 : (ata.toList == bta.toList) = false := by rw [e2]; exact decide_eq_false h2
        have HN := hide h2
        clear e2 e5 h2
        go_enter Tryz.func30, Tryz.ntmps30
        go_wp2
        go_ret
        exact ⟨ret_bool (by rw [← HD.out]; simp [HN.out]), (Bl.two w _ _ _ _).b⟩
    · have t1 : (ame.toList == bme.toList) = false := by rw [e1]; exact decide_eq_false h1
      have HN := hide h1
      clear e1 e2 e5 h1
      go_enter Tryz.func30, Tryz.ntmps30
      go_wp2
      go_ret
      exact ⟨ret_bool (by rw [← HD.out]; simp [HN.out]), (Bl.two w _ _ _ _).b⟩
  · have t0 : (ar == br) = false := beq_eq_false_iff_ne.2 h0
    have HN := hide h0
    clear e1 e2 e5
    cases ar <;> cases br <;> first | exact absurd rfl h0 | skip
    all_goals (clear h0 t0)
    all_goals (go_enter Tryz.func30, Tryz.ntmps30)
    all_goals (go_wp2)
    all_goals (go_ret)
    all_goals (exact ⟨ret_bool (by rw [← HD.out]; rfl), (Bl.two w _ _ _ _).b⟩)
end Go.Proofs.YtinmpmbicgokpaaGreatDoor
/- The document's Print. -/
namespace Go.Proofs.YtinmpmbicgokpaaGreatDoor
open Go.ChangeShapes Go.WideShapes Go.ChangeAt Go.RowKit

theorem print_fs {h : Hi} (hp : printB h = true) : h.fs.length ≤ 100 := by
  obtain ⟨x, rfl, hr, _⟩ := print_is hp
  exact hr.fl
theorem print_tx {h : Hi} (hp : printB h = true) (ts : ByteArray) (ht : ts.data.toList = fullL h) : ts = textS h := by
  obtain ⟨x, rfl, _, h1, _⟩ := print_is hp
  exact data_inj (by rw [textS_list, h1, ht])
set_option maxHeartbeats 16000000 in
set_option maxRecDepth 100000 in
theorem rprint_any (h : Hi) (l : Value) (w : World) (hF : Flds w l h.fs) (hb : Hb h) (ht : PT w) :
    Calls Tryz.prog 19 #[hiV h l] w fun e w' => e = .returned (.tuple #[.string (if printB h then textS h else ⟨#[]⟩), .int .i64 (if printB h then 0 else 4)]) ∧ Below w.heap.size w w' := by
  have HF1 := hide (@print_fs h)
  have HTX := hide (@print_tx h)
  have HIF := hide (print_iff h)
  have HRP := hide (fun (W : World) (v : Value) (hv : Bs W W.heap.size v (fullL h)) (hl : (fullL h).length ≤ 140737488355328) => rparse_any h.r v (fullL h) W hv hl)
  have HPL : Hid ((pParse h.r (fullL h)).1.fs.length ≤ 100) := hide (parse_sz h.r (fullL h)).2.2.2.2.2.2
  have HFL := hide (Nat.le_trans hb.fl (by decide : 1048576 ≤ 1099511627776))
  have HSM := hide (fun W (X : Hi) la (h1 : Flds W la X.fs) (h2 : Flds W l h.fs) (h3 : X.fs.length ≤ 1099511627776) => rsame_any W X h la l h1 h2 h3 HFL.out)
  have HFS := hide hb.fs
  have HI1 := hide (fun W hW => itoa_any h.mi W hb.mi0 hb.mi1 hW)
  have HI2 := hide (fun W hW => itoa_any h.st W hb.st0 hb.st1 hW)
  have z1 := itoaS_size h.mi hb.mi0 hb.mi1
  have z2 := itoaS_size h.st hb.st0 hb.st1
  have z3 := hb.me
  have z4 := hb.ta
  have z5 := hb.re
  have zf := firstS_size h hb
  have HFU : Hid (fullL h = (firstS h).data.toList ++ 13 :: 10 :: (h.fs.flatMap fldL ++ [13, 10])) := hide rfl
  have HT := hide ht
  have F0 := hide hF
  obtain ⟨a, c, rfl, _, _⟩ := hF
  clear hb ht
  generalize printB h = pb at HF1 HTX HIF ⊢
  generalize textS h = tS at HTX ⊢
  generalize fullL h = fl at HTX HIF HRP HPL HFU
  generalize hFS : firstS h = fsS at HFU zf
  have HFI := hide hFS
  generalize pParse h.r fl = P at HIF HRP HPL
  obtain ⟨⟨xr, xme, xta, xmi, xst, xre, XA⟩, m, er⟩ := P
  unfold firstS verS at hFS
  unfold hxV at HRP
  unfold hiV
  obtain ⟨r, me, ta, mi, st, re, A⟩ := h
  simp only [Hx.hi] at HIF
  dsimp only at *
  by_cases hlen : 100 < A.length
  · have i0 : (100 : Int) < (A.length : Int) := by omega
    have hno : pb = false := by
      cases hpb : pb with
      | false => rfl
      | true => have := HF1.out hpb; omega
    subst hno
    clear hFS
    go_enter Tryz.func19, Tryz.ntmps19
    go_wp2_with fail
    go_ret2
    exact ⟨rfl, (Bl.one w _ _).b⟩
  · have i0 : ¬ (100 : Int) < (A.length : Int) := by omega
    go_enter Tryz.func19, Tryz.ntmps19
    go_upto_region 1 with fail
    have T0 := hide (Bl.one w #[.bool r, .string me, .string ta, .int .i64 mi, .int .i64 st, .string re, .slice a A.length c] 25)
    generalize (w.alloc (.cells #[.bool r, .string me, .string ta, .int .i64 mi, .int .i64 st, .string re, .slice a A.length c] 25)) = x0 at T0 ⊢
    have F1 := hide (F0.out.below T0.out.b)
    clear F0
    have r6 : x0.cell? ⟨w.heap.size, 6, none⟩ = some (.slice a A.length c) := T0.out.cell 0 rfl 6
    have r3 : x0.cell? ⟨w.heap.size, 3, none⟩ = some (.int .i64 mi) := T0.out.cell 0 rfl 3
    generalize itoaS mi = ms at HI1 z1 hFS
    generalize itoaS st = ss at HI2 z2 hFS
    go_wp2_with fail
    refine (HI1.out _ (HT.out.below T0.out.b)).mono ?_
    rintro e w1 ⟨rfl, bb⟩
    have T1 := hide (T0.out.below bb)
    have F2 := hide (F1.out.below bb)
    clear bb T0 F1 r6 r3
    obtain ⟨r0, r1, r2, r3, r4, r5, r6⟩ := T1.out.hd 0 w.heap.size rfl rfl
    have e7 : (⟨#[72, 84, 84, 80, 47, 49, 46]⟩ : ByteArray).size = 7 := rfl
    have e1 : (⟨#[32]⟩ : ByteArray).size = 1 := rfl
    have y1 : ((⟨#[72, 84, 84, 80, 47, 49, 46]⟩ : ByteArray) ++ ms).size ≤ 28 := by rw [app_size]; omega
    have HFV := hide hFS
    clear hFS
    go_upto_region 4 with fail
    generalize ((⟨#[72, 84, 84, 80, 47, 49, 46]⟩ : ByteArray) ++ ms) = vs at y1 HFV ⊢
    have y2 : (vs ++ (⟨#[32]⟩ : ByteArray)).size ≤ 29 := by rw [app_size]; omega
    have y3 : ((vs ++ (⟨#[32]⟩ : ByteArray)) ++ ss).size ≤ 50 := by rw [app_size]; omega
    have y4 : (((vs ++ (⟨#[32]⟩ : ByteArray)) ++ ss) ++ (⟨#[32]⟩ : ByteArray)).size ≤ 51 := by rw [app_size]; omega
    have K1 := hide (fun W (hW : Cl w1 W) => HI2.out W ((HT.out.below T1.out.b).below hW.out))
    refine wp_region_cl (by kernel_rfl) (by kernel_rfl) ?_
    refine cl_val (v := ?_) rfl (fun W hW => ?_) ?_
    rotate_left
    · unfold Oper.quietAt; go_simp; try with_reducible rfl
    simp only [Act.put, List.setIfInBounds_toArray, List.set_cons_zero, List.set_cons_succ]
    refine cl_val (v := ?_) rfl (fun W hW => ?_) ?_
    rotate_left
    · unfold Oper.quietAt; go_simp; rw [if_neg (by first | omega | (simp only [app_size]; omega))]; (refine And.intro rfl ?_; with_reducible rfl)
    simp only [Act.put, List.setIfInBounds_toArray, List.set_cons_zero, List.set_cons_succ]
    refine cl_val (v := ?_) rfl (fun W hW => ?_) ?_
    rotate_left
    · unfold Oper.quietAt; go_simp; try with_reducible rfl
    simp only [Act.put, List.setIfInBounds_toArray, List.set_cons_zero, List.set_cons_succ]
    refine cl_val (v := ?_) rfl (fun W hW => ?_) ?_
    rotate_left
    · have l0 := hW.cell r4; unfold Oper.quietAt; go_simp; try with_reducible rfl
    simp only [Act.put, List.setIfInBounds_toArray, List.set_cons_zero, List.set_cons_succ]
    refine cl_val (v := .string ss) rfl (fun W hW => ?_) ?_
    · unfold Oper.quietAt; go_simp; exact call_cl hW (K1.out W hW)
    simp only [Act.put, List.setIfInBounds_toArray, List.set_cons_zero, List.set_cons_succ]
    refine cl_val (v := ?_) rfl (fun W hW => ?_) ?_
    rotate_left
    · unfold Oper.quietAt; go_simp; rw [if_neg (by first | omega | (simp only [app_size]; omega))]; (refine And.intro rfl ?_; with_reducible rfl)
    simp only [Act.put, List.setIfInBounds_toArray, List.set_cons_zero, List.set_cons_succ]
    refine cl_val (v := ?_) rfl (fun W hW => ?_) ?_
    rotate_left
    · unfold Oper.quietAt; go_simp; rw [if_neg (by first | omega | (simp only [app_size]; omega))]; (refine And.intro rfl ?_; with_reducible rfl)
    simp only [Act.put, List.setIfInBounds_toArray, List.set_cons_zero, List.set_cons_succ]
    refine cl_val (v := ?_) rfl (fun W hW => ?_) ?_
    rotate_left
    · unfold Oper.quietAt; go_simp; try with_reducible rfl
    simp only [Act.put, List.setIfInBounds_toArray, List.set_cons_zero, List.set_cons_succ]
    refine cl_val (v := ?_) rfl (fun W hW => ?_) ?_
    rotate_left
    · have l0 := hW.cell r5; unfold Oper.quietAt; go_simp; try with_reducible rfl
    simp only [Act.put, List.setIfInBounds_toArray, List.set_cons_zero, List.set_cons_succ]
    refine cl_val (v := ?_) rfl (fun W hW => ?_) ?_
    rotate_left
    · unfold Oper.quietAt; go_simp; rw [if_neg (by first | omega | (simp only [app_size]; omega))]; (refine And.intro rfl ?_; with_reducible rfl)
    simp only [Act.put, List.setIfInBounds_toArray, List.set_cons_zero, List.set_cons_succ]
    refine cl_val (v := ?_) rfl (fun W hW => ?_) ?_
    rotate_left
    · unfold Oper.quietAt; go_simp; try with_reducible rfl
    simp only [Act.put, List.setIfInBounds_toArray, List.set_cons_zero, List.set_cons_succ]
    refine wpQuiet_nil ?_
    intro z Hz
    have T3 := hide (T1.out.below Hz.out)
    have F3 := hide (F2.out.below Hz.out)
    clear T1 F2 r0 r1 r2 r3 r4 r5 r6 K1 Hz
    obtain ⟨r0, r1, r2, r3, r4, r5, r6⟩ := T3.out.hd 0 w.heap.size rfl rfl
    have zf2 : fsS.size ≤ 2097220 := zf
    cases r with
    | true =>
      have hfs := HFV.out
      rw [if_pos rfl] at hfs
      have y5 : (me ++ (⟨#[32]⟩ : ByteArray)).size ≤ 1048577 := by rw [app_size]; omega
      have y6 : ((me ++ (⟨#[32]⟩ : ByteArray)) ++ ta).size ≤ 2097153 := by rw [app_size]; omega
      have y7 : (((me ++ (⟨#[32]⟩ : ByteArray)) ++ ta) ++ (⟨#[32]⟩ : ByteArray)).size ≤ 2097154 := by rw [app_size]; omega
      go_upto_region 7 with fail
      clear hfs HFV y2 y3 y4 y5 y6 y7 r0 r1 r2 r3 r4 r5 r6
      have r6 : z.cell? ⟨w.heap.size, 6, none⟩ = some (.slice a A.length c) := T3.out.cell 0 rfl 6
      go_wp2_with fail
      go_loopw [5, 45] (fun av i wr => ∃ (k : Nat) (acc : ByteArray), k ≤ A.length ∧ av = .string acc ∧ i = .int .i64 k ∧ acc.size ≤ 2200000 + 2200000 * k ∧ Hid (acc.data.toList = fsS.data.toList ++ 13 :: 10 :: (A.take k).flatMap fldL) ∧ Hid (Bl w wr [(#[.bool true, .string me, .string ta, .int .i64 mi, .int .i64 st, .string re, .slice a A.length c], 25)]) ∧ Hid (Flds wr (.slice a A.length c) A)) (fun _ i _ => A.length - (intOf i).toNat)
      case atStart => exact ⟨0, fsS ++ ⟨#[13, 10]⟩, Nat.zero_le _, rfl, rfl, by rw [app_size]; have e2 : (⟨#[13, 10]⟩ : ByteArray).size = 2 := rfl; omega, hide (by rw [app_list]; simp), T3, F3⟩
      case round =>
        obtain ⟨k, acc, hk, rfl, rfl, hac, HAC, HT1, HF⟩ := hrel
        clear T3 F3 r6
        by_cases hlt : k < A.length
        · obtain ⟨a', c', he, _, hcells⟩ := HF.out
          simp only [Value.slice.injEq] at he
          obtain ⟨rfl, _, rfl⟩ := he
          obtain ⟨gg, oo, rfl, hgg, q1, q2⟩ := hcells k hlt
          clear hcells
          obtain ⟨⟨fa, fb⟩, hf⟩ : ∃ f, A[k] = f := ⟨_, rfl⟩
          rw [hf] at q1 q2
          dsimp only at q1 q2
          obtain ⟨zfa, zfb⟩ := HFS.out (fa, fb) (hf ▸ List.getElem_mem hlt)
          dsimp only at zfa zfb
          have HTK := hide (take_snocP A k hlt)
          rw [hf] at HTK
          clear hf
          go_upto_region 11 with fail
          have U3 := hide (Bl.one wr #[.string fa, .string fb] 51)
          have HT2 := hide (HT1.out.below U3.out.b)
          have HF2 := hide (HF.out.below U3.out.b)
          generalize (wr.alloc (.cells #[.string fa, .string fb] 51)) = x at U3 HT2 HF2 ⊢
          clear q1 q2
          have d0 : x.cell? ⟨wr.heap.size, 0, none⟩ = some (.string fa) := U3.out.cell 0 rfl 0
          have d1 : x.cell? ⟨wr.heap.size, 1, none⟩ = some (.string fb) := U3.out.cell 0 rfl 1
          have e2 : (⟨#[58, 32]⟩ : ByteArray).size = 2 := rfl
          have e3 : (⟨#[13, 10]⟩ : ByteArray).size = 2 := rfl
          have y1 : (acc ++ fa).size ≤ 3300000 + 2200000 * k := by rw [app_size]; omega
          have y2 : ((acc ++ fa) ++ (⟨#[58, 32]⟩ : ByteArray)).size ≤ 3300002 + 2200000 * k := by rw [app_size]; omega
          have y3 : (((acc ++ fa) ++ (⟨#[58, 32]⟩ : ByteArray)) ++ fb).size ≤ 4349000 + 2200000 * k := by rw [app_size, app_size, app_size]; omega
          have y4 : ((((acc ++ fa) ++ (⟨#[58, 32]⟩ : ByteArray)) ++ fb) ++ (⟨#[13, 10]⟩ : ByteArray)).size ≤ 2200000 + 2200000 * (k + 1) := by rw [app_size, app_size, app_size, app_size]; omega
          have HAC2 : Hid (((((acc ++ fa) ++ (⟨#[58, 32]⟩ : ByteArray)) ++ fb) ++ (⟨#[13, 10]⟩ : ByteArray)).data.toList = fsS.data.toList ++ 13 :: 10 :: (A.take (k + 1)).flatMap fldL) := hide (by
            rw [app_list, app_list, app_list, app_list, HAC.out, HTK.out, List.flatMap_append]
            simp [fldL])
          go_wp2_with fail
          exact ⟨⟨k + 1, _, by omega, rfl, by go_num, y4, HAC2, HT2, HF2⟩, by simp [intOf]; omega⟩
        · obtain rfl : k = A.length := by omega
          clear hlt hk
          have e3 : (⟨#[13, 10]⟩ : ByteArray).size = 2 := rfl
          have y1 : (acc ++ (⟨#[13, 10]⟩ : ByteArray)).size ≤ 222300000 := by rw [app_size]; omega
          have HFU2 : Hid ((acc ++ (⟨#[13, 10]⟩ : ByteArray)).data.toList = fl) := hide (by
            rw [app_list, HAC.out, HFU.out, List.take_of_length_le (Nat.le_refl _)]
            simp)
          go_upto_region 14 with fail
          clear HAC hac
          generalize acc ++ (⟨#[13, 10]⟩ : ByteArray) = ts at y1 HFU2 ⊢
          have B4 := hide HT1.out.b
          obtain ⟨p0, p1, p2, p3, p4, p5, p6⟩ := HT1.out.hd 0 w.heap.size rfl rfl
          obtain ⟨cap, W, hcv, hbs, hbw⟩ := conv_bs wr ts
          have HT5 := hide (HT1.out.below hbw)
          have HF5 := hide (HF.out.below hbw)
          have B5 := hide (B4.out.trans (hbw.mono B4.out.size))
          have HBS := hide hbs
          clear hbs hbw
          have PB := hide (HRP.out W _ (by rw [← HFU2.out]; exact HBS.out) (by rw [← HFU2.out, size_len]; omega))
          have HLN : Hid ((fl.length : Int) = (ts.size : Int)) := hide (by rw [← HFU2.out, size_len])
          go_wp2_with fail
          refine PB.out.mono ?_
          rintro e w6 ⟨u5, rfl, hu5, bb⟩
          have HT6 := hide (HT5.out.below bb)
          have HF6 := hide (HF5.out.below bb)
          have B6 := hide (B5.out.trans (bb.mono B5.out.size))
          have HY6 := hide (Flds.of_row hu5)
          obtain ⟨ua, ul, uc, rfl⟩ : ∃ a n c, u5 = .slice a n c := by
            obtain ⟨a, c, h, _⟩ := hu5.shape
            exact ⟨a, _, c, h⟩
          clear hu5 bb PB hcv p0 p1 p2 p3 p4 p5 p6
          go_upto_region 15 with fail
          have V8 := hide (Bl.one w6 #[.bool xr, .string xme, .string xta, .int .i64 (xmi : Int), .int .i64 (xst : Int), .string xre, .slice ua ul uc] 25)
          have HT8 := hide (HT6.out.below V8.out.b)
          have HF8 := hide (HF6.out.below V8.out.b)
          have HY8 := hide (HY6.out.below V8.out.b)
          have B8 := hide (B6.out.trans (V8.out.b.mono B6.out.size))
          generalize (w6.alloc (.cells #[.bool xr, .string xme, .string xta, .int .i64 (xmi : Int), .int .i64 (xst : Int), .string xre, .slice ua ul uc] 25)) = q at HT8 HF8 HY8 V8 B8 ⊢
          by_cases h1 : er = 0
          · have u1 : ((er : Int) != 0) = false := by rw [bne_eq_false_iff_eq]; omega
            by_cases h2 : (m : Int) = (ts.size : Int)
            · have u2 : ((m : Int) != (ts.size : Int)) = false := by rw [bne_eq_false_iff_eq]; exact h2
              obtain ⟨p0, p1, p2, p3, p4, p5, p6⟩ := HT8.out.hd 0 w.heap.size rfl rfl
              obtain ⟨q0, q1, q2, q3, q4, q5, q6⟩ := V8.out.hd 0 w6.heap.size rfl rfl
              have HC := hide (HSM.out q ⟨xr, xme, xta, xmi, xst, xre, XA⟩ (.slice ua ul uc) HY8.out HF8.out (by have := HPL.out; show XA.length ≤ _; omega))
              have HEQ : Hid (hiEq ⟨xr, xme, xta, xmi, xst, xre, XA⟩ ⟨true, me, ta, mi, st, re, A⟩ = pb) := hide (by
                have hm : m = fl.length := by have := HLN.out; omega
                rw [Bool.eq_iff_iff, hiEq_iff]
                refine ⟨fun h => HIF.out.2 ⟨h1, hm, h⟩, fun h => (HIF.out.1 h).2.2⟩)
              rw [HEQ.out] at HC
              unfold hiV at HC
              dsimp only at HC
              clear h1 h2 HEQ
              go_wp2_with fail
              refine HC.out.mono ?_
              rintro e w9 ⟨rfl, bb⟩
              have B9 := hide (B8.out.trans (bb.mono B8.out.size))
              clear bb HC p0 p1 p2 p3 p4 p5 p6 q0 q1 q2 q3 q4 q5 q6
              cases pb with
              | false =>
                go_wp2_with fail
                go_ret2
                exact ⟨rfl, B9.out⟩
              | true =>
                have hts : ts = tS := HTX.out rfl ts HFU2.out
                subst hts
                go_wp2_with fail
                go_ret2
                exact ⟨rfl, B9.out⟩
            · have u2 : ((m : Int) != (ts.size : Int)) = true := bne_iff_ne.2 h2
              have B9 := B8
              have hno : pb = false := by
                cases hpb : pb with
                | false => rfl
                | true =>
                  have h := HIF.out.1 hpb
                  exact absurd (by have := HLN.out; have := h.2.1; omega) h2
              subst hno
              go_wp2_with fail
              go_ret2
              exact ⟨rfl, B9.out⟩
          · have u1 : ((er : Int) != 0) = true := bne_iff_ne.2 (by omega)
            have B9 := B8
            have hno : pb = false := by
              cases hpb : pb with
              | false => rfl
              | true =>
                have h := HIF.out.1 hpb
                exact absurd h.1 h1
            subst hno
            go_wp2_with fail
            go_ret2
            exact ⟨rfl, B9.out⟩
    | false =>
      have hfs := HFV.out
      rw [if_neg (by simp)] at hfs
      go_upto_region 5 with fail
      rw [hfs]
      clear hfs HFV y2 y3 y4
      have r6 : z.cell? ⟨w.heap.size, 6, none⟩ = some (.slice a A.length c) := T3.out.cell 0 rfl 6
      go_wp2_with fail
      go_loopw [5, 45] (fun av i wr => ∃ (k : Nat) (acc : ByteArray), k ≤ A.length ∧ av = .string acc ∧ i = .int .i64 k ∧ acc.size ≤ 2200000 + 2200000 * k ∧ Hid (acc.data.toList = fsS.data.toList ++ 13 :: 10 :: (A.take k).flatMap fldL) ∧ Hid (Bl w wr [(#[.bool false, .string me, .string ta, .int .i64 mi, .int .i64 st, .string re, .slice a A.length c], 25)]) ∧ Hid (Flds wr (.slice a A.length c) A)) (fun _ i _ => A.length - (intOf i).toNat)
      case atStart => exact ⟨0, fsS ++ ⟨#[13, 10]⟩, Nat.zero_le _, rfl, rfl, by rw [app_size]; have e2 : (⟨#[13, 10]⟩ : ByteArray).size = 2 := rfl; omega, hide (by rw [app_list]; simp), T3, F3⟩
      case round =>
        obtain ⟨k, acc, hk, rfl, rfl, hac, HAC, HT1, HF⟩ := hrel
        clear T3 F3 r6
        by_cases hlt : k < A.length
        · obtain ⟨a', c', he, _, hcells⟩ := HF.out
          simp only [Value.slice.injEq] at he
          obtain ⟨rfl, _, rfl⟩ := he
          obtain ⟨gg, oo, rfl, hgg, q1, q2⟩ := hcells k hlt
          clear hcells
          obtain ⟨⟨fa, fb⟩, hf⟩ : ∃ f, A[k] = f := ⟨_, rfl⟩
          rw [hf] at q1 q2
          dsimp only at q1 q2
          obtain ⟨zfa, zfb⟩ := HFS.out (fa, fb) (hf ▸ List.getElem_mem hlt)
          dsimp only at zfa zfb
          have HTK := hide (take_snocP A k hlt)
          rw [hf] at HTK
          clear hf
          go_upto_region 11 with fail
          have U3 := hide (Bl.one wr #[.string fa, .string fb] 51)
          have HT2 := hide (HT1.out.below U3.out.b)
          have HF2 := hide (HF.out.below U3.out.b)
          generalize (wr.alloc (.cells #[.string fa, .string fb] 51)) = x at U3 HT2 HF2 ⊢
          clear q1 q2
          have d0 : x.cell? ⟨wr.heap.size, 0, none⟩ = some (.string fa) := U3.out.cell 0 rfl 0
          have d1 : x.cell? ⟨wr.heap.size, 1, none⟩ = some (.string fb) := U3.out.cell 0 rfl 1
          have e2 : (⟨#[58, 32]⟩ : ByteArray).size = 2 := rfl
          have e3 : (⟨#[13, 10]⟩ : ByteArray).size = 2 := rfl
          have y1 : (acc ++ fa).size ≤ 3300000 + 2200000 * k := by rw [app_size]; omega
          have y2 : ((acc ++ fa) ++ (⟨#[58, 32]⟩ : ByteArray)).size ≤ 3300002 + 2200000 * k := by rw [app_size]; omega
          have y3 : (((acc ++ fa) ++ (⟨#[58, 32]⟩ : ByteArray)) ++ fb).size ≤ 4349000 + 2200000 * k := by rw [app_size, app_size, app_size]; omega
          have y4 : ((((acc ++ fa) ++ (⟨#[58, 32]⟩ : ByteArray)) ++ fb) ++ (⟨#[13, 10]⟩ : ByteArray)).size ≤ 2200000 + 2200000 * (k + 1) := by rw [app_size, app_size, app_size, app_size]; omega
          have HAC2 : Hid (((((acc ++ fa) ++ (⟨#[58, 32]⟩ : ByteArray)) ++ fb) ++ (⟨#[13, 10]⟩ : ByteArray)).data.toList = fsS.data.toList ++ 13 :: 10 :: (A.take (k + 1)).flatMap fldL) := hide (by
            rw [app_list, app_list, app_list, app_list, HAC.out, HTK.out, List.flatMap_append]
            simp [fldL])
          go_wp2_with fail
          exact ⟨⟨k + 1, _, by omega, rfl, by go_num, y4, HAC2, HT2, HF2⟩, by simp [intOf]; omega⟩
        · obtain rfl : k = A.length := by omega
          clear hlt hk
          have e3 : (⟨#[13, 10]⟩ : ByteArray).size = 2 := rfl
          have y1 : (acc ++ (⟨#[13, 10]⟩ : ByteArray)).size ≤ 222300000 := by rw [app_size]; omega
          have HFU2 : Hid ((acc ++ (⟨#[13, 10]⟩ : ByteArray)).data.toList = fl) := hide (by
            rw [app_list, HAC.out, HFU.out, List.take_of_length_le (Nat.le_refl _)]
            simp)
          go_upto_region 14 with fail
          clear HAC hac
          generalize acc ++ (⟨#[13, 10]⟩ : ByteArray) = ts at y1 HFU2 ⊢
          have B4 := hide HT1.out.b
          obtain ⟨p0, p1, p2, p3, p4, p5, p6⟩ := HT1.out.hd 0 w.heap.size rfl rfl
          obtain ⟨cap, W, hcv, hbs, hbw⟩ := conv_bs wr ts
          have HT5 := hide (HT1.out.below hbw)
          have HF5 := hide (HF.out.below hbw)
          have B5 := hide (B4.out.trans (hbw.mono B4.out.size))
          have HBS := hide hbs
          clear hbs hbw
          have PB := hide (HRP.out W _ (by rw [← HFU2.out]; exact HBS.out) (by rw [← HFU2.out, size_len]; omega))
          have HLN : Hid ((fl.length : Int) = (ts.size : Int)) := hide (by rw [← HFU2.out, size_len])
          go_wp2_with fail
          refine PB.out.mono ?_
          rintro e w6 ⟨u5, rfl, hu5, bb⟩
          have HT6 := hide (HT5.out.below bb)
          have HF6 := hide (HF5.out.below bb)
          have B6 := hide (B5.out.trans (bb.mono B5.out.size))
          have HY6 := hide (Flds.of_row hu5)
          obtain ⟨ua, ul, uc, rfl⟩ : ∃ a n c, u5 = .slice a n c := by
            obtain ⟨a, c, h, _⟩ := hu5.shape
            exact ⟨a, _, c, h⟩
          clear hu5 bb PB hcv p0 p1 p2 p3 p4 p5 p6
          go_upto_region 15 with fail
          have V8 := hide (Bl.one w6 #[.bool xr, .string xme, .string xta, .int .i64 (xmi : Int), .int .i64 (xst : Int), .string xre, .slice ua ul uc] 25)
          have HT8 := hide (HT6.out.below V8.out.b)
          have HF8 := hide (HF6.out.below V8.out.b)
          have HY8 := hide (HY6.out.below V8.out.b)
          have B8 := hide (B6.out.trans (V8.out.b.mono B6.out.size))
          generalize (w6.alloc (.cells #[.bool xr, .string xme, .string xta, .int .i64 (xmi : Int), .int .i64 (xst : Int), .string xre, .slice ua ul uc] 25)) = q at HT8 HF8 HY8 V8 B8 ⊢
          by_cases h1 : er = 0
          · have u1 : ((er : Int) != 0) = false := by rw [bne_eq_false_iff_eq]; omega
            by_cases h2 : (m : Int) = (ts.size : Int)
            · have u2 : ((m : Int) != (ts.size : Int)) = false := by rw [bne_eq_false_iff_eq]; exact h2
              obtain ⟨p0, p1, p2, p3, p4, p5, p6⟩ := HT8.out.hd 0 w.heap.size rfl rfl
              obtain ⟨q0, q1, q2, q3, q4, q5, q6⟩ := V8.out.hd 0 w6.heap.size rfl rfl
              have HC := hide (HSM.out q ⟨xr, xme, xta, xmi, xst, xre, XA⟩ (.slice ua ul uc) HY8.out HF8.out (by have := HPL.out; show XA.length ≤ _; omega))
              have HEQ : Hid (hiEq ⟨xr, xme, xta, xmi, xst, xre, XA⟩ ⟨false, me, ta, mi, st, re, A⟩ = pb) := hide (by
                have hm : m = fl.length := by have := HLN.out; omega
                rw [Bool.eq_iff_iff, hiEq_iff]
                refine ⟨fun h => HIF.out.2 ⟨h1, hm, h⟩, fun h => (HIF.out.1 h).2.2⟩)
              rw [HEQ.out] at HC
              unfold hiV at HC
              dsimp only at HC
              clear h1 h2 HEQ
              go_wp2_with fail
              refine HC.out.mono ?_
              rintro e w9 ⟨rfl, bb⟩
              have B9 := hide (B8.out.trans (bb.mono B8.out.size))
              clear bb HC p0 p1 p2 p3 p4 p5 p6 q0 q1 q2 q3 q4 q5 q6
              cases pb with
              | false =>
                go_wp2_with fail
                go_ret2
                exact ⟨rfl, B9.out⟩
              | true =>
                have hts : ts = tS := HTX.out rfl ts HFU2.out
                subst hts
                go_wp2_with fail
                go_ret2
                exact ⟨rfl, B9.out⟩
            · have u2 : ((m : Int) != (ts.size : Int)) = true := bne_iff_ne.2 h2
              have B9 := B8
              have hno : pb = false := by
                cases hpb : pb with
                | false => rfl
                | true =>
                  have h := HIF.out.1 hpb
                  exact absurd (by have := HLN.out; have := h.2.1; omega) h2
              subst hno
              go_wp2_with fail
              go_ret2
              exact ⟨rfl, B9.out⟩
          · have u1 : ((er : Int) != 0) = true := bne_iff_ne.2 (by omega)
            have B9 := B8
            have hno : pb = false := by
              cases hpb : pb with
              | false => rfl
              | true =>
                have h := HIF.out.1 hpb
                exact absurd h.1 h1
            subst hno
            go_wp2_with fail
            go_ret2
            exact ⟨rfl, B9.out⟩
end Go.Proofs.YtinmpmbicgokpaaGreatDoor
/- HeadPrints, walked. -/
namespace Go.Proofs.YtinmpmbicgokpaaGreatDoor
open Go.ChangeShapes Go.WideShapes Go.ChangeAt Go.RowKit

theorem print_back {h : Hi} (hp : printB h = true) : ∃ x : Hx, x.hi = h ∧ pParse h.r (textL h) = (x, (textL h).length, 0) ∧ x.fs.length ≤ 100 := by
  obtain ⟨x, rfl, hr, h1, h2, _⟩ := print_is hp
  exact ⟨x, rfl, by rw [h1]; exact h2, hr.fl⟩
set_option maxHeartbeats 8000000 in
set_option maxRecDepth 100000 in
theorem prints_walk (h : Hi) (l : Value) (w : World) (hF : Flds w l h.fs) (hb : Hb h) (ht : PT w) (hm : MX w) (he : ET w) :
    Calls Tryz.prog 5 #[hiV h l] w fun e w' => e = .returned (.bool true) ∧ Below w.heap.size w w' := by
  have HT := hide ht
  have HM := hide hm
  have HE := hide he
  have HPR := hide (fun W (h1 : Flds W l h.fs) (h2 : PT W) (h3 : MX W) (h4 : ET W) => print_any h l W h1 hb h2 h3 h4)
  have HRR := hide (fun W (h1 : Flds W l h.fs) (h2 : PT W) => rprint_any h l W h1 hb h2)
  have HBK := hide (@print_back h)
  have HTL := hide (textS_list h)
  have hln := textL_len h hb
  have HFL := hide (Nat.le_trans hb.fl (by decide : 1048576 ≤ 1099511627776))
  have F0 := hide hF
  obtain ⟨a, c, rfl, _, _⟩ := hF
  clear hb ht hm he
  generalize textS h = ts at HPR HRR HTL
  generalize textL h = tl at HBK HTL hln
  generalize printB h = pb at HPR HRR HBK
  generalize hso : (if pb = true then ts else ⟨#[]⟩) = so at HPR HRR
  generalize heo : (if pb = true then (0 : Int) else 4) = eo at HPR HRR
  have HSO := hide hso
  have HEO := hide heo
  clear hso heo
  unfold hiV at *
  obtain ⟨r, me, ta, mi, st, re, A⟩ := h
  dsimp only at *
  go_enter Tryz.func5, Tryz.ntmps5
  go_upto_region 1 with fail
  have T0 := hide (Bl.one w #[.bool r, .string me, .string ta, .int .i64 mi, .int .i64 st, .string re, .slice a A.length c] 25)
  generalize (w.alloc (.cells #[.bool r, .string me, .string ta, .int .i64 mi, .int .i64 st, .string re, .slice a A.length c] 25)) = x at T0 ⊢
  have F1 := hide (F0.out.below T0.out.b)
  obtain ⟨p0, p1, p2, p3, p4, p5, p6⟩ := T0.out.hd 0 w.heap.size rfl rfl
  go_wp2_with fail
  refine (HPR.out x F1.out (HT.out.below T0.out.b) (HM.out.below T0.out.b) (HE.out.below T0.out.b)).mono ?_
  rintro e w1 ⟨rfl, bb⟩
  have T1 := hide (T0.out.below bb)
  have F2 := hide (F1.out.below bb)
  clear bb T0 F0 F1 p0 p1 p2 p3 p4 p5 p6 HPR
  obtain ⟨p0, p1, p2, p3, p4, p5, p6⟩ := T1.out.hd 0 w.heap.size rfl rfl
  go_wp2_with fail
  refine (HRR.out w1 F2.out (HT.out.below T1.out.b)).mono ?_
  rintro e w2 ⟨rfl, bb⟩
  have T2 := hide (T1.out.below bb)
  have F3 := hide (F2.out.below bb)
  clear bb T1 F2 p0 p1 p2 p3 p4 p5 p6 HRR
  cases pb with
  | false =>
    have hso := HSO.out
    have heo := HEO.out
    rw [if_neg (by simp)] at hso heo
    subst hso heo
    clear HSO HEO
    go_wp2_with fail
    refine (speaks_any w2 (HT.out.below T2.out.b) (HM.out.below T2.out.b) (HE.out.below T2.out.b)).mono ?_
    rintro e w7 ⟨rfl, bb⟩
    have T3 := hide (T2.out.below bb)
    clear bb
    go_wp2
    go_ret
    exact ⟨rfl, T3.out.b⟩
  | true =>
    have hso := HSO.out
    have heo := HEO.out
    rw [if_pos rfl] at hso heo
    subst hso heo
    clear HSO HEO
    obtain ⟨X, hX, hP, hXL⟩ := HBK.out rfl
    have HXL := hide hXL
    have HPP := hide hP
    clear hP hXL HBK
    obtain ⟨xr, xme, xta, xmi, xst, xre, XA⟩ := X
    simp only [Hx.hi, Hi.mk.injEq] at hX
    obtain ⟨rfl, rfl, rfl, rfl, rfl, rfl, rfl⟩ := hX
    obtain ⟨p0, p1, p2, p3, p4, p5, p6⟩ := T2.out.hd 0 w.heap.size rfl rfl
    obtain ⟨cap, W, hcv, hbs, hbw⟩ := conv_bs w2 ts
    have HBS := hide hbs
    have T3 := hide (T2.out.below hbw)
    have F4 := hide (F3.out.below hbw)
    clear hbs hbw
    have PB := hide (parse_any xr _ ts.data.toList W HBS.out (by rw [HTL.out]; omega) (HM.out.below T3.out.b) (HE.out.below T3.out.b))
    rw [HTL.out, HPP.out] at PB
    unfold hxV at PB
    dsimp only at PB
    have hsz : ((tl.length : Int) == (ts.size : Int)) = true := by rw [← HTL.out, size_len]; simp
    go_wp2_with fail
    refine PB.out.mono ?_
    rintro e w3 ⟨u5, rfl, hu5, bb⟩
    have T4 := hide (T3.out.below bb)
    have F5 := hide (F4.out.below bb)
    have HY5 := hide (Flds.of_row hu5)
    obtain ⟨ya, yl, yc, rfl⟩ : ∃ a n c, u5 = .slice a n c := by
      obtain ⟨a, c, h, _⟩ := hu5.shape
      exact ⟨a, _, c, h⟩
    clear hu5 bb PB hcv p0 p1 p2 p3 p4 p5 p6
    go_upto_region 8 with fail
    have V8 := hide (Bl.one w3 #[.bool xr, .string xme, .string xta, .int .i64 (xmi : Int), .int .i64 (xst : Int), .string xre, .slice ya yl yc] 25)
    have T5 := hide (T4.out.below V8.out.b)
    have F6 := hide (F5.out.below V8.out.b)
    have HY6 := hide (HY5.out.below V8.out.b)
    generalize (w3.alloc (.cells #[.bool xr, .string xme, .string xta, .int .i64 (xmi : Int), .int .i64 (xst : Int), .string xre, .slice ya yl yc] 25)) = q at T5 F6 HY6 V8 ⊢
    obtain ⟨p0, p1, p2, p3, p4, p5, p6⟩ := T5.out.hd 0 w.heap.size rfl rfl
    obtain ⟨q0, q1, q2, q3, q4, q5, q6⟩ := V8.out.hd 0 w3.heap.size rfl rfl
    have HC := hide (plainH_any q ⟨xr, xme, xta, xmi, xst, xre, XA⟩ ⟨xr, xme, xta, xmi, xst, xre, XA⟩ (.slice ya yl yc) (.slice a XA.length c) HY6.out F6.out (by have := HXL.out; show XA.length ≤ _; omega) (by have := HXL.out; show XA.length ≤ _; omega))
    rw [hiEq_iff.2 rfl] at HC
    unfold hiV at HC
    dsimp only at HC
    go_wp2_with fail
    refine HC.out.mono ?_
    rintro e w6 ⟨rfl, bb⟩
    have T6 := hide (T5.out.below bb)
    clear bb HC
    go_wp2_with fail
    refine (speaks_any w6 (HT.out.below T6.out.b) (HM.out.below T6.out.b) (HE.out.below T6.out.b)).mono ?_
    rintro e w7 ⟨rfl, bb⟩
    have T7 := hide (T6.out.below bb)
    clear bb
    go_wp2
    go_ret
    exact ⟨rfl, T7.out.b⟩
end Go.Proofs.YtinmpmbicgokpaaGreatDoor
