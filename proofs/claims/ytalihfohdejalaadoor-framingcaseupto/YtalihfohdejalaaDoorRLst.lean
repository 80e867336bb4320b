/- The document's list of a text's elements. -/
import Derived.Test.YtalihfohdejalaaDoorLst
namespace Go.Proofs.YtalihfohdejalaaDoor
open Go.ChangeShapes Go.WideShapes Go.ChangeAt Go.RowKit

theorem ext_one (s : ByteArray) (k : Nat) (h : k < s.size) : (s.extract k (k + 1)).data.toList = [s[k]] := by
  rw [ext_list, drop_cons s k h, show k + 1 - k = 1 by omega]
  rfl
theorem ext_one_size (s : ByteArray) (k : Nat) (h : k < s.size) : (s.extract k (k + 1)).size = 1 := by rw [ext_size]; omega
/-- What the pass still tells from the byte k on. -/
def rest (s : ByteArray) (t : ByteArray) (q sk : Bool) (k : Nat) : List ByteArray := (refL t.data.toList q sk (s.data.toList.drop k)).map sS
def elemS (t : ByteArray) : List ByteArray := if (trimS t).size = 0 then [] else [trimS t]
theorem elemS_eq (t : ByteArray) : (elem t.data.toList).map sS = elemS t := by
  unfold elemS elem
  rw [trimS_eq, sS_size]
  by_cases h0 : trimB t.data.toList = []
  · rw [if_pos h0, h0]; rfl
  · rw [if_neg h0, if_neg (by intro e; exact h0 (List.eq_nil_of_length_eq_zero e))]; rfl
theorem rest_end {s t : ByteArray} {q sk : Bool} {k : Nat} (h : s.size ≤ k) : rest s t q sk k = elemS t := by
  unfold rest
  rw [drop_end s k h, refL, elemS_eq]
theorem rest_cut {s t : ByteArray} {k : Nat} (h : k < s.size) (hc : s[k] = 44) : rest s t false false k = elemS t ++ rest s ⟨#[]⟩ false false (k + 1) := by
  unfold rest
  rw [drop_cons s k h, refL, if_pos ⟨hc, rfl⟩, List.map_append, elemS_eq]
theorem rest_next {s t : ByteArray} {q sk : Bool} {k : Nat} (h : k < s.size) (hc : ¬ (s[k] = 44 ∧ q = false)) {q' sk' : Bool} (hn : nx q sk s[k] = (q', sk')) : rest s t q sk k = rest s (t ++ s.extract k (k + 1)) q' sk' (k + 1) := by
  unfold rest
  rw [drop_cons s k h, refL, if_neg hc, hn, app_list, ext_one s k h]
theorem slice_one (s : ByteArray) (k : Nat) (h : k < s.size) (W : World) : (Instr.slice 9 (.string s) (some (.int .i64 (k : Int))) (some (.int .i64 ((k : Int) + 1))) none).run Tryd.prog W = .ok (.string (s.extract k (k + 1))) W := by
  rw [run_slice_string (P := Tryd.prog) W 9 s .i64 .i64 k (k + 1) Tryd.underlying9 (by omega) (by omega) (by omega)]
  rfl
theorem elemS_len (t : ByteArray) : (elemS t).length ≤ 1 := by unfold elemS; split <;> simp

set_option maxHeartbeats 2000000 in
theorem rlist_any (s : ByteArray) (w : World) (hs : s.size ≤ 1099511627776) :
    Calls Tryd.prog 36 #[.string s] w fun e w' => ∃ v, e = .returned v ∧ Row w' w.heap.size 9 v (sc (listS s.data.toList)) ∧ Below w.heap.size w w' := by
  have HL := hide (listS_len s.data.toList)
  have H0 : Hid (listS s.data.toList = [] ++ rest s ⟨#[]⟩ false false 0) := hide (by
    unfold rest listS
    rw [List.drop_zero, List.nil_append, ← refL_list])
  obtain ⟨L, hL⟩ : ∃ L, listS s.data.toList = L := ⟨_, rfl⟩
  rw [hL] at HL H0 ⊢
  rw [size_len] at HL
  clear hL
  go_enter Tryd.func36, Tryd.ntmps36
  go_wp2
  go_loopw [3, 4, 5, 6, 7] (fun v x b5 b6 i wr => ∃ (k : Nat) (q sk : Bool) (O : List ByteArray) (t : ByteArray), x = .string t ∧ b5 = .bool q ∧ b6 = .bool sk ∧ i = .int .i64 k ∧ k ≤ s.size + 1 ∧ t.size ≤ k ∧ Hid (sk = true → q = true) ∧ Hid (k ≤ s.size → L = O ++ rest s t q sk k) ∧ Hid (s.size < k → L = O) ∧ Hid (Row wr w.heap.size 9 v (sc O)) ∧ Hid (Below w.heap.size w wr)) (fun _ _ _ _ i _ => s.size + 1 - (intOf i).toNat)
  case atStart => exact ⟨0, false, false, [], ⟨#[]⟩, rfl, rfl, rfl, rfl, by omega, by show 0 ≤ _; omega, hide (by simp), hide (fun _ => H0.out), hide (by omega), hide (Row.nil _ _ _), hide (Below.refl _ _)⟩
  case round =>
    obtain ⟨k, q, sk, O, t, rfl, rfl, rfl, rfl, hk, ht, HK, H1, H2, HR, HB⟩ := hrel
    obtain ⟨a, c, rfl, _, _⟩ := HR.out.shape
    rw [sc_len] at *
    by_cases hend : k ≤ s.size
    · have HN := hide (H1.out hend)
      clear H1 H2
      have hO : O.length ≤ s.size := by
        have := HL.out
        rw [HN.out, List.length_append] at this
        omega
      have htm : t.size ≤ maxLen := by unfold maxLen; omega
      by_cases hlt : k < s.size
      · have tend : (((k : Int)) == (s.size : Int)) = false := beq_eq_false_iff_ne.2 (by omega)
        have hez := ext_one_size s k hlt
        have hsl := fun W => slice_one s k hlt W
        have hb := byte_lt s[k]
        have HZ := hide (app_size t (s.extract k (k + 1)))
        by_cases h44 : s[k].toNat = 44
        · have t44 : (((s[k].toNat : Int)) == 44) = true := beq_iff_eq.2 (by omega)
          have t92 : (((s[k].toNat : Int)) == 92) = false := beq_eq_false_iff_ne.2 (by omega)
          have t34 : (((s[k].toNat : Int)) == 34) = false := beq_eq_false_iff_ne.2 (by omega)
          have e44 := byte_is (n := 44) h44 (by decide)
          have E44 := hide e44
          clear e44
          cases q with
          | true =>
            cases sk with
            | true =>
              have HF := hide (HN.out.trans (congrArg (O ++ ·) (rest_next (q := true) (sk := true) (q' := true) (sk' := false) hlt (by simp) (by simp [nx]))))
              go_wp2
              exact ⟨⟨k + 1, true, false, O, _, rfl, rfl, rfl, by go_num, by omega, by rw [HZ.out]; omega, hide (by simp), hide (fun _ => HF.out), hide (by omega), HR, HB⟩, by simp [intOf]; omega⟩
            | false =>
              have HF := hide (HN.out.trans (congrArg (O ++ ·) (rest_next (q := true) (sk := false) (q' := true) (sk' := false) hlt (by simp) (by simp [nx, E44.out]))))
              go_wp2
              exact ⟨⟨k + 1, true, false, O, _, rfl, rfl, rfl, by go_num, by omega, by rw [HZ.out]; omega, hide (by simp), hide (fun _ => HF.out), hide (by omega), HR, HB⟩, by simp [intOf]; omega⟩
          | false =>
            cases sk with
            | true => exact absurd (HK.out rfl) (by simp)
            | false =>
              have HT := hide (fun w => rtrim_any t w htm)
              have HC : Hid (L = O ++ ((if (trimS t).size = 0 then [] else [trimS t]) ++ rest s ⟨#[]⟩ false false (k + 1))) := hide (HN.out.trans (congrArg (O ++ ·) (rest_cut hlt E44.out)))
              generalize trimS t = x at HT HC
              by_cases hx : x.size = 0
              · have hxe : x.toList.isEmpty = true := by rw [Lib.toList_data, isEmpty_size]; exact decide_eq_true hx
                have HC2 := hide (show L = O ++ rest s ⟨#[]⟩ false false (k + 1) by rw [HC.out, if_pos hx]; rfl)
                go_wp2_with (go_at_call 47; refine (HT.out _).mono ?_; rintro e w' ⟨rfl, rfl⟩)
                exact ⟨⟨k + 1, false, false, O, ⟨#[]⟩, rfl, rfl, rfl, by go_num, by omega, by show 0 ≤ _; omega, HK, hide (fun _ => HC2.out), hide (by omega), HR, HB⟩, by simp [intOf]; omega⟩
              · have hxe : x.toList.isEmpty = false := by rw [Lib.toList_data, isEmpty_size]; exact decide_eq_false hx
                have HC2 := hide (show L = (O ++ [x]) ++ rest s ⟨#[]⟩ false false (k + 1) by rw [HC.out, if_neg hx]; simp)
                go_wp2_with (first | (go_at_call 47; refine (HT.out _).mono ?_; rintro e w' ⟨rfl, rfl⟩) | (at_builtin; apply Hid.out))
                unfold Hid
                refine wpList_append_one elS rfl _ _ rfl wr w.heap.size (.slice a O.length c) (sc O) (.string x) rfl rfl HR.out rfl (by rw [sc_len]; omega) (by rw [sc_len]; omega) HB.out.size ?_
                intro v' w2 O' B'
                have O2 := hide O'
                have B2 := hide (HB.out.trans B')
                clear O' B'
                go_wp2
                exact ⟨⟨k + 1, false, false, O ++ [x], ⟨#[]⟩, rfl, rfl, rfl, by go_num, by omega, by show 0 ≤ _; omega, HK, hide (fun _ => HC2.out), hide (by omega), hide (by rw [sc_snoc]; exact O2.out), B2⟩, by simp [intOf]; omega⟩
        · have t44 : (((s[k].toNat : Int)) == 44) = false := beq_eq_false_iff_ne.2 (by omega)
          have n44 := hide (byte_ne (n := 44) h44 (by decide))
          by_cases h92 : s[k].toNat = 92
          · have t92 : (((s[k].toNat : Int)) == 92) = true := beq_iff_eq.2 (by omega)
            have t34 : (((s[k].toNat : Int)) == 34) = false := beq_eq_false_iff_ne.2 (by omega)
            have E92 := hide (byte_is (n := 92) h92 (by decide))
            cases q with
            | true =>
              cases sk with
              | true =>
                have HF := hide (HN.out.trans (congrArg (O ++ ·) (rest_next (q := true) (sk := true) (q' := true) (sk' := false) hlt (fun x => n44.out x.1) (by simp [nx]))))
                go_wp2
                exact ⟨⟨k + 1, true, false, O, _, rfl, rfl, rfl, by go_num, by omega, by rw [HZ.out]; omega, hide (by simp), hide (fun _ => HF.out), hide (by omega), HR, HB⟩, by simp [intOf]; omega⟩
              | false =>
                have HF := hide (HN.out.trans (congrArg (O ++ ·) (rest_next (q := true) (sk := false) (q' := true) (sk' := true) hlt (fun x => n44.out x.1) (by simp [nx, E92.out]))))
                go_wp2
                exact ⟨⟨k + 1, true, true, O, _, rfl, rfl, rfl, by go_num, by omega, by rw [HZ.out]; omega, hide (by simp), hide (fun _ => HF.out), hide (by omega), HR, HB⟩, by simp [intOf]; omega⟩
            | false =>
              cases sk with
              | true => exact absurd (HK.out rfl) (by simp)
              | false =>
                have HF := hide (HN.out.trans (congrArg (O ++ ·) (rest_next (q := false) (sk := false) (q' := false) (sk' := false) hlt (fun x => n44.out x.1) (by simp [nx, E92.out]))))
                go_wp2
                exact ⟨⟨k + 1, false, false, O, _, rfl, rfl, rfl, by go_num, by omega, by rw [HZ.out]; omega, hide (by simp), hide (fun _ => HF.out), hide (by omega), HR, HB⟩, by simp [intOf]; omega⟩
          · have t92 : (((s[k].toNat : Int)) == 92) = false := beq_eq_false_iff_ne.2 (by omega)
            have n92 := hide (byte_ne (n := 92) h92 (by decide))
            by_cases h34 : s[k].toNat = 34
            · have t34 : (((s[k].toNat : Int)) == 34) = true := beq_iff_eq.2 (by omega)
              have E34 := hide (byte_is (n := 34) h34 (by decide))
              cases q with
              | true =>
                cases sk with
                | true =>
                  have HF := hide (HN.out.trans (congrArg (O ++ ·) (rest_next (q := true) (sk := true) (q' := true) (sk' := false) hlt (fun x => n44.out x.1) (by simp [nx]))))
                  go_wp2
                  exact ⟨⟨k + 1, true, false, O, _, rfl, rfl, rfl, by go_num, by omega, by rw [HZ.out]; omega, hide (by simp), hide (fun _ => HF.out), hide (by omega), HR, HB⟩, by simp [intOf]; omega⟩
                | false =>
                  have HF := hide (HN.out.trans (congrArg (O ++ ·) (rest_next (q := true) (sk := false) (q' := false) (sk' := false) hlt (fun x => n44.out x.1) (by simp [nx, E34.out]))))
                  go_wp2
                  exact ⟨⟨k + 1, false, false, O, _, rfl, rfl, rfl, by go_num, by omega, by rw [HZ.out]; omega, hide (by simp), hide (fun _ => HF.out), hide (by omega), HR, HB⟩, by simp [intOf]; omega⟩
              | false =>
                cases sk with
                | true => exact absurd (HK.out rfl) (by simp)
                | false =>
                  have HF := hide (HN.out.trans (congrArg (O ++ ·) (rest_next (q := false) (sk := false) (q' := true) (sk' := false) hlt (fun x => n44.out x.1) (by simp [nx, E34.out]))))
                  go_wp2
                  exact ⟨⟨k + 1, true, false, O, _, rfl, rfl, rfl, by go_num, by omega, by rw [HZ.out]; omega, hide (by simp), hide (fun _ => HF.out), hide (by omega), HR, HB⟩, by simp [intOf]; omega⟩
            · have t34 : (((s[k].toNat : Int)) == 34) = false := beq_eq_false_iff_ne.2 (by omega)
              have n34 := hide (byte_ne (n := 34) h34 (by decide))
              have HX : nx q false s[k] = (q, false) := by
                unfold nx
                rw [if_neg (by simp), if_neg (fun x => n92.out x.1), if_neg (show ¬ s[k] = 34 from n34.out)]
              have HX2 := hide HX
              clear HX
              cases sk with
              | true =>
                cases q with
                | false => exact absurd (HK.out rfl) (by simp)
                | true =>
                  have HF := hide (HN.out.trans (congrArg (O ++ ·) (rest_next (q := true) (sk := true) (q' := true) (sk' := false) hlt (fun x => n44.out x.1) (by simp [nx]))))
                  go_wp2
                  exact ⟨⟨k + 1, true, false, O, _, rfl, rfl, rfl, by go_num, by omega, by rw [HZ.out]; omega, hide (by simp), hide (fun _ => HF.out), hide (by omega), HR, HB⟩, by simp [intOf]; omega⟩
              | false =>
                have HF := hide (HN.out.trans (congrArg (O ++ ·) (rest_next (q := q) (sk := false) (q' := q) (sk' := false) hlt (fun x => n44.out x.1) (by exact HX2.out))))
                go_wp2
                exact ⟨⟨k + 1, q, false, O, _, rfl, rfl, rfl, by go_num, by omega, by rw [HZ.out]; omega, hide (by simp), hide (fun _ => HF.out), hide (by omega), HR, HB⟩, by simp [intOf]; omega⟩
      · have e : k = s.size := by omega
        subst e
        have tend : (((s.size : Int)) == (s.size : Int)) = true := beq_self_eq_true _
        have HT := hide (fun w => rtrim_any t w htm)
        have HC : Hid (L = O ++ (if (trimS t).size = 0 then [] else [trimS t])) := hide (HN.out.trans (congrArg (O ++ ·) (rest_end (Nat.le_refl _))))
        generalize trimS t = x at HT HC
        by_cases hx : x.size = 0
        · have hxe : x.toList.isEmpty = true := by rw [Lib.toList_data, isEmpty_size]; exact decide_eq_true hx
          have HC2 := hide (show L = O by rw [HC.out, if_pos hx]; simp)
          go_wp2_with (go_at_call 47; refine (HT.out _).mono ?_; rintro e w' ⟨rfl, rfl⟩)
          exact ⟨⟨s.size + 1, q, sk, O, ⟨#[]⟩, rfl, rfl, rfl, by go_num, by omega, by show 0 ≤ _; omega, HK, hide (by omega), hide (fun _ => HC2.out), HR, HB⟩, by simp [intOf]⟩
        · have hxe : x.toList.isEmpty = false := by rw [Lib.toList_data, isEmpty_size]; exact decide_eq_false hx
          have HC2 := hide (show L = O ++ [x] by rw [HC.out, if_neg hx])
          go_wp2_with (first | (go_at_call 47; refine (HT.out _).mono ?_; rintro e w' ⟨rfl, rfl⟩) | (at_builtin; apply Hid.out))
          unfold Hid
          refine wpList_append_one elS rfl _ _ rfl wr w.heap.size (.slice a O.length c) (sc O) (.string x) rfl rfl HR.out rfl (by rw [sc_len]; omega) (by rw [sc_len]; omega) HB.out.size ?_
          intro v' w2 O' B'
          have O2 := hide O'
          have B2 := hide (HB.out.trans B')
          clear O' B'
          go_wp2
          exact ⟨⟨s.size + 1, q, sk, O ++ [x], ⟨#[]⟩, rfl, rfl, rfl, by go_num, by omega, by show 0 ≤ _; omega, HK, hide (by omega), hide (fun _ => HC2.out), hide (by rw [sc_snoc]; exact O2.out), B2⟩, by simp [intOf]⟩
    · have HE := hide (H2.out (by omega))
      go_wp2
      go_ret
      exact ⟨_, rfl, by rw [HE.out]; exact HR.out, HB.out⟩
end Go.Proofs.YtalihfohdejalaaDoor
