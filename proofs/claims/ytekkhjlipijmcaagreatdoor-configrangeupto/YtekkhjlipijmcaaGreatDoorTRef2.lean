/- The document's small answers of this layer: last, named. -/
import Derived.Test.YtekkhjlipijmcaaGreatDoorTRef1
namespace Go.Proofs.YtekkhjlipijmcaaGreatDoor
open Go.ChangeShapes Go.WideShapes Go.ChangeAt Go.RowKit

def lastF (c : UInt8) (l : List UInt8) : Nat × Int := l.foldl (fun a b => (a.1 + 1, if b = c then (a.1 : Int) else a.2)) (0, -1)
def lastI (l : List UInt8) (c : UInt8) : Int := (lastF c l).2
theorem lastF_len (c : UInt8) (l : List UInt8) : (lastF c l).1 = l.length := by
  induction l using snoc_ind with
  | h0 => rfl
  | h1 l b ih => unfold lastF at *; rw [List.foldl_append]; simp [ih]
theorem lastI_nil (c : UInt8) : lastI [] c = -1 := rfl
theorem lastI_snoc (l : List UInt8) (b c : UInt8) : lastI (l ++ [b]) c = if b = c then (l.length : Int) else lastI l c := by
  have := lastF_len c l
  unfold lastI lastF at *
  rw [List.foldl_append]
  simp only [List.foldl_cons, List.foldl_nil]
  rw [this]
theorem lastI_lt (l : List UInt8) (c : UInt8) : -1 ≤ lastI l c ∧ lastI l c < l.length := by
  induction l using snoc_ind with
  | h0 => simp [lastI_nil]
  | h1 l b ih =>
    rw [lastI_snoc, List.length_append, List.length_singleton]
    split <;> omega
set_option maxHeartbeats 1000000 in
theorem rlast_any (s : ByteArray) (c : UInt8) (w : World) (hs : s.size ≤ 140737488355328) : Calls Tryz.prog 48 #[.string s, .int .u8 (c.toNat : Int)] w fun e w' => e = .returned (.int .i64 (lastI s.data.toList c)) ∧ w = w' := by
  obtain ⟨z, hz⟩ : ∃ z, lastI s.data.toList c = z := ⟨_, rfl⟩
  rw [hz]
  have HZ := hide hz
  clear hz
  go_enter Tryz.func48, Tryz.ntmps48
  go_wp2
  go_loop [5] (fun i => ∃ k : Nat, k ≤ s.size ∧ i = .int .i64 ((k : Int) - 1) ∧ Hid (lastI (s.data.toList.take k) c = z)) (fun i => (intOf i + 1).toNat)
  case atStart => exact ⟨s.size, Nat.le_refl _, rfl, hide (by rw [take_all s s.size (Nat.le_refl _)]; exact HZ.out)⟩
  case round =>
    obtain ⟨k, hk, rfl, H⟩ := hrel
    clear HZ
    cases k with
    | zero =>
      have HF : Hid (z = -1) := hide (by rw [← H.out]; rfl)
      go_wp2
      go_ret
      exact ⟨by rw [HF.out]; rfl, rfl⟩
    | succ k =>
      have hlt : k < s.size := by omega
      have hb := byte_lt s[k]
      have hc := byte_lt c
      have e1 : (((k + 1 : Nat) : Int) - 1) = (k : Int) := by omega
      rw [e1]
      have hl : (s.data.toList.take k).length = k := by rw [List.length_take, size_len]; omega
      by_cases he : s[k] = c
      · have t : (((s[k].toNat : Int)) == (c.toNat : Int)) = true := by rw [byte_eqI]; exact beq_iff_eq.2 he
        have HF : Hid (z = (k : Int)) := hide (by rw [← H.out, take_snoc s k hlt, lastI_snoc, if_pos he, hl])
        clear he e1 hl
        go_wp2
        go_ret
        exact ⟨by rw [HF.out]; rfl, rfl⟩
      · have t : (((s[k].toNat : Int)) == (c.toNat : Int)) = false := by rw [byte_eqI]; exact beq_eq_false_iff_ne.2 he
        have HF : Hid (lastI (s.data.toList.take k) c = z) := hide (by rw [← H.out, take_snoc s k hlt, lastI_snoc, if_neg he])
        clear he e1 hl
        go_wp2
        exact ⟨⟨k, by omega, by go_num, HF⟩, by simp [intOf]⟩

/-! ### A host's name -/
theorem brac_ok {s : ByteArray} (h3 : 3 ≤ s.size) (hl : s[s.size - 1] = 93) : bracB s.data.toList = ((s.data.toList.drop 1).take (s.size - 2)).all brc := by
  have e := last_list s (by omega)
  rw [hl] at e
  have ed : s.data.toList.drop 1 = (s.data.toList.drop 1).take (s.size - 2) ++ [93] := by
    conv => lhs; rw [e]
    rw [ext_take, List.drop_append_of_le_length (by rw [List.length_take, size_len]; omega), List.drop_take]
    rfl
  have hin : ((s.data.toList.drop 1).take (s.size - 2)).isEmpty = false := by
    rw [Bool.eq_false_iff]
    intro h
    have := congrArg List.length (List.isEmpty_iff.1 h)
    rw [List.length_take, List.length_drop, size_len, List.length_nil] at this
    omega
  unfold bracB
  generalize (s.data.toList.drop 1).take (s.size - 2) = I at ed hin ⊢
  rw [ed]
  have hs : Lib.hasSuffix (I ++ [93]) [93] = true := by
    unfold Lib.hasSuffix
    exact List.isSuffixOf_iff_suffix.2 ⟨I, rfl⟩
  have ht : Lib.trimSuffix (I ++ [93]) [93] = I := by
    unfold Lib.trimSuffix
    rw [hs]
    simp
  rw [hs, ht, hin]
  simp
theorem brac_short {s : ByteArray} (h3 : ¬ 3 ≤ s.size) : bracB s.data.toList = false := by
  unfold bracB
  have hd : (s.data.toList.drop 1).length ≤ 1 := by rw [List.length_drop, size_len]; omega
  generalize s.data.toList.drop 1 = d at hd ⊢
  rw [Bool.eq_false_iff]
  intro h
  simp only [Bool.and_eq_true] at h
  have e := suffix_split h.1
  have hi := h.2.2
  generalize Lib.trimSuffix d [93] = I at e hi
  rw [e, List.length_append, List.length_singleton] at hd
  have : I = [] := List.eq_nil_of_length_eq_zero (by omega)
  subst this
  simp at hi
theorem brac_last {s : ByteArray} (h3 : 2 ≤ s.size) (hl : s[s.size - 1] ≠ 93) : bracB s.data.toList = false := by
  unfold bracB
  rw [Bool.eq_false_iff]
  intro h
  simp only [Bool.and_eq_true] at h
  have e := suffix_split h.1
  have e2 := last_list s (by omega)
  have e3 : s.data.toList.drop 1 = (s.data.toList.take (s.size - 1)).drop 1 ++ [s[s.size - 1]] := by
    conv => lhs; rw [e2]
    rw [ext_take, List.drop_append_of_le_length (by rw [List.length_take, size_len]; omega)]
  rw [e3] at e
  have := List.append_inj_right' e rfl
  simp at this
  exact hl this
theorem data_get (s : ByteArray) (k i : Nat) (h : k < s.size) (h2 : i < s.data.toList.length) (e : i = k) : s.data.toList[i] = s[k] := by subst e; rfl
theorem inner_snoc (s : ByteArray) (k : Nat) (h0 : 1 ≤ k) (h : k < s.size) : (((s.data.toList.drop 1).take (k + 1 - 1)).all brc) = ((((s.data.toList.drop 1).take (k - 1)).all brc) && brc s[k]) := by
  have e : (s.data.toList.drop 1).take (k + 1 - 1) = (s.data.toList.drop 1).take (k - 1) ++ [s[k]] := by
    rw [show k + 1 - 1 = (k - 1) + 1 by omega, List.take_succ_eq_append_getElem (by rw [List.length_drop, size_len]; omega), List.getElem_drop]
    rw [data_get s k _ h _ (by omega)]
  rw [e]
  simp
theorem inner_no (s : ByteArray) (k n : Nat) (h0 : 1 ≤ k) (h : k < s.size) (hn : k < n + 1) (hb : brc s[k] = false) : ((s.data.toList.drop 1).take n).all brc = false := by
  rw [Bool.eq_false_iff]
  intro hall
  have hm : s[k] ∈ (s.data.toList.drop 1).take n := by
    rw [List.mem_take_iff_getElem]
    refine ⟨k - 1, by rw [List.length_drop, size_len]; omega, ?_⟩
    rw [List.getElem_drop]
    exact data_get s k _ h _ (by omega)
  have := List.all_eq_true.1 hall _ hm
  rw [hb] at this
  cases this
set_option maxHeartbeats 4000000 in
theorem rnamed_any (s : ByteArray) (w : World) (hs : s.size ≤ 140737488355328) : Calls Tryz.prog 49 #[.string s] w fun e w' => e = .returned (.bool (hostB s.data.toList)) ∧ w = w' := by
  have HM := hide (fun w => rmade_any s ⟨#[45, 46, 95, 126, 33, 36, 38, 39, 40, 41, 42, 43, 59, 61]⟩ w hs (by unfold maxLen; decide))
  rw [show (⟨#[45, 46, 95, 126, 33, 36, 38, 39, 40, 41, 42, 43, 59, 61]⟩ : ByteArray).data.toList = hostMarks from rfl] at HM
  by_cases h0 : 0 < s.size
  · have h0i : (0 : Int) < (s.size : Int) := by omega
    have hhd : s.data.toList.head? = some s[0] := by rw [head_list s h0]; rfl
    by_cases hb : s[0] = 91
    · have tb : (((s[0].toNat : Int)) == 91) = true := beq_iff_eq.2 (by rw [hb]; rfl)
      have eh : hostB s.data.toList = bracB s.data.toList := by unfold hostB; rw [prefix_head, hhd, hb]; rfl
      rw [eh]
      clear hhd hb eh HM
      by_cases h3 : 3 ≤ s.size
      · have h3i : ¬ (s.size : Int) < 3 := by omega
        have hlt : s.size - 1 < s.size := by omega
        have ei : ((s.size : Int) - 1) = ((s.size - 1 : Nat) : Int) := by omega
        by_cases hl : s[s.size - 1] = 93
        · have tl : (((s[s.size - 1].toNat : Int)) != 93) = false := by rw [hl]; rfl
          rw [brac_ok h3 hl]
          obtain ⟨z, hz⟩ : ∃ z, ((s.data.toList.drop 1).take (s.size - 2)).all brc = z := ⟨_, rfl⟩
          rw [hz]
          have HZ := hide hz
          clear hz hl
          go_enter Tryz.func49, Tryz.ntmps49
          go_wp2
          go_loop [4] (fun i => ∃ k : Nat, 1 ≤ k ∧ k ≤ s.size - 1 ∧ i = .int .i64 k ∧ Hid (((s.data.toList.drop 1).take (k - 1)).all brc = true)) (fun i => s.size - (intOf i).toNat)
          case atStart => exact ⟨1, Nat.le_refl _, by omega, rfl, hide (by simp)⟩
          case round =>
            obtain ⟨k, hk1, hk, rfl, H⟩ := hrel
            by_cases hk2 : k < s.size - 1
            · have hki : (k : Int) < ((s.size - 1 : Nat) : Int) := by omega
              have hks : k < s.size := by omega
              have hbk := byte_lt s[k]
              have HX := hide (rhx_any s[k])
              have HN : brc s[k] = true → Hid (((s.data.toList.drop 1).take (k + 1 - 1)).all brc = true) := fun h => hide (by rw [inner_snoc s k hk1 hks, H.out, h]; rfl)
              have HB : brc s[k] = false → Hid (z = false) := fun h => hide (by rw [← HZ.out]; exact inner_no s k _ hk1 hks (by omega) h)
              cases hx1 : hx s[k] with
              | true =>
                have HF := HN (by unfold brc; rw [hx1]; simp)
                rw [hx1] at HX
                clear HN HB hx1 HZ
                go_wp2_with (go_at_call 71; refine (HX.out _).mono ?_; rintro e w' ⟨rfl, rfl⟩)
                exact ⟨⟨k + 1, by omega, by omega, by go_num, HF⟩, by simp [intOf]; omega⟩
              | false =>
                by_cases h58 : s[k].toNat = 58
                · have t58 : (((s[k].toNat : Int)) != 58) = false := by rw [bne_eq_false_iff_eq]; omega
                  have HF := HN (by unfold brc; rw [decide_eq_true (show s[k] = 58 from byte_is (n := 58) h58 (by decide))]; rfl)
                  rw [hx1] at HX
                  clear HN HB hx1 HZ h58
                  go_wp2_with (go_at_call 71; refine (HX.out _).mono ?_; rintro e w' ⟨rfl, rfl⟩)
                  exact ⟨⟨k + 1, by omega, by omega, by go_num, HF⟩, by simp [intOf]; omega⟩
                · have t58 : (((s[k].toNat : Int)) != 58) = true := by rw [bne_iff_ne]; omega
                  by_cases h46 : s[k].toNat = 46
                  · have t46 : (((s[k].toNat : Int)) != 46) = false := by rw [bne_eq_false_iff_eq]; omega
                    have HF := HN (by unfold brc; rw [decide_eq_true (show s[k] = 46 from byte_is (n := 46) h46 (by decide))]; simp)
                    rw [hx1] at HX
                    clear HN HB hx1 HZ h46
                    go_wp2_with (go_at_call 71; refine (HX.out _).mono ?_; rintro e w' ⟨rfl, rfl⟩)
                    exact ⟨⟨k + 1, by omega, by omega, by go_num, HF⟩, by simp [intOf]; omega⟩
                  · have t46 : (((s[k].toNat : Int)) != 46) = true := by rw [bne_iff_ne]; omega
                    have HF := HB (by unfold brc; rw [decide_eq_false (show ¬ s[k] = 58 from byte_ne (n := 58) h58 (by decide)), decide_eq_false (show ¬ s[k] = 46 from byte_ne (n := 46) h46 (by decide)), hx1]; rfl)
                    rw [hx1] at HX
                    clear HN HB hx1 HZ
                    go_wp2_with (go_at_call 71; refine (HX.out _).mono ?_; rintro e w' ⟨rfl, rfl⟩)
                    go_ret
                    exact ⟨ret_bool HF.out.symm, rfl⟩
            · have hki : ¬ (k : Int) < ((s.size - 1 : Nat) : Int) := by omega
              have HF : Hid (z = true) := hide (by rw [← HZ.out, ← H.out]; congr 2; omega)
              go_wp2
              go_ret
              exact ⟨ret_bool HF.out.symm, rfl⟩
        · have tl : (((s[s.size - 1].toNat : Int)) != 93) = true := by
            rw [bne_iff_ne]
            intro e
            exact hl (byte_is (n := 93) (by omega) (by decide))
          rw [brac_last (by omega) hl]
          clear hl
          go_enter Tryz.func49, Tryz.ntmps49
          go_wp2
          go_ret
          exact ⟨rfl, rfl⟩
      · have h3i : (s.size : Int) < 3 := by omega
        rw [brac_short h3]
        go_enter Tryz.func49, Tryz.ntmps49
        go_wp2
        go_ret
        exact ⟨rfl, rfl⟩
    · have tb : (((s[0].toNat : Int)) == 91) = false := beq_eq_false_iff_ne.2 (fun e => hb (byte_is (n := 91) (by omega) (by decide)))
      have eh : hostB s.data.toList = (decide (s.size ≤ 255) && holdsB hostMarks s.data.toList) := by
        unfold hostB
        rw [prefix_head, hhd, decide_eq_false (by simpa using hb), isEmpty_size, decide_eq_false (by omega), size_len]
        rfl
      rw [eh]
      clear hhd hb eh
      generalize holdsB hostMarks s.data.toList = z at HM ⊢
      by_cases h2 : s.size ≤ 255
      · have h2i : (s.size : Int) ≤ 255 := by omega
        rw [decide_eq_true h2]
        go_enter Tryz.func49, Tryz.ntmps49
        go_wp2_with (go_at_call 72; refine (HM.out _).mono ?_; rintro e w' ⟨rfl, rfl⟩)
        go_ret
        exact ⟨ret_bool (by first | rfl | simp), rfl⟩
      · have h2i : ¬ (s.size : Int) ≤ 255 := by omega
        rw [decide_eq_false h2]
        go_enter Tryz.func49, Tryz.ntmps49
        go_wp2
        go_ret
        exact ⟨ret_bool (by first | rfl | simp), rfl⟩
  · have h0i : ¬ (0 : Int) < (s.size : Int) := by omega
    have eh : hostB s.data.toList = false := by rw [nil_list s h0]; rfl
    rw [eh]
    go_enter Tryz.func49, Tryz.ntmps49
    go_wp2
    go_ret
    exact ⟨ret_bool (by first | rfl | simp), rfl⟩
end Go.Proofs.YtekkhjlipijmcaaGreatDoor
