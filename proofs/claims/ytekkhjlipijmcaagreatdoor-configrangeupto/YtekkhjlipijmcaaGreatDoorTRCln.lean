/- Clean, by the document's answer: one pass, then the text. -/
import Derived.Test.YtekkhjlipijmcaaGreatDoorTCln
namespace Go.Proofs.YtekkhjlipijmcaaGreatDoor
open Go.ChangeShapes Go.WideShapes Go.ChangeAt Go.RowKit

theorem jn_le (A : List (List UInt8)) : (jn A).length ≤ tl A := by
  by_cases h : A = []
  · subst h; simp [jn]
  · have := jn_len A h; omega
theorem tl_take (A : List (List UInt8)) (j : Nat) : tl (A.take j) ≤ tl A := by
  conv => rhs; rw [← List.take_append_drop j A, tl_app]
  omega
theorem refK_next (s : ByteArray) (S : List (List UInt8)) (P : List UInt8) (k : Nat) (h : k < s.size) (h2 : s[k] ≠ 47) : refK S P (s.data.toList.drop k) = refK S (P ++ [s[k]]) (s.data.toList.drop (k + 1)) := by
  rw [drop_cons s k h, refK, if_neg h2]
theorem refK_cut (s : ByteArray) (S : List (List UInt8)) (P : List UInt8) (k : Nat) (h : k < s.size) (h2 : s[k] = 47) : refK S P (s.data.toList.drop k) = refK (kstep S P false) [] (s.data.toList.drop (k + 1)) := by
  rw [drop_cons s k h, refK, if_pos h2]
theorem refK_end (s : ByteArray) (S : List (List UInt8)) (P : List UInt8) (k : Nat) (h : s.size ≤ k) : refK S P (s.data.toList.drop k) = kstep S P true := by
  rw [drop_end s k h]; rfl
theorem part_snoc (s : ByteArray) (P : List UInt8) (k : Nat) (h : k < s.size) : sS P ++ s.extract k (k + 1) = sS (P ++ [s[k]]) := bytes_ext (by rw [app_list, sS_list, sS_list, ext_one s k h])
/-- As far as the pass has come. -/
def Go1 (s : ByteArray) (KK : List (List UInt8)) (k : Nat) (S : List (List UInt8)) (P : List UInt8) : Prop := (k ≤ s.size → KK = refK S P (s.data.toList.drop k)) ∧ (s.size < k → KK = S)
theorem Go1.start (s : ByteArray) : Go1 s (kept s.data.toList.tail) 1 [] [] ∨ s.size = 0 := by
  by_cases h : s.size = 0
  · exact .inr h
  · exact .inl ⟨fun _ => by rw [refK_eq, segsFrom_empty, List.drop_one]; rfl, fun h2 => by omega⟩
theorem jn_add (S : List (List UInt8)) (j : Nat) (h : j < S.length) (h0 : 0 < j) : sS (47 :: jn (S.take (j + 1))) = (sS (47 :: jn (S.take j)) ++ slash) ++ sS S[j] := by
  apply bytes_ext
  rw [app_list, app_list, sS_list, sS_list, sS_list, slash_list, List.take_succ_eq_append_getElem h, jn_snoc, if_neg]
  · simp
  · intro e
    have := congrArg List.length e
    rw [List.length_take, List.length_nil] at this
    omega
theorem jn_first (S : List (List UInt8)) (h : 0 < S.length) : sS (47 :: jn (S.take 1)) = slash ++ sS S[0] := by
  apply bytes_ext
  rw [app_list, sS_list, sS_list, slash_list, List.take_succ_eq_append_getElem h]
  simp [jn]

set_option maxHeartbeats 4000000 in
theorem rclean_ok (s : ByteArray) (w : World) (hs : s.size ≤ 8192) (h0 : 0 < s.size) (hd : (s[0].toNat : Int) = 47) :
    Calls Tryz.prog 38 #[.string s] w fun e w' => e = .returned (.tuple #[.string (sS (47 :: jn (kept s.data.toList.tail))), .int .i64 0]) ∧ Below w.heap.size w w' := by
  have he : s.toList.isEmpty = false := by rw [Lib.toList_data, isEmpty_size]; exact decide_eq_false (by omega)
  have HT : Hid (tl (kept s.data.toList.tail) ≤ 8193) := hide (by
    have h3 := tl_keep (segs s.data.toList.tail) []
    rw [tl_segs, List.length_tail, size_len] at h3
    unfold kept
    simp only [tl] at h3
    omega)
  have HG : Hid (Go1 s (kept s.data.toList.tail) 1 [] []) := hide (by rcases Go1.start s with h | h; exact h; omega)
  generalize kept s.data.toList.tail = KK at HT HG ⊢
  go_enter Tryz.func38, Tryz.ntmps38
  go_wp2
  go_loopw [4, 5, 6] (fun v p i wr => ∃ (k : Nat) (S : List (List UInt8)) (P : List UInt8), i = .int .i64 k ∧ p = .string (sS P) ∧ 1 ≤ k ∧ k ≤ s.size + 1 ∧ S.length ≤ k ∧ P.length ≤ k ∧ Hid (Go1 s KK k S P) ∧ Hid (Row wr w.heap.size 9 v (sm S)) ∧ Hid (Below w.heap.size w wr)) (fun _ _ i _ => s.size + 1 - (intOf i).toNat)
  case atStart => exact ⟨1, [], [], rfl, rfl, Nat.le_refl _, by omega, Nat.zero_le _, Nat.zero_le _, HG, hide (Row.nil _ _ _), hide (Below.refl _ _)⟩
  case round =>
    obtain ⟨k, S, P, rfl, rfl, hk1, hk, hS, hP, H, HR, HB⟩ := hrel
    obtain ⟨a, c, rfl, hc1, hc2⟩ := HR.out.shape
    rw [sm_len] at *
    have hsz : (sS P).size = P.length := sS_size P
    by_cases hle : (k : Int) ≤ s.size
    · by_cases hlt : (k : Int) < s.size
      · have hb : k < s.size := by omega
        by_cases hsl : (s[k].toNat : Int) = 47
        · have hc := byte_is (n := 47) (c := s[k]) (by omega) (by omega)
          have HG1 : Hid (∀ X, X = kstep S P false → Go1 s KK (k + 1) X []) := hide (fun X e => ⟨fun _ => by rw [e, ← refK_cut s S P k hb hc]; exact H.out.1 (by omega), fun h => by omega⟩)
          have tk : ((k : Int) == (s.size : Int)) = false := beq_eq_false_iff_ne.2 (by omega)
          clear hc
          have hdd := str_eq (sS P) [46, 46]
          have hdo := str_eq (sS P) [46]
          rw [sS_list] at hdd hdo
          by_cases h1 : P = dots
          · have t1 : ((sS P).toList == [46, 46]) = true := by rw [hdd]; exact decide_eq_true h1
            have t2 : ((sS P).toList == [46]) = false := by rw [hdo]; exact decide_eq_false (by rw [h1]; simp [dots])
            have HX := hide h1
            clear hdd hdo h1
            by_cases hS0 : 0 < S.length
            · have hS0i : (0 : Int) < (S.length : Int) := by omega
              have hmx : ((S.length : Int) - 1) = ((S.length - 1 : Nat) : Int) := by omega
              have HRC : Hid (Row wr w.heap.size 9 (.slice a (S.length - 1) c) (sm S.dropLast)) := hide (by rw [← sm_dropLast]; exact HR.out.cut (S.length - 1) (by rw [sm_len]; omega))
              have HDL : Hid (S.dropLast.length = S.length - 1) := hide (by simp)
              have hsc : S.length - 1 ≤ c := by omega
              go_wp2
              exact ⟨⟨k + 1, S.dropLast, [], by go_num, rfl, by omega, by omega, by rw [HDL.out]; omega, Nat.zero_le _, hide (HG1.out _ (by unfold kstep; rw [if_pos HX.out]; rfl)), HRC, HB⟩, by simp [intOf]; omega⟩
            · have hS0i : ¬ (0 : Int) < (S.length : Int) := by omega
              have HS0 : Hid (S = S.dropLast) := hide (by rw [List.eq_nil_of_length_eq_zero (by omega : S.length = 0)]; rfl)
              go_wp2
              exact ⟨⟨k + 1, S, [], by go_num, rfl, by omega, by omega, by omega, Nat.zero_le _, hide (HG1.out _ (by unfold kstep; rw [if_pos HX.out, ← HS0.out]; rfl)), HR, HB⟩, by simp [intOf]; omega⟩
          · have t1 : ((sS P).toList == [46, 46]) = false := by rw [hdd]; exact decide_eq_false h1
            by_cases h2 : P = dot
            · have t2 : ((sS P).toList == [46]) = true := by rw [hdo]; exact decide_eq_true h2
              have HX := hide h2
              clear hdd hdo h2
              go_wp2
              exact ⟨⟨k + 1, S, [], by go_num, rfl, by omega, by omega, by omega, Nat.zero_le _, hide (HG1.out _ (by unfold kstep; rw [if_neg h1, if_pos HX.out]; rfl)), HR, HB⟩, by simp [intOf]; omega⟩
            · have t2 : ((sS P).toList == [46]) = false := by rw [hdo]; exact decide_eq_false h2
              clear hdd hdo
              go_wp2_with (at_builtin; apply Hid.out)
              unfold Hid
              refine wpList_append_one elS rfl _ _ rfl wr w.heap.size (.slice a S.length c) (sm S) (.string (sS P)) rfl rfl HR.out rfl (by rw [sm_len]; omega) (by rw [sm_len]; omega) HB.out.size ?_
              intro v' w2 O' B'
              have O2 := hide O'
              have B2 := hide (HB.out.trans B')
              clear O' B'
              go_wp2
              exact ⟨⟨k + 1, S ++ [P], [], by go_num, rfl, by omega, by omega, by rw [List.length_append, List.length_singleton]; omega, Nat.zero_le _, hide (HG1.out _ (by unfold kstep; rw [if_neg h1, if_neg h2])), hide (by rw [sm_snoc]; exact O2.out), B2⟩, by simp [intOf]; omega⟩
        · have hc := byte_ne (n := 47) (c := s[k]) (by omega) (by omega)
          have HG1 : Hid (Go1 s KK (k + 1) S (P ++ [s[k]])) := hide ⟨fun _ => by rw [← refK_next s S P k hb hc]; exact H.out.1 (by omega), fun h => by omega⟩
          have HPS := hide (part_snoc s P k hb)
          have hes := ext_one_size s k hb
          have hslc := slice_one s k hb
          generalize s.extract k (k + 1) = E at HPS hes hslc
          clear hc
          go_wp2
          exact ⟨⟨k + 1, S, P ++ [s[k]], by go_num, by rw [HPS.out], by omega, by omega, by omega, by rw [List.length_append, List.length_singleton]; omega, HG1, HR, HB⟩, by simp [intOf]; omega⟩
      · have HG1 : Hid (∀ X, X = kstep S P true → Go1 s KK (k + 1) X []) := hide (fun X e => ⟨fun h => by omega, fun _ => by rw [e, ← refK_end s S P k (by omega)]; exact H.out.1 (by omega)⟩)
        have tk : ((k : Int) == (s.size : Int)) = true := beq_iff_eq.2 (by omega)
        have hdd := str_eq (sS P) [46, 46]
        have hdo := str_eq (sS P) [46]
        rw [sS_list] at hdd hdo
        by_cases h1 : P = dots
        · have t1 : ((sS P).toList == [46, 46]) = true := by rw [hdd]; exact decide_eq_true h1
          have t2 : ((sS P).toList == [46]) = false := by rw [hdo]; exact decide_eq_false (by rw [h1]; simp [dots])
          have HX := hide h1
          clear hdd hdo h1
          by_cases hS0 : 0 < S.length
          · have hS0i : (0 : Int) < (S.length : Int) := by omega
            have hmx : ((S.length : Int) - 1) = ((S.length - 1 : Nat) : Int) := by omega
            have HRC : Hid (Row wr w.heap.size 9 (.slice a (S.length - 1) c) (sm S.dropLast)) := hide (by rw [← sm_dropLast]; exact HR.out.cut (S.length - 1) (by rw [sm_len]; omega))
            have HDL : Hid (S.dropLast.length = S.length - 1) := hide (by simp)
            have hsc : S.length - 1 ≤ c := by omega
            go_wp2_with (at_builtin; apply Hid.out)
            unfold Hid
            refine wpList_append_one elS rfl _ _ rfl wr w.heap.size (.slice a (S.length - 1) c) (sm S.dropLast) (.string ⟨#[]⟩) rfl rfl HRC.out rfl (by rw [sm_len, HDL.out]; omega) (by rw [sm_len, HDL.out]; omega) HB.out.size ?_
            intro v' w2 O' B'
            have O2 := hide O'
            have B2 := hide (HB.out.trans B')
            clear O' B'
            go_wp2
            exact ⟨⟨k + 1, S.dropLast ++ [[]], [], by go_num, rfl, by omega, by omega, by rw [List.length_append, List.length_singleton, HDL.out]; omega, Nat.zero_le _, hide (HG1.out _ (by unfold kstep; rw [if_pos HX.out]; rfl)), hide (by rw [sm_snoc]; exact O2.out), B2⟩, by simp [intOf]; omega⟩
          · have hS0i : ¬ (0 : Int) < (S.length : Int) := by omega
            have HS0 : Hid (S = S.dropLast) := hide (by rw [List.eq_nil_of_length_eq_zero (by omega : S.length = 0)]; rfl)
            go_wp2_with (at_builtin; apply Hid.out)
            unfold Hid
            refine wpList_append_one elS rfl _ _ rfl wr w.heap.size (.slice a S.length c) (sm S) (.string ⟨#[]⟩) rfl rfl HR.out rfl (by rw [sm_len]; omega) (by rw [sm_len]; omega) HB.out.size ?_
            intro v' w2 O' B'
            have O2 := hide O'
            have B2 := hide (HB.out.trans B')
            clear O' B'
            go_wp2
            exact ⟨⟨k + 1, S ++ [[]], [], by go_num, rfl, by omega, by omega, by rw [List.length_append, List.length_singleton]; omega, Nat.zero_le _, hide (HG1.out _ (by unfold kstep; rw [if_pos HX.out, ← HS0.out]; rfl)), hide (by rw [sm_snoc]; exact O2.out), B2⟩, by simp [intOf]; omega⟩
        · have t1 : ((sS P).toList == [46, 46]) = false := by rw [hdd]; exact decide_eq_false h1
          by_cases h2 : P = dot
          · have t2 : ((sS P).toList == [46]) = true := by rw [hdo]; exact decide_eq_true h2
            have HX := hide h2
            clear hdd hdo h2
            go_wp2_with (at_builtin; apply Hid.out)
            unfold Hid
            refine wpList_append_one elS rfl _ _ rfl wr w.heap.size (.slice a S.length c) (sm S) (.string ⟨#[]⟩) rfl rfl HR.out rfl (by rw [sm_len]; omega) (by rw [sm_len]; omega) HB.out.size ?_
            intro v' w2 O' B'
            have O2 := hide O'
            have B2 := hide (HB.out.trans B')
            clear O' B'
            go_wp2
            exact ⟨⟨k + 1, S ++ [[]], [], by go_num, rfl, by omega, by omega, by rw [List.length_append, List.length_singleton]; omega, Nat.zero_le _, hide (HG1.out _ (by unfold kstep; rw [if_neg h1, if_pos HX.out]; rfl)), hide (by rw [sm_snoc]; exact O2.out), B2⟩, by simp [intOf]; omega⟩
          · have t2 : ((sS P).toList == [46]) = false := by rw [hdo]; exact decide_eq_false h2
            clear hdd hdo
            go_wp2_with (at_builtin; apply Hid.out)
            unfold Hid
            refine wpList_append_one elS rfl _ _ rfl wr w.heap.size (.slice a S.length c) (sm S) (.string (sS P)) rfl rfl HR.out rfl (by rw [sm_len]; omega) (by rw [sm_len]; omega) HB.out.size ?_
            intro v' w2 O' B'
            have O2 := hide O'
            have B2 := hide (HB.out.trans B')
            clear O' B'
            go_wp2
            exact ⟨⟨k + 1, S ++ [P], [], by go_num, rfl, by omega, by omega, by rw [List.length_append, List.length_singleton]; omega, Nat.zero_le _, hide (HG1.out _ (by unfold kstep; rw [if_neg h1, if_neg h2])), hide (by rw [sm_snoc]; exact O2.out), B2⟩, by simp [intOf]; omega⟩
    · have HE : Hid (KK = S) := hide (H.out.2 (by omega))
      have HC : Hid (∀ j (h : j < S.length), ∃ g, a = some ⟨g, 0, none⟩ ∧ g < wr.heap.size ∧ wr.cell? ⟨g, j, none⟩ = some (.string (sS S[j]))) := hide (fun j hj => by
        obtain ⟨g, h1, h2⟩ := HR.out.cell (j := j) (by rw [sm_len]; exact hj)
        refine ⟨g, h1, ?_, ?_⟩
        · exact (HR.out.lt (by rw [h1]; rfl)).2
        · rw [h2]; simp [sm, sc, hj])
      have HL : Hid (∀ j, (sS (47 :: jn (S.take j))).size ≤ 8195) := hide (fun j => by
        have h1 := jn_le (S.take j)
        have h2 := tl_take S j
        have h3 := HT.out
        rw [HE.out] at h3
        rw [sS_size, List.length_cons]
        omega)
      have HX : Hid (∀ j (h : j < S.length), (sS S[j]).size ≤ 8195) := hide (fun j hj => by
        have h1 := tl_take S (j + 1)
        rw [List.take_succ_eq_append_getElem hj, tl_app] at h1
        simp only [tl] at h1
        have h3 := HT.out
        rw [HE.out] at h3
        rw [sS_size]
        omega)
      have hl9 : S.length ≤ 9000 := by omega
      clear H HT HR HG
      go_wp2
      go_loop [7, 74] (fun t i => ∃ (j : Nat) (T : ByteArray), i = .int .i64 j ∧ t = .string T ∧ j ≤ S.length ∧ Hid (T = sS (47 :: jn (S.take j)))) (fun _ i => S.length - (intOf i).toNat)
      case atStart => exact ⟨0, _, rfl, rfl, Nat.zero_le _, hide (by simp [jn, sS])⟩
      case round =>
        obtain ⟨j, T, rfl, rfl, hj, HTj⟩ := hrel
        have hTs : T.size ≤ 8195 := by rw [HTj.out]; exact HL.out j
        by_cases hlt : j < S.length
        · obtain ⟨g, rfl, hg, hcell⟩ := HC.out j hlt
          have hxs := HX.out j hlt
          by_cases hj0 : (0 : Int) < (j : Int)
          · have HN : Hid (T ++ slash ++ sS S[j] = sS (47 :: jn (S.take (j + 1)))) := hide (by rw [jn_add S j hlt (by omega), HTj.out])
            generalize sS S[j] = X at hcell hxs HN
            have hts2 : (T ++ ⟨#[47]⟩).size ≤ 8196 := by rw [app_size]; have : (⟨#[47]⟩ : ByteArray).size = 1 := rfl; omega
            go_wp2
            exact ⟨⟨j + 1, _, by go_num, rfl, by omega, HN⟩, by simp [intOf]; omega⟩
          · have hj1 : j = 0 := by omega
            subst hj1
            have HN : Hid (T ++ sS S[0] = sS (47 :: jn (S.take (0 + 1)))) := hide (by rw [jn_first S hlt, HTj.out]; rfl)
            generalize sS S[0] = X at hcell hxs HN
            go_wp2
            exact ⟨⟨0 + 1, _, by go_num, rfl, by omega, HN⟩, by simp [intOf]; omega⟩
        · have HF : Hid (T = sS (47 :: jn KK)) := hide (by rw [HTj.out, List.take_of_length_le (by omega), HE.out])
          go_wp2
          go_ret2
          exact ⟨by rw [← HF.out]; rfl, HB.out⟩
theorem head_at (s : ByteArray) (h : 0 < s.size) : s.data.toList.head? = some s[0] := by rw [head_list s h]; rfl
set_option maxHeartbeats 1000000 in
theorem rclean_any (s : ByteArray) (w : World) :
    Calls Tryz.prog 38 #[.string s] w fun e w' => e = .returned (.tuple #[.string (cleanS s), .int .i64 (cleanE s.data.toList : Nat)]) ∧ Below w.heap.size w w' := by
  by_cases h0 : 0 < s.size
  · have he : s.toList.isEmpty = false := by rw [Lib.toList_data, isEmpty_size]; exact decide_eq_false (by omega)
    have hhd := head_at s h0
    by_cases hd : (s[0].toNat : Int) = 47
    · have hc : s[0] = 47 := byte_is (n := 47) (by omega) (by decide)
      rw [hc] at hhd
      by_cases h2 : 8192 < s.size
      · have HR : Hid (cleanS s = ⟨#[]⟩ ∧ ((cleanE s.data.toList : Nat) : Int) = 2) := hide (by
          unfold cleanS cleanL cleanE
          rw [if_pos hhd, if_pos hhd, size_len, if_pos h2, if_pos h2]
          exact ⟨rfl, rfl⟩)
        have td : ((s[0].toNat : Int) != 47) = false := by rw [hd]; rfl
        clear hc hd hhd
        go_enter Tryz.func38, Tryz.ntmps38
        go_wp2
        go_ret2
        exact ⟨ret_clean HR.out, Below.refl _ _⟩
      · have e : cleanS s = sS (47 :: jn (kept s.data.toList.tail)) ∧ cleanE s.data.toList = 0 := by
          unfold cleanS cleanL cleanE
          rw [if_pos hhd, if_pos hhd, size_len, if_neg h2, if_neg h2]
          exact ⟨rfl, rfl⟩
        rw [e.1, e.2]
        exact rclean_ok s w (by omega) h0 hd
    · have hc : s[0] ≠ 47 := byte_ne (n := 47) (by omega) (by decide)
      have HR : Hid (cleanS s = ⟨#[]⟩ ∧ ((cleanE s.data.toList : Nat) : Int) = 1) := hide (by
        unfold cleanS cleanL cleanE
        rw [if_neg (by rw [hhd]; simpa using hc), if_neg (by rw [hhd]; simpa using hc)]
        exact ⟨rfl, rfl⟩)
      clear hc hhd
      go_enter Tryz.func38, Tryz.ntmps38
      go_wp2
      go_ret2
      exact ⟨ret_clean HR.out, Below.refl _ _⟩
  · have he : s.toList.isEmpty = true := by rw [Lib.toList_data, isEmpty_size]; exact decide_eq_true (by omega)
    have HR : Hid (cleanS s = ⟨#[]⟩ ∧ ((cleanE s.data.toList : Nat) : Int) = 1) := hide (by
      unfold cleanS cleanL cleanE
      rw [nil_list s h0]
      exact ⟨rfl, rfl⟩)
    go_enter Tryz.func38, Tryz.ntmps38
    go_wp2
    go_ret2
    exact ⟨ret_clean HR.out, Below.refl _ _⟩
end Go.Proofs.YtekkhjlipijmcaaGreatDoor
