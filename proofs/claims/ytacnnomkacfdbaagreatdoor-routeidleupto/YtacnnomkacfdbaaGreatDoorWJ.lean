/- WJ: TRCln TRef1 TRef2 TRef3 TSame. -/
import Derived.Test.YtacnnomkacfdbaaGreatDoorWC
import Derived.Test.YtacnnomkacfdbaaGreatDoorWD
import Derived.Test.YtacnnomkacfdbaaGreatDoorWB
import Derived.Handy
/- Clean, by the document's answer: one pass, then the text. -/
namespace Go.Proofs.YtacnnomkacfdbaaGreatDoor
open Go.ChangeShapes Go.WideShapes Go.ChangeAt Go.RowKit

theorem jn_le (A : List (List UInt8)) : (jn A).length ≤ tl A := by
  by_cases h : A = []
  · subst h; simp [jn]
  · have := jn_len A h; omega
theorem tl_take (A : List (List UInt8)) (j : Nat) : tl (A.take j) ≤ tl A := by
  conv => rhs; rw [← List.take_append_drop j A, tl_app]
  omega
theorem refK_next (s : ByteArray) (S : List (List UInt8)) (P : List UInt8) (k : Nat) (h : k < s.size) (h2 : s[k] ≠ 47) : refK S P (s.data.toList.drop k) = refK S (P ++ [s[k]]) (s.data.toList.drop (k + 1)) := by
  rw [drop_cons s k h, refK, if_neg h2]
theorem refK_cut (s : ByteArray) (S : List (List UInt8)) (P : List UInt8) (k : Nat) (h : k < s.size) (h2 : s[k] = 47) : refK S P (s.data.toList.drop k) = refK (kstep S P false) [] (s.data.toList.drop (k + 1)) := by
  rw [drop_cons s k h, refK, if_pos h2]
theorem refK_end (s : ByteArray) (S : List (List UInt8)) (P : List UInt8) (k : Nat) (h : s.size ≤ k) : refK S P (s.data.toList.drop k) = kstep S P true := by
  rw [drop_end s k h]; rfl
theorem part_snoc (s : ByteArray) (P : List UInt8) (k : Nat) (h : k < s.size) : sS P ++ s.extract k (k + 1) = sS (P ++ [s[k]]) := bytes_ext (by rw [app_list, sS_list, sS_list, ext_one s k h])
/-- As far as the pass has come. -/
def Go1 (s : ByteArray) (KK : List (List UInt8)) (k : Nat) (S : List (List UInt8)) (P : List UInt8) : Prop := (k ≤ s.size → KK = refK S P (s.data.toList.drop k)) ∧ (s.size < k → KK = S)
theorem Go1.start (s : ByteArray) : Go1 s (kept s.data.toList.tail) 1 [] [] ∨ s.size = 0 := by
  by_cases h : s.size = 0
  · exact .inr h
  · exact .inl ⟨fun _ => by rw [refK_eq, segsFrom_empty, List.drop_one]; rfl, fun h2 => by omega⟩
theorem jn_add (S : List (List UInt8)) (j : Nat) (h : j < S.length) (h0 : 0 < j) : sS (47 :: jn (S.take (j + 1))) = (sS (47 :: jn (S.take j)) ++ slash) ++ sS S[j] := by
  apply bytes_ext
  rw [app_list, app_list, sS_list, sS_list, sS_list, slash_list, List.take_succ_eq_append_getElem h, jn_snoc, if_neg]
  · simp
  · intro e
    have := congrArg List.length e
    rw [List.length_take, List.length_nil] at this
    omega
theorem jn_first (S : List (List UInt8)) (h : 0 < S.length) : sS (47 :: jn (S.take 1)) = slash ++ sS S[0] := by
  apply bytes_ext
  rw [app_list, sS_list, sS_list, slash_list, List.take_succ_eq_append_getElem h]
  simp [jn]

set_option maxHeartbeats 4000000 in
theorem rclean_ok (s : ByteArray) (w : World) (hs : s.size ≤ 8192) (h0 : 0 < s.size) (hd : (s[0].toNat : Int) = 47) :
    Calls Tryz.prog 70 #[.string s] w fun e w' => e = .returned (.tuple #[.string (sS (47 :: jn (kept s.data.toList.tail))), .int .i64 0]) ∧ Below w.heap.size w w' := by
  have he : s.toList.isEmpty = false := by rw [Lib.toList_data, isEmpty_size]; exact decide_eq_false (by omega)
  have HT : Hid (tl (kept s.data.toList.tail) ≤ 8193) := hide (by
    have h3 := tl_keep (segs s.data.toList.tail) []
    rw [tl_segs, List.length_tail, size_len] at h3
    unfold kept
    simp only [tl] at h3
    omega)
  have HG : Hid (Go1 s (kept s.data.toList.tail) 1 [] []) := hide (by rcases Go1.start s with h | h; exact h; omega)
  generalize kept s.data.toList.tail = KK at HT HG ⊢
  go_enter Tryz.func70, Tryz.ntmps70
  go_wp2
  go_loopw [4, 5, 6] (fun v p i wr => ∃ (k : Nat) (S : List (List UInt8)) (P : List UInt8), i = .int .i64 k ∧ p = .string (sS P) ∧ 1 ≤ k ∧ k ≤ s.size + 1 ∧ S.length ≤ k ∧ P.length ≤ k ∧ Hid (Go1 s KK k S P) ∧ Hid (Row wr w.heap.size 9 v (sm S)) ∧ Hid (Below w.heap.size w wr)) (fun _ _ i _ => s.size + 1 - (intOf i).toNat)
  case atStart => exact ⟨1, [], [], rfl, rfl, Nat.le_refl _, by omega, Nat.zero_le _, Nat.zero_le _, HG, hide (Row.nil _ _ _), hide (Below.refl _ _)⟩
  case round =>
    obtain ⟨k, S, P, rfl, rfl, hk1, hk, hS, hP, H, HR, HB⟩ := hrel
    obtain ⟨a, c, rfl, hc1, hc2⟩ := HR.out.shape
    rw [sm_len] at *
    have hsz : (sS P).size = P.length := sS_size P
    by_cases hle : (k : Int) ≤ s.size
    · by_cases hlt : (k : Int) < s.size
      · have hb : k < s.size := by omega
        by_cases hsl : (s[k].toNat : Int) = 47
        · have hc := byte_is (n := 47) (c := s[k]) (by omega) (by omega)
          have HG1 : Hid (∀ X, X = kstep S P false → Go1 s KK (k + 1) X []) := hide (fun X e => ⟨fun _ => by rw [e, ← refK_cut s S P k hb hc]; exact H.out.1 (by omega), fun h => by omega⟩)
          have tk : ((k : Int) == (s.size : Int)) = false := beq_eq_false_iff_ne.2 (by omega)
          clear hc
          have hdd := str_eq (sS P) [46, 46]
          have hdo := str_eq (sS P) [46]
          rw [sS_list] at hdd hdo
          by_cases h1 : P = dots
          · have t1 : ((sS P).toList == [46, 46]) = true := by rw [hdd]; exact decide_eq_true h1
            have t2 : ((sS P).toList == [46]) = false := by rw [hdo]; exact decide_eq_false (by rw [h1]; simp [dots])
            have HX := hide h1
            clear hdd hdo h1
            by_cases hS0 : 0 < S.length
            · have hS0i : (0 : Int) < (S.length : Int) := by omega
              have hmx : ((S.length : Int) - 1) = ((S.length - 1 : Nat) : Int) := by omega
              have HRC : Hid (Row wr w.heap.size 9 (.slice a (S.length - 1) c) (sm S.dropLast)) := hide (by rw [← sm_dropLast]; exact HR.out.cut (S.length - 1) (by rw [sm_len]; omega))
              have HDL : Hid (S.dropLast.length = S.length - 1) := hide (by simp)
              have hsc : S.length - 1 ≤ c := by omega
              go_wp2
              exact ⟨⟨k + 1, S.dropLast, [], by go_num, rfl, by omega, by omega, by rw [HDL.out]; omega, Nat.zero_le _, hide (HG1.out _ (by unfold kstep; rw [if_pos HX.out]; rfl)), HRC, HB⟩, by simp [intOf]; omega⟩
            · have hS0i : ¬ (0 : Int) < (S.length : Int) := by omega
              have HS0 : Hid (S = S.dropLast) := hide (by rw [List.eq_nil_of_length_eq_zero (by omega : S.length = 0)]; rfl)
              go_wp2
              exact ⟨⟨k + 1, S, [], by go_num, rfl, by omega, by omega, by omega, Nat.zero_le _, hide (HG1.out _ (by unfold kstep; rw [if_pos HX.out, ← HS0.out]; rfl)), HR, HB⟩, by simp [intOf]; omega⟩
          · have t1 : ((sS P).toList == [46, 46]) = false := by rw [hdd]; exact decide_eq_false h1
            by_cases h2 : P = dot
            · have t2 : ((sS P).toList == [46]) = true := by rw [hdo]; exact decide_eq_true h2
              have HX := hide h2
              clear hdd hdo h2
              go_wp2
              exact ⟨⟨k + 1, S, [], by go_num, rfl, by omega, by omega, by omega, Nat.zero_le _, hide (HG1.out _ (by unfold kstep; rw [if_neg h1, if_pos HX.out]; rfl)), HR, HB⟩, by simp [intOf]; omega⟩
            · have t2 : ((sS P).toList == [46]) = false := by rw [hdo]; exact decide_eq_false h2
              clear hdd hdo
              go_wp2_with (at_builtin; apply Hid.out)
              unfold Hid
              refine wpList_append_one elS rfl _ _ rfl wr w.heap.size (.slice a S.length c) (sm S) (.string (sS P)) rfl rfl HR.out rfl (by rw [sm_len]; omega) (by rw [sm_len]; omega) HB.out.size ?_
              intro v' w2 O' B'
              have O2 := hide O'
              have B2 := hide (HB.out.trans B')
              clear O' B'
              go_wp2
              exact ⟨⟨k + 1, S ++ [P], [], by go_num, rfl, by omega, by omega, by rw [List.length_append, List.length_singleton]; omega, Nat.zero_le _, hide (HG1.out _ (by unfold kstep; rw [if_neg h1, if_neg h2])), hide (by rw [sm_snoc]; exact O2.out), B2⟩, by simp [intOf]; omega⟩
        · have hc := byte_ne (n := 47) (c := s[k]) (by omega) (by omega)
          have HG1 : Hid (Go1 s KK (k + 1) S (P ++ [s[k]])) := hide ⟨fun _ => by rw [← refK_next s S P k hb hc]; exact H.out.1 (by omega), fun h => by omega⟩
          have HPS := hide (part_snoc s P k hb)
          have hes := ext_one_size s k hb
          have hslc := slice_one s k hb
          generalize s.extract k (k + 1) = E at HPS hes hslc
          clear hc
          go_wp2
          exact ⟨⟨k + 1, S, P ++ [s[k]], by go_num, by rw [HPS.out], by omega, by omega, by omega, by rw [List.length_append, List.length_singleton]; omega, HG1, HR, HB⟩, by simp [intOf]; omega⟩
      · have HG1 : Hid (∀ X, X = kstep S P true → Go1 s KK (k + 1) X []) := hide (fun X e => ⟨fun h => by omega, fun _ => by rw [e, ← refK_end s S P k (by omega)]; exact H.out.1 (by omega)⟩)
        have tk : ((k : Int) == (s.size : Int)) = true := beq_iff_eq.2 (by omega)
        have hdd := str_eq (sS P) [46, 46]
        have hdo := str_eq (sS P) [46]
        rw [sS_list] at hdd hdo
        by_cases h1 : P = dots
        · have t1 : ((sS P).toList == [46, 46]) = true := by rw [hdd]; exact decide_eq_true h1
          have t2 : ((sS P).toList == [46]) = false := by rw [hdo]; exact decide_eq_false (by rw [h1]; simp [dots])
          have HX := hide h1
          clear hdd hdo h1
          by_cases hS0 : 0 < S.length
          · have hS0i : (0 : Int) < (S.length : Int) := by omega
            have hmx : ((S.length : Int) - 1) = ((S.length - 1 : Nat) : Int) := by omega
            have HRC : Hid (Row wr w.heap.size 9 (.slice a (S.length - 1) c) (sm S.dropLast)) := hide (by rw [← sm_dropLast]; exact HR.out.cut (S.length - 1) (by rw [sm_len]; omega))
            have HDL : Hid (S.dropLast.length = S.length - 1) := hide (by simp)
            have hsc : S.length - 1 ≤ c := by omega
            go_wp2_with (at_builtin; apply Hid.out)
            unfold Hid
            refine wpList_append_one elS rfl _ _ rfl wr w.heap.size (.slice a (S.length - 1) c) (sm S.dropLast) (.string ⟨#[]⟩) rfl rfl HRC.out rfl (by rw [sm_len, HDL.out]; omega) (by rw [sm_len, HDL.out]; omega) HB.out.size ?_
            intro v' w2 O' B'
            have O2 := hide O'
            have B2 := hide (HB.out.trans B')
            clear O' B'
            go_wp2
            exact ⟨⟨k + 1, S.dropLast ++ [[]], [], by go_num, rfl, by omega, by omega, by rw [List.length_append, List.length_singleton, HDL.out]; omega, Nat.zero_le _, hide (HG1.out _ (by unfold kstep; rw [if_pos HX.out]; rfl)), hide (by rw [sm_snoc]; exact O2.out), B2⟩, by simp [intOf]; omega⟩
          · have hS0i : ¬ (0 : Int) < (S.length : Int) := by omega
            have HS0 : Hid (S = S.dropLast) := hide (by rw [List.eq_nil_of_length_eq_zero (by omega : S.length = 0)]; rfl)
            go_wp2_with (at_builtin; apply Hid.out)
            unfold Hid
            refine wpList_append_one elS rfl _ _ rfl wr w.heap.size (.slice a S.length c) (sm S) (.string ⟨#[]⟩) rfl rfl HR.out rfl (by rw [sm_len]; omega) (by rw [sm_len]; omega) HB.out.size ?_
            intro v' w2 O' B'
            have O2 := hide O'
            have B2 := hide (HB.out.trans B')
            clear O' B'
            go_wp2
            exact ⟨⟨k + 1, S ++ [[]], [], by go_num, rfl, by omega, by omega, by rw [List.length_append, List.length_singleton]; omega, Nat.zero_le _, hide (HG1.out _ (by unfold kstep; rw [if_pos HX.out, ← HS0.out]; rfl)), hide (by rw [sm_snoc]; exact O2.out), B2⟩, by simp [intOf]; omega⟩
        · have t1 : ((sS P).toList == [46, 46]) = false := by rw [hdd]; exact decide_eq_false h1
          by_cases h2 : P = dot
          · have t2 : ((sS P).toList == [46]) = true := by rw [hdo]; exact decide_eq_true h2
            have HX := hide h2
            clear hdd hdo h2
            go_wp2_with (at_builtin; apply Hid.out)
            unfold Hid
            refine wpList_append_one elS rfl _ _ rfl wr w.heap.size (.slice a S.length c) (sm S) (.string ⟨#[]⟩) rfl rfl HR.out rfl (by rw [sm_len]; omega) (by rw [sm_len]; omega) HB.out.size ?_
            intro v' w2 O' B'
            have O2 := hide O'
            have B2 := hide (HB.out.trans B')
            clear O' B'
            go_wp2
            exact ⟨⟨k + 1, S ++ [[]], [], by go_num, rfl, by omega, by omega, by rw [List.length_append, List.length_singleton]; omega, Nat.zero_le _, hide (HG1.out _ (by unfold kstep; rw [if_neg h1, if_pos HX.out]; rfl)), hide (by rw [sm_snoc]; exact O2.out), B2⟩, by simp [intOf]; omega⟩
          · have t2 : ((sS P).toList == [46]) = false := by rw [hdo]; exact decide_eq_false h2
            clear hdd hdo
            go_wp2_with (at_builtin; apply Hid.out)
            unfold Hid
            refine wpList_append_one elS rfl _ _ rfl wr w.heap.size (.slice a S.length c) (sm S) (.string (sS P)) rfl rfl HR.out rfl (by rw [sm_len]; omega) (by rw [sm_len]; omega) HB.out.size ?_
            intro v' w2 O' B'
            have O2 := hide O'
            have B2 := hide (HB.out.trans B')
            clear O' B'
            go_wp2
            exact ⟨⟨k + 1, S ++ [P], [], by go_num, rfl, by omega, by omega, by rw [List.length_append, List.length_singleton]; omega, Nat.zero_le _, hide (HG1.out _ (by unfold kstep; rw [if_neg h1, if_neg h2])), hide (by rw [sm_snoc]; exact O2.out), B2⟩, by simp [intOf]; omega⟩
    · have HE : Hid (KK = S) := hide (H.out.2 (by omega))
      have HC : Hid (∀ j (h : j < S.length), ∃ g, a = some ⟨g, 0, none⟩ ∧ g < wr.heap.size ∧ wr.cell? ⟨g, j, none⟩ = some (.string (sS S[j]))) := hide (fun j hj => by
        obtain ⟨g, h1, h2⟩ := HR.out.cell (j := j) (by rw [sm_len]; exact hj)
        refine ⟨g, h1, ?_, ?_⟩
        · exact (HR.out.lt (by rw [h1]; rfl)).2
        · rw [h2]; simp [sm, sc, hj])
      have HL : Hid (∀ j, (sS (47 :: jn (S.take j))).size ≤ 8195) := hide (fun j => by
        have h1 := jn_le (S.take j)
        have h2 := tl_take S j
        have h3 := HT.out
        rw [HE.out] at h3
        rw [sS_size, List.length_cons]
        omega)
      have HX : Hid (∀ j (h : j < S.length), (sS S[j]).size ≤ 8195) := hide (fun j hj => by
        have h1 := tl_take S (j + 1)
        rw [List.take_succ_eq_append_getElem hj, tl_app] at h1
        simp only [tl] at h1
        have h3 := HT.out
        rw [HE.out] at h3
        rw [sS_size]
        omega)
      have hl9 : S.length ≤ 9000 := by omega
      clear H HT HR HG
      go_wp2
      go_loop [7, 74] (fun t i => ∃ (j : Nat) (T : ByteArray), i = .int .i64 j ∧ t = .string T ∧ j ≤ S.length ∧ Hid (T = sS (47 :: jn (S.take j)))) (fun _ i => S.length - (intOf i).toNat)
      case atStart => exact ⟨0, _, rfl, rfl, Nat.zero_le _, hide (by simp [jn, sS])⟩
      case round =>
        obtain ⟨j, T, rfl, rfl, hj, HTj⟩ := hrel
        have hTs : T.size ≤ 8195 := by rw [HTj.out]; exact HL.out j
        by_cases hlt : j < S.length
        · obtain ⟨g, rfl, hg, hcell⟩ := HC.out j hlt
          have hxs := HX.out j hlt
          by_cases hj0 : (0 : Int) < (j : Int)
          · have HN : Hid (T ++ slash ++ sS S[j] = sS (47 :: jn (S.take (j + 1)))) := hide (by rw [jn_add S j hlt (by omega), HTj.out])
            generalize sS S[j] = X at hcell hxs HN
            have hts2 : (T ++ ⟨#[47]⟩).size ≤ 8196 := by rw [app_size]; have : (⟨#[47]⟩ : ByteArray).size = 1 := rfl; omega
            go_wp2
            exact ⟨⟨j + 1, _, by go_num, rfl, by omega, HN⟩, by simp [intOf]; omega⟩
          · have hj1 : j = 0 := by omega
            subst hj1
            have HN : Hid (T ++ sS S[0] = sS (47 :: jn (S.take (0 + 1)))) := hide (by rw [jn_first S hlt, HTj.out]; rfl)
            generalize sS S[0] = X at hcell hxs HN
            go_wp2
            exact ⟨⟨0 + 1, _, by go_num, rfl, by omega, HN⟩, by simp [intOf]; omega⟩
        · have HF : Hid (T = sS (47 :: jn KK)) := hide (by rw [HTj.out, List.take_of_length_le (by omega), HE.out])
          go_wp2
          go_ret2
          exact ⟨by rw [← HF.out]; rfl, HB.out⟩
theorem head_at (s : ByteArray) (h : 0 < s.size) : s.data.toList.head? = some s[0] := by rw [head_list s h]; rfl
set_option maxHeartbeats 1000000 in
theorem rclean_any (s : ByteArray) (w : World) :
    Calls Tryz.prog 70 #[.string s] w fun e w' => e = .returned (.tuple #[.string (cleanS s), .int .i64 (cleanE s.data.toList : Nat)]) ∧ Below w.heap.size w w' := by
  by_cases h0 : 0 < s.size
  · have he : s.toList.isEmpty = false := by rw [Lib.toList_data, isEmpty_size]; exact decide_eq_false (by omega)
    have hhd := head_at s h0
    by_cases hd : (s[0].toNat : Int) = 47
    · have hc : s[0] = 47 := byte_is (n := 47) (by omega) (by decide)
      rw [hc] at hhd
      by_cases h2 : 8192 < s.size
      · have HR : Hid (cleanS s = ⟨#[]⟩ ∧ ((cleanE s.data.toList : Nat) : Int) = 2) := hide (by
          unfold cleanS cleanL cleanE
          rw [if_pos hhd, if_pos hhd, size_len, if_pos h2, if_pos h2]
          exact ⟨rfl, rfl⟩)
        have td : ((s[0].toNat : Int) != 47) = false := by rw [hd]; rfl
        clear hc hd hhd
        go_enter Tryz.func70, Tryz.ntmps70
        go_wp2
        go_ret2
        exact ⟨ret_clean HR.out, Below.refl _ _⟩
      · have e : cleanS s = sS (47 :: jn (kept s.data.toList.tail)) ∧ cleanE s.data.toList = 0 := by
          unfold cleanS cleanL cleanE
          rw [if_pos hhd, if_pos hhd, size_len, if_neg h2, if_neg h2]
          exact ⟨rfl, rfl⟩
        rw [e.1, e.2]
        exact rclean_ok s w (by omega) h0 hd
    · have hc : s[0] ≠ 47 := byte_ne (n := 47) (by omega) (by decide)
      have HR : Hid (cleanS s = ⟨#[]⟩ ∧ ((cleanE s.data.toList : Nat) : Int) = 1) := hide (by
        unfold cleanS cleanL cleanE
        rw [if_neg (by rw [hhd]; simpa using hc), if_neg (by rw [hhd]; simpa using hc)]
        exact ⟨rfl, rfl⟩)
      clear hc hhd
      go_enter Tryz.func70, Tryz.ntmps70
      go_wp2
      go_ret2
      exact ⟨ret_clean HR.out, Below.refl _ _⟩
  · have he : s.toList.isEmpty = true := by rw [Lib.toList_data, isEmpty_size]; exact decide_eq_true (by omega)
    have HR : Hid (cleanS s = ⟨#[]⟩ ∧ ((cleanE s.data.toList : Nat) : Int) = 1) := hide (by
      unfold cleanS cleanL cleanE
      rw [nil_list s h0]
      exact ⟨rfl, rfl⟩)
    go_enter Tryz.func70, Tryz.ntmps70
    go_wp2
    go_ret2
    exact ⟨ret_clean HR.out, Below.refl _ _⟩
end Go.Proofs.YtacnnomkacfdbaaGreatDoor
/- The document's small answers of this layer: hex, in, made, last. -/
namespace Go.Proofs.YtacnnomkacfdbaaGreatDoor
open Go.ChangeShapes Go.WideShapes Go.ChangeAt Go.RowKit

theorem hx_yes {c : UInt8} (h : (48 ≤ c.toNat ∧ c.toNat ≤ 57) ∨ (97 ≤ c.toNat ∧ c.toNat ≤ 102) ∨ (65 ≤ c.toNat ∧ c.toNat ≤ 70)) : hx c = true := by
  unfold hx digv
  apply decide_eq_true
  split
  · omega
  · split
    · omega
    · split <;> omega
theorem hx_no {c : UInt8} (h : ¬ ((48 ≤ c.toNat ∧ c.toNat ≤ 57) ∨ (97 ≤ c.toNat ∧ c.toNat ≤ 102) ∨ (65 ≤ c.toNat ∧ c.toNat ≤ 70))) : hx c = false := by
  unfold hx digv
  apply decide_eq_false
  split
  · omega
  · split
    · omega
    · split <;> omega
theorem rhx_any (c : UInt8) (w : World) : Calls Tryz.prog 118 #[.int .u8 (c.toNat : Int)] w fun e w' => e = .returned (.bool (hx c)) ∧ w = w' := by
  have hb := byte_lt c
  by_cases h : (48 ≤ c.toNat ∧ c.toNat ≤ 57) ∨ (97 ≤ c.toNat ∧ c.toNat ≤ 102) ∨ (65 ≤ c.toNat ∧ c.toNat ≤ 70)
  · rw [hx_yes h]
    go_enter Tryz.func118, Tryz.ntmps118
    go_wp2
    all_goals (go_ret; exact ⟨ret_bool (by first | rfl | (exfalso; omega) | (simp; omega)), rfl⟩)
  · rw [hx_no h]
    go_enter Tryz.func118, Tryz.ntmps118
    go_wp2
    all_goals (go_ret; exact ⟨ret_bool (by first | rfl | (exfalso; omega) | (simp; omega)), rfl⟩)
theorem contains_snocT (s : ByteArray) (k : Nat) (h : k < s.size) (c : UInt8) : (s.data.toList.take (k + 1)).contains c = ((s.data.toList.take k).contains c || (c == s[k])) := by
  rw [take_snoc s k h]
  simp only [List.contains_eq_any_beq, List.any_append, List.any_cons, List.any_nil, Bool.or_false]
theorem contains_at (s : ByteArray) (k : Nat) (h : k < s.size) : s.data.toList.contains s[k] = true := by
  rw [List.contains_iff_mem, ← Array.mem_def]
  exact Array.getElem_mem h
set_option maxHeartbeats 1000000 in
theorem rin_any (c : UInt8) (s : ByteArray) (w : World) (hs : s.size ≤ maxLen) : Calls Tryz.prog 144 #[.int .u8 (c.toNat : Int), .string s] w fun e w' => e = .returned (.bool (s.data.toList.contains c)) ∧ w = w' := by
  unfold maxLen at hs
  obtain ⟨z, hz⟩ : ∃ z, s.data.toList.contains c = z := ⟨_, rfl⟩
  rw [hz]
  have HZ := hide hz
  clear hz
  go_enter Tryz.func144, Tryz.ntmps144
  go_wp2
  go_loop [5] (fun i => ∃ k : Nat, k ≤ s.size ∧ i = .int .i64 k ∧ Hid ((s.data.toList.take k).contains c = false)) (fun i => s.size - (intOf i).toNat)
  case atStart => exact ⟨0, Nat.zero_le _, rfl, hide (by simp)⟩
  case round =>
    obtain ⟨k, hk, rfl, H⟩ := hrel
    by_cases hlt : k < s.size
    · have hb := byte_lt s[k]
      have hc := byte_lt c
      by_cases he : s[k] = c
      · have t : (((s[k].toNat : Int)) == (c.toNat : Int)) = true := by rw [byte_eqI]; exact beq_iff_eq.2 he
        have HE : Hid (s.data.toList.contains c = true) := hide (by rw [← he]; exact contains_at s k hlt)
        clear he
        go_wp2
        go_ret
        exact ⟨ret_bool (by rw [← HZ.out, HE.out]), rfl⟩
      · have t : (((s[k].toNat : Int)) == (c.toNat : Int)) = false := by rw [byte_eqI]; exact beq_eq_false_iff_ne.2 he
        have HE : Hid ((s.data.toList.take (k + 1)).contains c = false) := hide (by rw [contains_snocT s k hlt, H.out, beq_eq_false_iff_ne.2 (fun e => he e.symm)]; rfl)
        clear he
        go_wp2
        exact ⟨⟨k + 1, by omega, by go_num, HE⟩, by simp [intOf]; omega⟩
    · have HE : Hid (s.data.toList.contains c = false) := hide (by rw [← H.out, take_all s k (by omega)])
      go_wp2
      go_ret
      exact ⟨ret_bool (by rw [← HZ.out, HE.out]), rfl⟩
theorem hx_alnum {c : UInt8} (h : hx c = true) : alnum c = true := by
  have h := of_decide_eq_true h
  have hs := digv_safe h
  apply alnum_yes
  unfold digv at h
  split at h
  · omega
  · split at h
    · omega
    · split at h <;> omega
theorem holds_plain {m : List UInt8} {s : ByteArray} {k : Nat} (h : k < s.size) (hp : plainc m s[k] = true) : holdsB m (s.data.toList.drop k) = holdsB m (s.data.toList.drop (k + 1)) := by
  rw [holds_step m s k h, hp]; simp
theorem holds_bad {m : List UInt8} {s : ByteArray} {k : Nat} (h : k < s.size) (hp : plainc m s[k] = false) (he : esc (s.data.toList.drop k) = false) : holdsB m (s.data.toList.drop k) = false := by
  rw [holds_step m s k h, hp, ext_drop, he]; rfl
theorem holds_esc {m : List UInt8} {s : ByteArray} {k : Nat} (h : k + 2 < s.size) (h0 : s[k] = 37) (h1 : hx s[k + 1] = true) (h2 : hx s[k + 2] = true) : holdsB m (s.data.toList.drop k) = holdsB m (s.data.toList.drop (k + 3)) := by
  have he : esc (s.data.toList.drop k) = true := by
    rw [drop_cons s k (by omega), drop_cons s (k + 1) (by omega), drop_cons s (k + 2) (by omega)]
    simp [esc, h0, h1, h2]
  rw [holds_step m s k (by omega), ext_drop, he]
  simp only [Bool.or_true, Bool.true_and]
  rw [holds_plain (by omega : k + 1 < s.size) (plain_yes (hx_alnum h1)).symm, holds_plain (by omega : k + 2 < s.size) (plain_yes (hx_alnum h2)).symm]
theorem esc_not {s : ByteArray} {k : Nat} (h : k < s.size) (hn : ¬ (s[k] = 37 ∧ ∃ h2 : k + 2 < s.size, hx (s[k + 1]'(by omega)) = true ∧ hx s[k + 2] = true)) : esc (s.data.toList.drop k) = false := by
  rw [drop_cons s k h]
  by_cases h2 : k + 2 < s.size
  · rw [drop_cons s (k + 1) (by omega), drop_cons s (k + 2) (by omega)]
    simp only [esc]
    rw [Bool.eq_false_iff]
    intro e
    simp only [Bool.and_eq_true, decide_eq_true_eq] at e
    exact hn ⟨e.1, h2, e.2.1, e.2.2⟩
  · have hl : (s.data.toList.drop (k + 1)).length < 2 := by rw [List.length_drop, size_len]; omega
    match hd : s.data.toList.drop (k + 1), hl with
    | [], _ => rfl
    | [_], _ => rfl
set_option maxHeartbeats 4000000 in
theorem rmade_any (s m : ByteArray) (w : World) (hs : s.size ≤ 140737488355328) (hm : m.size ≤ maxLen) : Calls Tryz.prog 119 #[.string s, .string m] w fun e w' => e = .returned (.bool (holdsB m.data.toList s.data.toList)) ∧ w = w' := by
  have HIN := hide (fun c w => rin_any c m w hm)
  have HHX := hide rhx_any
  clear hm
  obtain ⟨z, hz⟩ : ∃ z, holdsB m.data.toList s.data.toList = z := ⟨_, rfl⟩
  rw [hz]
  have HZ := hide hz
  clear hz
  go_enter Tryz.func119, Tryz.ntmps119
  go_wp2
  go_loop [5] (fun i => ∃ k : Nat, k ≤ s.size ∧ i = .int .i64 k ∧ Hid (holdsB m.data.toList (s.data.toList.drop k) = z)) (fun i => s.size - (intOf i).toNat)
  case atStart => exact ⟨0, Nat.zero_le _, rfl, HZ⟩
  case round =>
    obtain ⟨k, hk, rfl, H⟩ := hrel
    clear HZ
    by_cases hlt : k < s.size
    · have hb := byte_lt s[k]
      by_cases h1 : (65 ≤ s[k].toNat ∧ s[k].toNat ≤ 90) ∨ (97 ≤ s[k].toNat ∧ s[k].toNat ≤ 122) ∨ (48 ≤ s[k].toNat ∧ s[k].toNat ≤ 57)
      · have HN : Hid (holdsB m.data.toList (s.data.toList.drop (k + 1)) = z) := hide (by rw [← holds_plain hlt (plain_yes (alnum_yes h1)).symm]; exact H.out)
        rcases h1 with h1 | h1 | h1
        · go_wp2
          all_goals first | (exfalso; omega) | exact ⟨⟨k + 1, by omega, by go_num, HN⟩, by simp [intOf]; omega⟩
        · go_wp2
          all_goals first | (exfalso; omega) | exact ⟨⟨k + 1, by omega, by go_num, HN⟩, by simp [intOf]; omega⟩
        · go_wp2
          all_goals first | (exfalso; omega) | exact ⟨⟨k + 1, by omega, by go_num, HN⟩, by simp [intOf]; omega⟩
      · have ha := alnum_no h1
        have HI := hide (HIN.out s[k])
        cases hin : m.data.toList.contains s[k] with
        | true =>
          have HN : Hid (holdsB m.data.toList (s.data.toList.drop (k + 1)) = z) := hide (by rw [← holds_plain hlt (by unfold plainc; rw [hin]; simp)]; exact H.out)
          rw [hin] at HI
          clear hin ha
          go_wp2_with (go_at_call 144; refine (HI.out _).mono ?_; rintro e w' ⟨rfl, rfl⟩)
          all_goals exact ⟨⟨k + 1, by omega, by go_num, HN⟩, by simp [intOf]; omega⟩
        | false =>
          have hpl : plainc m.data.toList s[k] = false := by unfold plainc; rw [ha, hin]; rfl
          rw [hin] at HI
          clear hin ha
          by_cases h37 : s[k].toNat = 37
          · have t37 : (((s[k].toNat : Int)) == 37) = true := beq_iff_eq.2 (by omega)
            have hc : s[k] = 37 := byte_is (n := 37) h37 (by decide)
            have n1 : ¬ (65 : Int) ≤ (s[k].toNat : Int) := by omega
            have n2 : ¬ (97 : Int) ≤ (s[k].toNat : Int) := by omega
            have n3 : ¬ (48 : Int) ≤ (s[k].toNat : Int) := by omega
            by_cases h2 : k + 2 < s.size
            · have i2 : (k : Int) + 2 < (s.size : Int) := by omega
              have hk1 : k + 1 < s.size := by omega
              have H1 := hide (HHX.out s[k + 1])
              have H2 := hide (HHX.out s[k + 2])
              have HY : hx s[k + 1] = true → hx s[k + 2] = true → Hid (holdsB m.data.toList (s.data.toList.drop (k + 3)) = z) := fun a b => hide (by rw [← holds_esc h2 hc a b]; exact H.out)
              have HB : ¬ (hx s[k + 1] = true ∧ hx s[k + 2] = true) → Hid (z = false) := fun a => hide (by rw [← H.out, holds_bad hlt hpl (esc_not hlt (fun e => a ⟨e.2.2.1, e.2.2.2⟩))])
              clear hpl hc h37 h1
              generalize hx s[k + 1] = x1 at H1 HY HB
              generalize hx s[k + 2] = x2 at H2 HY HB
              have hb1 := byte_lt s[k + 1]
              have hb2 := byte_lt s[k + 2]
              cases x1 with
              | false =>
                have HF := HB (by simp)
                clear HY HB
                go_wp2_with (first | (go_at_call 144; refine (HI.out _).mono ?_; rintro e w' ⟨rfl, rfl⟩) | (go_at_call 118; refine (H1.out _).mono ?_; rintro e w' ⟨rfl, rfl⟩))
                go_ret
                exact ⟨ret_bool HF.out.symm, rfl⟩
              | true =>
                cases x2 with
                | false =>
                  have HF := HB (by simp)
                  clear HY HB
                  go_wp2_with fail
                  refine (HI.out _).mono ?_
                  rintro e w' ⟨rfl, rfl⟩
                  go_wp2_with fail
                  refine (H1.out _).mono ?_
                  rintro e w' ⟨rfl, rfl⟩
                  go_wp2_with fail
                  refine (H2.out _).mono ?_
                  rintro e w' ⟨rfl, rfl⟩
                  go_wp2
                  go_ret
                  exact ⟨ret_bool HF.out.symm, rfl⟩
                | true =>
                  have HF := HY rfl rfl
                  clear HY HB
                  go_wp2_with fail
                  refine (HI.out _).mono ?_
                  rintro e w' ⟨rfl, rfl⟩
                  go_wp2_with fail
                  refine (H1.out _).mono ?_
                  rintro e w' ⟨rfl, rfl⟩
                  go_wp2_with fail
                  refine (H2.out _).mono ?_
                  rintro e w' ⟨rfl, rfl⟩
                  go_wp2
                  exact ⟨⟨k + 3, by omega, by go_num, HF⟩, by simp [intOf]; omega⟩
            · have i2 : ¬ (k : Int) + 2 < (s.size : Int) := by omega
              have HF : Hid (z = false) := hide (by rw [← H.out, holds_bad hlt hpl (esc_not hlt (fun e => h2 e.2.1))])
              clear hpl hc h37 h1 h2
              go_wp2_with (go_at_call 144; refine (HI.out _).mono ?_; rintro e w' ⟨rfl, rfl⟩)
              go_ret
              exact ⟨ret_bool HF.out.symm, rfl⟩
          · have t37 : (((s[k].toNat : Int)) == 37) = false := beq_eq_false_iff_ne.2 (by omega)
            have HF : Hid (z = false) := hide (by rw [← H.out, holds_bad hlt hpl (esc_not hlt (fun e => byte_ne (n := 37) h37 (by decide) e.1))])
            clear hpl h37
            go_wp2_with (go_at_call 144; refine (HI.out _).mono ?_; rintro e w' ⟨rfl, rfl⟩)
            all_goals (go_ret; exact ⟨ret_bool HF.out.symm, rfl⟩)
    · have HF : Hid (z = true) := hide (by rw [← H.out, drop_end s k (by omega)]; rfl)
      go_wp2
      go_ret
      exact ⟨ret_bool HF.out.symm, rfl⟩
end Go.Proofs.YtacnnomkacfdbaaGreatDoor
/- The document's small answers of this layer: last, named. -/
namespace Go.Proofs.YtacnnomkacfdbaaGreatDoor
open Go.ChangeShapes Go.WideShapes Go.ChangeAt Go.RowKit

def lastF (c : UInt8) (l : List UInt8) : Nat × Int := l.foldl (fun a b => (a.1 + 1, if b = c then (a.1 : Int) else a.2)) (0, -1)
def lastI (l : List UInt8) (c : UInt8) : Int := (lastF c l).2
theorem lastF_len (c : UInt8) (l : List UInt8) : (lastF c l).1 = l.length := by
  induction l using snoc_ind with
  | h0 => rfl
  | h1 l b ih => unfold lastF at *; rw [List.foldl_append]; simp [ih]
theorem lastI_nil (c : UInt8) : lastI [] c = -1 := rfl
theorem lastI_snoc (l : List UInt8) (b c : UInt8) : lastI (l ++ [b]) c = if b = c then (l.length : Int) else lastI l c := by
  have := lastF_len c l
  unfold lastI lastF at *
  rw [List.foldl_append]
  simp only [List.foldl_cons, List.foldl_nil]
  rw [this]
theorem lastI_lt (l : List UInt8) (c : UInt8) : -1 ≤ lastI l c ∧ lastI l c < l.length := by
  induction l using snoc_ind with
  | h0 => simp [lastI_nil]
  | h1 l b ih =>
    rw [lastI_snoc, List.length_append, List.length_singleton]
    split <;> omega
set_option maxHeartbeats 1000000 in
theorem rlast_any (s : ByteArray) (c : UInt8) (w : World) (hs : s.size ≤ 140737488355328) : Calls Tryz.prog 92 #[.string s, .int .u8 (c.toNat : Int)] w fun e w' => e = .returned (.int .i64 (lastI s.data.toList c)) ∧ w = w' := by
  obtain ⟨z, hz⟩ : ∃ z, lastI s.data.toList c = z := ⟨_, rfl⟩
  rw [hz]
  have HZ := hide hz
  clear hz
  go_enter Tryz.func92, Tryz.ntmps92
  go_wp2
  go_loop [5] (fun i => ∃ k : Nat, k ≤ s.size ∧ i = .int .i64 ((k : Int) - 1) ∧ Hid (lastI (s.data.toList.take k) c = z)) (fun i => (intOf i + 1).toNat)
  case atStart => exact ⟨s.size, Nat.le_refl _, rfl, hide (by rw [take_all s s.size (Nat.le_refl _)]; exact HZ.out)⟩
  case round =>
    obtain ⟨k, hk, rfl, H⟩ := hrel
    clear HZ
    cases k with
    | zero =>
      have HF : Hid (z = -1) := hide (by rw [← H.out]; rfl)
      go_wp2
      go_ret
      exact ⟨by rw [HF.out]; rfl, rfl⟩
    | succ k =>
      have hlt : k < s.size := by omega
      have hb := byte_lt s[k]
      have hc := byte_lt c
      have e1 : (((k + 1 : Nat) : Int) - 1) = (k : Int) := by omega
      rw [e1]
      have hl : (s.data.toList.take k).length = k := by rw [List.length_take, size_len]; omega
      by_cases he : s[k] = c
      · have t : (((s[k].toNat : Int)) == (c.toNat : Int)) = true := by rw [byte_eqI]; exact beq_iff_eq.2 he
        have HF : Hid (z = (k : Int)) := hide (by rw [← H.out, take_snoc s k hlt, lastI_snoc, if_pos he, hl])
        clear he e1 hl
        go_wp2
        go_ret
        exact ⟨by rw [HF.out]; rfl, rfl⟩
      · have t : (((s[k].toNat : Int)) == (c.toNat : Int)) = false := by rw [byte_eqI]; exact beq_eq_false_iff_ne.2 he
        have HF : Hid (lastI (s.data.toList.take k) c = z) := hide (by rw [← H.out, take_snoc s k hlt, lastI_snoc, if_neg he])
        clear he e1 hl
        go_wp2
        exact ⟨⟨k, by omega, by go_num, HF⟩, by simp [intOf]⟩

/-! ### A host's name -/
theorem brac_ok {s : ByteArray} (h3 : 3 ≤ s.size) (hl : s[s.size - 1] = 93) : bracB s.data.toList = ((s.data.toList.drop 1).take (s.size - 2)).all brc := by
  have e := last_list s (by omega)
  rw [hl] at e
  have ed : s.data.toList.drop 1 = (s.data.toList.drop 1).take (s.size - 2) ++ [93] := by
    conv => lhs; rw [e]
    rw [ext_take, List.drop_append_of_le_length (by rw [List.length_take, size_len]; omega), List.drop_take]
    rfl
  have hin : ((s.data.toList.drop 1).take (s.size - 2)).isEmpty = false := by
    rw [Bool.eq_false_iff]
    intro h
    have := congrArg List.length (List.isEmpty_iff.1 h)
    rw [List.length_take, List.length_drop, size_len, List.length_nil] at this
    omega
  unfold bracB
  generalize (s.data.toList.drop 1).take (s.size - 2) = I at ed hin ⊢
  rw [ed]
  have hs : Lib.hasSuffix (I ++ [93]) [93] = true := by
    unfold Lib.hasSuffix
    exact List.isSuffixOf_iff_suffix.2 ⟨I, rfl⟩
  have ht : Lib.trimSuffix (I ++ [93]) [93] = I := by
    unfold Lib.trimSuffix
    rw [hs]
    simp
  rw [hs, ht, hin]
  simp
theorem brac_short {s : ByteArray} (h3 : ¬ 3 ≤ s.size) : bracB s.data.toList = false := by
  unfold bracB
  have hd : (s.data.toList.drop 1).length ≤ 1 := by rw [List.length_drop, size_len]; omega
  generalize s.data.toList.drop 1 = d at hd ⊢
  rw [Bool.eq_false_iff]
  intro h
  simp only [Bool.and_eq_true] at h
  have e := suffix_split h.1
  have hi := h.2.2
  generalize Lib.trimSuffix d [93] = I at e hi
  rw [e, List.length_append, List.length_singleton] at hd
  have : I = [] := List.eq_nil_of_length_eq_zero (by omega)
  subst this
  simp at hi
theorem brac_last {s : ByteArray} (h3 : 2 ≤ s.size) (hl : s[s.size - 1] ≠ 93) : bracB s.data.toList = false := by
  unfold bracB
  rw [Bool.eq_false_iff]
  intro h
  simp only [Bool.and_eq_true] at h
  have e := suffix_split h.1
  have e2 := last_list s (by omega)
  have e3 : s.data.toList.drop 1 = (s.data.toList.take (s.size - 1)).drop 1 ++ [s[s.size - 1]] := by
    conv => lhs; rw [e2]
    rw [ext_take, List.drop_append_of_le_length (by rw [List.length_take, size_len]; omega)]
  rw [e3] at e
  have := List.append_inj_right' e rfl
  simp at this
  exact hl this
theorem data_get (s : ByteArray) (k i : Nat) (h : k < s.size) (h2 : i < s.data.toList.length) (e : i = k) : s.data.toList[i] = s[k] := by subst e; rfl
theorem inner_snoc (s : ByteArray) (k : Nat) (h0 : 1 ≤ k) (h : k < s.size) : (((s.data.toList.drop 1).take (k + 1 - 1)).all brc) = ((((s.data.toList.drop 1).take (k - 1)).all brc) && brc s[k]) := by
  have e : (s.data.toList.drop 1).take (k + 1 - 1) = (s.data.toList.drop 1).take (k - 1) ++ [s[k]] := by
    rw [show k + 1 - 1 = (k - 1) + 1 by omega, List.take_succ_eq_append_getElem (by rw [List.length_drop, size_len]; omega), List.getElem_drop]
    rw [data_get s k _ h _ (by omega)]
  rw [e]
  simp
theorem inner_no (s : ByteArray) (k n : Nat) (h0 : 1 ≤ k) (h : k < s.size) (hn : k < n + 1) (hb : brc s[k] = false) : ((s.data.toList.drop 1).take n).all brc = false := by
  rw [Bool.eq_false_iff]
  intro hall
  have hm : s[k] ∈ (s.data.toList.drop 1).take n := by
    rw [List.mem_take_iff_getElem]
    refine ⟨k - 1, by rw [List.length_drop, size_len]; omega, ?_⟩
    rw [List.getElem_drop]
    exact data_get s k _ h _ (by omega)
  have := List.all_eq_true.1 hall _ hm
  rw [hb] at this
  cases this
set_option maxHeartbeats 4000000 in
theorem rnamed_any (s : ByteArray) (w : World) (hs : s.size ≤ 140737488355328) : Calls Tryz.prog 93 #[.string s] w fun e w' => e = .returned (.bool (hostB s.data.toList)) ∧ w = w' := by
  have HM := hide (fun w => rmade_any s ⟨#[45, 46, 95, 126, 33, 36, 38, 39, 40, 41, 42, 43, 59, 61]⟩ w hs (by unfold maxLen; decide))
  rw [show (⟨#[45, 46, 95, 126, 33, 36, 38, 39, 40, 41, 42, 43, 59, 61]⟩ : ByteArray).data.toList = hostMarks from rfl] at HM
  by_cases h0 : 0 < s.size
  · have h0i : (0 : Int) < (s.size : Int) := by omega
    have hhd : s.data.toList.head? = some s[0] := by rw [head_list s h0]; rfl
    by_cases hb : s[0] = 91
    · have tb : (((s[0].toNat : Int)) == 91) = true := beq_iff_eq.2 (by rw [hb]; rfl)
      have eh : hostB s.data.toList = bracB s.data.toList := by unfold hostB; rw [prefix_head, hhd, hb]; rfl
      rw [eh]
      clear hhd hb eh HM
      by_cases h3 : 3 ≤ s.size
      · have h3i : ¬ (s.size : Int) < 3 := by omega
        have hlt : s.size - 1 < s.size := by omega
        have ei : ((s.size : Int) - 1) = ((s.size - 1 : Nat) : Int) := by omega
        by_cases hl : s[s.size - 1] = 93
        · have tl : (((s[s.size - 1].toNat : Int)) != 93) = false := by rw [hl]; rfl
          rw [brac_ok h3 hl]
          obtain ⟨z, hz⟩ : ∃ z, ((s.data.toList.drop 1).take (s.size - 2)).all brc = z := ⟨_, rfl⟩
          rw [hz]
          have HZ := hide hz
          clear hz hl
          go_enter Tryz.func93, Tryz.ntmps93
          go_wp2
          go_loop [4] (fun i => ∃ k : Nat, 1 ≤ k ∧ k ≤ s.size - 1 ∧ i = .int .i64 k ∧ Hid (((s.data.toList.drop 1).take (k - 1)).all brc = true)) (fun i => s.size - (intOf i).toNat)
          case atStart => exact ⟨1, Nat.le_refl _, by omega, rfl, hide (by simp)⟩
          case round =>
            obtain ⟨k, hk1, hk, rfl, H⟩ := hrel
            by_cases hk2 : k < s.size - 1
            · have hki : (k : Int) < ((s.size - 1 : Nat) : Int) := by omega
              have hks : k < s.size := by omega
              have hbk := byte_lt s[k]
              have HX := hide (rhx_any s[k])
              have HN : brc s[k] = true → Hid (((s.data.toList.drop 1).take (k + 1 - 1)).all brc = true) := fun h => hide (by rw [inner_snoc s k hk1 hks, H.out, h]; rfl)
              have HB : brc s[k] = false → Hid (z = false) := fun h => hide (by rw [← HZ.out]; exact inner_no s k _ hk1 hks (by omega) h)
              cases hx1 : hx s[k] with
              | true =>
                have HF := HN (by unfold brc; rw [hx1]; simp)
                rw [hx1] at HX
                clear HN HB hx1 HZ
                go_wp2_with (go_at_call 118; refine (HX.out _).mono ?_; rintro e w' ⟨rfl, rfl⟩)
                exact ⟨⟨k + 1, by omega, by omega, by go_num, HF⟩, by simp [intOf]; omega⟩
              | false =>
                by_cases h58 : s[k].toNat = 58
                · have t58 : (((s[k].toNat : Int)) != 58) = false := by rw [bne_eq_false_iff_eq]; omega
                  have HF := HN (by unfold brc; rw [decide_eq_true (show s[k] = 58 from byte_is (n := 58) h58 (by decide))]; rfl)
                  rw [hx1] at HX
                  clear HN HB hx1 HZ h58
                  go_wp2_with (go_at_call 118; refine (HX.out _).mono ?_; rintro e w' ⟨rfl, rfl⟩)
                  exact ⟨⟨k + 1, by omega, by omega, by go_num, HF⟩, by simp [intOf]; omega⟩
                · have t58 : (((s[k].toNat : Int)) != 58) = true := by rw [bne_iff_ne]; omega
                  by_cases h46 : s[k].toNat = 46
                  · have t46 : (((s[k].toNat : Int)) != 46) = false := by rw [bne_eq_false_iff_eq]; omega
                    have HF := HN (by unfold brc; rw [decide_eq_true (show s[k] = 46 from byte_is (n := 46) h46 (by decide))]; simp)
                    rw [hx1] at HX
                    clear HN HB hx1 HZ h46
                    go_wp2_with (go_at_call 118; refine (HX.out _).mono ?_; rintro e w' ⟨rfl, rfl⟩)
                    exact ⟨⟨k + 1, by omega, by omega, by go_num, HF⟩, by simp [intOf]; omega⟩
                  · have t46 : (((s[k].toNat : Int)) != 46) = true := by rw [bne_iff_ne]; omega
                    have HF := HB (by unfold brc; rw [decide_eq_false (show ¬ s[k] = 58 from byte_ne (n := 58) h58 (by decide)), decide_eq_false (show ¬ s[k] = 46 from byte_ne (n := 46) h46 (by decide)), hx1]; rfl)
                    rw [hx1] at HX
                    clear HN HB hx1 HZ
                    go_wp2_with (go_at_call 118; refine (HX.out _).mono ?_; rintro e w' ⟨rfl, rfl⟩)
                    go_ret
                    exact ⟨ret_bool HF.out.symm, rfl⟩
            · have hki : ¬ (k : Int) < ((s.size - 1 : Nat) : Int) := by omega
              have HF : Hid (z = true) := hide (by rw [← HZ.out, ← H.out]; congr 2; omega)
              go_wp2
              go_ret
              exact ⟨ret_bool HF.out.symm, rfl⟩
        · have tl : (((s[s.size - 1].toNat : Int)) != 93) = true := by
            rw [bne_iff_ne]
            intro e
            exact hl (byte_is (n := 93) (by omega) (by decide))
          rw [brac_last (by omega) hl]
          clear hl
          go_enter Tryz.func93, Tryz.ntmps93
          go_wp2
          go_ret
          exact ⟨rfl, rfl⟩
      · have h3i : (s.size : Int) < 3 := by omega
        rw [brac_short h3]
        go_enter Tryz.func93, Tryz.ntmps93
        go_wp2
        go_ret
        exact ⟨rfl, rfl⟩
    · have tb : (((s[0].toNat : Int)) == 91) = false := beq_eq_false_iff_ne.2 (fun e => hb (byte_is (n := 91) (by omega) (by decide)))
      have eh : hostB s.data.toList = (decide (s.size ≤ 255) && holdsB hostMarks s.data.toList) := by
        unfold hostB
        rw [prefix_head, hhd, decide_eq_false (by simpa using hb), isEmpty_size, decide_eq_false (by omega), size_len]
        rfl
      rw [eh]
      clear hhd hb eh
      generalize holdsB hostMarks s.data.toList = z at HM ⊢
      by_cases h2 : s.size ≤ 255
      · have h2i : (s.size : Int) ≤ 255 := by omega
        rw [decide_eq_true h2]
        go_enter Tryz.func93, Tryz.ntmps93
        go_wp2_with (go_at_call 119; refine (HM.out _).mono ?_; rintro e w' ⟨rfl, rfl⟩)
        go_ret
        exact ⟨ret_bool (by first | rfl | simp), rfl⟩
      · have h2i : ¬ (s.size : Int) ≤ 255 := by omega
        rw [decide_eq_false h2]
        go_enter Tryz.func93, Tryz.ntmps93
        go_wp2
        go_ret
        exact ⟨ret_bool (by first | rfl | simp), rfl⟩
  · have h0i : ¬ (0 : Int) < (s.size : Int) := by omega
    have eh : hostB s.data.toList = false := by rw [nil_list s h0]; rfl
    rw [eh]
    go_enter Tryz.func93, Tryz.ntmps93
    go_wp2
    go_ret
    exact ⟨ret_bool (by first | rfl | simp), rfl⟩
end Go.Proofs.YtacnnomkacfdbaaGreatDoor
/- The document's Host. -/
namespace Go.Proofs.YtacnnomkacfdbaaGreatDoor
open Go.ChangeShapes Go.WideShapes Go.ChangeAt Go.RowKit

def rnameOf (l : List UInt8) : List UInt8 := if lastI l 93 < lastI l 58 then l.take (lastI l 58).toNat else l
def rdigsOf (l : List UInt8) : List UInt8 := if lastI l 93 < lastI l 58 then l.drop ((lastI l 58).toNat + 1) else []
def rhostOk (l : List UInt8) : Bool := hostB (rnameOf l) && decide (portE (rdigsOf l) = 0)
def rhostH (l : List UInt8) : List UInt8 := if rhostOk l then lowerB (rnameOf l) else []
def rhostP (l : List UInt8) : Int := if rhostOk l then portV (rdigsOf l) else 0
def rhostE (l : List UInt8) : Nat := if hostB (rnameOf l) then portE (rdigsOf l) else 61
def rhostS (s : ByteArray) : ByteArray := sS (rhostH s.data.toList)
def rnameS (s : ByteArray) : ByteArray := sS (rnameOf s.data.toList)
def rdigsS (s : ByteArray) : ByteArray := sS (rdigsOf s.data.toList)
theorem rhost_no {s : ByteArray} (h : hostB (rnameOf s.data.toList) = false) : rhostS s = ⟨#[]⟩ ∧ rhostP s.data.toList = 0 ∧ ((rhostE s.data.toList : Nat) : Int) = 61 := by
  unfold rhostS rhostH rhostP rhostE rhostOk
  rw [h]
  exact ⟨rfl, rfl, rfl⟩
theorem rhost_bad {s : ByteArray} (h : hostB (rnameOf s.data.toList) = true) (h2 : portE (rdigsOf s.data.toList) = 62) : rhostS s = ⟨#[]⟩ ∧ rhostP s.data.toList = 0 ∧ ((rhostE s.data.toList : Nat) : Int) = 62 := by
  unfold rhostS rhostH rhostP rhostE rhostOk
  rw [h, h2]
  exact ⟨rfl, rfl, rfl⟩
theorem rhost_yes {s : ByteArray} (h : hostB (rnameOf s.data.toList) = true) (h2 : portE (rdigsOf s.data.toList) = 0) : rhostS s = lowS (rnameS s) ∧ rhostP s.data.toList = portV (rdigsOf s.data.toList) ∧ ((rhostE s.data.toList : Nat) : Int) = 0 := by
  unfold rhostS rhostH rhostP rhostE rhostOk
  rw [h, h2]
  refine ⟨?_, rfl, rfl⟩
  apply bytes_ext
  rw [sS_list, lowS_list]
  unfold rnameS
  rw [sS_list]
  rfl
theorem rname_some {s : ByteArray} {k : Nat} (h : lastI s.data.toList 93 < lastI s.data.toList 58) (hk : lastI s.data.toList 58 = k) : rnameS s = s.extract 0 k ∧ rdigsS s = s.extract (k + 1) s.size := by
  unfold rnameS rdigsS rnameOf rdigsOf
  rw [if_pos h, if_pos h, hk]
  exact ⟨bytes_ext (by rw [sS_list, ext_take]; rfl), bytes_ext (by rw [sS_list, ext_drop]; rfl)⟩
theorem rname_none {s : ByteArray} (h : ¬ lastI s.data.toList 93 < lastI s.data.toList 58) : rnameS s = s ∧ rdigsS s = ⟨#[]⟩ := by
  unfold rnameS rdigsS rnameOf rdigsOf
  rw [if_neg h, if_neg h]
  exact ⟨bytes_ext (sS_list _), rfl⟩
theorem ret3i {a c : ByteArray} {b d x y : Int} (h : c = a ∧ d = b ∧ y = x) : Ending.returned (.tuple #[.string a, .int .i64 b, .int .i64 x]) = .returned (.tuple #[.string c, .int .i64 d, .int .i64 y]) := by rw [h.1, h.2.1, h.2.2]
/-- Behind the parting: the name, the port. -/
theorem port_cases (d : List UInt8) : (d = [] ∧ portE d = 0 ∧ portV d = -1) ∨ (d ≠ [] ∧ portBad d = true ∧ portE d = 62) ∨ (d ≠ [] ∧ portBad d = false ∧ portE d = 0 ∧ portV d = numV 10 d) := by
  by_cases h : d = []
  · subst h; exact .inl ⟨rfl, rfl, rfl⟩
  · cases hb : portBad d with
    | true => exact .inr (.inl ⟨h, rfl, (port_bad h hb).2⟩)
    | false => exact .inr (.inr ⟨h, rfl, (port_ok h hb).2, (port_ok h hb).1⟩)
set_option maxHeartbeats 4000000 in
theorem rhost_any (s : ByteArray) (w : World) (hs : s.size ≤ 140737488355328) : Calls Tryz.prog 66 #[.string s] w fun e w' => e = .returned (.tuple #[.string (rhostS s), .int .i64 (rhostP s.data.toList), .int .i64 (rhostE s.data.toList : Nat)]) ∧ Below w.heap.size w w' := by
  have H1 := hide (fun w => rlast_any s 58 w hs)
  have H2 := hide (fun w => rlast_any s 93 w hs)
  have b1 := lastI_lt s.data.toList 58
  have b2 := lastI_lt s.data.toList 93
  rw [size_len] at b1 b2
  by_cases hlt : lastI s.data.toList 93 < lastI s.data.toList 58
  · obtain ⟨k, hk⟩ : ∃ k : Nat, lastI s.data.toList 58 = k := ⟨(lastI s.data.toList 58).toNat, by omega⟩
    have e12 := rname_some hlt hk
    obtain ⟨nm, eN⟩ : ∃ nm, s.extract 0 k = nm := ⟨_, rfl⟩
    obtain ⟨dg, eD⟩ : ∃ dg, s.extract (k + 1) s.size = dg := ⟨_, rfl⟩
    have zN : nm.size ≤ s.size := by rw [← eN, ext_size]; omega
    have zD : dg.size ≤ s.size := by rw [← eD, ext_size]; omega
    have mD : dg.size ≤ maxLen := by unfold maxLen; omega
    rw [eN, eD] at e12
    have lN : nm.data.toList = rnameOf s.data.toList := by rw [← e12.1]; exact sS_list _
    have lD : dg.data.toList = rdigsOf s.data.toList := by rw [← e12.2]; exact sS_list _
    have HN := hide (fun w => rnamed_any nm w (by omega))
    have HD := hide (fun w => rnumber_10 dg w mD)
    have HL := hide (fun w => rlower_any nm w (by omega))
    have hpc := port_cases dg.data.toList
    have hno := rhost_no (s := s)
    have hbad := rhost_bad (s := s)
    have hyes := rhost_yes (s := s)
    rw [e12.1] at hyes
    rw [← lN] at hno hbad hyes
    rw [← lD] at hbad hyes
    rw [hk] at hlt b1 H1
    have hlti : lastI s.data.toList 93 < (k : Int) := hlt
    have hks : (k : Int) < (s.size : Int) := by omega
    have hks1 : (k : Int) + 1 ≤ (s.size : Int) := by omega
    have hie : dg.toList.isEmpty = decide (dg.data.toList = []) := by rw [Lib.toList_data, Bool.eq_iff_iff, List.isEmpty_iff, decide_eq_true_eq]
    clear e12 lN lD hk hlt
    generalize rhostS s = r1 at hno hbad hyes ⊢
    generalize rhostP s.data.toList = r2 at hno hbad hyes ⊢
    generalize ((rhostE s.data.toList : Nat) : Int) = r3 at hno hbad hyes ⊢
    generalize lastI s.data.toList 93 = c93 at *
    generalize hostB nm.data.toList = hb at *
    generalize lowS nm = low at *
    cases hb with
    | false =>
      have HR := hide (hno rfl)
      clear hno hbad hyes hpc hie HD HL
      go_enter Tryz.func66, Tryz.ntmps66
      go_wp2_with fail
      refine (H1.out _).mono ?_
      rintro e w' ⟨rfl, rfl⟩
      go_wp2_with fail
      refine (H2.out _).mono ?_
      rintro e w' ⟨rfl, rfl⟩
      go_wp2_with fail
      refine (HN.out _).mono ?_
      rintro e w' ⟨rfl, rfl⟩
      go_wp2
      go_ret3
      exact ⟨ret3i HR.out, Below.refl _ _⟩
    | true =>
      rcases hpc with ⟨p1, p2, p3⟩ | ⟨p1, p2, p3⟩ | ⟨p1, p2, p3, p4⟩
      · have HR := hide (hyes rfl p2)
        rw [p3] at HR
        rw [decide_eq_true p1] at hie
        clear hno hbad hyes p1 p2 p3 HD
        go_enter Tryz.func66, Tryz.ntmps66
        go_wp2_with fail
        refine (H1.out _).mono ?_
        rintro e w' ⟨rfl, rfl⟩
        go_wp2_with fail
        refine (H2.out _).mono ?_
        rintro e w' ⟨rfl, rfl⟩
        go_wp2_with fail
        refine (HN.out _).mono ?_
        rintro e w' ⟨rfl, rfl⟩
        go_wp2_with fail
        refine (HL.out _).mono ?_
        rintro e w9 ⟨rfl, b9⟩
        go_wp2
        go_ret3
        exact ⟨ret3i HR.out, b9⟩
      · have HR := hide (hbad rfl p3)
        rw [decide_eq_false p1] at hie
        unfold portBad at p2
        clear hno hbad hyes p1 p3 HL
        rw [size_len] at p2
        generalize numV 10 dg.data.toList = v at *
        generalize numE 10 dg.data.toList = ee at *
        by_cases q1 : ee = 0
        · have t1 : ((ee : Int) != 0) = false := by rw [bne_eq_false_iff_eq]; omega
          by_cases q2 : 5 < dg.size
          · have q2i : (5 : Int) < (dg.size : Int) := by omega
            clear p2 q1
            go_enter Tryz.func66, Tryz.ntmps66
            go_wp2_with fail
            refine (H1.out _).mono ?_
            rintro e w' ⟨rfl, rfl⟩
            go_wp2_with fail
            refine (H2.out _).mono ?_
            rintro e w' ⟨rfl, rfl⟩
            go_wp2_with fail
            refine (HN.out _).mono ?_
            rintro e w' ⟨rfl, rfl⟩
            go_wp2_with fail
            refine (HD.out _).mono ?_
            rintro e w' ⟨rfl, rfl⟩
            go_wp2
            go_ret3
            exact ⟨ret3i HR.out, Below.refl _ _⟩
          · have q2i : ¬ (5 : Int) < (dg.size : Int) := by omega
            have q3 : (65535 : Int) < (v : Int) := by
              rw [decide_eq_true q1, decide_eq_false q2] at p2
              simp at p2
              omega
            clear p2 q1
            go_enter Tryz.func66, Tryz.ntmps66
            go_wp2_with fail
            refine (H1.out _).mono ?_
            rintro e w' ⟨rfl, rfl⟩
            go_wp2_with fail
            refine (H2.out _).mono ?_
            rintro e w' ⟨rfl, rfl⟩
            go_wp2_with fail
            refine (HN.out _).mono ?_
            rintro e w' ⟨rfl, rfl⟩
            go_wp2_with fail
            refine (HD.out _).mono ?_
            rintro e w' ⟨rfl, rfl⟩
            go_wp2
            go_ret3
            exact ⟨ret3i HR.out, Below.refl _ _⟩
        · have t1 : ((ee : Int) != 0) = true := by rw [bne_iff_ne]; omega
          clear p2 q1
          go_enter Tryz.func66, Tryz.ntmps66
          go_wp2_with fail
          refine (H1.out _).mono ?_
          rintro e w' ⟨rfl, rfl⟩
          go_wp2_with fail
          refine (H2.out _).mono ?_
          rintro e w' ⟨rfl, rfl⟩
          go_wp2_with fail
          refine (HN.out _).mono ?_
          rintro e w' ⟨rfl, rfl⟩
          go_wp2_with fail
          refine (HD.out _).mono ?_
          rintro e w' ⟨rfl, rfl⟩
          go_wp2
          go_ret3
          exact ⟨ret3i HR.out, Below.refl _ _⟩
      · have HR := hide (hyes rfl p3)
        rw [p4] at HR
        rw [decide_eq_false p1] at hie
        unfold portBad at p2
        clear hno hbad hyes p1 p3 p4
        rw [size_len] at p2
        generalize numV 10 dg.data.toList = v at *
        generalize numE 10 dg.data.toList = ee at *
        simp only [Bool.or_eq_false_iff, Bool.not_eq_false', decide_eq_true_eq, decide_eq_false_iff_not] at p2
        obtain ⟨q1, q3, q2⟩ := p2
        have t1 : ((ee : Int) != 0) = false := by rw [bne_eq_false_iff_eq]; omega
        have q2i : ¬ (5 : Int) < (dg.size : Int) := by omega
        have q3i : ¬ (65535 : Int) < (v : Int) := by omega
        clear q1
        go_enter Tryz.func66, Tryz.ntmps66
        go_wp2_with fail
        refine (H1.out _).mono ?_
        rintro e w' ⟨rfl, rfl⟩
        go_wp2_with fail
        refine (H2.out _).mono ?_
        rintro e w' ⟨rfl, rfl⟩
        go_wp2_with fail
        refine (HN.out _).mono ?_
        rintro e w' ⟨rfl, rfl⟩
        go_wp2_with fail
        refine (HD.out _).mono ?_
        rintro e w' ⟨rfl, rfl⟩
        go_wp2_with fail
        refine (HL.out _).mono ?_
        rintro e w9 ⟨rfl, b9⟩
        go_wp2
        go_ret3
        exact ⟨ret3i HR.out, b9⟩
  · have e12 := rname_none hlt
    have HN := hide (fun w => rnamed_any s w hs)
    have HL := hide (fun w => rlower_any s w hs)
    have hno := rhost_no (s := s)
    have hyes := rhost_yes (s := s)
    have lN : rnameOf s.data.toList = s.data.toList := by unfold rnameOf; rw [if_neg hlt]
    have lD : rdigsOf s.data.toList = [] := by unfold rdigsOf; rw [if_neg hlt]
    rw [e12.1] at hyes
    rw [lN] at hno hyes
    rw [lD] at hyes
    clear e12 lN lD
    generalize rhostS s = r1 at hno hyes ⊢
    generalize rhostP s.data.toList = r2 at hno hyes ⊢
    generalize ((rhostE s.data.toList : Nat) : Int) = r3 at hno hyes ⊢
    generalize lastI s.data.toList 93 = c93 at *
    generalize lastI s.data.toList 58 = c58 at *
    generalize hostB s.data.toList = hb at *
    generalize lowS s = low at *
    cases hb with
    | false =>
      have HR := hide (hno rfl)
      clear hno hyes HL
      go_enter Tryz.func66, Tryz.ntmps66
      go_wp2_with fail
      refine (H1.out _).mono ?_
      rintro e w' ⟨rfl, rfl⟩
      go_wp2_with fail
      refine (H2.out _).mono ?_
      rintro e w' ⟨rfl, rfl⟩
      go_wp2_with fail
      refine (HN.out _).mono ?_
      rintro e w' ⟨rfl, rfl⟩
      go_wp2
      go_ret3
      exact ⟨ret3i HR.out, Below.refl _ _⟩
    | true =>
      have HR := hide (hyes rfl rfl)
      clear hno hyes
      go_enter Tryz.func66, Tryz.ntmps66
      go_wp2_with fail
      refine (H1.out _).mono ?_
      rintro e w' ⟨rfl, rfl⟩
      go_wp2_with fail
      refine (H2.out _).mono ?_
      rintro e w' ⟨rfl, rfl⟩
      go_wp2_with fail
      refine (HN.out _).mono ?_
      rintro e w' ⟨rfl, rfl⟩
      go_wp2_with fail
      refine (HL.out _).mono ?_
      rintro e w9 ⟨rfl, b9⟩
      go_wp2
      go_ret3
      exact ⟨ret3i HR.out, b9⟩
end Go.Proofs.YtacnnomkacfdbaaGreatDoor
/- The program's Host and the document's take the same hosts, as the same: no program in it. -/
namespace Go.Proofs.YtacnnomkacfdbaaGreatDoor

def nosp (c : UInt8) : Prop := c ≠ 58 ∧ c ≠ 91 ∧ c ≠ 93
theorem alnum_nosp {c : UInt8} (h : alnum c = true) : nosp c := by
  refine ⟨?_, ?_, ?_⟩ <;> (intro e; subst e; revert h; decide)
theorem marks_nosp {c : UInt8} (h : hostMarks.contains c = true) : nosp c := by
  refine ⟨?_, ?_, ?_⟩ <;> (intro e; subst e; revert h; decide)
theorem holds_nosp : ∀ {l : List UInt8}, holdsB hostMarks l = true → ∀ c ∈ l, nosp c
  | [], _, _, h => by cases h
  | a :: r, h, c, hc => by
    simp only [holdsB, Bool.and_eq_true, Bool.or_eq_true] at h
    rcases List.mem_cons.1 hc with rfl | hc
    · rcases h.1 with h1 | h1
      · unfold plainc at h1
        rcases Bool.or_eq_true_iff.1 h1 with h1 | h1
        · exact alnum_nosp h1
        · exact marks_nosp h1
      · rw [esc_pct h1]; exact ⟨by decide, by decide, by decide⟩
    · exact holds_nosp h.2 c hc
theorem hx_nosp {c : UInt8} (h : hx c = true) : nosp c := alnum_nosp (hx_alnum h)
theorem port_nosp {d : List UInt8} (h : portE d = 0) : ∀ c ∈ d, nosp c := by
  unfold portE at h
  split at h
  · rename_i e; subst e; intro c hc; cases hc
  · split at h
    · omega
    · rename_i hb
      simp only [portBad, Bool.or_eq_true, not_or, Bool.not_eq_true', decide_eq_false_iff_not, Classical.not_not, decide_eq_true_eq] at hb
      have hn := hb.1
      unfold numE at hn
      split at hn
      · omega
      · rename_i hd
        simp only [not_or, Classical.not_not] at hd
        intro c hc
        have := List.all_eq_true.1 hd.2 c hc
        simp only [decide_eq_true_eq] at this
        exact hx_nosp (decide_eq_true (by omega))
theorem pstep_nosp {i : Int} {a : Int × Int × Bool} {c : UInt8} (h : nosp c) : pstep i a c = a := by
  unfold pstep
  rw [if_neg h.1, if_neg h.2.1, if_neg h.2.2]
theorem pstate_app (x d : List UInt8) (h : ∀ c ∈ d, nosp c) : pstate (x ++ d) = pstate x := by
  induction d using snoc_ind with
  | h0 => simp
  | h1 d c ih =>
    rw [← List.append_assoc, pstate_snoc, pstep_nosp (h c (by simp)), ih (fun b hb => h b (by simp [hb]))]
theorem lastI_app (x d : List UInt8) (c : UInt8) (h : c ∉ d) : lastI (x ++ d) c = lastI x c := by
  induction d using snoc_ind with
  | h0 => simp
  | h1 d b ih =>
    rw [← List.append_assoc, lastI_snoc, if_neg (fun e => h (by simp [e])), ih (fun hb => h (by simp [hb]))]
theorem lastI_none (x : List UInt8) (c : UInt8) (h : c ∉ x) : lastI x c = -1 := by
  have := lastI_app [] x c h
  rw [List.nil_append] at this
  rw [this, lastI_nil]
theorem lastI_at (l : List UInt8) (c : UInt8) (k : Nat) (h : lastI l c = k) : l[k]? = some c := by
  induction l using snoc_ind generalizing k with
  | h0 => rw [lastI_nil] at h; omega
  | h1 l b ih =>
    rw [lastI_snoc] at h
    split at h
    · rename_i e
      have : k = l.length := by omega
      subst this
      simp [e]
    · have hlt := (lastI_lt l c).2
      rw [List.getElem?_append_left (by omega)]
      exact ih k h
/-- Within brackets a colon is not outside. -/
theorem pstate_in (I : List UInt8) (h : ∀ c ∈ I, c ≠ 91 ∧ c ≠ 93) : (pstate (91 :: I)).2 = (-1, true) := by
  induction I using snoc_ind with
  | h0 => decide
  | h1 d c ih =>
    have hc := h c (by simp)
    have e := ih (fun b hb => h b (by simp [hb]))
    rw [← List.cons_append, pstate_snoc]
    unfold pstep
    split
    · exact e
    · rw [if_neg hc.1, if_neg hc.2]; exact e
theorem name_form {nm : List UInt8} (h : hostB nm = true) : (∀ c ∈ nm, nosp c) ∨ (∃ I, nm = 91 :: (I ++ [93]) ∧ ∀ c ∈ I, c ≠ 91 ∧ c ≠ 93) := by
  unfold hostB at h
  split at h
  · rename_i h0
    rw [prefix_head] at h0
    have h0 := of_decide_eq_true h0
    unfold bracB at h
    simp only [Bool.and_eq_true] at h
    obtain ⟨h1, h2, _⟩ := h
    right
    cases nm with
    | nil => cases h0
    | cons c d =>
      simp only [List.head?_cons, Option.some.injEq] at h0
      subst h0
      rw [List.drop_succ_cons, List.drop_zero] at h1 h2
      refine ⟨Lib.trimSuffix d [93], by rw [← suffix_split h1], fun c hc => ?_⟩
      have := List.all_eq_true.1 h2 c hc
      constructor <;> (intro e; subst e; revert this; decide)
  · simp only [Bool.and_eq_true] at h
    left
    exact holds_nosp h.2.2
theorem pstate_name {nm : List UInt8} (h : hostB nm = true) : pstate nm = (-1, -1, false) := by
  rcases name_form h with h1 | ⟨I, rfl, h1⟩
  · have := pstate_app [] nm h1
    rw [List.nil_append] at this
    rw [this]; rfl
  · have e := pstate_in I h1
    rw [← List.cons_append, pstate_snoc]
    unfold pstep
    rw [if_neg (by decide), if_neg (by decide), if_pos rfl]
    have e1 : (pstate (91 :: I)).2.1 = -1 := by rw [e]
    have e2 : (pstate (91 :: I)).2.2 = true := by rw [e]
    rw [e2, e1]
    rfl
theorem parts_bare {nm : List UInt8} (h : hostB nm = true) : nameOf nm = nm ∧ digsOf nm = [] := by
  unfold nameOf digsOf
  rw [pstate_name h]
  exact ⟨rfl, rfl⟩
theorem parts_port {nm d : List UInt8} (hd : ∀ c ∈ d, nosp c) : nameOf (nm ++ 58 :: d) = nm ∧ digsOf (nm ++ 58 :: d) = d := by
  have e : (pstate (nm ++ 58 :: d)).1 = nm.length := by
    rw [show nm ++ 58 :: d = (nm ++ [58]) ++ d by simp, pstate_app _ _ hd, pstate_snoc]
    unfold pstep
    rw [if_pos rfl]
  unfold nameOf digsOf
  rw [e, if_neg (by omega), if_neg (by omega)]
  constructor
  · simp
  · simp
theorem rparts_bare {nm : List UInt8} (h : hostB nm = true) : rnameOf nm = nm ∧ rdigsOf nm = [] := by
  have hn : ¬ lastI nm 93 < lastI nm 58 := by
    rcases name_form h with h1 | ⟨I, rfl, h1⟩
    · rw [lastI_none nm 58 (fun hm => (h1 58 hm).1 rfl)]
      have := lastI_lt nm 93
      omega
    · have h2 := lastI_lt (91 :: (I ++ [93])) 58
      have h3 : lastI (91 :: (I ++ [93])) 93 = ((91 :: I).length : Int) := by rw [← List.cons_append, lastI_snoc, if_pos rfl]
      rw [h3]
      simp only [List.length_cons, List.length_append, List.length_nil] at h2 ⊢
      omega
  unfold rnameOf rdigsOf
  rw [if_neg hn, if_neg hn]
  exact ⟨rfl, rfl⟩
theorem rparts_port {nm d : List UInt8} (hd : ∀ c ∈ d, nosp c) : rnameOf (nm ++ 58 :: d) = nm ∧ rdigsOf (nm ++ 58 :: d) = d := by
  have e1 : lastI (nm ++ 58 :: d) 58 = nm.length := by
    rw [show nm ++ 58 :: d = (nm ++ [58]) ++ d by simp, lastI_app _ _ _ (fun hm => (hd 58 hm).1 rfl), lastI_snoc, if_pos rfl]
  have e2 : lastI (nm ++ 58 :: d) 93 = lastI nm 93 := by
    rw [show nm ++ 58 :: d = (nm ++ [58]) ++ d by simp, lastI_app _ _ _ (fun hm => (hd 93 hm).2.2 rfl), lastI_snoc, if_neg (by decide)]
  have h3 := (lastI_lt nm 93).2
  unfold rnameOf rdigsOf
  rw [e1, e2, if_pos h3, if_pos h3]
  constructor
  · simp
  · simp
theorem host_same (l : List UInt8) (h : hostE l = 0 ∨ rhostE l = 0) : nameOf l = rnameOf l ∧ digsOf l = rdigsOf l := by
  rcases h with h | h
  · unfold hostE at h
    split at h
    · rename_i hb
      have hd := port_nosp h
      by_cases hn : (pstate l).1 < 0
      · have e1 : nameOf l = l := by unfold nameOf; rw [if_pos hn]
        have e2 : digsOf l = [] := by unfold digsOf; rw [if_pos hn]
        rw [e1] at hb
        have r := rparts_bare hb
        rw [e1, e2, r.1, r.2]
        exact ⟨rfl, rfl⟩
      · have hk := (pstate_colon l).1 (pstate l).1.toNat (by omega)
        have e := split_at_k hk
        have e1 : nameOf l = l.take (pstate l).1.toNat := by unfold nameOf; rw [if_neg hn]
        have e2 : digsOf l = l.drop ((pstate l).1.toNat + 1) := by unfold digsOf; rw [if_neg hn]
        rw [← e1, ← e2] at e
        have r := rparts_port (nm := nameOf l) hd
        rw [← e] at r
        exact ⟨r.1.symm, r.2.symm⟩
    · omega
  · unfold rhostE at h
    split at h
    · rename_i hb
      have hd := port_nosp h
      by_cases hn : lastI l 93 < lastI l 58
      · have hge := (lastI_lt l 93).1
        have hk := lastI_at l 58 (lastI l 58).toNat (by omega)
        have e := split_at_k hk
        have e1 : rnameOf l = l.take (lastI l 58).toNat := by unfold rnameOf; rw [if_pos hn]
        have e2 : rdigsOf l = l.drop ((lastI l 58).toNat + 1) := by unfold rdigsOf; rw [if_pos hn]
        rw [← e1, ← e2] at e
        have r := parts_port (nm := rnameOf l) hd
        rw [← e] at r
        exact r
      · have e1 : rnameOf l = l := by unfold rnameOf; rw [if_neg hn]
        have e2 : rdigsOf l = [] := by unfold rdigsOf; rw [if_neg hn]
        rw [e1] at hb
        have r := parts_bare hb
        rw [e1, e2, r.1, r.2]
        exact ⟨rfl, rfl⟩
    · omega
theorem host_same2 (l : List UInt8) : (hostE l = 0 ↔ rhostE l = 0) ∧ (hostE l = 0 → hostH l = rhostH l ∧ hostP l = rhostP l) := by
  have key : hostE l = 0 ∨ rhostE l = 0 → hostE l = rhostE l ∧ hostH l = rhostH l ∧ hostP l = rhostP l := fun h => by
    obtain ⟨e1, e2⟩ := host_same l h
    unfold hostE rhostE hostH rhostH hostP rhostP hostOk rhostOk
    rw [e1, e2]
    exact ⟨rfl, rfl, rfl⟩
  refine ⟨⟨fun h => ?_, fun h => ?_⟩, fun h => (key (.inl h)).2⟩
  · rw [← (key (.inl h)).1]; exact h
  · rw [(key (.inr h)).1]; exact h
end Go.Proofs.YtacnnomkacfdbaaGreatDoor
