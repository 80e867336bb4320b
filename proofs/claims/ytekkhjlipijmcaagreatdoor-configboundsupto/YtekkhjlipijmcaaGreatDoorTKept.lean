/- A path without dots, by the program. -/
import Derived.Test.YtekkhjlipijmcaaGreatDoorTHost2
import Derived.Test.YtekkhjlipijmcaaGreatDoorQZ1
import Derived.Test.YtekkhjlipijmcaaGreatDoorTClean
namespace Go.Proofs.YtekkhjlipijmcaaGreatDoor
open Go.ChangeShapes Go.WideShapes Go.ChangeAt Go.RowKit

theorem str_eq (a : ByteArray) (l : List UInt8) : (a.toList == l) = decide (a.data.toList = l) := by rw [Lib.toList_data, beq_list]
/-- A row that is cut at its end. -/
theorem Row.cut {W : World} {base : Nat} {e : TypeId} {a : Option Addr} {n c : Nat} {xs : List Value} (h : Row W base e (.slice a n c) xs) (m : Nat) (hm : m ≤ xs.length) : Row W base e (.slice a m c) (xs.take m) := by
  have hl : (xs.take m).length = m := by rw [List.length_take]; omega
  refine ⟨by rw [hl]; omega, ?_⟩
  rw [hl]
  rcases h.2 with ⟨h1, h0⟩ | ⟨g, cap, cur, hv, h1, hg, hc, hmx, hs, ht⟩
  · simp only [Value.slice.injEq] at h1
    obtain ⟨rfl, rfl, rfl⟩ := h1
    have : m = 0 := by omega
    subst this
    exact .inl ⟨rfl, rfl⟩
  · simp only [Value.slice.injEq] at hv
    obtain ⟨rfl, rfl, rfl⟩ := hv
    refine .inr ⟨g, _, cur, rfl, h1, hg, by omega, hmx, hs, ?_⟩
    rw [← ht, List.take_take]
    congr 1
    omega
def sm (A : List (List UInt8)) : List Value := sc (A.map sS)
theorem sm_len (A : List (List UInt8)) : (sm A).length = A.length := by simp [sm, sc]
theorem sm_snoc (A : List (List UInt8)) (x : List UInt8) : sm (A ++ [x]) = sm A ++ [.string (sS x)] := by simp [sm, sc]
theorem sm_dropLast (A : List (List UInt8)) : (sm A).take (A.length - 1) = sm A.dropLast := by
  unfold sm sc
  rw [← List.map_take, ← List.map_take, List.dropLast_eq_take]

set_option maxHeartbeats 2000000 in
theorem kept_any (w : World) (v : Value) (A : List (List UInt8)) (hA : Strs w v (A.map sS)) (hl : A.length ≤ 1099511627776) :
    Calls Tryz.prog 69 #[v] w fun e w' => ∃ u, e = .returned u ∧ Row w' w.heap.size 9 u (sm (keep [] A)) ∧ Below w.heap.size w w' := by
  obtain ⟨a0, c0, hv, hca⟩ := hA
  rw [List.length_map] at hv
  subst hv
  have HA : Hid (∀ j (h : j < A.length), ∃ g, a0 = some ⟨g, 0, none⟩ ∧ g < w.heap.size ∧ w.cell? ⟨g, j, none⟩ = some (.string (sS A[j]))) := hide (fun j hj => by
    obtain ⟨g, h1, h2, h3⟩ := hca j (by rw [List.length_map]; exact hj)
    rw [List.getElem_map] at h3
    exact ⟨g, h1, h2, h3⟩)
  clear hca
  go_enter Tryz.func69, Tryz.ntmps69
  go_wp2
  go_loopw [3, 8] (fun v i wr => ∃ (k : Nat) (S : List (List UInt8)), i = .int .i64 k ∧ k ≤ A.length ∧ S.length ≤ k ∧ Hid (keep [] A = keep S (A.drop k)) ∧ Hid (Row wr w.heap.size 9 v (sm S)) ∧ Hid (Below w.heap.size w wr)) (fun _ i _ => A.length - (intOf i).toNat)
  case atStart => exact ⟨0, [], rfl, Nat.zero_le _, Nat.zero_le _, hide rfl, hide (Row.nil _ _ _), hide (Below.refl _ _)⟩
  case round =>
    obtain ⟨k, S, rfl, hk, hS, H, HR, HB⟩ := hrel
    obtain ⟨a, c, rfl, hc1, hc2⟩ := HR.out.shape
    rw [sm_len] at *
    by_cases hlt : k < A.length
    · obtain ⟨g, rfl, hg, hcell⟩ := HA.out k hlt
      have hce := (HB.out.cell (p := ⟨g, k, none⟩) hg).trans hcell
      have hd : A.drop k = A[k] :: A.drop (k + 1) := List.drop_eq_getElem_cons hlt
      have HS : Hid (keep [] A = keep (kstep S A[k] (decide (A.length = k + 1))) (A.drop (k + 1))) := hide (by
        rw [H.out, hd, keep]
        congr 2
        rw [Bool.eq_iff_iff, List.isEmpty_iff, decide_eq_true_eq, List.drop_eq_nil_iff]
        omega)
      have hdd := str_eq (sS A[k]) [46, 46]
      have hdo := str_eq (sS A[k]) [46]
      rw [sS_list] at hdd hdo
      clear hcell hd
      generalize A[k] = x at hce HS hdd hdo
      have hmx : max ((S.length : Int) - 1) 0 = ((S.length - 1 : Nat) : Int) := by omega
      have hdl : S.dropLast.length = S.length - 1 := by simp
      have HDL := hide hdl
      clear hdl
      have HRC : Hid (Row wr w.heap.size 9 (.slice a (S.length - 1) c) (sm S.dropLast)) := hide (by rw [← sm_dropLast]; exact HR.out.cut (S.length - 1) (by rw [sm_len]; omega))
      have hsc : S.length - 1 ≤ c := by omega
      by_cases h1 : x = dots
      · have t1 : ((sS x).toList == [46, 46]) = true := by rw [hdd]; exact decide_eq_true h1
        by_cases hla : A.length = k + 1
        · have tl : (((k : Int)) == (A.length : Int) - 1) = true := beq_iff_eq.2 (by omega)
          have HK : Hid (keep [] A = keep (S.dropLast ++ [[]]) (A.drop (k + 1))) := hide (by rw [HS.out, decide_eq_true hla]; unfold kstep; rw [if_pos h1]; rfl)
          have HX := hide h1
          clear hdd hdo h1 hla
          go_wp2_with (at_builtin; apply Hid.out)
          unfold Hid
          refine wpList_append_one elS rfl _ _ rfl wr w.heap.size (.slice a (S.length - 1) c) (sm S.dropLast) (.string ⟨#[]⟩) rfl rfl HRC.out rfl (by rw [sm_len, HDL.out]; omega) (by rw [sm_len, HDL.out]; omega) HB.out.size ?_
          intro v' w2 O' B'
          have O2 := hide O'
          have B2 := hide (HB.out.trans B')
          clear O' B'
          go_wp2
          exact ⟨⟨k + 1, S.dropLast ++ [[]], by go_num, by omega, by rw [List.length_append, List.length_singleton, HDL.out]; omega, HK, hide (by rw [sm_snoc]; exact O2.out), B2⟩, by simp [intOf]; omega⟩
        · have tl : (((k : Int)) == (A.length : Int) - 1) = false := beq_eq_false_iff_ne.2 (by omega)
          have HK : Hid (keep [] A = keep S.dropLast (A.drop (k + 1))) := hide (by rw [HS.out, decide_eq_false hla]; unfold kstep; rw [if_pos h1]; rfl)
          have HX := hide h1
          clear hdd hdo h1
          go_wp2
          exact ⟨⟨k + 1, S.dropLast, by go_num, by omega, by rw [HDL.out]; omega, HK, HRC, HB⟩, by simp [intOf]; omega⟩
      · have t1 : ((sS x).toList == [46, 46]) = false := by rw [hdd]; exact decide_eq_false h1
        by_cases h2 : x = dot
        · have t2 : ((sS x).toList == [46]) = true := by rw [hdo]; exact decide_eq_true h2
          by_cases hla : A.length = k + 1
          · have tl : (((k : Int)) == (A.length : Int) - 1) = true := beq_iff_eq.2 (by omega)
            have HK : Hid (keep [] A = keep (S ++ [[]]) (A.drop (k + 1))) := hide (by rw [HS.out, decide_eq_true hla]; unfold kstep; rw [if_neg h1, if_pos h2]; rfl)
            have HX := hide h2
            clear hdd hdo h2 hla
            go_wp2_with (at_builtin; apply Hid.out)
            unfold Hid
            refine wpList_append_one elS rfl _ _ rfl wr w.heap.size (.slice a S.length c) (sm S) (.string ⟨#[]⟩) rfl rfl HR.out rfl (by rw [sm_len]; omega) (by rw [sm_len]; omega) HB.out.size ?_
            intro v' w2 O' B'
            have O2 := hide O'
            have B2 := hide (HB.out.trans B')
            clear O' B'
            go_wp2
            exact ⟨⟨k + 1, S ++ [[]], by go_num, by omega, by rw [List.length_append, List.length_singleton]; omega, HK, hide (by rw [sm_snoc]; exact O2.out), B2⟩, by simp [intOf]; omega⟩
          · have tl : (((k : Int)) == (A.length : Int) - 1) = false := beq_eq_false_iff_ne.2 (by omega)
            have HK : Hid (keep [] A = keep S (A.drop (k + 1))) := hide (by rw [HS.out, decide_eq_false hla]; unfold kstep; rw [if_neg h1, if_pos h2]; rfl)
            have HX := hide h2
            clear hdd hdo h2
            go_wp2
            exact ⟨⟨k + 1, S, by go_num, by omega, by omega, HK, HR, HB⟩, by simp [intOf]; omega⟩
        · have t2 : ((sS x).toList == [46]) = false := by rw [hdo]; exact decide_eq_false h2
          have HK : Hid (keep [] A = keep (S ++ [x]) (A.drop (k + 1))) := hide (by rw [HS.out]; unfold kstep; rw [if_neg h1, if_neg h2])
          clear hdd hdo
          go_wp2_with (at_builtin; apply Hid.out)
          unfold Hid
          refine wpList_append_one elS rfl _ _ rfl wr w.heap.size (.slice a S.length c) (sm S) (.string (sS x)) rfl rfl HR.out rfl (by rw [sm_len]; omega) (by rw [sm_len]; omega) HB.out.size ?_
          intro v' w2 O' B'
          have O2 := hide O'
          have B2 := hide (HB.out.trans B')
          clear O' B'
          go_wp2
          exact ⟨⟨k + 1, S ++ [x], by go_num, by omega, by rw [List.length_append, List.length_singleton]; omega, HK, hide (by rw [sm_snoc]; exact O2.out), B2⟩, by simp [intOf]; omega⟩
    · have HE : Hid (keep [] A = S) := hide (by rw [H.out, List.drop_eq_nil_of_le (by omega)]; rfl)
      go_wp2
      go_ret
      exact ⟨_, rfl, by rw [HE.out]; exact HR.out, HB.out⟩
end Go.Proofs.YtekkhjlipijmcaaGreatDoor
