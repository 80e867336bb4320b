/- Elements that are joined again are the same elements: the statement, walked. -/
import Derived.Test.YtlnbmfdkminkiaaDoorWalks
namespace Go.Proofs.YtlnbmfdkminkiaaDoor
open Go.ChangeShapes Go.WideShapes Go.ChangeAt Go.RowKit

theorem sS_inj {a b : List UInt8} (h : sS a = sS b) : a = b := by rw [← sS_list a, ← sS_list b, h]
def joinS (A : List (List UInt8)) : ByteArray := sS (joinB A)
def tot : List (List UInt8) → Nat
  | [] => 0
  | x :: r => x.length + 2 + tot r
theorem joinB_le : ∀ A : List (List UInt8), (joinB A).length ≤ tot A
  | [] => by simp [joinB, tot]
  | [x] => by simp [joinB, tot]
  | x :: y :: r => by
    have h2 := joinB_le (y :: r)
    rw [joinB, List.length_append, List.length_append]
    simp only [tot, List.length_cons, List.length_nil] at h2 ⊢
    omega
theorem tot_append : ∀ A B : List (List UInt8), tot (A ++ B) = tot A + tot B
  | [], B => by simp [tot]
  | x :: r, B => by simp only [List.cons_append, tot, tot_append r B]; omega
theorem tot_take (A : List (List UInt8)) (k : Nat) : tot (A.take k) ≤ tot A := by
  have := tot_append (A.take k) (A.drop k)
  rw [List.take_append_drop] at this
  omega
theorem tot_elem (p : List UInt8) : tot (elem p) ≤ 3 * p.length := by
  unfold elem
  split
  · simp [tot]
  · rename_i h
    have h1 := trimB_le p
    have h2 : 0 < (trimB p).length := List.length_pos_iff.2 h
    simp only [tot]
    omega
theorem tot_list (l : List UInt8) : tot (listB l) ≤ 3 * l.length := by
  induction h : l.length using Nat.strongRecOn generalizing l with
  | ind n ih =>
    by_cases h0 : l = []
    · subst h0; simp [listB_nil, tot]
    · have hp : 0 < l.length := List.length_pos_iff.2 h0
      rw [listB_cons h0, tot_append]
      have h1 := tot_elem (l.take (pend false false l))
      have h2 := ih _ (by rw [List.length_drop]; omega) (l.drop (pend false false l + 1)) rfl
      rw [List.length_take] at h1
      rw [List.length_drop] at h2
      omega
theorem elem_mem {p x : List UInt8} (h : x ∈ elem p) : x.length ≤ p.length := by
  unfold elem at h
  split at h
  · cases h
  · simp at h; subst h; exact trimB_le p
theorem listB_mem (l : List UInt8) : ∀ x ∈ listB l, x.length ≤ l.length := by
  induction h : l.length using Nat.strongRecOn generalizing l with
  | ind n ih =>
    intro x hx
    by_cases h0 : l = []
    · subst h0; rw [listB_nil] at hx; cases hx
    · have hp : 0 < l.length := List.length_pos_iff.2 h0
      rw [listB_cons h0] at hx
      rcases List.mem_append.1 hx with hx | hx
      · have := elem_mem hx
        rw [List.length_take] at this
        omega
      · have := ih _ (by rw [List.length_drop]; omega) (l.drop (pend false false l + 1)) rfl x hx
        rw [List.length_drop] at this
        omega
theorem join_len (l : List UInt8) (k : Nat) : (joinB ((listB l).take k)).length ≤ 3 * l.length :=
  Nat.le_trans (joinB_le _) (Nat.le_trans (tot_take _ _) (tot_list l))
theorem take_snocL {α : Type} (A : List α) (k : Nat) (h : k < A.length) : A.take (k + 1) = A.take k ++ [A[k]] := List.take_succ_eq_append_getElem h

/-- What the row of texts holds at place k, and what the join becomes. -/
theorem join_step (A : List (List UInt8)) (k : Nat) (h : k < A.length) (t x : ByteArray) (ht : t = joinS (A.take k)) (hx : x = sS A[k]) : (if k = 0 then t ++ x else (t ++ ⟨#[44, 32]⟩) ++ x) = joinS (A.take (k + 1)) := by
  have e : ∀ a b : ByteArray, a.data.toList = b.data.toList → a = b := by
    intro a b hab
    cases a; cases b
    simp only [ByteArray.mk.injEq]
    exact Array.toList_inj.1 hab
  apply e
  unfold joinS
  rw [sS_list, take_snocL A k h, joinB_snoc]
  subst ht hx
  by_cases h0 : k = 0
  · subst h0
    simp [sS_list, joinS, joinB]
  · have hn : A.take k ≠ [] := by
      intro hh
      have := congrArg List.length hh
      rw [List.length_take] at this
      simp only [List.length_nil] at this
      omega
    rw [if_neg h0, if_neg hn, app_list, app_list, sS_list]
    unfold joinS
    rw [sS_list]

set_option maxHeartbeats 2000000 in
theorem joined_walk (s : ByteArray) (w : World) (hs : s.size ≤ 1048576) (hdb : DB w) :
    Calls Tryd.prog 7 #[.string s] w fun e w' => e = .returned (.bool true) ∧ Below w.heap.size w w' := by
  have HD := hide hdb
  clear hdb
  obtain ⟨A, hA⟩ : ∃ A, listB s.data.toList = A := ⟨_, rfl⟩
  have hlen : A.length ≤ s.size := by have := listB_len s.data.toList; rw [hA, size_len] at this; exact this
  have HG : Hid (∀ x ∈ A, x ≠ [] ∧ trimB x = x) := hide (by rw [← hA]; exact good_mem _ (listB_good _))
  have HJ : Hid (∀ k, (joinS (A.take k)).size ≤ 3145728) := hide (by
    intro k
    have h1 := join_len s.data.toList k
    rw [hA, size_len] at h1
    unfold joinS
    rw [sS_size]
    omega)
  have HE : Hid (∀ x ∈ A, x.length ≤ s.size) := hide (by rw [← hA, ← size_len]; exact listB_mem _)
  have HB2 : Hid (listS (joinS A).data.toList = A.map sS) := hide (by
    unfold joinS listS
    rw [sS_list, ← hA, listB_joined])
  have hL := list_any s
  have hLS : listS s.data.toList = A.map sS := by unfold listS; rw [hA]
  rw [hLS] at hL
  have HL := hide hL
  clear hL hLS hA
  go_enter Tryd.func7, Tryd.ntmps7
  go_wp2_with fail
  refine (HL.out _ (by omega)).mono ?_
  rintro e w1 ⟨v1, rfl, r1, b1⟩
  have B1 := hide b1
  have S1 := hide (Strs.of_row r1)
  clear b1 r1
  obtain ⟨a, c, hv, hc⟩ := S1.out
  rw [List.length_map] at hv
  subst hv
  have HC := hide hc
  clear hc
  go_wp2
  go_loopw [4, 11] (fun x i wr => ∃ (k : Nat) (t : ByteArray), x = .string t ∧ i = .int .i64 k ∧ k ≤ A.length ∧ Hid (t = joinS (A.take k)) ∧ Hid (Below w1.heap.size w1 wr)) (fun _ i _ => A.length - (intOf i).toNat)
  case atStart => exact ⟨0, ⟨#[]⟩, rfl, rfl, Nat.zero_le _, hide rfl, hide (Below.refl _ _)⟩
  case round =>
    obtain ⟨k, t, rfl, rfl, hk, HT, HB⟩ := hrel
    by_cases hlt : k < A.length
    · obtain ⟨g, rfl, hg, hcell⟩ := HC.out k (by rw [List.length_map]; exact hlt)
      rw [List.getElem_map] at hcell
      have hce := (HB.out.cell (p := ⟨g, k, none⟩) hg).trans hcell
      have HS := join_step A k hlt t (sS A[k]) HT.out rfl
      have hne := HG.out A[k] (List.getElem_mem hlt)
      have hze := HE.out A[k] (List.getElem_mem hlt)
      have hxs : (sS A[k]).size = A[k].length := sS_size _
      have hpos : 0 < A[k].length := List.length_pos_iff.2 hne.1
      have htr : trimS (sS A[k]) = sS A[k] := by rw [trimS_eq, sS_list, hne.2]
      have hTr := trim_any (sS A[k])
      rw [htr] at hTr
      have htz : t.size ≤ 3145728 := by rw [HT.out]; exact HJ.out k
      clear hcell htr hne
      generalize sS A[k] = x at hce HS hTr hxs
      have hxz : x.size ≤ 1048576 := by omega
      have hx0 : 0 < x.size := by omega
      clear hxs hpos hze
      have hxe : x.toList.isEmpty = false := by rw [Lib.toList_data, isEmpty_size]; exact decide_eq_false (by omega)
      have HTr := hide hTr
      clear hTr
      have hzz := app_size t ⟨#[44, 32]⟩
      have h44 : (⟨#[44, 32]⟩ : ByteArray).size = 2 := rfl
      by_cases h0 : k = 0
      · rw [if_pos h0] at HS
        have HS2 := hide HS
        have H0 := hide h0
        have h00 : ¬ (0 : Int) < (k : Int) := by omega
        clear HS h0
        go_wp2_with (go_at_call 12; refine (HTr.out _ (by omega)).mono ?_; rintro e w' ⟨rfl, hb⟩)
        exact ⟨⟨k + 1, _, rfl, by go_num, by omega, HS2, hide (HB.out.trans (hb.mono HB.out.size))⟩, by simp [intOf]; omega⟩
      · rw [if_neg h0] at HS
        have HS2 := hide HS
        have h00 : (0 : Int) < (k : Int) := by omega
        clear HS
        go_wp2_with (go_at_call 12; refine (HTr.out _ (by omega)).mono ?_; rintro e w' ⟨rfl, hb⟩)
        exact ⟨⟨k + 1, _, rfl, by go_num, by omega, HS2, hide (HB.out.trans (hb.mono HB.out.size))⟩, by simp [intOf]; omega⟩
    · have e : t = joinS A := by rw [HT.out, List.take_of_length_le (by omega)]
      have htz : t.size ≤ 3145728 := by rw [HT.out]; exact HJ.out k
      have hL2 := list_any t
      rw [e, HB2.out, ← e] at hL2
      have HL2 := hide hL2
      have HB1 := hide (B1.out.trans (HB.out.mono B1.out.size))
      have HS1 := hide (S1.out.below HB.out)
      clear hL2 e HT
      go_wp2_with fail
      refine (HL2.out _ (by omega)).mono ?_
      rintro e w3 ⟨v3, rfl, r3, b3⟩
      have S3 := hide (Strs.of_row r3)
      have S4 := hide (HS1.out.below b3)
      have B3 := hide (HB1.out.trans (b3.mono HB1.out.size))
      clear r3 b3
      go_wp2_with fail
      refine (texts_any _ _ _ (A.map sS) (A.map sS) S3.out S4.out (by rw [List.length_map]; omega) (by rw [List.length_map]; omega)).mono ?_
      rintro e w4 ⟨rfl, b4⟩
      have B4 := hide (B3.out.trans (b4.mono B3.out.size))
      clear b4
      rw [decide_eq_true rfl]
      go_wp2_with fail
      refine (speaks_any _ (HD.out.below B4.out)).mono ?_
      rintro e w5 ⟨rfl, b5⟩
      have B5 := hide (B4.out.trans (b5.mono B4.out.size))
      clear b5
      go_wp2
      go_ret
      exact ⟨rfl, B5.out⟩
end Go.Proofs.YtlnbmfdkminkiaaDoor
