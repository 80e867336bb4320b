/- Clean, by the program. -/
import Derived.Test.YtekkhjlipijmcaaGreatDoorTKept
namespace Go.Proofs.YtekkhjlipijmcaaGreatDoor
open Go.ChangeShapes Go.WideShapes Go.ChangeAt Go.RowKit

/-- The library's variable that its search reads holds a number. -/
def MX (w : World) : Prop := 3 < w.heap.size ∧ ∃ m : Int, w.cell? ⟨3, 0, none⟩ = some (.int .i64 m)
theorem MX.below {w w' : World} (h : MX w) (b : Below w.heap.size w w') : MX w' := by
  obtain ⟨h0, m, hm⟩ := h
  exact ⟨Nat.lt_of_lt_of_le h0 b.size, m, (b.cell (p := ⟨3, 0, none⟩) h0).trans hm⟩

def cleanL (l : List UInt8) : List UInt8 := if l.head? = some 47 then (if 8192 < l.length then [] else 47 :: jn (kept l.tail)) else []
def cleanE (l : List UInt8) : Nat := if l.head? = some 47 then (if 8192 < l.length then 2 else 0) else 1
def cleanS (s : ByteArray) : ByteArray := sS (cleanL s.data.toList)

theorem unmap {X : List ByteArray} {A : List (List UInt8)} (h : X.map (·.data.toList) = A) : X = A.map sS := by
  subst h
  rw [List.map_map]
  conv => lhs; rw [← List.map_id X]
  apply List.map_congr_left
  intro x _
  exact bytes_ext (sS_list _).symm
theorem unmap' (A : List (List UInt8)) : (A.map sS).map (·.data.toList) = A := by
  rw [List.map_map]
  conv => rhs; rw [← List.map_id A]
  apply List.map_congr_left
  intro x _
  exact sS_list x
def slash : ByteArray := ⟨#[47]⟩
theorem slash_list : slash.data.toList = [47] := rfl
theorem lt_alloc (w : World) (o : Obj) : w.heap.size < (w.alloc o).heap.size := by
  have h := hp_new w o
  exact (Array.getElem?_eq_some_iff.1 h).1
theorem split_at (s : ByteArray) (w : World) (hs : s.size < 4294967281) (h : MX w) :
    Calls Tryz.prog 70 #[.string s, .string slash] w fun e w' => ∃ v, e = .returned v ∧ Strs w' v ((segs s.data.toList).map sS) ∧ Below w.heap.size w w' := by
  obtain ⟨h0, m, hm⟩ := h
  refine (Tryz.strings_Split s slash m w hs hm (by decide)).mono ?_
  rintro e w' ⟨rfl, rfl⟩
  have hL : Lib.splitB slash 0 (Lib.countB s slash) s = (segs s.data.toList).map sS := unmap (by rw [Lib.splitB_data, slash_list]; exact split_segs _ _ rfl)
  have hn : (segs s.data.toList).length = Lib.countB s slash + 1 := by
    have h1 := congrArg List.length hL
    rw [List.length_map] at h1
    rw [← h1]
    exact Lib.splitB_all slash (by decide) 0 _ _ rfl
  rw [hL]
  refine ⟨_, rfl, ⟨some ⟨w.heap.size, 0, none⟩, Lib.countB s slash + 1, by rw [List.length_map, hn], fun j hj => ⟨w.heap.size, rfl, lt_alloc w _, ?_⟩⟩, (Below.refl _ w).alloc (Nat.le_refl _) _⟩
  rw [List.length_map] at hj
  rw [cell_at (hp_new _ _)]
  simp [hj]
theorem join_at (w : World) (b : Nat) (v : Value) (A : List (List UInt8)) (h : Row w b 9 v (sm A)) (h0 : A ≠ []) (hl : tl A ≤ 140737488355328) :
    Calls Tryz.prog 68 #[v, .string slash] w fun e w' => e = .returned (.string (sS (jn A))) ∧ Below w.heap.size w w' := by
  obtain ⟨a, c, rfl, hc, _⟩ := h.shape
  rw [sm_len] at *
  have hpos : 0 < A.length := List.length_pos_iff.2 h0
  obtain ⟨g, rfl, _⟩ := h.cell (j := 0) (by rw [sm_len]; exact hpos)
  have hx := Tryz.strings_Join g 0 c (A.map sS) slash w (fun j x hj => ?_) (h.lt rfl).2 ?_ ?_ ?_
  · rw [List.length_map, unmap', slash_list, join_jn] at hx
    exact hx
  · rw [List.getElem?_map] at hj
    cases e : A[j]? with
    | none => rw [e] at hj; cases hj
    | some y =>
      rw [e] at hj
      cases hj
      obtain ⟨hlt, rfl⟩ := List.getElem?_eq_some_iff.1 e
      obtain ⟨g', hg', hcell⟩ := h.cell (j := j) (by rw [sm_len]; exact hlt)
      cases hg'
      rw [Nat.zero_add, hcell]
      simp [sm, sc, hlt]
  · rw [List.length_map]
    have := tl_count A
    omega
  · rw [List.length_map]; exact hc
  · rw [unmap', slash_list, join_jn]
    have := jn_len A h0
    omega
theorem ret_clean {a c : ByteArray} {x : Int} {n : Nat} (h : c = a ∧ (n : Int) = x) : Ending.returned (.tuple #[.string a, .int .i64 x]) = .returned (.tuple #[.string c, .int .i64 (n : Int)]) := by obtain ⟨rfl, rfl⟩ := h; rfl
set_option maxHeartbeats 1000000 in
theorem clean_any (s : ByteArray) (w : World) (hm : MX w) :
    Calls Tryz.prog 47 #[.string s] w fun e w' => e = .returned (.tuple #[.string (cleanS s), .int .i64 (cleanE s.data.toList : Nat)]) ∧ Below w.heap.size w w' := by
  have hP := Tryz.strings_HasPrefix s ⟨#[47]⟩
  rw [show (⟨#[47]⟩ : ByteArray).data.toList = [47] from rfl, prefix_head] at hP
  by_cases h1 : s.data.toList.head? = some 47
  · rw [decide_eq_true h1] at hP
    have HP := hide hP
    have h0 : 0 < s.size := by
      rw [← size_len]
      cases e : s.data.toList with
      | nil => rw [e] at h1; cases h1
      | cons _ _ => simp
    have H1 := hide h1
    have HM := hide hm
    clear hP h1 hm
    by_cases h2 : 8192 < s.size
    · have HR : Hid (cleanS s = ⟨#[]⟩ ∧ ((cleanE s.data.toList : Nat) : Int) = 2) := hide (by
        unfold cleanS cleanL cleanE
        rw [if_pos H1.out, if_pos H1.out, size_len, if_pos h2, if_pos h2]
        exact ⟨rfl, rfl⟩)
      go_enter Tryz.func47, Tryz.ntmps47
      go_wp2_with (go_at_call 67; refine (HP.out _).mono ?_; rintro e w' ⟨rfl, rfl⟩)
      go_ret2
      exact ⟨ret_clean HR.out, Below.refl _ _⟩
    · have HR : Hid (cleanS s = slash ++ sS (jn (kept (s.extract 1 s.size).data.toList)) ∧ ((cleanE s.data.toList : Nat) : Int) = 0) := hide (by
        unfold cleanS cleanL cleanE
        rw [if_pos H1.out, if_pos H1.out, size_len, if_neg h2, if_neg h2]
        refine ⟨bytes_ext ?_, rfl⟩
        rw [sS_list, app_list, sS_list, slash_list, ext_drop, List.drop_one]
        rfl)
      have hes : (s.extract 1 s.size).size = s.size - 1 := by rw [ext_size]; omega
      have HT : Hid (tl (kept (s.extract 1 s.size).data.toList) ≤ 8193) := hide (by
        have h3 := tl_keep (segs (s.extract 1 s.size).data.toList) []
        rw [tl_segs, size_len] at h3
        unfold kept
        simp only [tl] at h3
        omega)
      have hjl : (sS (jn (kept (s.extract 1 s.size).data.toList))).size ≤ 8193 := by
        have := jn_len _ (kept_ne (s.extract 1 s.size).data.toList)
        have := HT.out
        rw [sS_size]
        omega
      go_enter Tryz.func47, Tryz.ntmps47
      go_wp2_with (go_at_call 67; refine (HP.out _).mono ?_; rintro e w' ⟨rfl, rfl⟩)
      go_wp2_with fail
      refine (split_at _ _ (by omega) HM.out).mono ?_
      rintro e w1 ⟨v1, rfl, s1, b1⟩
      have B1 := hide b1
      have S1 := hide s1
      clear b1 s1
      go_wp2_with fail
      refine (kept_any _ _ _ S1.out (by have := tl_count (segs (s.extract 1 s.size).data.toList); rw [tl_segs, size_len] at this; omega)).mono ?_
      rintro e w2 ⟨v2, rfl, r2, b2⟩
      have B2 := hide (B1.out.trans (b2.mono B1.out.size))
      have R2 := hide r2
      clear b2 r2 B1 S1
      go_wp2_with fail
      refine (join_at _ _ _ _ R2.out (kept_ne _) (by have := HT.out; unfold kept at this; omega)).mono ?_
      rintro e w3 ⟨rfl, b3⟩
      have B3 := hide (B2.out.trans (b3.mono B2.out.size))
      clear b3 B2 R2
      have hjl' : (sS (jn (keep [] (segs (s.extract 1 s.size).data.toList)))).size ≤ 8193 := hjl
      have HR2 : Hid (cleanS s = slash ++ sS (jn (keep [] (segs (s.extract 1 s.size).data.toList))) ∧ ((cleanE s.data.toList : Nat) : Int) = 0) := HR
      clear HR HT hjl hes
      generalize sS (jn (keep [] (segs (s.extract 1 s.size).data.toList))) = J at hjl' HR2 ⊢
      go_wp2
      go_ret2
      exact ⟨ret_clean HR2.out, B3.out⟩
  · rw [decide_eq_false h1] at hP
    have HP := hide hP
    have HR : Hid (cleanS s = ⟨#[]⟩ ∧ ((cleanE s.data.toList : Nat) : Int) = 1) := hide (by
      unfold cleanS cleanL cleanE
      rw [if_neg h1, if_neg h1]
      exact ⟨rfl, rfl⟩)
    clear hP h1
    go_enter Tryz.func47, Tryz.ntmps47
    go_wp2_with (go_at_call 67; refine (HP.out _).mono ?_; rintro e w' ⟨rfl, rfl⟩)
    go_ret2
    exact ⟨ret_clean HR.out, Below.refl _ _⟩
end Go.Proofs.YtekkhjlipijmcaaGreatDoor
