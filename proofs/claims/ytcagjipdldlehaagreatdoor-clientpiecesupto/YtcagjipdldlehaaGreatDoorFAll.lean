/- The values of a name: the program's, the document's. -/
import Derived.Test.YtcagjipdldlehaaGreatDoorFCheck
import Derived.Test.YtcagjipdldlehaaGreatDoorLst
namespace Go.Proofs.YtcagjipdldlehaaGreatDoor
open Go.ChangeShapes Go.WideShapes Go.ChangeAt Go.RowKit

/-- Has a field the name n? -/
def nmB (n : ByteArray) (f : ByteArray × ByteArray) : Bool := sameB f.1.data.toList n.data.toList
def allS (A : List (ByteArray × ByteArray)) (n : ByteArray) : List ByteArray := (A.filter (nmB n)).map (·.2)
/-- Every text of the list is short, and there are not many. -/
def Sm (A : List (ByteArray × ByteArray)) : Prop := A.length ≤ 1048576 ∧ ∀ f ∈ A, f.1.size ≤ 1048576 ∧ f.2.size ≤ 1048576
theorem Sm.at {A : List (ByteArray × ByteArray)} (h : Sm A) (k : Nat) (hk : k < A.length) : A[k].1.size ≤ 1048576 ∧ A[k].2.size ≤ 1048576 := h.2 _ (List.getElem_mem hk)
theorem take_snocF {α : Type} (A : List α) (k : Nat) (h : k < A.length) : A.take (k + 1) = A.take k ++ [A[k]] := List.take_succ_eq_append_getElem h
theorem allS_snoc (A : List (ByteArray × ByteArray)) (n a b : ByteArray) (f : ByteArray × ByteArray) (hf : f = (a, b)) (k : Nat) (hk : k < A.length) (he : A[k] = f) : allS (A.take (k + 1)) n = if nmB n f then allS (A.take k) n ++ [b] else allS (A.take k) n := by
  subst hf
  rw [take_snocF A k hk, he]
  unfold allS
  rw [List.filter_append]
  by_cases h : nmB n (a, b) = true
  · rw [if_pos h, List.filter_cons_of_pos h]; simp
  · rw [if_neg h, List.filter_cons_of_neg h]; simp
theorem allS_len (A : List (ByteArray × ByteArray)) (n : ByteArray) (k : Nat) : (allS (A.take k) n).length ≤ A.length := by
  unfold allS
  rw [List.length_map]
  exact Nat.le_trans (List.length_filter_le _ _) (by rw [List.length_take]; omega)
theorem low_beq (a n : ByteArray) (v : ByteArray) : ((lowS a).toList == (lowS n).toList) = nmB n (a, v) := same_eq a n

theorem Row.lower {W : World} {base base2 : Nat} {e : TypeId} {v : Value} {xs : List Value} (h : Row W base e v xs) (hb : base2 ≤ base) : Row W base2 e v xs := by
  refine ⟨h.1, ?_⟩
  rcases h.2 with x | ⟨g, cap, cur, rfl, h1, r⟩
  · exact .inl x
  · exact .inr ⟨g, cap, cur, rfl, Nat.le_trans hb h1, r⟩
theorem rsame_any (a b : ByteArray) (w : World) (ha : a.size ≤ 140737488355328) (hb : b.size ≤ 140737488355328) :
    Calls Tryz.prog 136 #[.string a, .string b] w fun e w' => e = .returned (.bool (sameB a.data.toList b.data.toList)) ∧ Below w.heap.size w w' := by
  have hE := hide (same_eq a b)
  have hA := hide (fun w => rlower_any a w ha)
  have hB := hide (fun w => rlower_any b w hb)
  generalize lowS a = la at hE hA
  generalize lowS b = lb at hE hB
  go_enter Tryz.func136, Tryz.ntmps136
  go_wp2_with fail
  refine (hA.out _).mono ?_
  rintro e w1 ⟨rfl, b1⟩
  go_wp2_with fail
  refine (hB.out _).mono ?_
  rintro e w2 ⟨rfl, b2⟩
  go_wp2
  go_ret
  exact ⟨ret_bool hE.out, b1.trans (b2.mono b1.size)⟩

set_option maxHeartbeats 2000000 in
theorem all_any (w : World) (l : Value) (A : List (ByteArray × ByteArray)) (n : ByteArray) (hA : Flds w l A) (hs : Sm A) (hn : n.size ≤ 1048576) :
    Calls Tryz.prog 153 #[l, .string n] w fun e w' => ∃ v, e = .returned v ∧ Row w' w.heap.size 9 v (sc (allS A n)) ∧ Below w.heap.size w w' := by
  obtain ⟨a0, c0, rfl, hc0, hcells⟩ := hA
  have HF := hide hcells
  have HS := hide hs
  have hl : A.length ≤ 1048576 := hs.1
  clear hcells hs hc0
  have HN := hide (named_any n w (by unfold maxLen; omega))
  go_enter Tryz.func153, Tryz.ntmps153
  go_wp2_with fail
  refine HN.out.mono ?_
  rintro e w1 ⟨g, rfl, hg, b1⟩
  have HG := hide hg
  have B1 := hide b1
  clear hg b1 HN
  go_wp2
  go_loopw [13, 6] (fun i v wr => ∃ (k : Nat) (O : List ByteArray), k ≤ A.length ∧ i = .int .i64 k ∧ O.length ≤ A.length ∧ Hid (allS (A.take k) n = O) ∧ Hid (Row wr w1.heap.size 9 v (sc O)) ∧ Hid (Below w1.heap.size w1 wr)) (fun i _ _ => A.length - (intOf i).toNat)
  case atStart => exact ⟨0, [], Nat.zero_le _, rfl, Nat.zero_le _, hide rfl, hide (Row.nil _ _ _), hide (Below.refl _ _)⟩
  case round =>
    obtain ⟨k, O, hk, rfl, hO, HO, HR, HB⟩ := hrel
    obtain ⟨a6, c6, rfl, _, _⟩ := HR.out.shape
    rw [sc_len] at *
    by_cases hlt : k < A.length
    · have HNX := hide (fun f he => allS_snoc A n f.1 f.2 f rfl k hlt he)
      have HLN := hide (allS_len A n (k + 1))
      obtain ⟨g1, o1, rfl, hgl, q1, q2⟩ := HF.out k hlt
      obtain ⟨z1, z2⟩ := HS.out.at k hlt
      obtain ⟨fa, fb, hf⟩ : ∃ fa fb, A[k] = (fa, fb) := ⟨_, _, rfl⟩
      rw [hf] at q1 q2 z1 z2
      have HE := hide hf
      clear hf
      have BW := hide (B1.out.trans (HB.out.mono B1.out.size))
      have r1 : wr.cell? ⟨g1, o1 + k * 2, none⟩ = some (.string fa) := (BW.out.cell (p := ⟨g1, o1 + k * 2, none⟩) hgl).trans q1
      have r2 : wr.cell? ⟨g1, o1 + k * 2 + 1, none⟩ = some (.string fb) := (BW.out.cell (p := ⟨g1, o1 + k * 2 + 1, none⟩) hgl).trans q2
      clear q1 q2 hgl
      go_upto_region 6 with fail
      have HB2 := hide (HB.out.alloc HB.out.size (.cells #[.string fa, .string fb] 48))
      have HR2 := hide (HR.out.below ((Below.refl _ wr).alloc (Nat.le_refl _) (.cells #[.string fa, .string fb] 48)))
      have HD := hide (hp_new wr (.cells #[.string fa, .string fb] 48))
      clear r1 r2 BW HB HR
      generalize wr.alloc (.cells #[.string fa, .string fb] 48) = x at HB2 HR2 HD ⊢
      generalize wr.heap.size = b at HD ⊢
      have d0 : x.cell? ⟨b, 0, none⟩ = some (.string fa) := cell_at HD.out 0
      have d1 : x.cell? ⟨b, 1, none⟩ = some (.string fb) := cell_at HD.out 1
      have hgx : x.cell? ⟨g, 0, none⟩ = some (.string (lowS n)) := (HB2.out.cell (p := ⟨g, 0, none⟩) (World.block_lt_of_cell? w1 _ HG.out)).trans HG.out
      go_wp2_with fail
      refine (namedf_any fa fb (lowS n) g x (by unfold maxLen; omega) hgx).mono ?_
      rintro e w2 ⟨rfl, bb⟩
      have HB3 := hide (HB2.out.trans (bb.mono HB2.out.size))
      have HR3 := hide (HR2.out.below bb)
      have HD' := hide ((bb.block _ (lt_heap HD.out)).trans HD.out)
      clear HD d0 d1 HB2 HR2 bb
      have HD := HD'
      clear HD'
      have d0 : w2.cell? ⟨b, 0, none⟩ = some (.string fa) := cell_at HD.out 0
      have d1 : w2.cell? ⟨b, 1, none⟩ = some (.string fb) := cell_at HD.out 1
      rw [low_beq fa n fb]
      have HX := hide (HNX.out (fa, fb) HE.out)
      cases hb : nmB n (fa, fb) with
      | true =>
        have HO2 : Hid (allS (A.take (k + 1)) n = O ++ [fb]) := hide (by rw [HX.out, if_pos (show nmB n (fa, fb) = true from hb), HO.out])
        have hO2 : (O ++ [fb]).length ≤ A.length := by rw [← HO2.out]; exact HLN.out
        clear hb HX
        go_wp2_with fail
        refine (clone_any fb w2 (by omega)).mono ?_
        rintro e w3 ⟨rfl, bb⟩
        have HB4 := hide (HB3.out.trans (bb.mono HB3.out.size))
        have HR4 := hide (HR3.out.below bb)
        have HD' := hide ((bb.block _ (lt_heap HD.out)).trans HD.out)
        clear HD d0 d1 HB3 HR3 bb
        have HD := HD'
        clear HD'
        have d0 : w3.cell? ⟨b, 0, none⟩ = some (.string fa) := cell_at HD.out 0
        have d1 : w3.cell? ⟨b, 1, none⟩ = some (.string fb) := cell_at HD.out 1
        go_wp2_with (at_builtin; apply Hid.out)
        unfold Hid
        refine wpList_append_one elS rfl _ _ rfl w3 w1.heap.size (.slice a6 O.length c6) (sc O) (.string fb) rfl rfl HR4.out rfl (by rw [sc_len]; omega) (by rw [sc_len]; omega) HB4.out.size ?_
        intro v' w4 O' B'
        have O5 := hide O'
        have B5 := hide (HB4.out.trans B')
        clear O' B'
        go_wp2
        exact ⟨⟨k + 1, O ++ [fb], by omega, by go_num, hO2, HO2, hide (by rw [sc_snoc]; exact O5.out), B5⟩, by simp [intOf]; omega⟩
      | false =>
        have HO2 : Hid (allS (A.take (k + 1)) n = O) := hide (by rw [HX.out, if_neg (show ¬ nmB n (fa, fb) = true from fun h => by rw [show nmB n (fa, fb) = nmB n (fa, fb) from rfl, hb] at h; cases h), HO.out])
        clear hb HX
        go_wp2
        exact ⟨⟨k + 1, O, by omega, by go_num, hO, HO2, HR3, HB3⟩, by simp [intOf]; omega⟩
    · have HE : Hid (allS A n = O) := hide (by rw [← HO.out, List.take_of_length_le (by omega)])
      go_wp2
      go_ret
      exact ⟨_, rfl, by rw [HE.out]; exact HR.out.lower B1.out.size, B1.out.trans (HB.out.mono B1.out.size)⟩
set_option maxHeartbeats 2000000 in
theorem rall_any (w : World) (l : Value) (A : List (ByteArray × ByteArray)) (n : ByteArray) (hA : Flds w l A) (hs : Sm A) (hn : n.size ≤ 1048576) :
    Calls Tryz.prog 105 #[l, .string n] w fun e w' => ∃ v, e = .returned v ∧ Row w' w.heap.size 9 v (sc (allS A n)) ∧ Below w.heap.size w w' := by
  obtain ⟨a0, c0, rfl, hc0, hcells⟩ := hA
  have HF := hide hcells
  have HS := hide hs
  have hl : A.length ≤ 1048576 := hs.1
  clear hcells hs hc0
  go_enter Tryz.func105, Tryz.ntmps105
  go_wp2
  go_loopw [10, 5] (fun i v wr => ∃ (k : Nat) (O : List ByteArray), k ≤ A.length ∧ i = .int .i64 k ∧ O.length ≤ A.length ∧ Hid (allS (A.take k) n = O) ∧ Hid (Row wr w.heap.size 9 v (sc O)) ∧ Hid (Below w.heap.size w wr)) (fun i _ _ => A.length - (intOf i).toNat)
  case atStart => exact ⟨0, [], Nat.zero_le _, rfl, Nat.zero_le _, hide rfl, hide (Row.nil _ _ _), hide (Below.refl _ _)⟩
  case round =>
    obtain ⟨k, O, hk, rfl, hO, HO, HR, HB⟩ := hrel
    obtain ⟨a6, c6, rfl, _, _⟩ := HR.out.shape
    rw [sc_len] at *
    by_cases hlt : k < A.length
    · have HNX := hide (fun f he => allS_snoc A n f.1 f.2 f rfl k hlt he)
      have HLN := hide (allS_len A n (k + 1))
      obtain ⟨g1, o1, rfl, hgl, q1, q2⟩ := HF.out k hlt
      obtain ⟨z1, z2⟩ := HS.out.at k hlt
      obtain ⟨fa, fb, hf⟩ : ∃ fa fb, A[k] = (fa, fb) := ⟨_, _, rfl⟩
      rw [hf] at q1 q2 z1 z2
      have HE := hide hf
      clear hf
      have BW := hide (HB.out)
      have r1 : wr.cell? ⟨g1, o1 + k * 2, none⟩ = some (.string fa) := (BW.out.cell (p := ⟨g1, o1 + k * 2, none⟩) hgl).trans q1
      have r2 : wr.cell? ⟨g1, o1 + k * 2 + 1, none⟩ = some (.string fb) := (BW.out.cell (p := ⟨g1, o1 + k * 2 + 1, none⟩) hgl).trans q2
      clear q1 q2 hgl
      go_upto_region 5 with fail
      have HB2 := hide (HB.out.alloc HB.out.size (.cells #[.string fa, .string fb] 48))
      have HR2 := hide (HR.out.below ((Below.refl _ wr).alloc (Nat.le_refl _) (.cells #[.string fa, .string fb] 48)))
      have HD := hide (hp_new wr (.cells #[.string fa, .string fb] 48))
      clear r1 r2 BW HB HR
      generalize wr.alloc (.cells #[.string fa, .string fb] 48) = x at HB2 HR2 HD ⊢
      generalize wr.heap.size = b at HD ⊢
      have d0 : x.cell? ⟨b, 0, none⟩ = some (.string fa) := cell_at HD.out 0
      have d1 : x.cell? ⟨b, 1, none⟩ = some (.string fb) := cell_at HD.out 1
      go_wp2_with fail
      refine (rsame_any fa n x (by omega) (by omega)).mono ?_
      rintro e w2 ⟨rfl, bb⟩
      have HB3 := hide (HB2.out.trans (bb.mono HB2.out.size))
      have HR3 := hide (HR2.out.below bb)
      have HD' := hide ((bb.block _ (lt_heap HD.out)).trans HD.out)
      clear HD d0 d1 HB2 HR2 bb
      have HD := HD'
      clear HD'
      have d0 : w2.cell? ⟨b, 0, none⟩ = some (.string fa) := cell_at HD.out 0
      have d1 : w2.cell? ⟨b, 1, none⟩ = some (.string fb) := cell_at HD.out 1
      have HX := hide (HNX.out (fa, fb) HE.out)
      cases hb : sameB fa.data.toList n.data.toList with
      | true =>
        have HO2 : Hid (allS (A.take (k + 1)) n = O ++ [fb]) := hide (by rw [HX.out, if_pos (show nmB n (fa, fb) = true from hb), HO.out])
        have hO2 : (O ++ [fb]).length ≤ A.length := by rw [← HO2.out]; exact HLN.out
        clear hb HX
        go_wp2_with (at_builtin; apply Hid.out)
        unfold Hid
        refine wpList_append_one elS rfl _ _ rfl w2 w.heap.size (.slice a6 O.length c6) (sc O) (.string fb) rfl rfl HR3.out rfl (by rw [sc_len]; omega) (by rw [sc_len]; omega) HB3.out.size ?_
        intro v' w4 O' B'
        have O5 := hide O'
        have B5 := hide (HB3.out.trans B')
        clear O' B'
        go_wp2
        exact ⟨⟨k + 1, O ++ [fb], by omega, by go_num, hO2, HO2, hide (by rw [sc_snoc]; exact O5.out), B5⟩, by simp [intOf]; omega⟩
      | false =>
        have HO2 : Hid (allS (A.take (k + 1)) n = O) := hide (by rw [HX.out, if_neg (show ¬ nmB n (fa, fb) = true from fun h => by rw [show nmB n (fa, fb) = sameB fa.data.toList n.data.toList from rfl, hb] at h; cases h), HO.out])
        clear hb HX
        go_wp2
        exact ⟨⟨k + 1, O, by omega, by go_num, hO, HO2, HR3, HB3⟩, by simp [intOf]; omega⟩
    · have HE : Hid (allS A n = O) := hide (by rw [← HO.out, List.take_of_length_le (by omega)])
      go_wp2
      go_ret
      exact ⟨_, rfl, by rw [HE.out]; exact HR.out, HB.out⟩
end Go.Proofs.YtcagjipdldlehaaGreatDoor
