/- FieldsParted: the statement, walked. -/
import Derived.Test.YtgdaogpgjdefoaaDoorFTell
namespace Go.Proofs.YtgdaogpgjdefoaaDoor
open Go.ChangeShapes Go.WideShapes Go.ChangeAt Go.RowKit Go.Maps

theorem nx_plain {c : UInt8} (h : c ≠ 34) : nx false false c = (false, false) := by
  unfold nx
  simp [h]
theorem refL_comma : ∀ (a b part : List UInt8), (∀ c ∈ a, c ≠ 34) → refL part false false (a ++ 44 :: b) = refL part false false a ++ refL [] false false b
  | [], b, part, _ => by simp [refL]
  | c :: r, b, part, h => by
    have hc := h c (List.mem_cons_self ..)
    have hr : ∀ x ∈ r, x ≠ 34 := fun x hx => h x (List.mem_cons_of_mem _ hx)
    rw [List.cons_append, refL, refL]
    by_cases h4 : c = 44
    · rw [if_pos ⟨h4, rfl⟩, if_pos ⟨h4, rfl⟩, refL_comma r b [] hr, List.append_assoc]
    · rw [if_neg (fun x => h4 x.1), if_neg (fun x => h4 x.1), nx_plain hc]
      exact refL_comma r b (part ++ [c]) hr
theorem listB_comma (a b : List UInt8) (h : ∀ c ∈ a, c ≠ 34) : listB (a ++ 44 :: b) = listB a ++ listB b := by
  rw [← refL_list, ← refL_list, ← refL_list]
  exact refL_comma a b [] h
theorem small_comma (a b : ByteArray) (h : ∀ c ∈ a.data.toList, c ≠ 34) : smallS ((a ++ ⟨#[44]⟩) ++ b) = smallS a ++ smallS b := by
  unfold smallS listS
  rw [app_list, app_list, List.append_assoc, show (⟨#[44]⟩ : ByteArray).data.toList ++ b.data.toList = 44 :: b.data.toList from rfl, listB_comma _ _ h]
  simp
theorem allS_app (A B : List (ByteArray × ByteArray)) (n : ByteArray) : allS (A ++ B) n = allS A n ++ allS B n := by simp [allS]
theorem allS_two (a b : ByteArray) : allS [(⟨#[88, 45, 76, 105, 115, 116]⟩, a), (⟨#[120, 45, 108, 105, 115, 116]⟩, b)] ⟨#[120, 45, 108, 105, 115, 116]⟩ = [a, b] := by
  have h1 : nmB ⟨#[120, 45, 108, 105, 115, 116]⟩ (⟨#[88, 45, 76, 105, 115, 116]⟩, a) = true := show sameB (⟨#[88, 45, 76, 105, 115, 116]⟩ : ByteArray).data.toList (⟨#[120, 45, 108, 105, 115, 116]⟩ : ByteArray).data.toList = true by decide +kernel
  have h2 : nmB ⟨#[120, 45, 108, 105, 115, 116]⟩ (⟨#[120, 45, 108, 105, 115, 116]⟩, b) = true := show sameB (⟨#[120, 45, 108, 105, 115, 116]⟩ : ByteArray).data.toList (⟨#[120, 45, 108, 105, 115, 116]⟩ : ByteArray).data.toList = true by decide +kernel
  simp [allS, h1, h2]
theorem allS_one (c : ByteArray) : allS [(⟨#[88, 45, 76, 73, 83, 84]⟩, c)] ⟨#[120, 45, 108, 105, 115, 116]⟩ = [c] := by
  have h1 : nmB ⟨#[120, 45, 108, 105, 115, 116]⟩ (⟨#[88, 45, 76, 73, 83, 84]⟩, c) = true := show sameB (⟨#[88, 45, 76, 73, 83, 84]⟩ : ByteArray).data.toList (⟨#[120, 45, 108, 105, 115, 116]⟩ : ByteArray).data.toList = true by decide +kernel
  simp [allS, h1]
theorem items_parted (A : List (ByteArray × ByteArray)) (a b : ByteArray) (h : ∀ c ∈ a.data.toList, c ≠ 34) : itemsS (A ++ [(⟨#[88, 45, 76, 105, 115, 116]⟩, a), (⟨#[120, 45, 108, 105, 115, 116]⟩, b)]) ⟨#[120, 45, 108, 105, 115, 116]⟩ = itemsS (A ++ [(⟨#[88, 45, 76, 73, 83, 84]⟩, (a ++ ⟨#[44]⟩) ++ b)]) ⟨#[120, 45, 108, 105, 115, 116]⟩ := by
  unfold itemsS
  rw [allS_app, allS_app, allS_two, allS_one]
  simp [itemsV, small_comma a b h]
theorem flds2 (w : World) (a b c d : ByteArray) : Flds (w.alloc (.cells #[.string a, .string b, .string c, .string d] 43)) (.slice (some ⟨w.heap.size, 0, none⟩) 2 2) [(a, b), (c, d)] := by
  refine ⟨some ⟨w.heap.size, 0, none⟩, 2, rfl, ⟨Nat.le_refl _, fun h => by cases h⟩, fun j hj => ⟨w.heap.size, 0, rfl, by simp, ?_, ?_⟩⟩
  · rw [cell_at (hp_new w _)]
    match j, hj with
    | 0, _ => rfl
    | 1, _ => rfl
  · rw [cell_at (hp_new w _)]
    match j, hj with
    | 0, _ => rfl
    | 1, _ => rfl
theorem Sm.app {A B : List (ByteArray × ByteArray)} (h : Sm A) (hB : ∀ f ∈ B, f.1.size ≤ 1048576 ∧ f.2.size ≤ 1048576) (hl : A.length + B.length ≤ 1048576) : Sm (A ++ B) :=
  ⟨by rw [List.length_append]; exact hl, fun f hf => by
    rcases List.mem_append.1 hf with h1 | h1
    · exact h.2 f h1
    · exact hB f h1⟩
set_option maxHeartbeats 4000000 in
set_option maxRecDepth 100000 in
theorem parted_walk (w : World) (l : Value) (A : List (ByteArray × ByteArray)) (a b : ByteArray) (hA : Flds w l A) (hs : Sm A) (hl2 : A.length + 2 ≤ 1048576) (hab : a.size + b.size + 1 ≤ 1048576) (ht : PT w) :
    Calls Tryd.prog 7 #[l, .string a, .string b] w fun e w' => e = .returned (.bool true) ∧ Below w.heap.size w w' := by
  have F0 := hide hA
  have HT := hide ht
  have HS := hide hs
  obtain ⟨a0, c0, rfl, hc0, hcells⟩ := hA
  clear hs ht hc0 hcells
  go_enter Tryd.func7, Tryd.ntmps7
  go_wp2
  go_loop [7] (fun i => ∃ k : Nat, k ≤ a.size ∧ i = .int .i64 k ∧ Hid (∀ c ∈ a.data.toList.take k, c ≠ 34)) (fun i => a.size - (intOf i).toNat)
  case atStart => exact ⟨0, Nat.zero_le _, rfl, hide (fun c hc => by simp at hc)⟩
  case round =>
    obtain ⟨k, hk, rfl, HQ⟩ := hrel
    by_cases hlt : k < a.size
    · have HTS := hide (take_snoc a k hlt)
      by_cases hq : a[k] = 34
      · have t1 : (((a[k].toNat : Int)) == 34) = true := by rw [hq]; rfl
        clear hq
        go_wp2_with fail
        refine (speaks_any w HT.out).mono ?_
        rintro e w1 ⟨rfl, b1⟩
        go_wp2
        go_ret
        exact ⟨rfl, b1⟩
      · have t1 : (((a[k].toNat : Int)) == 34) = false := by
          refine beq_eq_false_iff_ne.2 fun e => hq (UInt8.toNat_inj.1 ?_)
          have : a[k].toNat = 34 := by omega
          rw [this]; rfl
        have HQ2 : Hid (∀ c ∈ a.data.toList.take (k + 1), c ≠ 34) := hide (fun c hc => by
          rw [HTS.out, List.mem_append] at hc
          rcases hc with h1 | h1
          · exact HQ.out c h1
          · simp only [List.mem_singleton] at h1
            rw [h1]; exact hq)
        clear hq HTS
        go_wp2
        exact ⟨⟨k + 1, by omega, by go_num, HQ2⟩, by simp [intOf]; omega⟩
    · have HE := hide (items_parted A a b (by have := HQ.out; rw [take_all a k (by omega)] at this; exact this))
      have S2 : Hid (Sm (A ++ [(⟨#[88, 45, 76, 105, 115, 116]⟩, a), (⟨#[120, 45, 108, 105, 115, 116]⟩, b)])) := hide (HS.out.app (by
        intro f hf
        simp only [List.mem_cons, List.not_mem_nil, or_false] at hf
        rcases hf with rfl | rfl
        · exact ⟨by show (6 : Nat) ≤ _; decide, by show a.size ≤ _; omega⟩
        · exact ⟨by show (6 : Nat) ≤ _; decide, by show b.size ≤ _; omega⟩) (by simpa using hl2))
      have S1 : Hid (Sm (A ++ [(⟨#[88, 45, 76, 73, 83, 84]⟩, (a ++ ⟨#[44]⟩) ++ b)])) := hide (HS.out.app (by
        intro f hf
        simp only [List.mem_cons, List.not_mem_nil, or_false] at hf
        subst hf
        refine ⟨by show (6 : Nat) ≤ _; decide, ?_⟩
        show ((a ++ ⟨#[44]⟩) ++ b).size ≤ _
        rw [app_size, app_size, show (⟨#[44]⟩ : ByteArray).size = 1 from rfl]
        omega) (by simp; omega))
      clear HQ
      have hl := HS.out.1
      go_wp2_with (at_builtin; apply Hid.out)
      unfold Hid
      refine wpList_append_flds rfl _ _ rfl w w.heap.size (.slice none 0 0) (.slice a0 A.length c0) [] A rfl rfl (FRow.nil _ _) F0.out (by simp; omega) (Nat.le_refl _) ?_
      intro v1 w1 R1' B1'
      have R1 := hide R1'
      have B1 := hide B1'
      clear R1' B1'
      rw [List.nil_append] at R1
      obtain ⟨a1, c1, rfl, _, _⟩ := R1.out.shape
      go_wp2_with (at_builtin; apply Hid.out)
      unfold Hid
      refine wpList_append_flds rfl _ _ rfl _ w.heap.size (.slice a1 A.length c1) (.slice (some ⟨w1.heap.size, 0, none⟩) 2 2) A [(⟨#[88, 45, 76, 105, 115, 116]⟩, a), (⟨#[120, 45, 108, 105, 115, 116]⟩, b)] rfl rfl (R1.out.below ((Below.refl _ w1).alloc (Nat.le_refl _) _)) (flds2 w1 ⟨#[88, 45, 76, 105, 115, 116]⟩ a ⟨#[120, 45, 108, 105, 115, 116]⟩ b) (by simp; omega) (Nat.le_trans B1.out.size (by simp)) ?_
      intro v2 w2 R2' B2'
      have R2 := hide R2'
      have B2 : Hid (Below w.heap.size w w2) := hide ((B1.out.alloc B1.out.size _).trans B2')
      clear R2' B2' R1 B1
      obtain ⟨a2, n2, c2, rfl⟩ := R2.out.slice
      go_wp2_with (at_builtin; apply Hid.out)
      unfold Hid
      refine wpList_append_flds rfl _ _ rfl w2 w2.heap.size (.slice none 0 0) (.slice a0 A.length c0) [] A rfl rfl (FRow.nil _ _) (F0.out.below B2.out) (by simp; omega) (Nat.le_refl _) ?_
      intro v3 w3 R3' B3'
      have R3 := hide R3'
      have B23 := hide B3'
      clear R3' B3'
      rw [List.nil_append] at R3
      obtain ⟨a3, c3, rfl, _, _⟩ := R3.out.shape
      go_wp2_with (at_builtin; apply Hid.out)
      unfold Hid
      generalize (a ++ (⟨#[44]⟩ : ByteArray)) ++ b = ab at S1 HE ⊢
      refine wpList_append_fld rfl _ _ rfl w3 w2.heap.size (.slice a3 A.length c3) A ⟨#[88, 45, 76, 73, 83, 84]⟩ ab rfl rfl R3.out (by omega) B23.out.size ?_
      intro v4 w4 R4' B4'
      have R4 := hide R4'
      have B24 : Hid (Below w2.heap.size w2 w4) := hide (B23.out.trans B4')
      clear R4' B4' R3 B23
      obtain ⟨a4, n4, c4, rfl⟩ := R4.out.slice
      have T4 := hide (Flds.of_row (R2.out.below B24.out))
      have B4 : Hid (Below w.heap.size w w4) := hide (B2.out.trans (B24.out.mono B2.out.size))
      have O4 := hide (Flds.of_row R4.out)
      clear R2 R4 B24 B2
      have HIL := hide (itemsS_len S1.out ⟨#[120, 45, 108, 105, 115, 116]⟩)
      have HI2 := hide (fun W h => items_any W (.slice a2 n2 c2) _ ⟨#[120, 45, 108, 105, 115, 116]⟩ h S2.out (by decide))
      have HI1 := hide (fun W h => items_any W (.slice a4 n4 c4) _ ⟨#[120, 45, 108, 105, 115, 116]⟩ h S1.out (by decide))
      rw [HE.out] at HI2
      generalize itemsS (A ++ [(⟨#[88, 45, 76, 73, 83, 84]⟩, ab)]) ⟨#[120, 45, 108, 105, 115, 116]⟩ = I at HI2 HI1 HIL
      clear HE S1 S2 F0
      go_wp2_with fail
      refine (HI2.out w4 T4.out).mono ?_
      rintro e w5 ⟨v5, rfl, hR5, b5⟩
      have R5 := hide (Strs.of_row hR5)
      obtain ⟨x5, y5, z5, rfl⟩ : ∃ a n c, v5 = .slice a n c := by
        obtain ⟨a, c, h, _⟩ := hR5.shape
        exact ⟨a, _, c, h⟩
      have O5 := hide (O4.out.below b5)
      have B5 := hide (B4.out.trans (b5.mono B4.out.size))
      clear hR5 b5 O4 B4 T4
      go_wp2_with fail
      refine (HI1.out w5 O5.out).mono ?_
      rintro e w6 ⟨v6, rfl, hR6, b6⟩
      have R6 := hide (Strs.of_row hR6)
      obtain ⟨x6, y6, z6, rfl⟩ : ∃ a n c, v6 = .slice a n c := by
        obtain ⟨a, c, h, _⟩ := hR6.shape
        exact ⟨a, _, c, h⟩
      have R5' := hide (R5.out.below b6)
      have B6 := hide (B5.out.trans (b6.mono B5.out.size))
      clear hR6 b6 R5 B5 O5
      go_wp2_with fail
      refine (texts_same w6 _ _ I R5'.out R6.out HIL.out).mono ?_
      rintro e w7 ⟨rfl, b7⟩
      have B7 := hide (B6.out.trans (b7.mono B6.out.size))
      clear b7 B6 R5' R6
      go_wp2_with fail
      refine (speaks_any w7 (HT.out.below B7.out)).mono ?_
      rintro e w8 ⟨rfl, b8⟩
      have B8 := hide (B7.out.trans (b8.mono B7.out.size))
      clear b8 B7
      go_wp2
      go_ret
      exact ⟨rfl, B8.out⟩
end Go.Proofs.YtgdaogpgjdefoaaDoor
