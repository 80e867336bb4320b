/- FieldsSet: the statement, walked. -/
import Derived.Test.YtgdaogpgjdefoaaDoorFChange
namespace Go.Proofs.YtgdaogpgjdefoaaDoor
open Go.ChangeShapes Go.WideShapes Go.ChangeAt Go.RowKit Go.Maps

theorem fi_no (n : ByteArray) : ∀ A : List (ByteArray × ByteArray), noN n A (fi n A)
  | [] => fun f hf => by simp [fi] at hf
  | f :: r => by
    intro g hg
    unfold fi at hg
    cases h : nmB n f with
    | true => rw [h, if_pos rfl] at hg; simp at hg
    | false =>
      rw [h, if_neg (by simp), List.take_succ_cons] at hg
      rcases List.mem_cons.1 hg with rfl | hg
      · exact h
      · exact fi_no n r g hg
theorem filter_no {n : ByteArray} {L : List (ByteArray × ByteArray)} (h : ∀ f ∈ L, nmB n f = false) : L.filter (nmB n) = [] ∧ outN L n = L := by
  constructor
  · rw [List.filter_eq_nil_iff]
    intro f hf
    rw [h f hf]
    simp
  · unfold outN
    apply List.filter_eq_self.2
    intro f hf
    rw [h f hf]
    rfl
theorem nm_self (n v : ByteArray) : nmB n (n, v) = true := by
  unfold nmB sameB
  exact decide_eq_true rfl
theorem out_no (L : List (ByteArray × ByteArray)) (n : ByteArray) : ∀ f ∈ outN L n, nmB n f = false := by
  intro f hf
  unfold outN at hf
  have := (List.mem_filter.1 hf).2
  simpa using this
theorem set_all (A : List (ByteArray × ByteArray)) (n v : ByteArray) : allS (setS A n v) n = [v] := by
  unfold setS allS
  rw [List.filter_append, List.filter_append, (filter_no (fi_no n A)).1, (filter_no (out_no (A.drop (fi n A)) n)).1]
  simp [nm_self]
theorem outN_app (A B : List (ByteArray × ByteArray)) (n : ByteArray) : outN (A ++ B) n = outN A n ++ outN B n := by simp [outN]
theorem set_out (A : List (ByteArray × ByteArray)) (n v : ByteArray) : outN (setS A n v) n = outN A n := by
  have e : outN [(n, v)] n = [] := by simp [outN, nm_self]
  conv => rhs; rw [← List.take_append_drop (fi n A) A]
  unfold setS
  rw [outN_app, outN_app, outN_app, e, (filter_no (fi_no n A)).2, (filter_no (out_no (A.drop (fi n A)) n)).2]
  simp
theorem set_sm {A : List (ByteArray × ByteArray)} {n v : ByteArray} (hs : Sm A) (hl1 : A.length + 1 ≤ 1048576) (hn : n.size ≤ 1048576) (hv : v.size ≤ 1048576) (h : setE n v = 0) : Sm (setS A n v) := by
  constructor
  · have := setO_len A n v
    unfold setO at this
    rw [if_pos h] at this
    omega
  · intro f hf
    unfold setS at hf
    rcases List.mem_append.1 hf with h1 | h1
    · rcases List.mem_append.1 h1 with h2 | h2
      · exact hs.2 f (List.mem_of_mem_take h2)
      · simp only [List.mem_singleton] at h2
        subst h2
        exact ⟨hn, hv⟩
    · unfold outN at h1
      exact hs.2 f (List.mem_of_mem_drop (List.mem_filter.1 h1).1)
theorem strs_one (w : World) (v : ByteArray) : Strs (w.alloc (.cells #[.string v] 9)) (.slice (some ⟨w.heap.size, 0, none⟩) 1 1) [v] := by
  refine ⟨_, _, rfl, fun j hj => ⟨w.heap.size, rfl, by simp, ?_⟩⟩
  rw [cell_at (hp_new w _)]
  match j, hj with
  | 0, _ => rfl
set_option maxHeartbeats 4000000 in
set_option maxRecDepth 100000 in
theorem set_walk (w : World) (l : Value) (A : List (ByteArray × ByteArray)) (n v : ByteArray) (hA : Flds w l A) (hs : Sm A) (hl1 : A.length + 1 ≤ 1048576) (hn : n.size ≤ 1048576) (hv : v.size ≤ 1048576) (ht : PT w) :
    Calls Tryd.prog 6 #[l, .string n, .string v] w fun e w' => e = .returned (.bool true) ∧ Below w.heap.size w w' := by
  have F0 := hide hA
  have HT := hide ht
  by_cases h : setE n v = 0
  · have HSET := hide (set_any w l A n v hA hs hl1 hn hv)
    unfold setO at HSET
    rw [h, if_pos rfl] at HSET
    have S2 := hide (set_sm hs hl1 hn hv h)
    have HALL := hide (fun W u hu => all_any W u (setS A n v) n hu S2.out hn)
    rw [set_all] at HALL
    have HDR := hide (fun W hu => drop_any W l A n hu hs hn)
    have HDS := hide (fun W u hu => drop_any W u (setS A n v) n hu S2.out hn)
    rw [set_out] at HDS
    have HL3 := hide (show (outN A n).length ≤ 1099511627776 by have := outN_le A n; omega)
    generalize setS A n v = SS at HSET S2 HALL HDS
    generalize outN A n = DD at HDR HDS HL3
    obtain ⟨a0, c0, rfl, _, _⟩ := hA
    clear hs ht h
    go_enter Tryd.func6, Tryd.ntmps6
    go_wp2_with fail
    refine HSET.out.mono ?_
    rintro e w1 ⟨v1, rfl, hR1, b1⟩
    have R1 := hide (Flds.of_row hR1)
    obtain ⟨x1, y1, z1, rfl⟩ := hR1.slice
    have F1 := hide (F0.out.below b1)
    have B1 := hide b1
    clear hR1 b1 HSET
    go_wp2_with fail
    refine (HALL.out w1 _ R1.out).mono ?_
    rintro e w2 ⟨v2, rfl, hR2, b2⟩
    have R2 := hide (Strs.of_row hR2)
    obtain ⟨x2, y2, z2, rfl⟩ : ∃ a n c, v2 = .slice a n c := by
      obtain ⟨a, c, h, _⟩ := hR2.shape
      exact ⟨a, _, c, h⟩
    have R1' := hide (R1.out.below b2)
    have F2 := hide (F1.out.below b2)
    have B2 := hide (B1.out.trans (b2.mono B1.out.size))
    clear hR2 b2 R1 F1 B1 HALL
    go_wp2_with fail
    have b3 := (Below.refl w2.heap.size w2).alloc (Nat.le_refl _) (.cells #[.string v] 9)
    have R3 := hide (strs_one w2 v)
    have R2' := hide (R2.out.below b3)
    have R1 := hide (R1'.out.below b3)
    have F3 := hide (F2.out.below b3)
    have B3 := hide (B2.out.trans (b3.mono B2.out.size))
    clear b3 R2 R1' F2 B2
    generalize w2.alloc (.cells #[.string v] 9) = w3 at R3 R2' R1 F3 B3 ⊢
    refine (texts_same w3 _ _ [v] R2'.out R3.out (by show (1 : Nat) ≤ _; decide)).mono ?_
    rintro e w4 ⟨rfl, b4⟩
    have R4 := hide (R1.out.below b4)
    have F4 := hide (F3.out.below b4)
    have B4 := hide (B3.out.trans (b4.mono B3.out.size))
    clear b4 R2' R3 R1 F3 B3
    go_wp2_with fail
    refine (HDS.out w4 _ R4.out).mono ?_
    rintro e w5 ⟨v5, rfl, hR5, b5⟩
    have R5 := hide (Flds.of_row hR5)
    obtain ⟨x5, y5, z5, rfl⟩ := hR5.slice
    have F5 := hide (F4.out.below b5)
    have B5 := hide (B4.out.trans (b5.mono B4.out.size))
    clear hR5 b5 R4 F4 B4
    go_wp2_with fail
    refine (HDR.out w5 F5.out).mono ?_
    rintro e w6 ⟨v6, rfl, hR6, b6⟩
    have R6 := hide (Flds.of_row hR6)
    obtain ⟨x6, y6, z6, rfl⟩ := hR6.slice
    have R5' := hide (R5.out.below b6)
    have B6 := hide (B5.out.trans (b6.mono B5.out.size))
    clear hR6 b6 R5 F5 B5
    go_wp2_with fail
    refine (fields_same w6 _ _ DD R5'.out R6.out HL3.out).mono ?_
    rintro e w7 ⟨rfl, b7⟩
    have B7 := hide (B6.out.trans (b7.mono B6.out.size))
    clear b7 B6
    go_wp2_with fail
    refine (speaks_any w7 (HT.out.below B7.out)).mono ?_
    rintro e w8 ⟨rfl, b8⟩
    have B8 := hide (B7.out.trans (b8.mono B7.out.size))
    clear b8 B7
    go_wp2
    go_ret
    exact ⟨rfl, B8.out⟩
  · have HSET := hide (set_bad w l n v hn hv h)
    have tb : (((setE n v : Nat) : Int) != 0) = true := by rw [bne_iff_ne]; omega
    generalize setE n v = se at HSET tb
    obtain ⟨a0, c0, rfl, _, _⟩ := hA
    clear hs ht h
    go_enter Tryd.func6, Tryd.ntmps6
    go_wp2_with fail
    refine HSET.out.mono ?_
    rintro e w1 ⟨rfl, b1⟩
    have B1 := hide b1
    clear b1
    go_wp2_with fail
    refine (speaks_any w1 (HT.out.below B1.out)).mono ?_
    rintro e w2 ⟨rfl, b2⟩
    have B2 := hide (B1.out.trans (b2.mono B1.out.size))
    clear b2 B1
    go_wp2
    go_ret
    exact ⟨rfl, B2.out⟩
end Go.Proofs.YtgdaogpgjdefoaaDoor
