/- FieldsChange, FieldsSet: what was set; FieldsChange walked. -/
import Derived.Test.YtgdaogpgjdefoaaDoorFSet3
namespace Go.Proofs.YtgdaogpgjdefoaaDoor
open Go.ChangeShapes Go.WideShapes Go.ChangeAt Go.RowKit Go.Maps

theorem setO_len (A : List (ByteArray × ByteArray)) (n v : ByteArray) : (setO A n v).length ≤ A.length + 1 := by
  unfold setO
  split
  · unfold setS outN
    have h1 := fi_le n A
    have h2 := List.length_filter_le (fun f => !nmB n f) (A.drop (fi n A))
    rw [List.length_drop] at h2
    rw [List.length_append, List.length_append, List.length_take]
    simp only [List.length_cons, List.length_nil]
    omega
  · exact Nat.zero_le _
theorem viaS_len (A : List (ByteArray × ByteArray)) (m : Int) (b : ByteArray) : (viaS A m b).length ≤ A.length + 1 := by
  unfold viaS
  split
  · simp
  · exact Nat.zero_le _
theorem outN_le (A : List (ByteArray × ByteArray)) (n : ByteArray) : (outN A n).length ≤ A.length := by unfold outN; exact List.length_filter_le _ _
set_option maxHeartbeats 4000000 in
set_option maxRecDepth 100000 in
theorem change_walk (w : World) (l : Value) (A : List (ByteArray × ByteArray)) (n v : ByteArray) (hA : Flds w l A) (hs : Sm A) (hl1 : A.length + 1 ≤ 1048576) (hn : n.size ≤ 1048576) (hv : v.size ≤ 1048576) (ht : PT w) :
    Calls Tryd.prog 4 #[l, .string n, .string v] w fun e w' => e = .returned (.bool true) ∧ Below w.heap.size w w' := by
  have F0 := hide hA
  have B0 := hide (Below.refl w.heap.size w)
  have HT := hide ht
  have HSET := hide (fun W h => set_any W l A n v h hs hl1 hn hv)
  have HRSET := hide (fun W h => rset_any W l A n v h hs hn hv)
  have HVIA := hide (fun W h hp => via_any W l A ((v.size : Int) - 1) n h hs hn hp)
  have HRVIA := hide (fun W h hp => rvia_any W l A ((v.size : Int) - 1) n h hs hn hp)
  have HDR := hide (fun W h => drop_any W l A n h hs hn)
  have HRDR := hide (fun W h => rdrop_any W l A n h hs hn)
  have HL1 := hide (show (setO A n v).length ≤ 1099511627776 by have := setO_len A n v; omega)
  have HL2 := hide (show (viaS A ((v.size : Int) - 1) n).length ≤ 1099511627776 by have := viaS_len A ((v.size : Int) - 1) n; omega)
  have HL3 := hide (show (outN A n).length ≤ 1099511627776 by have := outN_le A n; omega)
  generalize setE n v = se at HSET HRSET
  generalize setO A n v = SO at HSET HRSET HL1
  generalize viaE ((v.size : Int) - 1) n = ve at HVIA HRVIA
  generalize viaS A ((v.size : Int) - 1) n = VO at HVIA HRVIA HL2
  generalize outN A n = DO at HDR HRDR HL3
  clear hA hs ht
  obtain ⟨a0, c0, rfl, _, _⟩ := F0.out
  go_enter Tryd.func4, Tryd.ntmps4
  go_wp2_with fail
  refine (HSET.out _ F0.out).mono ?_
  rintro e w1 ⟨v1, rfl, hv1, bb⟩
  have B1 := hide (B0.out.trans (bb.mono B0.out.size))
  have F1 := hide (F0.out.below bb)
  clear bb B0 F0
  have R1 := hide (Flds.of_row hv1)
  obtain ⟨x1, y1, z1, rfl⟩ := hv1.slice
  clear hv1
  go_wp2_with fail
  refine (HRSET.out _ F1.out).mono ?_
  rintro e w2 ⟨v2, rfl, hv2, bb⟩
  have B2 := hide (B1.out.trans (bb.mono B1.out.size))
  have F2 := hide (F1.out.below bb)
  have R1' := hide (R1.out.below bb)
  clear R1
  have R1 := R1'
  clear R1'
  clear bb B1 F1
  have R2 := hide (Flds.of_row hv2)
  obtain ⟨x2, y2, z2, rfl⟩ := hv2.slice
  clear hv2
  go_wp2_with fail
  refine (HVIA.out _ F2.out (HT.out.below B2.out)).mono ?_
  rintro e w3 ⟨v3, rfl, hv3, bb⟩
  have B3 := hide (B2.out.trans (bb.mono B2.out.size))
  have F3 := hide (F2.out.below bb)
  have R1' := hide (R1.out.below bb)
  clear R1
  have R1 := R1'
  clear R1'
  have R2' := hide (R2.out.below bb)
  clear R2
  have R2 := R2'
  clear R2'
  clear bb B2 F2
  have R3 := hide (Flds.of_row hv3)
  obtain ⟨x3, y3, z3, rfl⟩ := hv3.slice
  clear hv3
  go_wp2_with fail
  refine (HRVIA.out _ F3.out (HT.out.below B3.out)).mono ?_
  rintro e w4 ⟨v4, rfl, hv4, bb⟩
  have B4 := hide (B3.out.trans (bb.mono B3.out.size))
  have F4 := hide (F3.out.below bb)
  have R1' := hide (R1.out.below bb)
  clear R1
  have R1 := R1'
  clear R1'
  have R2' := hide (R2.out.below bb)
  clear R2
  have R2 := R2'
  clear R2'
  have R3' := hide (R3.out.below bb)
  clear R3
  have R3 := R3'
  clear R3'
  clear bb B3 F3
  have R4 := hide (Flds.of_row hv4)
  obtain ⟨x4, y4, z4, rfl⟩ := hv4.slice
  clear hv4
  go_wp2_with fail
  refine (fields_same w4 _ _ SO R1.out R2.out HL1.out).mono ?_
  rintro e w5 ⟨rfl, bb⟩
  have B5 := hide (B4.out.trans (bb.mono B4.out.size))
  have F5 := hide (F4.out.below bb)
  have R1' := hide (R1.out.below bb)
  clear R1
  have R1 := R1'
  clear R1'
  have R2' := hide (R2.out.below bb)
  clear R2
  have R2 := R2'
  clear R2'
  have R3' := hide (R3.out.below bb)
  clear R3
  have R3 := R3'
  clear R3'
  have R4' := hide (R4.out.below bb)
  clear R4
  have R4 := R4'
  clear R4'
  clear bb B4 F4
  clear R1 R2
  go_wp2_with fail
  refine (fields_same w5 _ _ VO R3.out R4.out HL2.out).mono ?_
  rintro e w6 ⟨rfl, bb⟩
  have B6 := hide (B5.out.trans (bb.mono B5.out.size))
  have F6 := hide (F5.out.below bb)
  have R3' := hide (R3.out.below bb)
  clear R3
  have R3 := R3'
  clear R3'
  have R4' := hide (R4.out.below bb)
  clear R4
  have R4 := R4'
  clear R4'
  clear bb B5 F5
  clear R3 R4
  go_wp2_with fail
  refine (HDR.out _ F6.out).mono ?_
  rintro e w7 ⟨v5, rfl, hv5, bb⟩
  have B7 := hide (B6.out.trans (bb.mono B6.out.size))
  have F7 := hide (F6.out.below bb)
  clear bb B6 F6
  have R5 := hide (Flds.of_row hv5)
  obtain ⟨x5, y5, z5, rfl⟩ := hv5.slice
  clear hv5
  go_wp2_with fail
  refine (HRDR.out _ F7.out).mono ?_
  rintro e w8 ⟨v6, rfl, hv6, bb⟩
  have B8 := hide (B7.out.trans (bb.mono B7.out.size))
  have F8 := hide (F7.out.below bb)
  have R5' := hide (R5.out.below bb)
  clear R5
  have R5 := R5'
  clear R5'
  clear bb B7 F7
  have R6 := hide (Flds.of_row hv6)
  obtain ⟨x6, y6, z6, rfl⟩ := hv6.slice
  clear hv6
  go_wp2_with fail
  refine (fields_same w8 _ _ DO R5.out R6.out HL3.out).mono ?_
  rintro e w9 ⟨rfl, bb⟩
  have B9 := hide (B8.out.trans (bb.mono B8.out.size))
  have F9 := hide (F8.out.below bb)
  have R5' := hide (R5.out.below bb)
  clear R5
  have R5 := R5'
  clear R5'
  have R6' := hide (R6.out.below bb)
  clear R6
  have R6 := R6'
  clear R6'
  clear bb B8 F8
  clear R5 R6
  go_wp2_with fail
  refine (speaks_any w9 (HT.out.below B9.out)).mono ?_
  rintro e w10 ⟨rfl, bb⟩
  have B10 := hide (B9.out.trans (bb.mono B9.out.size))
  have F10 := hide (F9.out.below bb)
  clear bb B9 F9
  go_wp2
  go_ret
  exact ⟨rfl, B10.out⟩
end Go.Proofs.YtgdaogpgjdefoaaDoor
