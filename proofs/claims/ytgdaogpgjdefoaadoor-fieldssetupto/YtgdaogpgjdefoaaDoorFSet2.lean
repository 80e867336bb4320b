/- Set: the document's, walked. -/
import Derived.Test.YtgdaogpgjdefoaaDoorFSet
namespace Go.Proofs.YtgdaogpgjdefoaaDoor
open Go.ChangeShapes Go.WideShapes Go.ChangeAt Go.RowKit Go.Maps

theorem setR_step (n v : ByteArray) (d : Bool) (A : List (ByteArray × ByteArray)) (k : Nat) (hk : k < A.length) (f : ByteArray × ByteArray) (he : A[k] = f) :
    setR n v d (A.drop k) = if nmB n f then (if d then setR n v true (A.drop (k + 1)) else (n, v) :: setR n v true (A.drop (k + 1))) else f :: setR n v d (A.drop (k + 1)) := by
  rw [List.drop_eq_getElem_cons hk, he, setR]
set_option maxHeartbeats 4000000 in
theorem rset_ok (w : World) (l : Value) (A : List (ByteArray × ByteArray)) (n v : ByteArray) (hA : Flds w l A) (hs : Sm A) (hn : n.size ≤ 1048576) (hv : v.size ≤ 1048576) (h1 : tokenB n.data.toList = true) (h2 : valueB v.data.toList = true) :
    Calls Tryd.prog 21 #[l, .string n, .string v] w fun e w' => ∃ r, e = .returned (.tuple #[r, .int .i64 0]) ∧ FRow w' w.heap.size r (setS A n v) ∧ Below w.heap.size w w' := by
  have HTK := hide (fun W => rtoken_any n W (by unfold maxLen; omega))
  have HVL := hide (fun W => rvalue_b v W (by unfold maxLen; omega))
  rw [h1] at HTK
  rw [h2] at HVL
  clear h1 h2
  rw [← set_eq]
  obtain ⟨a0, c0, rfl, hc0, hcells⟩ := hA
  have HF := hide hcells
  have HS := hide hs
  have hl : A.length ≤ 1048576 := hs.1
  clear hcells hs hc0
  go_enter Tryd.func21, Tryd.ntmps21
  go_wp2_with fail
  refine (HTK.out w).mono ?_
  rintro e w1 ⟨rfl, b1⟩
  have B1 := hide b1
  clear b1
  go_wp2_with fail
  refine (HVL.out w1).mono ?_
  rintro e w2 ⟨rfl, b2⟩
  have B2 := hide (B1.out.trans (b2.mono B1.out.size))
  clear b2 B1 HTK HVL
  go_wp2
  go_loopw [20, 8, 9] (fun i u dn wr => ∃ (k : Nat) (O : List (ByteArray × ByteArray)) (d : Bool), k ≤ A.length ∧ i = .int .i64 k ∧ dn = .bool d ∧ O.length ≤ k ∧ Hid (setR n v false A = O ++ setR n v d (A.drop k)) ∧ Hid (FRow wr w.heap.size u O) ∧ Hid (Below w.heap.size w wr)) (fun i _ _ _ => A.length - (intOf i).toNat)
  case atStart => exact ⟨0, [], false, Nat.zero_le _, rfl, rfl, Nat.le_refl _, hide rfl, hide (FRow.nil _ _), B2⟩
  case round =>
    obtain ⟨k, O, d, hk, rfl, rfl, hO, HO, HR, HB⟩ := hrel
    obtain ⟨a6, c6, rfl, _, _⟩ := HR.out.shape
    by_cases hlt : k < A.length
    · have HNX := hide (fun f he => setR_step n v d A k hlt f he)
      obtain ⟨g1, o1, rfl, hgl, q1, q2⟩ := HF.out k hlt
      obtain ⟨z1, z2⟩ := HS.out.at k hlt
      obtain ⟨fa, fb, hf⟩ : ∃ fa fb, A[k] = (fa, fb) := ⟨_, _, rfl⟩
      rw [hf] at q1 q2 z1 z2
      have HE := hide hf
      clear hf
      have BW := hide (HB.out)
      have r1 : wr.cell? ⟨g1, o1 + k * 2, none⟩ = some (.string fa) := (BW.out.cell (p := ⟨g1, o1 + k * 2, none⟩) hgl).trans q1
      have r2 : wr.cell? ⟨g1, o1 + k * 2 + 1, none⟩ = some (.string fb) := (BW.out.cell (p := ⟨g1, o1 + k * 2 + 1, none⟩) hgl).trans q2
      clear q1 q2 hgl
      go_upto_region 10 with fail
      have HB2 := hide (HB.out.alloc HB.out.size (.cells #[.string fa, .string fb] 43))
      have HR2 := hide (HR.out.below ((Below.refl _ wr).alloc (Nat.le_refl _) (.cells #[.string fa, .string fb] 43)))
      have HD := hide (hp_new wr (.cells #[.string fa, .string fb] 43))
      clear r1 r2 BW HB HR
      generalize wr.alloc (.cells #[.string fa, .string fb] 43) = x at HB2 HR2 HD ⊢
      generalize wr.heap.size = b at HD ⊢
      have d0 : x.cell? ⟨b, 0, none⟩ = some (.string fa) := cell_at HD.out 0
      have d1 : x.cell? ⟨b, 1, none⟩ = some (.string fb) := cell_at HD.out 1
      go_wp2_with fail
      refine (rsame_any fa n x (by omega) (by omega)).mono ?_
      rintro e w3 ⟨rfl, bb⟩
      have HB3 := hide (HB2.out.trans (bb.mono HB2.out.size))
      have HR3 := hide (HR2.out.below bb)
      have HD' := hide ((bb.block _ (lt_heap HD.out)).trans HD.out)
      clear HD d0 d1 HB2 HR2 bb
      have HD := HD'
      clear HD'
      have d0 : w3.cell? ⟨b, 0, none⟩ = some (.string fa) := cell_at HD.out 0
      have d1 : w3.cell? ⟨b, 1, none⟩ = some (.string fb) := cell_at HD.out 1
      have HX := hide (HNX.out (fa, fb) HE.out)
      change Hid (setR n v d (A.drop k) = if sameB fa.data.toList n.data.toList then (if d then setR n v true (A.drop (k + 1)) else (n, v) :: setR n v true (A.drop (k + 1))) else (fa, fb) :: setR n v d (A.drop (k + 1))) at HX
      generalize sameB fa.data.toList n.data.toList = sb at HX ⊢
      cases sb with
      | false =>
        have HO2 : Hid (setR n v false A = (O ++ [(fa, fb)]) ++ setR n v d (A.drop (k + 1))) := hide (by rw [HO.out, HX.out, if_neg (by decide)]; simp)
        have hO2 : (O ++ [(fa, fb)]).length ≤ k + 1 := by rw [List.length_append]; simp; omega
        clear HX
        go_wp2_with (at_builtin; apply Hid.out)
        unfold Hid
        refine wpList_append_fld rfl _ _ rfl w3 w.heap.size (.slice a6 O.length c6) O fa fb rfl rfl HR3.out (by omega) HB3.out.size ?_
        intro v' w5 O' B'
        have O6 := hide O'
        have B6 := hide (HB3.out.trans B')
        clear O' B'
        go_wp2
        exact ⟨⟨k + 1, O ++ [(fa, fb)], d, by omega, by go_num, rfl, hO2, HO2, O6, B6⟩, by simp [intOf]; omega⟩
      | true =>
        cases d with
        | true =>
          have HO2 : Hid (setR n v false A = O ++ setR n v true (A.drop (k + 1))) := hide (by rw [HO.out, HX.out, if_pos rfl, if_pos rfl])
          clear HX
          go_wp2
          exact ⟨⟨k + 1, O, true, by omega, by go_num, rfl, by omega, HO2, HR3, HB3⟩, by simp [intOf]; omega⟩
        | false =>
          have HO2 : Hid (setR n v false A = (O ++ [(n, v)]) ++ setR n v true (A.drop (k + 1))) := hide (by rw [HO.out, HX.out, if_pos rfl, if_neg (by decide)]; simp)
          have hO2 : (O ++ [(n, v)]).length ≤ k + 1 := by rw [List.length_append]; simp; omega
          clear HX
          go_wp2_with (at_builtin; apply Hid.out)
          unfold Hid
          refine wpList_append_fld rfl _ _ rfl w3 w.heap.size (.slice a6 O.length c6) O n v rfl rfl HR3.out (by omega) HB3.out.size ?_
          intro v' w5 O' B'
          have O6 := hide O'
          have B6 := hide (HB3.out.trans B')
          clear O' B'
          go_wp2
          exact ⟨⟨k + 1, O ++ [(n, v)], true, by omega, by go_num, rfl, hO2, HO2, O6, B6⟩, by simp [intOf]; omega⟩
    · have HE : Hid (setR n v false A = O ++ setR n v d []) := hide (by have := HO.out; rw [List.drop_eq_nil_of_le (by omega)] at this; exact this)
      cases d with
      | true =>
        have HE2 : Hid (setR n v false A = O) := hide (by rw [HE.out, setR, List.append_nil])
        clear HE
        go_wp2
        go_ret2
        exact ⟨_, rfl, by rw [HE2.out]; exact HR.out, HB.out⟩
      | false =>
        have HE2 : Hid (setR n v false A = O ++ [(n, v)]) := hide (by rw [HE.out, setR])
        clear HE
        go_wp2_with (at_builtin; apply Hid.out)
        unfold Hid
        refine wpList_append_fld rfl _ _ rfl wr w.heap.size (.slice a6 O.length c6) O n v rfl rfl HR.out (by omega) HB.out.size ?_
        intro v' w5 O' B'
        have O6 := hide O'
        have B6 := hide (HB.out.trans B')
        clear O' B'
        obtain ⟨a5, n5, c5, rfl⟩ := O6.out.slice
        go_wp2
        go_ret2
        exact ⟨_, rfl, by rw [HE2.out]; exact O6.out, B6.out⟩
theorem rset_bad (w : World) (l : Value) (n v : ByteArray) (hn : n.size ≤ 1048576) (hv : v.size ≤ 1048576) (h : setE n v ≠ 0) :
    Calls Tryd.prog 21 #[l, .string n, .string v] w fun e w' => e = .returned (.tuple #[.slice none 0 0, .int .i64 (setE n v : Nat)]) ∧ Below w.heap.size w w' := by
  have HTK := hide (fun W => rtoken_any n W (by unfold maxLen; omega))
  have HVL := hide (fun W => rvalue_b v W (by unfold maxLen; omega))
  unfold setE at *
  cases h1 : tokenB n.data.toList with
  | false =>
    rw [chkF_tok h1]
    rw [h1] at HTK
    clear h h1 HVL
    go_enter Tryd.func21, Tryd.ntmps21
    go_wp2_with fail
    refine (HTK.out w).mono ?_
    rintro e w1 ⟨rfl, b1⟩
    go_wp2
    go_ret2
    exact ⟨rfl, b1⟩
  | true =>
    cases h2 : valueB v.data.toList with
    | true => exact absurd (chkF_ok h1 h2) h
    | false =>
      rw [chkF_val h1 h2]
      rw [h1] at HTK
      rw [h2] at HVL
      clear h h1 h2
      go_enter Tryd.func21, Tryd.ntmps21
      go_wp2_with fail
      refine (HTK.out w).mono ?_
      rintro e w1 ⟨rfl, b1⟩
      go_wp2_with fail
      refine (HVL.out w1).mono ?_
      rintro e w2 ⟨rfl, b2⟩
      go_wp2
      go_ret2
      exact ⟨rfl, b1.trans (b2.mono b1.size)⟩
theorem setE_parts {n v : ByteArray} (h : setE n v = 0) : tokenB n.data.toList = true ∧ valueB v.data.toList = true := by
  unfold setE at h
  cases h1 : tokenB n.data.toList with
  | false => rw [chkF_tok h1] at h; cases h
  | true =>
    cases h2 : valueB v.data.toList with
    | false => rw [chkF_val h1 h2] at h; cases h
    | true => exact ⟨rfl, rfl⟩
theorem rset_any (w : World) (l : Value) (A : List (ByteArray × ByteArray)) (n v : ByteArray) (hA : Flds w l A) (hs : Sm A) (hn : n.size ≤ 1048576) (hv : v.size ≤ 1048576) :
    Calls Tryd.prog 21 #[l, .string n, .string v] w fun e w' => ∃ r, e = .returned (.tuple #[r, .int .i64 (setE n v : Nat)]) ∧ FRow w' w.heap.size r (setO A n v) ∧ Below w.heap.size w w' := by
  unfold setO
  by_cases h : setE n v = 0
  · obtain ⟨h1, h2⟩ := setE_parts h
    rw [h, if_pos rfl]
    exact rset_ok w l A n v hA hs hn hv h1 h2
  · rw [if_neg h]
    exact (rset_bad w l n v hn hv h).mono fun _ _ ⟨h1, h2⟩ => ⟨_, h1, FRow.nil _ _, h2⟩
end Go.Proofs.YtgdaogpgjdefoaaDoor
