/- Equal lists of fields; the document's Drop, the program's. -/
import Derived.Test.YtgdaogpgjdefoaaDoorFMap
namespace Go.Proofs.YtgdaogpgjdefoaaDoor
open Go.ChangeShapes Go.WideShapes Go.ChangeAt Go.RowKit Go.Maps

set_option maxHeartbeats 1000000 in
theorem fields_same (w : World) (a b : Value) (A : List (ByteArray × ByteArray)) (hA : Flds w a A) (hB : Flds w b A) (hl : A.length ≤ 1099511627776) :
    Calls Tryd.prog 24 #[a, b] w fun e w' => e = .returned (.bool true) ∧ Below w.heap.size w w' := by
  obtain ⟨a0, c0, rfl, _, hca⟩ := hA
  obtain ⟨b0, d0, rfl, _, hcb⟩ := hB
  have HA := hide hca
  have HB := hide hcb
  clear hca hcb
  go_enter Tryd.func24, Tryd.ntmps24
  go_wp2
  go_loopw [13] (fun i wr => ∃ k : Nat, k ≤ A.length ∧ i = .int .i64 k ∧ Hid (∃ n, wr = w.drewN n)) (fun i _ => A.length - (intOf i).toNat)
  case atStart => exact ⟨0, Nat.zero_le _, rfl, hide ⟨0, rfl⟩⟩
  case round =>
    obtain ⟨k, hk, rfl, HW⟩ := hrel
    obtain ⟨n, hwn⟩ := HW.out
    subst hwn
    by_cases hlt : k < A.length
    · obtain ⟨g1, o1, rfl, _, q1, q2⟩ := HA.out k hlt
      obtain ⟨g2, o2, rfl, _, q3, q4⟩ := HB.out k hlt
      obtain ⟨fa, fb, hf⟩ : ∃ fa fb, A[k] = (fa, fb) := ⟨_, _, rfl⟩
      rw [hf] at q1 q2 q3 q4
      clear hf
      go_wp2
      go_quiet (fail)
      go_wp2
      exact ⟨⟨k + 1, by omega, by go_num, hide ⟨n + nq, rfl⟩⟩, by simp [intOf]; omega⟩
    · go_wp2
      go_ret
      exact ⟨rfl, below_drewN w _⟩
theorem FRow.lower {W : World} {base base2 : Nat} {v : Value} {A : List (ByteArray × ByteArray)} (h : FRow W base v A) (hb : base2 ≤ base) : FRow W base2 v A := by
  refine ⟨h.1, ?_⟩
  rcases h.2 with x | ⟨g, cap, cur, rfl, h1, r⟩
  · exact .inl x
  · exact .inr ⟨g, cap, cur, rfl, Nat.le_trans hb h1, r⟩
/-- The fields that have not the name n. -/
def outN (A : List (ByteArray × ByteArray)) (n : ByteArray) : List (ByteArray × ByteArray) := A.filter fun f => !nmB n f
theorem outN_snoc (A : List (ByteArray × ByteArray)) (n : ByteArray) (k : Nat) (hk : k < A.length) (f : ByteArray × ByteArray) (he : A[k] = f) : outN (A.take (k + 1)) n = if nmB n f then outN (A.take k) n else outN (A.take k) n ++ [f] := by
  rw [take_snocF A k hk, he]
  unfold outN
  rw [List.filter_append]
  cases h : nmB n f with
  | true => rw [if_pos rfl, List.filter_cons_of_neg (by rw [h]; simp)]; simp
  | false => rw [if_neg (by simp), List.filter_cons_of_pos (by rw [h]; rfl)]; simp
theorem outN_len (A : List (ByteArray × ByteArray)) (n : ByteArray) (k : Nat) : (outN (A.take k) n).length ≤ A.length := by
  unfold outN
  exact Nat.le_trans (List.length_filter_le _ _) (by rw [List.length_take]; omega)
theorem Sm.filter {A : List (ByteArray × ByteArray)} (h : Sm A) (p : ByteArray × ByteArray → Bool) : Sm (A.filter p) := ⟨Nat.le_trans (List.length_filter_le _ _) h.1, fun f hf => h.2 f (List.mem_filter.1 hf).1⟩
theorem lowc_all : ∀ n : Fin 256, lowc (lowc (UInt8.ofNat n.val)) = lowc (UInt8.ofNat n.val) := by decide +kernel
theorem lowc_idem (c : UInt8) : lowc (lowc c) = lowc c := by
  have h := lowc_all ⟨c.toNat, byte_lt c⟩
  simpa using h
theorem lowS_idem (s : ByteArray) : lowS (lowS s) = lowS s := by
  apply data_inj
  rw [lowS_list, lowS_list]
  unfold lowerB
  rw [List.map_map]
  apply List.map_congr_left
  intro c _
  exact lowc_idem c
theorem nm_mem (n : ByteArray) (f : ByteArray × ByteArray) : nmB n f = memB (lowS f.1) [lowS n] := by
  have h := low_beq f.1 n f.2
  rw [bytes_eq] at h
  rw [← h, memB_cons]
  by_cases he : lowS f.1 = lowS n
  · rw [decide_eq_true he, decide_eq_true he.symm]; rfl
  · rw [decide_eq_false he, decide_eq_false (fun e => he e.symm)]; rfl
theorem outN_drop (A : List (ByteArray × ByteArray)) (n : ByteArray) : outN A n = dropS A [lowS n] := by
  unfold outN dropS
  congr 1
  funext f
  rw [nm_mem]
set_option maxHeartbeats 2000000 in
theorem rdrop_any (w : World) (l : Value) (A : List (ByteArray × ByteArray)) (n : ByteArray) (hA : Flds w l A) (hs : Sm A) (hn : n.size ≤ 1048576) :
    Calls Tryd.prog 26 #[l, .string n] w fun e w' => ∃ v, e = .returned v ∧ FRow w' w.heap.size v (outN A n) ∧ Below w.heap.size w w' := by
  obtain ⟨a0, c0, rfl, hc0, hcells⟩ := hA
  have HF := hide hcells
  have HS := hide hs
  have hl : A.length ≤ 1048576 := hs.1
  clear hcells hs hc0
  go_enter Tryd.func26, Tryd.ntmps26
  go_wp2
  go_loopw [10, 5] (fun i v wr => ∃ (k : Nat) (O : List (ByteArray × ByteArray)), k ≤ A.length ∧ i = .int .i64 k ∧ O.length ≤ A.length ∧ Hid (outN (A.take k) n = O) ∧ Hid (FRow wr w.heap.size v O) ∧ Hid (Below w.heap.size w wr)) (fun i _ _ => A.length - (intOf i).toNat)
  case atStart => exact ⟨0, [], Nat.zero_le _, rfl, Nat.zero_le _, hide rfl, hide (FRow.nil _ _), hide (Below.refl _ _)⟩
  case round =>
    obtain ⟨k, O, hk, rfl, hO, HO, HR, HB⟩ := hrel
    obtain ⟨a6, c6, rfl, _, _⟩ := HR.out.shape
    by_cases hlt : k < A.length
    · have HNX := hide (fun f he => outN_snoc A n k hlt f he)
      have HLN := hide (outN_len A n (k + 1))
      obtain ⟨g1, o1, rfl, hgl, q1, q2⟩ := HF.out k hlt
      obtain ⟨z1, z2⟩ := HS.out.at k hlt
      obtain ⟨fa, fb, hf⟩ : ∃ fa fb, A[k] = (fa, fb) := ⟨_, _, rfl⟩
      rw [hf] at q1 q2 z1 z2
      have HE := hide hf
      clear hf
      have BW := hide (HB.out)
      have r1 : wr.cell? ⟨g1, o1 + k * 2, none⟩ = some (.string fa) := (BW.out.cell (p := ⟨g1, o1 + k * 2, none⟩) hgl).trans q1
      have r2 : wr.cell? ⟨g1, o1 + k * 2 + 1, none⟩ = some (.string fb) := (BW.out.cell (p := ⟨g1, o1 + k * 2 + 1, none⟩) hgl).trans q2
      clear q1 q2 hgl
      go_upto_region 5 with fail
      have HB2 := hide (HB.out.alloc HB.out.size (.cells #[.string fa, .string fb] 43))
      have HR2 := hide (HR.out.below ((Below.refl _ wr).alloc (Nat.le_refl _) (.cells #[.string fa, .string fb] 43)))
      have HD := hide (hp_new wr (.cells #[.string fa, .string fb] 43))
      clear r1 r2 BW HB HR
      generalize wr.alloc (.cells #[.string fa, .string fb] 43) = x at HB2 HR2 HD ⊢
      generalize wr.heap.size = b at HD ⊢
      have d0 : x.cell? ⟨b, 0, none⟩ = some (.string fa) := cell_at HD.out 0
      have d1 : x.cell? ⟨b, 1, none⟩ = some (.string fb) := cell_at HD.out 1
      go_wp2_with fail
      refine (rsame_any fa n x (by omega) (by omega)).mono ?_
      rintro e w2 ⟨rfl, bb⟩
      have HB3 := hide (HB2.out.trans (bb.mono HB2.out.size))
      have HR3 := hide (HR2.out.below bb)
      have HD' := hide ((bb.block _ (lt_heap HD.out)).trans HD.out)
      clear HD d0 d1 HB2 HR2 bb
      have HD := HD'
      clear HD'
      have d0 : w2.cell? ⟨b, 0, none⟩ = some (.string fa) := cell_at HD.out 0
      have d1 : w2.cell? ⟨b, 1, none⟩ = some (.string fb) := cell_at HD.out 1
      have HX := hide (HNX.out (fa, fb) HE.out)
      cases hb : sameB fa.data.toList n.data.toList with
      | true =>
        have HO2 : Hid (outN (A.take (k + 1)) n = O) := hide (by rw [HX.out, if_pos (show nmB n (fa, fb) = true from hb), HO.out])
        clear HX hb
        go_wp2
        exact ⟨⟨k + 1, O, by omega, by go_num, hO, HO2, HR3, HB3⟩, by simp [intOf]; omega⟩
      | false =>
        have HO2 : Hid (outN (A.take (k + 1)) n = O ++ [(fa, fb)]) := hide (by rw [HX.out, if_neg (show ¬ nmB n (fa, fb) = true from fun h => by rw [show nmB n (fa, fb) = sameB fa.data.toList n.data.toList from rfl, hb] at h; cases h), HO.out])
        have hO2 : (O ++ [(fa, fb)]).length ≤ A.length := by rw [← HO2.out]; exact HLN.out
        clear HX hb
        go_wp2_with (at_builtin; apply Hid.out)
        unfold Hid
        refine wpList_append_fld rfl _ _ rfl w2 w.heap.size (.slice a6 O.length c6) O fa fb rfl rfl HR3.out (by omega) HB3.out.size ?_
        intro v' w5 O' B'
        have O6 := hide O'
        have B6 := hide (HB3.out.trans B')
        clear O' B'
        go_wp2
        exact ⟨⟨k + 1, O ++ [(fa, fb)], by omega, by go_num, hO2, HO2, O6, B6⟩, by simp [intOf]; omega⟩
    · have HE : Hid (outN A n = O) := hide (by rw [← HO.out, List.take_of_length_le (by omega)])
      go_wp2
      go_ret
      exact ⟨_, rfl, by rw [HE.out]; exact HR.out, HB.out⟩
theorem drop_any (w : World) (l : Value) (A : List (ByteArray × ByteArray)) (n : ByteArray) (hA : Flds w l A) (hs : Sm A) (hn : n.size ≤ 1048576) :
    Calls Tryd.prog 25 #[l, .string n] w fun e w' => ∃ v, e = .returned v ∧ FRow w' w.heap.size v (outN A n) ∧ Below w.heap.size w w' := by
  have HK := hide (key_any n w (by unfold maxLen; omega))
  have HA := hide hA
  rw [outN_drop]
  obtain ⟨a0, c0, rfl, _, _⟩ := hA
  go_enter Tryd.func25, Tryd.ntmps25
  go_wp2_with fail
  refine HK.out.mono ?_
  rintro e w1 ⟨b, rfl, hN, b1⟩
  have HN := hide hN
  have B1 := hide b1
  clear hN b1 HK
  go_wp2_with fail
  refine (without_any w1 _ _ A [lowS n] (HA.out.below B1.out) hs (MapIs.of HN.out)).mono ?_
  rintro e w2 ⟨v, rfl, hR, b2⟩
  have HR := hide hR
  have B2 := hide (B1.out.trans (b2.mono B1.out.size))
  clear b2
  obtain ⟨a1, c1, rfl, _, _⟩ := hR.shape
  clear hR
  go_wp2
  go_ret
  exact ⟨_, rfl, HR.out.lower B1.out.size, B2.out⟩
end Go.Proofs.YtgdaogpgjdefoaaDoor
