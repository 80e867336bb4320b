/- FieldsStrip: the document's Strip; the statement, walked. -/
import Derived.Test.YtgdaogpgjdefoaaDoorFTell
namespace Go.Proofs.YtgdaogpgjdefoaaDoor
open Go.ChangeShapes Go.WideShapes Go.ChangeAt Go.RowKit Go.Maps

/-- Names left out one behind the other. -/
def dropAll (A : List (ByteArray × ByteArray)) (N : List ByteArray) : List (ByteArray × ByteArray) := N.foldl outN A
theorem dropAll_snoc (A : List (ByteArray × ByteArray)) (N : List ByteArray) (x : ByteArray) : dropAll A (N ++ [x]) = outN (dropAll A N) x := by simp [dropAll]
theorem dropAll_take (A : List (ByteArray × ByteArray)) (N : List ByteArray) (k : Nat) (hk : k < N.length) (x : ByteArray) (hx : N[k] = x) : dropAll A (N.take (k + 1)) = outN (dropAll A (N.take k)) x := by
  rw [take_snocF N k hk, hx, dropAll_snoc]
theorem Sm.dropAll {A : List (ByteArray × ByteArray)} (h : Sm A) : ∀ N : List ByteArray, Sm (dropAll A N) := by
  intro N
  induction N generalizing A with
  | nil => exact h
  | cons x r ih => exact ih (h.filter _)
theorem dropAll_filter (A : List (ByteArray × ByteArray)) (N : List ByteArray) : dropAll A N = dropS A (N.map lowS) := by
  induction N generalizing A with
  | nil => exact (dropS_nil A).symm
  | cons x r ih =>
    show dropAll (outN A x) r = _
    rw [ih, outN_drop]
    unfold dropS
    rw [List.filter_filter]
    congr 1
    funext f
    rw [List.map_cons, memB_cons, memB_cons]
    cases decide (lowS x = lowS f.1) <;> cases memB (lowS f.1) (r.map lowS) <;> rfl
theorem dropS_same {A : List (ByteArray × ByteArray)} {S T : List ByteArray} (h : ∀ s, s ∈ S ↔ s ∈ T) : dropS A S = dropS A T := by
  unfold dropS
  congr 1
  funext f
  have : memB (lowS f.1) S = memB (lowS f.1) T := by
    rw [Bool.eq_iff_iff, memB_iff, memB_iff]
    exact h _
  rw [this]
def s6 : List ByteArray := [⟨#[99, 111, 110, 110, 101, 99, 116, 105, 111, 110]⟩, ⟨#[107, 101, 101, 112, 45, 97, 108, 105, 118, 101]⟩, ⟨#[112, 114, 111, 120, 121, 45, 99, 111, 110, 110, 101, 99, 116, 105, 111, 110]⟩, ⟨#[116, 101]⟩, ⟨#[116, 114, 97, 110, 115, 102, 101, 114, 45, 101, 110, 99, 111, 100, 105, 110, 103]⟩, ⟨#[117, 112, 103, 114, 97, 100, 101]⟩]
theorem s6_low : s6.map lowS = s6 := by decide +kernel
theorem s6_six : ∀ s, s ∈ s6 ↔ s ∈ sixS := by
  intro s
  have h : s6 = sixS.reverse := by decide +kernel
  rw [h, List.mem_reverse]
theorem items_low (A : List (ByteArray × ByteArray)) (n : ByteArray) : (itemsS A n).map lowS = itemsS A n := by
  rw [List.map_congr_left (g := id)]
  · simp
  · intro x hx
    unfold itemsS itemsV at hx
    simp only [List.mem_flatMap] at hx
    obtain ⟨v, _, hx⟩ := hx
    unfold smallS at hx
    obtain ⟨y, _, rfl⟩ := List.mem_map.1 hx
    exact lowS_idem y
theorem strip_ref (A : List (ByteArray × ByteArray)) : dropAll (dropAll A (itemsS A connS)) s6 = stripS A := by
  have e : dropAll (dropAll A (itemsS A connS)) s6 = dropAll A (itemsS A connS ++ s6) := by simp [dropAll]
  rw [e, dropAll_filter, List.map_append, items_low, s6_low]
  unfold stripS
  apply dropS_same
  intro s
  rw [List.mem_append, List.mem_append, List.mem_reverse, s6_six]
set_option maxHeartbeats 4000000 in
set_option maxRecDepth 100000 in
theorem rstrip_any (w : World) (l : Value) (A : List (ByteArray × ByteArray)) (hA : Flds w l A) (hs : Sm A) :
    Calls Tryd.prog 28 #[l] w fun e w' => ∃ v, e = .returned v ∧ (∃ a n c, v = .slice a n c) ∧ Flds w' v (stripS A) ∧ Below w.heap.size w w' := by
  have HI := hide (ritems_any w l A connS hA hs (by decide))
  have hL := itemsS_len hs connS
  have HIM := hide (fun x (hx : x ∈ itemsS A connS) => itemsV_mem (allS A connS) (fun y hy => allS_mem hs hy) x hx)
  have HS := hide hs
  have HA := hide hA
  have HE := hide (strip_ref A)
  generalize itemsS A connS = V at HI hL HIM HE
  change Hid (Calls Tryd.prog 16 #[l, .string ⟨#[99, 111, 110, 110, 101, 99, 116, 105, 111, 110]⟩] w fun e w' => ∃ v, e = .returned v ∧ Row w' w.heap.size 9 v (sc V) ∧ Below w.heap.size w w') at HI
  obtain ⟨a0, c0, rfl, hc0, hcells⟩ := hA
  clear hs hcells hc0
  go_enter Tryd.func28, Tryd.ntmps28
  go_wp2_with fail
  refine HI.out.mono ?_
  rintro e w1 ⟨v1, rfl, hR, b1⟩
  obtain ⟨a1, c1, rfl, hcv⟩ := Strs.of_row hR
  have HV := hide hcv
  have B1 := hide b1
  clear hcv hR b1 HI
  go_wp2
  go_loopw [12, 3] (fun i v wr => ∃ (k : Nat), k ≤ V.length ∧ i = .int .i64 k ∧ (∃ a n c, v = .slice a n c) ∧ Hid (Flds wr v (dropAll A (V.take k))) ∧ Hid (Below w1.heap.size w1 wr)) (fun i _ _ => V.length - (intOf i).toNat)
  case atStart => exact ⟨0, Nat.zero_le _, rfl, ⟨_, _, _, rfl⟩, hide (HA.out.below B1.out), hide (Below.refl _ _)⟩
  case round =>
    obtain ⟨k, hk, rfl, ⟨a3, n3, c3, rfl⟩, HF, HB⟩ := hrel
    by_cases hlt : k < V.length
    · obtain ⟨g1, rfl, hgl, q1⟩ := HV.out k hlt
      have hxs := HIM.out V[k] (List.getElem_mem hlt)
      have HX := hide (fun x hx => dropAll_take A V k hlt x hx)
      obtain ⟨x, hx⟩ : ∃ x, V[k] = x := ⟨_, rfl⟩
      rw [hx] at q1 hxs
      have HX2 := hide (HX.out x hx)
      clear hx HX
      have r1 : wr.cell? ⟨g1, k, none⟩ = some (.string x) := (HB.out.cell (p := ⟨g1, k, none⟩) hgl).trans q1
      clear q1 hgl
      go_wp2_with fail
      refine (rdrop_any wr _ _ x HF.out (HS.out.dropAll _) hxs).mono ?_
      rintro e w2 ⟨v2, rfl, hR2, b2⟩
      rw [← HX2.out] at hR2
      have F2 := hide (Flds.of_row hR2)
      have B2 := hide (HB.out.trans (b2.mono HB.out.size))
      obtain ⟨a2, n2, c2, rfl⟩ := hR2.slice
      clear hR2 b2 HX2
      go_wp2
      exact ⟨⟨k + 1, by omega, by go_num, ⟨_, _, _, rfl⟩, F2, B2⟩, by simp [intOf]; omega⟩
    · have HF2 : Hid (Flds wr (.slice a3 n3 c3) (dropAll A V)) := hide (by have := HF.out; rw [List.take_of_length_le (by omega)] at this; exact this)
      have BX := hide (B1.out.trans (HB.out.mono B1.out.size))
      have SX := hide (HS.out.dropAll V)
      generalize dropAll A V = A2 at HF2 HE SX
      clear HF HB
      go_upto_region 8 with fail
      have hb6 : wr.heap.size < (wr.alloc (.cells #[.string ⟨#[99, 111, 110, 110, 101, 99, 116, 105, 111, 110]⟩, .string ⟨#[107, 101, 101, 112, 45, 97, 108, 105, 118, 101]⟩, .string ⟨#[112, 114, 111, 120, 121, 45, 99, 111, 110, 110, 101, 99, 116, 105, 111, 110]⟩, .string ⟨#[116, 101]⟩, .string ⟨#[116, 114, 97, 110, 115, 102, 101, 114, 45, 101, 110, 99, 111, 100, 105, 110, 103]⟩, .string ⟨#[117, 112, 103, 114, 97, 100, 101]⟩] 9)).heap.size := by show _ < (wr.heap.push _).size; rw [Array.size_push]; omega
      have HC6 : Hid (∀ j (h : j < s6.length), (wr.alloc (.cells #[.string ⟨#[99, 111, 110, 110, 101, 99, 116, 105, 111, 110]⟩, .string ⟨#[107, 101, 101, 112, 45, 97, 108, 105, 118, 101]⟩, .string ⟨#[112, 114, 111, 120, 121, 45, 99, 111, 110, 110, 101, 99, 116, 105, 111, 110]⟩, .string ⟨#[116, 101]⟩, .string ⟨#[116, 114, 97, 110, 115, 102, 101, 114, 45, 101, 110, 99, 111, 100, 105, 110, 103]⟩, .string ⟨#[117, 112, 103, 114, 97, 100, 101]⟩] 9)).cell? ⟨wr.heap.size, j, none⟩ = some (.string s6[j])) := hide (fun j hj => by
        rw [cell_at (hp_new wr _)]
        match j, hj with
        | 0, _ => rfl
        | 1, _ => rfl
        | 2, _ => rfl
        | 3, _ => rfl
        | 4, _ => rfl
        | 5, _ => rfl)
      have F6 := hide (HF2.out.below ((Below.refl _ wr).alloc (Nat.le_refl _) (.cells #[.string ⟨#[99, 111, 110, 110, 101, 99, 116, 105, 111, 110]⟩, .string ⟨#[107, 101, 101, 112, 45, 97, 108, 105, 118, 101]⟩, .string ⟨#[112, 114, 111, 120, 121, 45, 99, 111, 110, 110, 101, 99, 116, 105, 111, 110]⟩, .string ⟨#[116, 101]⟩, .string ⟨#[116, 114, 97, 110, 115, 102, 101, 114, 45, 101, 110, 99, 111, 100, 105, 110, 103]⟩, .string ⟨#[117, 112, 103, 114, 97, 100, 101]⟩] 9)))
      have B6 := hide (BX.out.alloc BX.out.size (.cells #[.string ⟨#[99, 111, 110, 110, 101, 99, 116, 105, 111, 110]⟩, .string ⟨#[107, 101, 101, 112, 45, 97, 108, 105, 118, 101]⟩, .string ⟨#[112, 114, 111, 120, 121, 45, 99, 111, 110, 110, 101, 99, 116, 105, 111, 110]⟩, .string ⟨#[116, 101]⟩, .string ⟨#[116, 114, 97, 110, 115, 102, 101, 114, 45, 101, 110, 99, 111, 100, 105, 110, 103]⟩, .string ⟨#[117, 112, 103, 114, 97, 100, 101]⟩] 9))
      have HB6 := hide hb6
      clear hb6 HF2 BX
      generalize wr.alloc (.cells #[.string ⟨#[99, 111, 110, 110, 101, 99, 116, 105, 111, 110]⟩, .string ⟨#[107, 101, 101, 112, 45, 97, 108, 105, 118, 101]⟩, .string ⟨#[112, 114, 111, 120, 121, 45, 99, 111, 110, 110, 101, 99, 116, 105, 111, 110]⟩, .string ⟨#[116, 101]⟩, .string ⟨#[116, 114, 97, 110, 115, 102, 101, 114, 45, 101, 110, 99, 111, 100, 105, 110, 103]⟩, .string ⟨#[117, 112, 103, 114, 97, 100, 101]⟩] 9) = x at HC6 F6 B6 HB6 ⊢
      generalize wr.heap.size = b6 at HC6 HB6 ⊢
      have h6 : s6.length = 6 := rfl
      have H6 := hide h6
      clear h6
      go_loopw [22, 3] (fun i v wq => ∃ (k : Nat), k ≤ 6 ∧ i = .int .i64 k ∧ (∃ a n c, v = .slice a n c) ∧ Hid (Flds wq v (dropAll A2 (s6.take k))) ∧ Hid (Below x.heap.size x wq)) (fun i _ _ => 6 - (intOf i).toNat)
      case atStart => exact ⟨0, Nat.zero_le _, rfl, ⟨_, _, _, rfl⟩, F6, hide (Below.refl _ _)⟩
      case round =>
        obtain ⟨k, hk, rfl, ⟨a5, n5, c5, rfl⟩, HF5, HB5⟩ := hrel
        by_cases hlt : k < 6
        · have hlt6 : k < s6.length := by rw [H6.out]; exact hlt
          have hxs : s6[k].size ≤ 1048576 := sixS_small _ ((s6_six _).1 (List.getElem_mem hlt6))
          have q1 := HC6.out k hlt6
          have HX := hide (fun y hy => dropAll_take A2 s6 k hlt6 y hy)
          obtain ⟨y, hy⟩ : ∃ y, s6[k] = y := ⟨_, rfl⟩
          rw [hy] at q1 hxs
          have HX2 := hide (HX.out y hy)
          clear hy HX hlt6
          have r1 : wr.cell? ⟨b6, k, none⟩ = some (.string y) := (HB5.out.cell (p := ⟨b6, k, none⟩) HB6.out).trans q1
          clear q1
          go_wp2_with fail
          refine (rdrop_any wr _ _ y HF5.out (SX.out.dropAll _) hxs).mono ?_
          rintro e w2 ⟨v2, rfl, hR2, b2⟩
          rw [← HX2.out] at hR2
          have F2 := hide (Flds.of_row hR2)
          have B2 := hide (HB5.out.trans (b2.mono HB5.out.size))
          obtain ⟨a2, n2, c2, rfl⟩ := hR2.slice
          clear hR2 b2 HX2
          go_wp2
          exact ⟨⟨k + 1, by omega, by go_num, ⟨_, _, _, rfl⟩, F2, B2⟩, by simp [intOf]; omega⟩
        · have HF7 : Hid (Flds wr (.slice a5 n5 c5) (stripS A)) := hide (by have := HF5.out; rw [List.take_of_length_le (by rw [H6.out]; omega), HE.out] at this; exact this)
          go_wp2
          go_ret
          exact ⟨_, rfl, ⟨_, _, _, rfl⟩, HF7.out, B6.out.trans (HB5.out.mono B6.out.size)⟩
theorem strip_mem {A : List (ByteArray × ByteArray)} {f : ByteArray × ByteArray} (h : f ∈ stripS A) : lowS f.1 ∉ itemsS A connS ∧ lowS f.1 ∉ sixS := by
  unfold stripS dropS at h
  have h2 := (List.mem_filter.1 h).2
  have h3 : memB (lowS f.1) ((itemsS A connS).reverse ++ sixS) = false := by simpa using h2
  constructor
  · intro hm
    rw [memB_true (List.mem_append_left _ (List.mem_reverse.2 hm))] at h3
    cases h3
  · intro hm
    rw [memB_true (List.mem_append_right _ hm)] at h3
    cases h3
theorem nm_false {n : ByteArray} {f : ByteArray × ByteArray} (h : lowS f.1 ≠ lowS n) : nmB n f = false := by
  rw [nm_mem, memB_false (by simpa using h)]
theorem strip_conn (A : List (ByteArray × ByteArray)) : allS (stripS A) connS = [] := by
  unfold allS
  rw [List.filter_eq_nil_iff.2]
  · rfl
  · intro f hf
    rw [nm_false]
    · simp
    · intro e
      apply (strip_mem hf).2
      rw [e]
      exact memB_iff.1 (by decide +kernel)
theorem strip_again (A : List (ByteArray × ByteArray)) : stripS (stripS A) = stripS A := by
  have h : itemsS (stripS A) connS = [] := by unfold itemsS; rw [strip_conn]; rfl
  have e : stripS (stripS A) = dropS (stripS A) ((itemsS (stripS A) connS).reverse ++ sixS) := rfl
  rw [e, h]
  apply List.filter_eq_self.2
  intro f hf
  have := (strip_mem hf).2
  simp [memB_false this]
theorem items_name (A : List (ByteArray × ByteArray)) (m n : ByteArray) (h : lowS m = lowS n) : itemsS A m = itemsS A n := by
  unfold itemsS allS
  have : nmB m = nmB n := by funext f; rw [nm_mem, nm_mem, h]
  rw [this]
theorem strip_facts {A : List (ByteArray × ByteArray)} {f : ByteArray × ByteArray} (h : f ∈ stripS A) : sameB f.1.data.toList (⟨#[99, 111, 110, 110, 101, 99, 116, 105, 111, 110]⟩ : ByteArray).data.toList = false ∧ sameB f.1.data.toList (⟨#[116, 114, 97, 110, 115, 102, 101, 114, 45, 101, 110, 99, 111, 100, 105, 110, 103]⟩ : ByteArray).data.toList = false ∧ hasB A ⟨#[67, 111, 110, 110, 101, 99, 116, 105, 111, 110]⟩ f.1 = false := by
  have h2 := strip_mem h
  refine ⟨?_, ?_, ?_⟩
  · have e : nmB ⟨#[99, 111, 110, 110, 101, 99, 116, 105, 111, 110]⟩ f = false := nm_false (fun e => h2.2 (by rw [e]; exact memB_iff.1 (by decide +kernel)))
    exact e
  · have e : nmB ⟨#[116, 114, 97, 110, 115, 102, 101, 114, 45, 101, 110, 99, 111, 100, 105, 110, 103]⟩ f = false := nm_false (fun e => h2.2 (by rw [e]; exact memB_iff.1 (by decide +kernel)))
    exact e
  · unfold hasB
    rw [items_name A ⟨#[67, 111, 110, 110, 101, 99, 116, 105, 111, 110]⟩ connS (by decide +kernel)]
    exact memB_false h2.1
set_option maxHeartbeats 4000000 in
set_option maxRecDepth 100000 in
theorem fstrip_walk (w : World) (l : Value) (A : List (ByteArray × ByteArray)) (hA : Flds w l A) (hs : Sm A) (ht : PT w) :
    Calls Tryd.prog 5 #[l] w fun e w' => e = .returned (.bool true) ∧ Below w.heap.size w w' := by
  have F0 := hide hA
  have HT := hide ht
  have HS := hide hs
  have HST := hide (fun W h => strip_any W l A h hs)
  have HRS := hide (fun W h => rstrip_any W l A h hs)
  have HFA := hide (fun (f : ByteArray × ByteArray) (h : f ∈ stripS A) => strip_facts h)
  have S2 : Hid (Sm (stripS A)) := hide (hs.filter _)
  have HS2 := hide (fun W v h => strip_any W v (stripS A) h S2.out)
  have HHA := hide (fun W (h : Flds W l A) item (hi : item.size ≤ 1048576) => has_any W l A ⟨#[67, 111, 110, 110, 101, 99, 116, 105, 111, 110]⟩ item h hs (by decide) hi)
  rw [strip_again] at HS2
  generalize hasB A ⟨#[67, 111, 110, 110, 101, 99, 116, 105, 111, 110]⟩ = hasf at HHA HFA
  generalize stripS A = D at HST HRS HFA S2 HS2
  obtain ⟨a0, c0, rfl, hc0, hcells⟩ := hA
  have hD : D.length ≤ 1099511627776 := Nat.le_trans S2.out.1 (by decide)
  have hD2 := S2.out.1
  clear hs ht hc0 hcells
  go_enter Tryd.func5, Tryd.ntmps5
  go_wp2_with fail
  refine (HST.out w F0.out).mono ?_
  rintro e w1 ⟨v1, rfl, hR1, b1⟩
  have D1 := hide (Flds.of_row hR1)
  obtain ⟨a1, c1, rfl, _, _⟩ := hR1.shape
  have F1 := hide (F0.out.below b1)
  have B1 := hide b1
  clear hR1 b1
  go_wp2_with fail
  refine (HRS.out w1 F1.out).mono ?_
  rintro e w2 ⟨v2, rfl, ⟨a2, n2, c2, rfl⟩, hF2, b2⟩
  have E2 := hide hF2
  have D2 := hide (D1.out.below b2)
  have F2 := hide (F1.out.below b2)
  have B2 := hide (B1.out.trans (b2.mono B1.out.size))
  clear hF2 b2 D1 F1 B1
  go_wp2_with fail
  refine (fields_same w2 _ _ D D2.out E2.out hD).mono ?_
  rintro e w3 ⟨rfl, b3⟩
  have D3 := hide (D2.out.below b3)
  have F3 := hide (F2.out.below b3)
  have B3 := hide (B2.out.trans (b3.mono B2.out.size))
  clear b3 D2 F2 B2 E2
  go_wp2_with fail
  refine (HS2.out w3 _ D3.out).mono ?_
  rintro e w4 ⟨v4, rfl, hR4, b4⟩
  have E4 := hide (Flds.of_row hR4)
  obtain ⟨a4, n4, c4, rfl⟩ := hR4.slice
  have D4 := hide (D3.out.below b4)
  have F4 := hide (F3.out.below b4)
  have B4 := hide (B3.out.trans (b4.mono B3.out.size))
  clear hR4 b4 D3 F3 B3
  go_wp2_with fail
  refine (fields_same w4 _ _ D E4.out D4.out hD).mono ?_
  rintro e w5 ⟨rfl, b5⟩
  have D5 := hide (D4.out.below b5)
  have F5 := hide (F4.out.below b5)
  have B5 := hide (B4.out.trans (b5.mono B4.out.size))
  clear b5 D4 F4 B4 E4
  go_wp2
  obtain ⟨a7, c7, he7, _, hcd⟩ := D5.out
  simp only [Value.slice.injEq] at he7
  have HCD := hide hcd
  have HE7 := hide he7
  clear hcd he7
  go_loopw [22] (fun i wr => ∃ k : Nat, k ≤ D.length ∧ i = .int .i64 k ∧ Hid (Below w5.heap.size w5 wr)) (fun i _ => D.length - (intOf i).toNat)
  case atStart => exact ⟨0, Nat.zero_le _, rfl, hide (Below.refl _ _)⟩
  case round =>
    obtain ⟨k, hk, rfl, HB⟩ := hrel
    by_cases hlt : k < D.length
    · obtain ⟨g1, o1, hg1, hgl, q1, q2⟩ := HCD.out k hlt
      obtain ⟨z1, z2⟩ := S2.out.at k hlt
      have HFK := hide (HFA.out D[k] (List.getElem_mem hlt))
      obtain ⟨fa, fb, hf⟩ : ∃ fa fb, D[k] = (fa, fb) := ⟨_, _, rfl⟩
      rw [hf] at q1 q2 z1 z2 HFK
      clear hf
      obtain rfl : a1 = some ⟨g1, o1, none⟩ := HE7.out.1.trans hg1
      have r1 : wr.cell? ⟨g1, o1 + k * 2, none⟩ = some (.string fa) := (HB.out.cell (p := ⟨g1, o1 + k * 2, none⟩) hgl).trans q1
      have r2 : wr.cell? ⟨g1, o1 + k * 2 + 1, none⟩ = some (.string fb) := (HB.out.cell (p := ⟨g1, o1 + k * 2 + 1, none⟩) hgl).trans q2
      clear q1 q2 hgl hg1
      go_upto_region 7 with fail
      have HB2 := hide (HB.out.alloc HB.out.size (.cells #[.string fa, .string fb] 43))
      have HD := hide (hp_new wr (.cells #[.string fa, .string fb] 43))
      clear r1 r2 HB
      generalize wr.alloc (.cells #[.string fa, .string fb] 43) = x at HB2 HD ⊢
      generalize wr.heap.size = b at HD ⊢
      have d0 : x.cell? ⟨b, 0, none⟩ = some (.string fa) := cell_at HD.out 0
      go_wp2_with fail
      refine (rsame_any fa ⟨#[99, 111, 110, 110, 101, 99, 116, 105, 111, 110]⟩ x (by omega) (by decide)).mono ?_
      rintro e y1 ⟨rfl, b6⟩
      rw [show sameB fa.data.toList (⟨#[99, 111, 110, 110, 101, 99, 116, 105, 111, 110]⟩ : ByteArray).data.toList = false from HFK.out.1]
      have HB3 := hide (HB2.out.trans (b6.mono HB2.out.size))
      have HD1 := hide ((b6.block _ (lt_heap HD.out)).trans HD.out)
      clear b6 HB2 HD d0
      have d0 : y1.cell? ⟨b, 0, none⟩ = some (.string fa) := cell_at HD1.out 0
      go_wp2_with fail
      refine (rsame_any fa ⟨#[116, 114, 97, 110, 115, 102, 101, 114, 45, 101, 110, 99, 111, 100, 105, 110, 103]⟩ y1 (by omega) (by decide)).mono ?_
      rintro e y2 ⟨rfl, b7⟩
      rw [show sameB fa.data.toList (⟨#[116, 114, 97, 110, 115, 102, 101, 114, 45, 101, 110, 99, 111, 100, 105, 110, 103]⟩ : ByteArray).data.toList = false from HFK.out.2.1]
      have HB4 := hide (HB3.out.trans (b7.mono HB3.out.size))
      have HD2 := hide ((b7.block _ (lt_heap HD1.out)).trans HD1.out)
      clear b7 HB3 HD1 d0
      have d0 : y2.cell? ⟨b, 0, none⟩ = some (.string fa) := cell_at HD2.out 0
      go_wp2_with fail
      refine (HHA.out y2 (F5.out.below HB4.out) fa z1).mono ?_
      rintro e y3 ⟨rfl, b8⟩
      rw [show hasf fa = false from HFK.out.2.2]
      have HB5 := hide (HB4.out.trans (b8.mono HB4.out.size))
      clear b8 HB4 HD2 d0
      go_wp2
      exact ⟨⟨k + 1, by omega, by go_num, HB5⟩, by simp [intOf]; omega⟩
    · have B6 := hide (B5.out.trans (HB.out.mono B5.out.size))
      go_wp2_with fail
      refine (speaks_any wr (HT.out.below B6.out)).mono ?_
      rintro e w9 ⟨rfl, b9⟩
      go_wp2
      go_ret
      exact ⟨rfl, B6.out.trans (b9.mono B6.out.size)⟩
end Go.Proofs.YtgdaogpgjdefoaaDoor
