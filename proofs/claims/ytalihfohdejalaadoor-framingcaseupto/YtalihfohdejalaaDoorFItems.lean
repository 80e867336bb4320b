/- The elements of a name: the program's, the document's. -/
import Derived.Test.YtalihfohdejalaaDoorFAll
import Derived.Test.YtalihfohdejalaaDoorRLst
import Derived.Test.YtalihfohdejalaaDoorAppK
namespace Go.Proofs.YtalihfohdejalaaDoor
open Go.ChangeShapes Go.WideShapes Go.ChangeAt Go.RowKit

theorem elem_mem {p x : List UInt8} (h : x ∈ elem p) : x.length ≤ p.length := by
  unfold elem at h
  split at h
  · cases h
  · simp at h; subst h; exact trimB_le p
theorem listB_mem (l : List UInt8) : ∀ x ∈ listB l, x.length ≤ l.length := by
  induction h : l.length using Nat.strongRecOn generalizing l with
  | ind n ih =>
    intro x hx
    by_cases h0 : l = []
    · subst h0; rw [listB_nil] at hx; cases hx
    · have hp : 0 < l.length := List.length_pos_iff.2 h0
      rw [listB_cons h0] at hx
      rcases List.mem_append.1 hx with hx | hx
      · have := elem_mem hx
        rw [List.length_take] at this
        omega
      · have := ih _ (by rw [List.length_drop]; omega) (l.drop (pend false false l + 1)) rfl x hx
        rw [List.length_drop] at this
        omega

/-- A value's elements, in small letters. -/
def smallS (v : ByteArray) : List ByteArray := (listS v.data.toList).map lowS
def itemsV (V : List ByteArray) : List ByteArray := V.flatMap smallS
def itemsS (A : List (ByteArray × ByteArray)) (n : ByteArray) : List ByteArray := itemsV (allS A n)
theorem itemsV_snoc (V : List ByteArray) (k : Nat) (hk : k < V.length) (x : ByteArray) (hx : V[k] = x) : itemsV (V.take (k + 1)) = itemsV (V.take k) ++ smallS x := by
  rw [take_snocF V k hk, hx]
  simp [itemsV]
theorem smallS_len (v : ByteArray) : (smallS v).length ≤ v.size := by
  unfold smallS
  rw [List.length_map, ← size_len]
  exact listS_len _
theorem smallS_mem {v x : ByteArray} (h : x ∈ smallS v) : x.size ≤ v.size := by
  unfold smallS listS at h
  simp only [List.mem_map] at h
  obtain ⟨_, ⟨y, hy, rfl⟩, rfl⟩ := h
  have := listB_mem _ y hy
  rw [size_len] at this
  rw [lowS_size, sS_size]
  exact this
theorem listS_mem {v x : ByteArray} (h : x ∈ listS v.data.toList) : x.size ≤ v.size := by
  unfold listS at h
  simp only [List.mem_map] at h
  obtain ⟨y, hy, rfl⟩ := h
  have := listB_mem _ y hy
  rw [size_len] at this
  rw [sS_size]
  exact this
theorem allS_mem {A : List (ByteArray × ByteArray)} {n x : ByteArray} (hs : Sm A) (h : x ∈ allS A n) : x.size ≤ 1048576 := by
  unfold allS at h
  simp only [List.mem_map, List.mem_filter] at h
  obtain ⟨f, ⟨h1, _⟩, rfl⟩ := h
  exact (hs.2 f h1).2
theorem allS_le {A : List (ByteArray × ByteArray)} {n : ByteArray} (hs : Sm A) : (allS A n).length ≤ 1048576 := by
  unfold allS
  rw [List.length_map]
  exact Nat.le_trans (List.length_filter_le _ _) hs.1
theorem itemsV_len (V : List ByteArray) (hV : ∀ x ∈ V, x.size ≤ 1048576) : (itemsV V).length ≤ V.length * 1048576 := by
  induction V with
  | nil => simp [itemsV]
  | cons a r ih =>
    have h1 := ih (fun x hx => hV x (List.mem_cons_of_mem _ hx))
    have h2 := smallS_len a
    have h3 := hV a (List.mem_cons_self ..)
    simp only [itemsV, List.flatMap_cons, List.length_append, List.length_cons] at h1 ⊢
    omega
theorem itemsV_mem (V : List ByteArray) (hV : ∀ x ∈ V, x.size ≤ 1048576) : ∀ x ∈ itemsV V, x.size ≤ 1048576 := by
  intro x hx
  unfold itemsV at hx
  simp only [List.mem_flatMap] at hx
  obtain ⟨v, hv, hx⟩ := hx
  exact Nat.le_trans (smallS_mem hx) (hV v hv)
set_option maxHeartbeats 2000000 in
theorem items_any (w : World) (l : Value) (A : List (ByteArray × ByteArray)) (n : ByteArray) (hA : Flds w l A) (hs : Sm A) (hn : n.size ≤ 1048576) :
    Calls Tryd.prog 28 #[l, .string n] w fun e w' => ∃ v, e = .returned v ∧ Row w' w.heap.size 9 v (sc (itemsS A n)) ∧ Below w.heap.size w w' := by
  have HAL := hide (all_any w l A n hA hs hn)
  have HVM := hide (fun x (hx : x ∈ allS A n) => allS_mem hs hx)
  have hVl := allS_le (n := n) hs
  unfold itemsS
  obtain ⟨a0, c0, rfl, hc0, hcells⟩ := hA
  clear hcells hs hn hc0
  generalize allS A n = V at HAL HVM hVl ⊢
  go_enter Tryd.func28, Tryd.ntmps28
  go_wp2_with fail
  refine HAL.out.mono ?_
  rintro e w1 ⟨v1, rfl, hV, b1⟩
  obtain ⟨a1, c1, rfl, hcv⟩ := Strs.of_row hV
  clear hV
  have HV := hide hcv
  have B1 := hide b1
  clear hcv b1 HAL
  go_wp2
  go_loopw [14, 5] (fun i v wr => ∃ (k : Nat) (O : List ByteArray), k ≤ V.length ∧ i = .int .i64 k ∧ O.length ≤ k * 1048576 ∧ Hid (itemsV (V.take k) = O) ∧ Hid (Row wr w1.heap.size 9 v (sc O)) ∧ Hid (Below w1.heap.size w1 wr)) (fun i _ _ => V.length - (intOf i).toNat)
  case atStart => exact ⟨0, [], Nat.zero_le _, rfl, Nat.zero_le _, hide rfl, hide (Row.nil _ _ _), hide (Below.refl _ _)⟩
  case round =>
    obtain ⟨k, O, hk, rfl, hO, HO, HR, HB⟩ := hrel
    obtain ⟨a6, c6, rfl, _, _⟩ := HR.out.shape
    rw [sc_len] at *
    by_cases hlt : k < V.length
    · obtain ⟨g1, rfl, hgl, q1⟩ := HV.out k hlt
      have hxs := HVM.out V[k] (List.getElem_mem hlt)
      have HNX := hide (fun x hx => itemsV_snoc V k hlt x hx)
      obtain ⟨x, hx⟩ : ∃ x, V[k] = x := ⟨_, rfl⟩
      rw [hx] at q1 hxs
      have HX := hide (HNX.out x hx)
      clear hx HNX
      have r1 : wr.cell? ⟨g1, k, none⟩ = some (.string x) := (HB.out.cell (p := ⟨g1, k, none⟩) hgl).trans q1
      clear q1 hgl
      go_wp2_with fail
      refine (list_any x wr (by omega)).mono ?_
      rintro e w2 ⟨v2, rfl, hP, b2⟩
      have hPl : (listS x.data.toList).length ≤ x.size := by rw [← size_len]; exact listS_len _
      have HPM := hide (fun y (hy : y ∈ listS x.data.toList) => listS_mem hy)
      have HAP : Hid (∀ g, v2.ownBlock = some g → g < w2.heap.size ∧ (Value.slice a6 O.length c6).ownBlock ≠ some g) := hide (fun g hg => ⟨(hP.lt hg).2, fun h => by
        have h1 := (hP.lt hg).1
        have h2 := (HR.out.lt h).2
        omega⟩)
      have HR2 := hide (HR.out.below b2)
      have HB2 := hide (HB.out.trans (b2.mono HB.out.size))
      have HX2 : Hid (itemsV (V.take (k + 1)) = O ++ ((listS x.data.toList)).map lowS) := hide (by rw [HX.out, HO.out]; rfl)
      clear HX r1 HR HB b2
      generalize listS x.data.toList = P at hP hPl HPM HX2
      have HS2 := Strs.of_row hP
      clear hP
      obtain ⟨a2, c2, rfl, hc2⟩ := HS2
      have HC2 := hide hc2
      clear hc2
      go_wp2
      go_loopw [21, 5] (fun j v wq => ∃ (m : Nat) (O2 : List ByteArray), m ≤ P.length ∧ j = .int .i64 m ∧ O2.length ≤ O.length + m ∧ Hid (O2 = O ++ (P.take m).map lowS) ∧ Hid (Row wq w1.heap.size 9 v (sc O2)) ∧ Hid (Below w1.heap.size w1 wq) ∧ Hid (Kept w2 wq (.slice a6 O.length c6) v)) (fun j _ _ => P.length - (intOf j).toNat)
      case atStart => exact ⟨0, O, Nat.zero_le _, rfl, Nat.le_refl _, hide (by simp), HR2, HB2, hide (Kept.refl _ _)⟩
      case round =>
        obtain ⟨m, O2, hm, rfl, hO2, HO2, HRq, HBq, HKq⟩ := hrel
        obtain ⟨a7, c7, rfl, _, _⟩ := HRq.out.shape
        rw [sc_len] at *
        by_cases hlm : m < P.length
        · obtain ⟨g2, rfl, hg2, q2⟩ := HC2.out m hlm
          have hys := Nat.le_trans (HPM.out P[m] (List.getElem_mem hlm)) hxs
          have HTK := hide (take_snocF P m hlm)
          obtain ⟨y, hy⟩ : ∃ y, P[m] = y := ⟨_, rfl⟩
          rw [hy] at q2 hys HTK
          clear hy
          have hap := HAP.out g2 rfl
          have r2 : wr.cell? ⟨g2, m, none⟩ = some (.string y) := (HKq.out.cell hap.1 hap.2).trans q2
          clear q2 hap hg2
          go_wp2_with fail
          refine (lower_any y wr (by unfold maxLen; omega)).mono ?_
          rintro e w3 ⟨rfl, b3⟩
          have HO3 : Hid (O2 ++ [lowS y] = O ++ (P.take (m + 1)).map lowS) := hide (by rw [HO2.out, HTK.out]; simp)
          generalize lowS y = ly at HO3 ⊢
          have HR3 := hide (HRq.out.below b3)
          have HB3 := hide (HBq.out.trans (b3.mono HBq.out.size))
          have HK3 := hide (HKq.out.below b3)
          clear HRq HBq HKq b3 HTK
          go_wp2_with (at_builtin; apply Hid.out)
          unfold Hid
          refine wpList_append_one_k elS rfl _ _ rfl w3 w1.heap.size (.slice a7 O2.length c7) (sc O2) (.string ly) rfl rfl HR3.out rfl (by rw [sc_len]; omega) (by rw [sc_len]; omega) HB3.out.size ?_
          intro v' w4 O' B' K'
          have O5 := hide O'
          have B5 := hide (HB3.out.trans B')
          have K5 := hide (HK3.out.trans K')
          clear O' B' K'
          go_wp2
          exact ⟨⟨m + 1, O2 ++ [ly], by omega, by go_num, by rw [List.length_append]; simp; omega, HO3, hide (by rw [sc_snoc]; exact O5.out), B5, K5⟩, by simp [intOf]; omega⟩
        · have HO4 : Hid (itemsV (V.take (k + 1)) = O2) := hide (by rw [HX2.out, HO2.out, List.take_of_length_le (by omega)])
          go_wp2
          exact ⟨⟨k + 1, O2, by omega, by go_num, by omega, HO4, HRq, HBq⟩, by simp [intOf]; omega⟩
    · have HE : Hid (itemsV V = O) := hide (by rw [← HO.out, List.take_of_length_le (by omega)])
      go_wp2
      go_ret
      exact ⟨_, rfl, by rw [HE.out]; exact HR.out.lower B1.out.size, B1.out.trans (HB.out.mono B1.out.size)⟩
set_option maxHeartbeats 2000000 in
theorem ritems_any (w : World) (l : Value) (A : List (ByteArray × ByteArray)) (n : ByteArray) (hA : Flds w l A) (hs : Sm A) (hn : n.size ≤ 1048576) :
    Calls Tryd.prog 25 #[l, .string n] w fun e w' => ∃ v, e = .returned v ∧ Row w' w.heap.size 9 v (sc (itemsS A n)) ∧ Below w.heap.size w w' := by
  have HAL := hide (rall_any w l A n hA hs hn)
  have HVM := hide (fun x (hx : x ∈ allS A n) => allS_mem hs hx)
  have hVl := allS_le (n := n) hs
  unfold itemsS
  obtain ⟨a0, c0, rfl, hc0, hcells⟩ := hA
  clear hcells hs hn hc0
  generalize allS A n = V at HAL HVM hVl ⊢
  go_enter Tryd.func25, Tryd.ntmps25
  go_wp2_with fail
  refine HAL.out.mono ?_
  rintro e w1 ⟨v1, rfl, hV, b1⟩
  obtain ⟨a1, c1, rfl, hcv⟩ := Strs.of_row hV
  clear hV
  have HV := hide hcv
  have B1 := hide b1
  clear hcv b1 HAL
  go_wp2
  go_loopw [14, 5] (fun i v wr => ∃ (k : Nat) (O : List ByteArray), k ≤ V.length ∧ i = .int .i64 k ∧ O.length ≤ k * 1048576 ∧ Hid (itemsV (V.take k) = O) ∧ Hid (Row wr w1.heap.size 9 v (sc O)) ∧ Hid (Below w1.heap.size w1 wr)) (fun i _ _ => V.length - (intOf i).toNat)
  case atStart => exact ⟨0, [], Nat.zero_le _, rfl, Nat.zero_le _, hide rfl, hide (Row.nil _ _ _), hide (Below.refl _ _)⟩
  case round =>
    obtain ⟨k, O, hk, rfl, hO, HO, HR, HB⟩ := hrel
    obtain ⟨a6, c6, rfl, _, _⟩ := HR.out.shape
    rw [sc_len] at *
    by_cases hlt : k < V.length
    · obtain ⟨g1, rfl, hgl, q1⟩ := HV.out k hlt
      have hxs := HVM.out V[k] (List.getElem_mem hlt)
      have HNX := hide (fun x hx => itemsV_snoc V k hlt x hx)
      obtain ⟨x, hx⟩ : ∃ x, V[k] = x := ⟨_, rfl⟩
      rw [hx] at q1 hxs
      have HX := hide (HNX.out x hx)
      clear hx HNX
      have r1 : wr.cell? ⟨g1, k, none⟩ = some (.string x) := (HB.out.cell (p := ⟨g1, k, none⟩) hgl).trans q1
      clear q1 hgl
      go_wp2_with fail
      refine (rlist_any x wr (by omega)).mono ?_
      rintro e w2 ⟨v2, rfl, hP, b2⟩
      have hPl : (listS x.data.toList).length ≤ x.size := by rw [← size_len]; exact listS_len _
      have HPM := hide (fun y (hy : y ∈ listS x.data.toList) => listS_mem hy)
      have HAP : Hid (∀ g, v2.ownBlock = some g → g < w2.heap.size ∧ (Value.slice a6 O.length c6).ownBlock ≠ some g) := hide (fun g hg => ⟨(hP.lt hg).2, fun h => by
        have h1 := (hP.lt hg).1
        have h2 := (HR.out.lt h).2
        omega⟩)
      have HR2 := hide (HR.out.below b2)
      have HB2 := hide (HB.out.trans (b2.mono HB.out.size))
      have HX2 : Hid (itemsV (V.take (k + 1)) = O ++ ((listS x.data.toList)).map lowS) := hide (by rw [HX.out, HO.out]; rfl)
      clear HX r1 HR HB b2
      generalize listS x.data.toList = P at hP hPl HPM HX2
      have HS2 := Strs.of_row hP
      clear hP
      obtain ⟨a2, c2, rfl, hc2⟩ := HS2
      have HC2 := hide hc2
      clear hc2
      go_wp2
      go_loopw [21, 5] (fun j v wq => ∃ (m : Nat) (O2 : List ByteArray), m ≤ P.length ∧ j = .int .i64 m ∧ O2.length ≤ O.length + m ∧ Hid (O2 = O ++ (P.take m).map lowS) ∧ Hid (Row wq w1.heap.size 9 v (sc O2)) ∧ Hid (Below w1.heap.size w1 wq) ∧ Hid (Kept w2 wq (.slice a6 O.length c6) v)) (fun j _ _ => P.length - (intOf j).toNat)
      case atStart => exact ⟨0, O, Nat.zero_le _, rfl, Nat.le_refl _, hide (by simp), HR2, HB2, hide (Kept.refl _ _)⟩
      case round =>
        obtain ⟨m, O2, hm, rfl, hO2, HO2, HRq, HBq, HKq⟩ := hrel
        obtain ⟨a7, c7, rfl, _, _⟩ := HRq.out.shape
        rw [sc_len] at *
        by_cases hlm : m < P.length
        · obtain ⟨g2, rfl, hg2, q2⟩ := HC2.out m hlm
          have hys := Nat.le_trans (HPM.out P[m] (List.getElem_mem hlm)) hxs
          have HTK := hide (take_snocF P m hlm)
          obtain ⟨y, hy⟩ : ∃ y, P[m] = y := ⟨_, rfl⟩
          rw [hy] at q2 hys HTK
          clear hy
          have hap := HAP.out g2 rfl
          have r2 : wr.cell? ⟨g2, m, none⟩ = some (.string y) := (HKq.out.cell hap.1 hap.2).trans q2
          clear q2 hap hg2
          go_wp2_with fail
          refine (rlower_any y wr (by omega)).mono ?_
          rintro e w3 ⟨rfl, b3⟩
          have HO3 : Hid (O2 ++ [lowS y] = O ++ (P.take (m + 1)).map lowS) := hide (by rw [HO2.out, HTK.out]; simp)
          generalize lowS y = ly at HO3 ⊢
          have HR3 := hide (HRq.out.below b3)
          have HB3 := hide (HBq.out.trans (b3.mono HBq.out.size))
          have HK3 := hide (HKq.out.below b3)
          clear HRq HBq HKq b3 HTK
          go_wp2_with (at_builtin; apply Hid.out)
          unfold Hid
          refine wpList_append_one_k elS rfl _ _ rfl w3 w1.heap.size (.slice a7 O2.length c7) (sc O2) (.string ly) rfl rfl HR3.out rfl (by rw [sc_len]; omega) (by rw [sc_len]; omega) HB3.out.size ?_
          intro v' w4 O' B' K'
          have O5 := hide O'
          have B5 := hide (HB3.out.trans B')
          have K5 := hide (HK3.out.trans K')
          clear O' B' K'
          go_wp2
          exact ⟨⟨m + 1, O2 ++ [ly], by omega, by go_num, by rw [List.length_append]; simp; omega, HO3, hide (by rw [sc_snoc]; exact O5.out), B5, K5⟩, by simp [intOf]; omega⟩
        · have HO4 : Hid (itemsV (V.take (k + 1)) = O2) := hide (by rw [HX2.out, HO2.out, List.take_of_length_le (by omega)])
          go_wp2
          exact ⟨⟨k + 1, O2, by omega, by go_num, by omega, HO4, HRq, HBq⟩, by simp [intOf]; omega⟩
    · have HE : Hid (itemsV V = O) := hide (by rw [← HO.out, List.take_of_length_le (by omega)])
      go_wp2
      go_ret
      exact ⟨_, rfl, by rw [HE.out]; exact HR.out.lower B1.out.size, B1.out.trans (HB.out.mono B1.out.size)⟩
end Go.Proofs.YtalihfohdejalaaDoor
