/- Whether a name has an element: the program's, the document's. -/
import Derived.Test.YtalihfohdejalaaDoorFItems
namespace Go.Proofs.YtalihfohdejalaaDoor
open Go.ChangeShapes Go.WideShapes Go.ChangeAt Go.RowKit

def memB (x : ByteArray) (V : List ByteArray) : Bool := V.any fun y => decide (y = x)
theorem memB_iff {x : ByteArray} {V : List ByteArray} : memB x V = true ↔ x ∈ V := by
  unfold memB
  rw [List.any_eq_true]
  constructor
  · rintro ⟨y, hy, he⟩; rw [← of_decide_eq_true he]; exact hy
  · intro h; exact ⟨x, h, decide_eq_true rfl⟩
theorem memB_true {x : ByteArray} {V : List ByteArray} (h : x ∈ V) : memB x V = true := memB_iff.2 h
theorem memB_false {x : ByteArray} {V : List ByteArray} (h : x ∉ V) : memB x V = false := by
  cases hb : memB x V with
  | false => rfl
  | true => exact absurd (memB_iff.1 hb) h
def hasB (A : List (ByteArray × ByteArray)) (n item : ByteArray) : Bool := memB (lowS item) (itemsS A n)
theorem mem_next {V : List ByteArray} {k : Nat} {x y : ByteArray} (hk : k < V.length) (he : V[k] = y) (h : x ∉ V.take k) (hn : x ≠ y) : x ∉ V.take (k + 1) := by
  rw [take_snocF V k hk, he, List.mem_append]
  rintro (h1 | h1)
  · exact h h1
  · simp only [List.mem_singleton] at h1
    exact hn h1
set_option maxHeartbeats 1000000 in
theorem index_any (w : World) (v : Value) (V : List ByteArray) (x : ByteArray) (hV : Strs w v V) (hl : V.length ≤ 1099511627776) :
    Calls Tryd.prog 38 #[v, .string x] w fun e w' => ∃ r : Int, e = .returned (.int .i64 r) ∧ decide (0 ≤ r) = memB x V ∧ w = w' := by
  obtain ⟨a1, c1, rfl, hcv⟩ := hV
  have HV := hide hcv
  clear hcv
  go_enter Tryd.func38, Tryd.ntmps38
  go_wp2
  go_loop [8] (fun i => ∃ k : Nat, k ≤ V.length ∧ i = .int .i64 k ∧ Hid (x ∉ V.take k)) (fun i => V.length - (intOf i).toNat)
  case atStart => exact ⟨0, Nat.zero_le _, rfl, hide (by simp)⟩
  case round =>
    obtain ⟨k, hk, rfl, HN⟩ := hrel
    by_cases hlt : k < V.length
    · obtain ⟨g1, rfl, hgl, r1⟩ := HV.out k hlt
      have HM := hide (List.getElem_mem hlt)
      have HX := hide (fun y he hn => mem_next (x := x) (y := y) hlt he HN.out hn)
      obtain ⟨y, hy⟩ : ∃ y, V[k] = y := ⟨_, rfl⟩
      rw [hy] at r1 HM
      have HY := hide hy
      clear hy hgl
      have hb := bytes_eq x y
      by_cases h : x = y
      · subst h
        have t1 : (x.toList == x.toList) = true := by rw [hb]; exact decide_eq_true rfl
        clear hb
        go_wp2
        go_ret
        exact ⟨k, rfl, by rw [decide_eq_true (show (0 : Int) ≤ (k : Int) by omega), memB_true HM.out], rfl⟩
      · have t1 : (x.toList == y.toList) = false := by rw [hb]; exact decide_eq_false h
        have HN2 := hide (HX.out y HY.out h)
        clear hb h
        go_wp2
        exact ⟨⟨k + 1, by omega, by go_num, HN2⟩, by simp [intOf]; omega⟩
    · have HE : Hid (x ∉ V) := hide (by have := HN.out; rw [List.take_of_length_le (by omega)] at this; exact this)
      go_wp2
      go_ret
      exact ⟨-1, rfl, by rw [memB_false HE.out]; rfl, rfl⟩
theorem contains_any (w : World) (v : Value) (V : List ByteArray) (x : ByteArray) (hV : Strs w v V) (hl : V.length ≤ 1099511627776) :
    Calls Tryd.prog 27 #[v, .string x] w fun e w' => e = .returned (.bool (memB x V)) ∧ w = w' := by
  have HI := hide (index_any w v V x hV hl)
  obtain ⟨a1, c1, rfl, hcv⟩ := hV
  clear hcv
  generalize memB x V = d at HI ⊢
  go_enter Tryd.func27, Tryd.ntmps27
  go_wp2_with fail
  refine HI.out.mono ?_
  rintro e w1 ⟨r, rfl, hr, rfl⟩
  have HR := hide hr
  clear hr
  go_wp2
  go_ret
  exact ⟨by rw [← HR.out]; rfl, rfl⟩
theorem itemsS_len {A : List (ByteArray × ByteArray)} (hs : Sm A) (n : ByteArray) : (itemsS A n).length ≤ 1099511627776 := by
  have h1 := itemsV_len (allS A n) (fun x hx => allS_mem hs hx)
  have h2 := Nat.mul_le_mul_right 1048576 (allS_le (n := n) hs)
  unfold itemsS
  omega
set_option maxHeartbeats 1000000 in
theorem has_any (w : World) (l : Value) (A : List (ByteArray × ByteArray)) (n item : ByteArray) (hA : Flds w l A) (hs : Sm A) (hn : n.size ≤ 1048576) (hi : item.size ≤ 1048576) :
    Calls Tryd.prog 18 #[l, .string n, .string item] w fun e w' => e = .returned (.bool (hasB A n item)) ∧ Below w.heap.size w w' := by
  have HI := hide (items_any w l A n hA hs hn)
  have hL := itemsS_len hs n
  unfold hasB
  clear hA hs hn
  generalize itemsS A n = V at HI hL ⊢
  go_enter Tryd.func18, Tryd.ntmps18
  go_wp2_with fail
  refine HI.out.mono ?_
  rintro e w1 ⟨v1, rfl, hR, b1⟩
  have HS1 := hide (Strs.of_row hR)
  have B1 := hide b1
  clear HI b1
  obtain ⟨a1, c1, rfl, _, _⟩ := hR.shape
  clear hR
  go_wp2_with fail
  refine (lower_any item w1 (by unfold maxLen; omega)).mono ?_
  rintro e w2 ⟨rfl, b2⟩
  have HS2 := hide (HS1.out.below b2)
  have B2 := hide (B1.out.trans (b2.mono B1.out.size))
  clear b2 HS1 B1
  go_wp2_with fail
  refine (contains_any w2 _ V (lowS item) HS2.out hL).mono ?_
  rintro e w3 ⟨rfl, rfl⟩
  go_wp2
  go_ret
  exact ⟨rfl, B2.out⟩
set_option maxHeartbeats 1000000 in
theorem rhas_any (w : World) (l : Value) (A : List (ByteArray × ByteArray)) (n item : ByteArray) (hA : Flds w l A) (hs : Sm A) (hn : n.size ≤ 1048576) (hi : item.size ≤ 1048576) :
    Calls Tryd.prog 19 #[l, .string n, .string item] w fun e w' => e = .returned (.bool (hasB A n item)) ∧ Below w.heap.size w w' := by
  have HI := hide (ritems_any w l A n hA hs hn)
  have hL := itemsS_len hs n
  unfold hasB
  clear hA hs hn
  generalize itemsS A n = V at HI hL ⊢
  have HLW := hide (fun W => rlower_any item W (by omega))
  generalize lowS item = it at HLW ⊢
  clear hi
  go_enter Tryd.func19, Tryd.ntmps19
  go_wp2_with fail
  refine HI.out.mono ?_
  rintro e w1 ⟨v1, rfl, hR, b1⟩
  obtain ⟨a1, c1, rfl, hcv⟩ := Strs.of_row hR
  have HV := hide hcv
  have B1 := hide b1
  clear HI b1 hR hcv
  go_wp2
  go_loopw [13] (fun i wr => ∃ k : Nat, k ≤ V.length ∧ i = .int .i64 k ∧ Hid (it ∉ V.take k) ∧ Hid (Below w1.heap.size w1 wr)) (fun i _ => V.length - (intOf i).toNat)
  case atStart => exact ⟨0, Nat.zero_le _, rfl, hide (by simp), hide (Below.refl _ _)⟩
  case round =>
    obtain ⟨k, hk, rfl, HN, HB⟩ := hrel
    by_cases hlt : k < V.length
    · obtain ⟨g1, rfl, hgl, q1⟩ := HV.out k hlt
      have HM := hide (List.getElem_mem hlt)
      have HX := hide (fun y he hn => mem_next (x := it) (y := y) hlt he HN.out hn)
      obtain ⟨y, hy⟩ : ∃ y, V[k] = y := ⟨_, rfl⟩
      rw [hy] at q1 HM
      have HY := hide hy
      have r1 : wr.cell? ⟨g1, k, none⟩ = some (.string y) := (HB.out.cell (p := ⟨g1, k, none⟩) hgl).trans q1
      clear hy hgl q1
      have hb := bytes_eq y it
      go_wp2_with fail
      refine (HLW.out wr).mono ?_
      rintro e w2 ⟨rfl, b2⟩
      have HB2 := hide (HB.out.trans (b2.mono HB.out.size))
      clear b2
      by_cases h : y = it
      · subst h
        have t1 : (y.toList == y.toList) = true := by rw [hb]; exact decide_eq_true rfl
        clear hb
        go_wp2
        go_ret
        exact ⟨by rw [memB_true HM.out]; rfl, B1.out.trans (HB2.out.mono B1.out.size)⟩
      · have t1 : (y.toList == it.toList) = false := by rw [hb]; exact decide_eq_false h
        have HN2 := hide (HX.out y HY.out (fun e => h e.symm))
        clear hb h
        go_wp2
        exact ⟨⟨k + 1, by omega, by go_num, HN2, HB2⟩, by simp [intOf]; omega⟩
    · have HE : Hid (it ∉ V) := hide (by have := HN.out; rw [List.take_of_length_le (by omega)] at this; exact this)
      go_wp2
      go_ret
      exact ⟨by rw [memB_false HE.out]; rfl, B1.out.trans (HB.out.mono B1.out.size)⟩
end Go.Proofs.YtalihfohdejalaaDoor
