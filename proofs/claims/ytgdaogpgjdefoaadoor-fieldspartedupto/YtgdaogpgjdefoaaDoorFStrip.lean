/- Strip: the program's, the document's. -/
import Derived.Test.YtgdaogpgjdefoaaDoorFDrop
namespace Go.Proofs.YtgdaogpgjdefoaaDoor
open Go.ChangeShapes Go.WideShapes Go.ChangeAt Go.RowKit Go.Maps

def connS : ByteArray := ⟨#[99, 111, 110, 110, 101, 99, 116, 105, 111, 110]⟩
def sixS : List ByteArray := [⟨#[117, 112, 103, 114, 97, 100, 101]⟩, ⟨#[116, 114, 97, 110, 115, 102, 101, 114, 45, 101, 110, 99, 111, 100, 105, 110, 103]⟩, ⟨#[116, 101]⟩, ⟨#[112, 114, 111, 120, 121, 45, 99, 111, 110, 110, 101, 99, 116, 105, 111, 110]⟩, ⟨#[107, 101, 101, 112, 45, 97, 108, 105, 118, 101]⟩, ⟨#[99, 111, 110, 110, 101, 99, 116, 105, 111, 110]⟩]
def stripS (A : List (ByteArray × ByteArray)) : List (ByteArray × ByteArray) := dropS A ((itemsS A connS).reverse ++ sixS)
theorem sixS_small : ∀ s ∈ sixS, s.size ≤ 1048576 := by decide
theorem Names.grown {W W' : World} {b b2 : Nat} {S : List ByteArray} (h : Names W b S) (hg : W.grownBy W' (some b2)) (hne : b ≠ b2) : Names W' b S := h.frame (hg.block b h.lt (fun e => hne (Option.some.inj e)))
set_option maxHeartbeats 2000000 in
theorem strip_any (w : World) (l : Value) (A : List (ByteArray × ByteArray)) (hA : Flds w l A) (hs : Sm A) :
    Calls Tryd.prog 27 #[l] w fun e w' => ∃ v, e = .returned v ∧ FRow w' w.heap.size v (stripS A) ∧ Below w.heap.size w w' := by
  have hmm := @run_makeMap Tryd.prog
  have HA := hide hA
  have HI := hide (fun W (h : Flds W l A) => items_any W l A connS h hs (by decide))
  have hL := itemsS_len hs connS
  have HIM := hide (fun x (hx : x ∈ itemsS A connS) => itemsV_mem (allS A connS) (fun y hy => allS_mem hs hy) x hx)
  have HWO := hide (fun W (mv : Value) S (h : Flds W l A) (hm : MapIs W mv S) => without_any W l mv A S h hs hm)
  unfold stripS
  generalize itemsS A connS = V at HI hL HIM ⊢
  change Hid (∀ W, Flds W l A → Calls Tryd.prog 15 #[l, .string ⟨#[99, 111, 110, 110, 101, 99, 116, 105, 111, 110]⟩] W fun e w' => ∃ v, e = .returned v ∧ Row w' W.heap.size 9 v (sc V) ∧ Below W.heap.size W w') at HI
  obtain ⟨a0, c0, rfl, _, hcells⟩ := hA
  clear hs hcells
  have N0 := Names.made w
  have B0 := (Below.refl _ w).alloc (Nat.le_refl _) (.map #[] 0)
  obtain ⟨x1, u1, N1, G1⟩ := N0.put (s := ⟨#[99, 111, 110, 110, 101, 99, 116, 105, 111, 110]⟩) (by decide) (by unfold maxLen; decide)
  have B1 := B0.grown G1 B0.size (fun j hj => by cases hj; exact Nat.le_refl _)
  obtain ⟨x2, u2, N2, G2⟩ := N1.put (s := ⟨#[107, 101, 101, 112, 45, 97, 108, 105, 118, 101]⟩) (by decide) (by unfold maxLen; decide)
  have B2 := B1.grown G2 B1.size (fun j hj => by cases hj; exact Nat.le_refl _)
  obtain ⟨x3, u3, N3, G3⟩ := N2.put (s := ⟨#[112, 114, 111, 120, 121, 45, 99, 111, 110, 110, 101, 99, 116, 105, 111, 110]⟩) (by decide) (by unfold maxLen; decide)
  have B3 := B2.grown G3 B2.size (fun j hj => by cases hj; exact Nat.le_refl _)
  obtain ⟨x4, u4, N4, G4⟩ := N3.put (s := ⟨#[116, 101]⟩) (by decide) (by unfold maxLen; decide)
  have B4 := B3.grown G4 B3.size (fun j hj => by cases hj; exact Nat.le_refl _)
  obtain ⟨x5, u5, N5, G5⟩ := N4.put (s := ⟨#[116, 114, 97, 110, 115, 102, 101, 114, 45, 101, 110, 99, 111, 100, 105, 110, 103]⟩) (by decide) (by unfold maxLen; decide)
  have B5 := B4.grown G5 B4.size (fun j hj => by cases hj; exact Nat.le_refl _)
  obtain ⟨x6, u6, N6, G6⟩ := N5.put (s := ⟨#[117, 112, 103, 114, 97, 100, 101]⟩) (by decide) (by unfold maxLen; decide)
  have B6 := B5.grown G6 B5.size (fun j hj => by cases hj; exact Nat.le_refl _)
  change Names x6 w.heap.size sixS at N6
  have N7 := hide N6
  have B7 := hide B6
  clear N0 N1 N2 N3 N4 N5 N6 G1 G2 G3 G4 G5 G6 B0 B1 B2 B3 B4 B5 B6
  go_enter Tryd.func27, Tryd.ntmps27
  go_wp2_with fail
  clear u1 u2 u3 u4 u5 u6 hmm
  refine (HI.out x6 (HA.out.below B7.out)).mono ?_
  rintro e w1 ⟨v1, rfl, hR, b1⟩
  have N8 := hide (N7.out.below b1)
  have B8 := hide (B7.out.trans (b1.mono B7.out.size))
  have HAP : Hid (∀ g, v1.ownBlock = some g → g < w1.heap.size ∧ g ≠ w.heap.size) := hide (fun g hg => ⟨(hR.lt hg).2, fun e => by
    have h1 := (hR.lt hg).1
    have h2 := N7.out.lt
    omega⟩)
  obtain ⟨a1, c1, rfl, hcv⟩ := Strs.of_row hR
  have HV := hide hcv
  clear hcv hR b1 N7 B7
  go_wp2
  go_loopw [17] (fun i wr => ∃ k : Nat, k ≤ V.length ∧ i = .int .i64 k ∧ Hid (Names wr w.heap.size ((V.take k).reverse ++ sixS)) ∧ Hid (Below w.heap.size w wr) ∧ Hid (∀ g, g < w1.heap.size → g ≠ w.heap.size → wr.heap[g]? = w1.heap[g]?)) (fun i _ => V.length - (intOf i).toNat)
  case atStart => exact ⟨0, Nat.zero_le _, rfl, N8, B8, hide (fun _ _ _ => rfl)⟩
  case round =>
    obtain ⟨k, hk, rfl, HN, HB, HK⟩ := hrel
    by_cases hlt : k < V.length
    · obtain ⟨g1, rfl, hgl, q1⟩ := HV.out k hlt
      have hxs := HIM.out V[k] (List.getElem_mem hlt)
      have HTK := hide (take_snocF V k hlt)
      obtain ⟨x, hx⟩ : ∃ x, V[k] = x := ⟨_, rfl⟩
      rw [hx] at q1 hxs HTK
      clear hx
      have hap := HAP.out g1 rfl
      have r1 : wr.cell? ⟨g1, k, none⟩ = some (.string x) := by
        rw [← q1]
        unfold World.cell?
        rw [HK.out g1 hap.1 hap.2]
      clear q1 hgl hap
      have hsix : sixS.length = 6 := rfl
      obtain ⟨W', hrun, hN', hG'⟩ := HN.out.put (s := x) (by unfold maxLen; omega) (by rw [List.length_append, List.length_reverse, List.length_take, hsix]; unfold maxLen; omega)
      have HN2 : Hid (Names W' w.heap.size ((V.take (k + 1)).reverse ++ sixS)) := hide (by rw [HTK.out, List.reverse_append]; exact hN')
      have HB2 := hide (HB.out.grown hG' HB.out.size (fun j hj => by cases hj; exact Nat.le_refl _))
      have HS2 := hide (show wr.heap.size ≤ W'.heap.size from hG'.size)
      have HK2 : Hid (∀ g, g < w1.heap.size → g ≠ w.heap.size → W'.heap[g]? = w1.heap[g]?) := hide (fun g h1 h2 => by
        have h3 : g < wr.heap.size := by
          have h4 := HK.out g h1 h2
          rcases Nat.lt_or_ge g wr.heap.size with h5 | h5
          · exact h5
          · rw [Array.getElem?_eq_none h5] at h4
            have := Array.getElem?_eq_getElem (xs := w1.heap) h1
            rw [this] at h4
            cases h4
        rw [hG'.block g h3 (fun e => h2 (Option.some.inj e)), HK.out g h1 h2])
      clear hN' hG' hsix HTK
      go_wp2
      exact ⟨⟨k + 1, by omega, by go_num, HN2, HB2, HK2⟩, by simp [intOf]; omega⟩
    · have HE : Hid (Names wr w.heap.size (V.reverse ++ sixS)) := hide (by have := HN.out; rw [List.take_of_length_le (by omega)] at this; exact this)
      go_wp2_with fail
      refine (HWO.out wr _ _ (HA.out.below HB.out) (MapIs.of HE.out)).mono ?_
      rintro e w3 ⟨v3, rfl, hR3, b3⟩
      have R3 := hide hR3
      obtain ⟨a3, c3, rfl, _, _⟩ := hR3.shape
      clear hR3
      have B3 := hide (HB.out.trans (b3.mono HB.out.size))
      clear b3
      go_wp2
      go_ret
      exact ⟨_, rfl, R3.out.lower HB.out.size, B3.out⟩
end Go.Proofs.YtgdaogpgjdefoaaDoor
