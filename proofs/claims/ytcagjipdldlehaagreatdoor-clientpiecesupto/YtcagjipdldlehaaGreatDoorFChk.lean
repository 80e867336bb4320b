/- Check: the program's, the document's. -/
import Derived.Test.YtcagjipdldlehaaGreatDoorFAll
namespace Go.Proofs.YtcagjipdldlehaaGreatDoor
open Go.ChangeShapes Go.WideShapes Go.ChangeAt Go.RowKit

def chkA (A : List (ByteArray × ByteArray)) : Nat := match A.find? (fun f => chkF f != 0) with
  | some f => chkF f
  | none => 0
def chkL (A : List (ByteArray × ByteArray)) : Nat := if 100 < A.length then 2 else chkA A
def okT (A : List (ByteArray × ByteArray)) (k : Nat) : Prop := ∀ f ∈ A.take k, chkF f = 0
theorem okT_next {A : List (ByteArray × ByteArray)} {k : Nat} (h : okT A k) (hk : k < A.length) {f : ByteArray × ByteArray} (he : A[k] = f) (h0 : chkF f = 0) : okT A (k + 1) := by
  intro f' hf
  rw [take_snocF A k hk, List.mem_append] at hf
  rcases hf with hf | hf
  · exact h _ hf
  · simp only [List.mem_singleton] at hf
    rw [hf, he]; exact h0
theorem okT_find {A : List (ByteArray × ByteArray)} {k : Nat} (h : okT A k) : (A.take k).find? (fun f => chkF f != 0) = none := by
  rw [List.find?_eq_none]
  intro f hf
  simp [h f hf]
theorem chk_hit {A : List (ByteArray × ByteArray)} {k : Nat} (h : okT A k) (hl : A.length ≤ 100) (hk : k < A.length) {f : ByteArray × ByteArray} (he : A[k] = f) (h0 : chkF f ≠ 0) : chkL A = chkF f := by
  unfold chkL
  rw [if_neg (by omega)]
  unfold chkA
  have e : A = A.take k ++ f :: A.drop (k + 1) := by rw [← he]; simp
  have e2 : A.find? (fun f => chkF f != 0) = some f := by
    rw [e, List.find?_append, okT_find h, List.find?_cons_of_pos (by simpa using h0)]; rfl
  rw [e2]
theorem chk_none {A : List (ByteArray × ByteArray)} {k : Nat} (h : okT A k) (hl : A.length ≤ 100) (hk : A.length ≤ k) : chkL A = 0 := by
  unfold chkL
  rw [if_neg (by omega)]
  unfold chkA
  have := okT_find h
  rw [List.take_of_length_le hk] at this
  rw [this]
theorem chkF_tok {a b : ByteArray} (h : tokenB a.data.toList = false) : chkF (a, b) = 70 := by unfold chkF; rw [h]; rfl
theorem chkF_val {a b : ByteArray} (h : tokenB a.data.toList = true) (h2 : valueB b.data.toList = false) : chkF (a, b) = 71 := by unfold chkF; rw [h, h2]; rfl
theorem chkF_ok {a b : ByteArray} (h : tokenB a.data.toList = true) (h2 : valueB b.data.toList = true) : chkF (a, b) = 0 := by unfold chkF; rw [h, h2]; rfl
theorem rvalue_b (s : ByteArray) (w : World) (hs : s.size ≤ maxLen) :
    Calls Tryz.prog 104 #[.string s] w fun e w' => e = .returned (.bool (valueB s.data.toList)) ∧ Below w.heap.size w w' :=
  (rvalue_any s w hs).mono fun _ _ ⟨h1, h2⟩ => ⟨h1, by rw [← h2]; exact Below.refl _ _⟩
set_option maxHeartbeats 2000000 in
theorem Check_any (w : World) (l : Value) (A : List (ByteArray × ByteArray)) (hA : Flds w l A) (hs : Sm A) :
    Calls Tryz.prog 124 #[l] w fun e w' => e = .returned (.int .i64 (chkL A : Nat)) ∧ Below w.heap.size w w' := by
  obtain ⟨a0, c0, rfl, hc0, hcells⟩ := hA
  have HF := hide hcells
  have HS := hide hs
  have hl : A.length ≤ 1048576 := hs.1
  clear hcells hs hc0
  by_cases hlong : 100 < A.length
  · have hC : chkL A = 2 := by unfold chkL; rw [if_pos hlong]
    rw [hC]
    have tl : (100 : Int) < (A.length : Int) := by omega
    go_enter Tryz.func124, Tryz.ntmps124
    go_wp2
    go_ret
    exact ⟨rfl, Below.refl _ _⟩
  · have tl : ¬ (100 : Int) < (A.length : Int) := by omega
    have hl2 : A.length ≤ 100 := by omega
    clear hlong
    go_enter Tryz.func124, Tryz.ntmps124
    go_wp2
    go_loopw [11] (fun i wr => ∃ k : Nat, k ≤ A.length ∧ i = .int .i64 k ∧ Hid (okT A k) ∧ Hid (Below w.heap.size w wr)) (fun i _ => A.length - (intOf i).toNat)
    case atStart => exact ⟨0, Nat.zero_le _, rfl, hide (fun f hf => by simp at hf), hide (Below.refl _ _)⟩
    case round =>
      obtain ⟨k, hk, rfl, HO, HB⟩ := hrel
      by_cases hlt : k < A.length
      · have HNX := hide (fun (f : ByteArray × ByteArray) he h0 => okT_next HO.out hlt (f := f) he h0)
        have HHT := hide (fun (f : ByteArray × ByteArray) he h0 => chk_hit HO.out hl2 hlt (f := f) he h0)
        obtain ⟨g1, o1, rfl, hgl, q1, q2⟩ := HF.out k hlt
        obtain ⟨z1, z2⟩ := HS.out.at k hlt
        obtain ⟨fa, fb, hf⟩ : ∃ fa fb, A[k] = (fa, fb) := ⟨_, _, rfl⟩
        rw [hf] at q1 q2 z1 z2
        have HE := hide hf
        clear hf
        have BW := hide (HB.out)
        have r1 : wr.cell? ⟨g1, o1 + k * 2, none⟩ = some (.string fa) := (BW.out.cell (p := ⟨g1, o1 + k * 2, none⟩) hgl).trans q1
        have r2 : wr.cell? ⟨g1, o1 + k * 2 + 1, none⟩ = some (.string fb) := (BW.out.cell (p := ⟨g1, o1 + k * 2 + 1, none⟩) hgl).trans q2
        clear q1 q2 hgl
        go_upto_region 6 with fail
        have HB2 := hide (HB.out.alloc HB.out.size (.cells #[.string fa, .string fb] 48))
        have HD := hide (hp_new wr (.cells #[.string fa, .string fb] 48))
        clear r1 r2 BW HB
        generalize wr.alloc (.cells #[.string fa, .string fb] 48) = x at HB2 HD ⊢
        generalize wr.heap.size = b at HD ⊢
        have d0 : x.cell? ⟨b, 0, none⟩ = some (.string fa) := cell_at HD.out 0
        have d1 : x.cell? ⟨b, 1, none⟩ = some (.string fb) := cell_at HD.out 1
        go_wp2_with fail
        refine (check_any fa fb x (by unfold maxLen; omega) (by unfold maxLen; omega)).mono ?_
        rintro e w2 ⟨rfl, bb⟩
        have HB3 := hide (HB2.out.trans (bb.mono HB2.out.size))
        have HD' := hide ((bb.block _ (lt_heap HD.out)).trans HD.out)
        clear HD d0 d1 HB2 bb
        have HD := HD'
        clear HD'
        have d0 : w2.cell? ⟨b, 0, none⟩ = some (.string fa) := cell_at HD.out 0
        have d1 : w2.cell? ⟨b, 1, none⟩ = some (.string fb) := cell_at HD.out 1
        by_cases h0 : chkF (fa, fb) = 0
        · have HO2 := hide (HNX.out _ HE.out h0)
          rw [h0]
          clear h0
          go_wp2
          exact ⟨⟨k + 1, by omega, by go_num, HO2, HB3⟩, by simp [intOf]; omega⟩
        · have HC := hide (HHT.out _ HE.out h0)
          have tb : (((chkF (fa, fb) : Nat) : Int) != 0) = true := by rw [bne_iff_ne]; omega
          generalize chkF (fa, fb) = c at HC tb ⊢
          clear h0
          go_wp2
          go_ret
          exact ⟨by rw [HC.out]; rfl, HB3.out⟩
      · have HC := hide (chk_none HO.out hl2 (by omega))
        go_wp2
        go_ret
        exact ⟨by rw [HC.out]; rfl, HB.out⟩
set_option maxHeartbeats 2000000 in
theorem rCheck_any (w : World) (l : Value) (A : List (ByteArray × ByteArray)) (hA : Flds w l A) (hs : Sm A) :
    Calls Tryz.prog 137 #[l] w fun e w' => e = .returned (.int .i64 (chkL A : Nat)) ∧ Below w.heap.size w w' := by
  obtain ⟨a0, c0, rfl, hc0, hcells⟩ := hA
  have HF := hide hcells
  have HS := hide hs
  have hl : A.length ≤ 1048576 := hs.1
  clear hcells hs hc0
  by_cases hlong : 100 < A.length
  · have hC : chkL A = 2 := by unfold chkL; rw [if_pos hlong]
    rw [hC]
    have tl : (100 : Int) < (A.length : Int) := by omega
    go_enter Tryz.func137, Tryz.ntmps137
    go_wp2
    go_ret
    exact ⟨rfl, Below.refl _ _⟩
  · have tl : ¬ (100 : Int) < (A.length : Int) := by omega
    have hl2 : A.length ≤ 100 := by omega
    clear hlong
    go_enter Tryz.func137, Tryz.ntmps137
    go_wp2
    go_loopw [10] (fun i wr => ∃ k : Nat, k ≤ A.length ∧ i = .int .i64 k ∧ Hid (okT A k) ∧ Hid (Below w.heap.size w wr)) (fun i _ => A.length - (intOf i).toNat)
    case atStart => exact ⟨0, Nat.zero_le _, rfl, hide (fun f hf => by simp at hf), hide (Below.refl _ _)⟩
    case round =>
      obtain ⟨k, hk, rfl, HO, HB⟩ := hrel
      by_cases hlt : k < A.length
      · have HNX := hide (fun (f : ByteArray × ByteArray) he h0 => okT_next HO.out hlt (f := f) he h0)
        have HHT := hide (fun (f : ByteArray × ByteArray) he h0 => chk_hit HO.out hl2 hlt (f := f) he h0)
        obtain ⟨g1, o1, rfl, hgl, q1, q2⟩ := HF.out k hlt
        obtain ⟨z1, z2⟩ := HS.out.at k hlt
        obtain ⟨fa, fb, hf⟩ : ∃ fa fb, A[k] = (fa, fb) := ⟨_, _, rfl⟩
        rw [hf] at q1 q2 z1 z2
        have HE := hide hf
        clear hf
        have BW := hide (HB.out)
        have r1 : wr.cell? ⟨g1, o1 + k * 2, none⟩ = some (.string fa) := (BW.out.cell (p := ⟨g1, o1 + k * 2, none⟩) hgl).trans q1
        have r2 : wr.cell? ⟨g1, o1 + k * 2 + 1, none⟩ = some (.string fb) := (BW.out.cell (p := ⟨g1, o1 + k * 2 + 1, none⟩) hgl).trans q2
        clear q1 q2 hgl
        go_upto_region 6 with fail
        have HB2 := hide (HB.out.alloc HB.out.size (.cells #[.string fa, .string fb] 48))
        have HD := hide (hp_new wr (.cells #[.string fa, .string fb] 48))
        clear r1 r2 BW HB
        generalize wr.alloc (.cells #[.string fa, .string fb] 48) = x at HB2 HD ⊢
        generalize wr.heap.size = b at HD ⊢
        have d0 : x.cell? ⟨b, 0, none⟩ = some (.string fa) := cell_at HD.out 0
        have d1 : x.cell? ⟨b, 1, none⟩ = some (.string fb) := cell_at HD.out 1
        go_wp2_with fail
        refine (rtoken_any fa x (by unfold maxLen; omega)).mono ?_
        rintro e w2 ⟨rfl, bb⟩
        have HB3 := hide (HB2.out.trans (bb.mono HB2.out.size))
        have HD' := hide ((bb.block _ (lt_heap HD.out)).trans HD.out)
        clear HD d0 d1 HB2 bb
        have HD := HD'
        clear HD'
        have d0 : w2.cell? ⟨b, 0, none⟩ = some (.string fa) := cell_at HD.out 0
        have d1 : w2.cell? ⟨b, 1, none⟩ = some (.string fb) := cell_at HD.out 1
        cases ht : tokenB fa.data.toList with
        | false =>
          have HC := hide (HHT.out _ HE.out (by rw [chkF_tok ht]; decide))
          rw [chkF_tok ht] at HC
          clear ht
          go_wp2
          go_ret
          exact ⟨by rw [HC.out]; rfl, HB3.out⟩
        | true =>
          go_wp2_with fail
          refine (rvalue_b fb w2 (by unfold maxLen; omega)).mono ?_
          rintro e w3 ⟨rfl, bb⟩
          have HB4 := hide (HB3.out.trans (bb.mono HB3.out.size))
          have HD' := hide ((bb.block _ (lt_heap HD.out)).trans HD.out)
          clear HD d0 d1 HB3 bb
          have HD := HD'
          clear HD'
          have d0 : w3.cell? ⟨b, 0, none⟩ = some (.string fa) := cell_at HD.out 0
          have d1 : w3.cell? ⟨b, 1, none⟩ = some (.string fb) := cell_at HD.out 1
          cases hv : valueB fb.data.toList with
          | false =>
            have HC := hide (HHT.out _ HE.out (by rw [chkF_val ht hv]; decide))
            rw [chkF_val ht hv] at HC
            clear ht hv
            go_wp2
            go_ret
            exact ⟨by rw [HC.out]; rfl, HB4.out⟩
          | true =>
            have HO2 := hide (HNX.out _ HE.out (chkF_ok ht hv))
            clear ht hv
            go_wp2
            exact ⟨⟨k + 1, by omega, by go_num, HO2, HB4⟩, by simp [intOf]; omega⟩
      · have HC := hide (chk_none HO.out hl2 (by omega))
        go_wp2
        go_ret
        exact ⟨by rw [HC.out]; rfl, HB.out⟩
end Go.Proofs.YtcagjipdldlehaaGreatDoor
