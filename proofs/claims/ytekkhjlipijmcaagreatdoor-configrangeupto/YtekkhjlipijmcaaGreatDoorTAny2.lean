/- strings.IndexAny with these two marks, at every text: where a host ends. -/
import Derived.Test.YtekkhjlipijmcaaGreatDoorTAny
import Derived.Lib.OthersKept
namespace Go.Proofs.YtekkhjlipijmcaaGreatDoor
open Go.ChangeShapes Go.WideShapes Go.ChangeAt Go.RowKit

theorem rune_any (r : Int) (h0 : 128 ≤ r) (hv : r < 55296 ∨ (57343 < r ∧ r ≤ 1114111)) (w : World) : Calls Tryz.prog 123 #[.string mkS, .int .i32 r] w fun e w' => e = .returned (.int .i64 (-1)) ∧ Below w.heap.size w w' := by
  by_cases h : r = 65533
  · subst h; exact rune_bad w
  · exact rune_high r h0 hv h w
set_option maxRecDepth 1000000 in
set_option maxHeartbeats 1000000 in
theorem rune_low (c : UInt8) (h : c.toNat < 128) (w : World) : Calls Tryz.prog 123 #[.string mkS, .int .i32 (c.toNat : Int)] w fun e w' => e = .returned (.int .i64 (Lib.indexByte mk2 c)) ∧ Below w.heap.size w w' := by
  have HI : Hid (∀ w, Calls Tryz.prog 80 #[.string mkS, .int .u8 (c.toNat : Int)] w fun e w' => e = .returned (.int .i64 (Lib.indexByte mk2 c)) ∧ w' = w) := hide (fun w => by
    have := Tryz.strings_IndexByte mkS (c.toNat : Int) w
    rw [show ((c.toNat : Int)).toNat.toUInt8 = c by simp] at this
    exact this)
  have h0 : (0 : Int) ≤ (c.toNat : Int) := by omega
  have h1 : (c.toNat : Int) < 128 := by omega
  generalize Lib.indexByte mk2 c = z at *
  go_enter Tryz.func123, Tryz.ntmps123
  go_wp2_with (go_at_call 80; refine (HI.out _).mono ?_; rintro e w' ⟨rfl, rfl⟩)
  go_ret
  exact ⟨rfl, Below.refl _ _⟩

/-- The iterator stands there; nothing else has turned. -/
structure It (w x : World) (s : ByteArray) (i : Nat) : Prop where
  h : x.heap[w.heap.size]? = some (.stringIter s i)
  b : Below w.heap.size w x
theorem It.start (w : World) (s : ByteArray) : It w (w.iter s 0) s 0 := ⟨World.iter_heap w s 0, below_iter w s 0⟩
theorem It.move {w x : World} {s : ByteArray} {i : Nat} (h : It w x s i) (j : Nat) : It w (x.iterAt w.heap.size s j) s j := ⟨Lib.iterAt_heap x _ s i j h.h, Lib.below_iterAt h.b (Nat.le_refl _) s j⟩
theorem It.below {w x y : World} {s : ByteArray} {i : Nat} (h : It w x s i) (hb : Below x.heap.size x y) : It w y s i := ⟨(hb.block _ (lt_of_heap h.h)).trans h.h, h.b.trans (hb.mono h.b.size)⟩

set_option maxRecDepth 1000000 in
set_option maxHeartbeats 4000000 in
theorem any_short (s : ByteArray) (w : World) (h8 : s.size ≤ 8) :
    Calls Tryz.prog 110 #[.string s, .string mkS] w fun e w' => e = .returned (.int .i64 (Lib.indexAny s.data.toList mk2)) ∧ Below w.heap.size w w' := by
  have h8z : ¬ (8 : Int) < (s.size : Int) := by omega
  have hms : mkS.size = 2 := rfl
  have hme : mkS.toList.isEmpty = false := by rw [Lib.toList_data]; rfl
  go_enter Tryz.func110, Tryz.ntmps110
  go_wp2
  go_loopg [9, 10] s.size (fun g _ _ wx => ∃ i : Nat, i + g = s.size ∧ Hid (It w wx s i) ∧ Hid (Lib.NoAny s.data.toList mk2 i))
  case atStart => exact ⟨0, by omega, hide (It.start w s), hide (Lib.NoAny.zero _ _)⟩
  case round =>
    obtain ⟨i, hig, HI, HN⟩ := hrel
    by_cases hi : i < s.size
    · by_cases hc : s[i].toNat < 128
      · have hnx := fun ty => Lib.run_next_ascii_at (P := Tryz.prog) _ _ s i ty HI.out.h hi hc
        have HI2 := hide (HI.out.move (i + 1))
        have hcon := Lib.contains_iff_indexByte mk2 s[i]
        have HR := hide (rune_low s[i] hc)
        have Hx : Hid (s.data.toList[i]? = some s[i]) := hide (by rw [List.getElem?_eq_getElem (by rw [size_len]; exact hi)]; rfl)
        cases hin : mk2.contains s[i] with
        | false =>
          rw [hin] at hcon
          have hlt : ¬ ((0 : Int) ≤ Lib.indexByte mk2 s[i]) := of_decide_eq_false hcon.symm
          have HN2 := hide (HN.out.succ Hx.out hin)
          clear hcon hin
          generalize Lib.indexByte mk2 s[i] = z at *
          go_wp2_with fail
          refine (HR.out _).mono ?_
          rintro e w2 ⟨rfl, b2⟩
          have HI3 := hide (HI2.out.below b2)
          clear b2 HI2 HI
          go_wp2
          go_roundg (s.size - (i + 1))
          case measure => omega
          case rel => exact ⟨i + 1, by omega, HI3, HN2⟩
        | true =>
          rw [hin] at hcon
          have hge : (0 : Int) ≤ Lib.indexByte mk2 s[i] := of_decide_eq_true hcon.symm
          have HF := hide (Lib.indexAny_hit HN.out Hx.out hin)
          clear hcon hin
          generalize Lib.indexByte mk2 s[i] = z at *
          go_wp2_with fail
          refine (HR.out _).mono ?_
          rintro e w2 ⟨rfl, b2⟩
          have HI3 := hide (HI2.out.below b2)
          clear b2 HI2 HI
          go_wp2
          go_ret
          exact ⟨by rw [HF.out]; rfl, HI3.out.b⟩
      · have hov := decode_over s i hi (by omega)
        have HN2 := hide (noAny_over hi (by omega) HN.out)
        have hnx := fun ty => Lib.run_next_any_at (P := Tryz.prog) _ _ s i ty HI.out.h hi
        have HI2 := hide (HI.out.move (i + (Utf8.decode s i).2))
        generalize (Utf8.decode s i).2 = k at *
        obtain ⟨hk1, hk2, hr, _⟩ := hov
        have HR := hide (rune_any ((Utf8.decode s i).1 : Int) (by omega) (by omega))
        clear hr
        generalize (Utf8.decode s i).1 = rr at *
        go_wp2_with fail
        refine (HR.out _).mono ?_
        rintro e w2 ⟨rfl, b2⟩
        have HI3 := hide (HI2.out.below b2)
        clear b2 HI2 HI
        go_wp2
        go_roundg (s.size - (i + k))
        case measure => omega
        case rel => exact ⟨i + k, by omega, HI3, HN2⟩
    · have hnx := fun ty => Lib.run_next_end_at (P := Tryz.prog) _ _ s i ty HI.out.h hi
      have HF := hide (Lib.indexAny_none (s := s.data.toList) (chars := mk2) (by rw [size_len]; have e : i = s.size := (by omega); rw [← e]; exact HN.out))
      go_wp2
      go_ret
      exact ⟨by rw [HF.out]; rfl, HI.out.b⟩
/-- Where a host with a port ends. -/
def endI (l : List UInt8) : Int := Lib.indexAny l mk2
def endN (l : List UInt8) : Nat := if 0 ≤ endI l then (endI l).toNat else l.length
theorem endI_lt : ∀ l : List UInt8, endI l < l.length
  | [] => by simp [endI, Lib.indexAny]
  | b :: l => by
    have ih := endI_lt l
    unfold endI at *
    unfold Lib.indexAny
    split
    · simp
    · split
      · first | (simp; done) | (simp; omega)
      · first | (simp; done) | (simp; omega)
theorem endN_le (l : List UInt8) : endN l ≤ l.length := by
  have := endI_lt l
  unfold endN
  split
  · omega
  · exact Nat.le_refl _
set_option maxRecDepth 1000000 in
theorem zvA (w : World) : (zeroValue 102).run Tryz.prog w = .ok (.agg (Array.replicate 256 (.bool false))) w := by kernel_rfl
theorem mk_low (j : Nat) (b : UInt8) (h : mkS.data.toList[j]? = some b) : b.toNat < 128 := by
  have hm : b ∈ [47, 63] := List.mem_of_getElem? h
  simp only [List.mem_cons, List.not_mem_nil, or_false] at hm
  rcases hm with rfl | rfl <;> decide
theorem any_any (s : ByteArray) (w : World) (hs : s.size ≤ 8200) :
    Calls Tryz.prog 110 #[.string s, .string mkS] w fun e w' => e = .returned (.int .i64 (endI s.data.toList)) ∧ Below w.heap.size w w' := by
  by_cases h8 : s.size ≤ 8
  · exact any_short s w h8
  · refine (Tryz.strings_IndexAny_long zvA s mkS w (by decide) (by omega) (by omega) (by decide) mk_low).mono ?_
    rintro e w' ⟨rfl, rfl⟩
    exact ⟨rfl, ((Below.refl _ w).alloc (Nat.le_refl _) _).alloc (by simp) _⟩
theorem hostend_any (s : ByteArray) (w : World) (hs : s.size ≤ 8200) :
    Calls Tryz.prog 89 #[.string s] w fun e w' => e = .returned (.int .i64 (endN s.data.toList : Nat)) ∧ Below w.heap.size w w' := by
  have HA := hide (fun w => any_any s w hs)
  have hl := endI_lt s.data.toList
  unfold endN
  rw [size_len] at *
  generalize endI s.data.toList = z at *
  by_cases h : 0 ≤ z
  · rw [if_pos h]
    have HZ : Hid (((z.toNat : Nat) : Int) = z) := hide (by omega)
    go_enter Tryz.func89, Tryz.ntmps89
    go_wp2_with fail
    refine (HA.out _).mono ?_
    rintro e w2 ⟨rfl, b2⟩
    go_wp2
    go_ret
    exact ⟨by rw [HZ.out]; rfl, b2⟩
  · rw [if_neg h]
    go_enter Tryz.func89, Tryz.ntmps89
    go_wp2_with fail
    refine (HA.out _).mono ?_
    rintro e w2 ⟨rfl, b2⟩
    go_wp2
    go_ret
    exact ⟨rfl, b2⟩
def rootS (s : ByteArray) : ByteArray := if s.data.toList.head? = some 47 then s else slash ++ s
theorem root_size (s : ByteArray) : (rootS s).size ≤ s.size + 1 := by
  unfold rootS
  split
  · omega
  · rw [app_size, show slash.size = 1 from rfl]; omega
theorem rooted_any (s : ByteArray) (w : World) (hs : s.size ≤ 8200) :
    Calls Tryz.prog 90 #[.string s] w fun e w' => e = .returned (.string (rootS s)) ∧ w = w' := by
  have hP := Tryz.strings_HasPrefix s ⟨#[47]⟩
  rw [show (⟨#[47]⟩ : ByteArray).data.toList = [47] from rfl, prefix_head] at hP
  unfold rootS
  by_cases h1 : s.data.toList.head? = some 47
  · rw [if_pos h1]
    rw [decide_eq_true h1] at hP
    have HP := hide hP
    clear hP h1
    go_enter Tryz.func90, Tryz.ntmps90
    go_wp2_with (go_at_call 67; refine (HP.out _).mono ?_; rintro e w' ⟨rfl, rfl⟩)
    go_ret
    exact ⟨rfl, rfl⟩
  · rw [if_neg h1]
    rw [decide_eq_false h1] at hP
    have HP := hide hP
    clear hP h1
    go_enter Tryz.func90, Tryz.ntmps90
    go_wp2_with (go_at_call 67; refine (HP.out _).mono ?_; rintro e w' ⟨rfl, rfl⟩)
    go_ret
    exact ⟨rfl, rfl⟩
end Go.Proofs.YtekkhjlipijmcaaGreatDoor
