/- WD: TUtf TAny TAny2 TRead3 TSafeP TTaken RPl RCmp. -/
import Derived.Lib.DecodeN
import Derived.Lib.IndexAny
import Derived.Laws.RangeAny
import Derived.Laws.Runes
import Derived.Test.YtacnnomkacfdbaaGreatDoorWA
import Derived.Test.YtacnnomkacfdbaaGreatDoorWC
import Derived.Shelf.Strings.IndexAny
import Derived.Deep.LoopGhost
import Derived.WalkMore
import Derived.Deep.QuietTactic
import Derived.BigQuiet
import Derived.Lib.OthersKept
import Derived.Test.YtacnnomkacfdbaaGreatDoorWB
import Derived.Lib.IndexMore
/- What a decoded rune passes over: no program in it. -/
namespace Go.Proofs.YtacnnomkacfdbaaGreatDoor
open Go.ChangeShapes Go.WideShapes Go.ChangeAt Go.RowKit

theorem decodeN_high (n b0 b1 b2 b3 : Nat) (h0 : 128 ≤ b0) (hn : 1 ≤ n) :
    1 ≤ (Lib.decodeN n b0 b1 b2 b3).2 ∧ (Lib.decodeN n b0 b1 b2 b3).2 ≤ n ∧ (1 < (Lib.decodeN n b0 b1 b2 b3).2 → 128 ≤ b1) ∧ (2 < (Lib.decodeN n b0 b1 b2 b3).2 → 128 ≤ b2) ∧ (3 < (Lib.decodeN n b0 b1 b2 b3).2 → 128 ≤ b3) ∧ (Lib.decodeN n b0 b1 b2 b3).2 ≤ 4 ∧ 128 ≤ (Lib.decodeN n b0 b1 b2 b3).1 ∧
    ((Lib.decodeN n b0 b1 b2 b3).1 < 55296 ∨ (57343 < (Lib.decodeN n b0 b1 b2 b3).1 ∧ (Lib.decodeN n b0 b1 b2 b3).1 ≤ 1114111)) := by
  unfold Lib.decodeN
  rw [if_neg (by omega)]
  repeat' split
  all_goals (refine ⟨?_, ?_, ?_, ?_, ?_, ?_, ?_, ?_⟩ <;> simp only <;> omega)
theorem get_nth (s : ByteArray) (j : Nat) (h : j < s.size) : s.get! j = s[j] := by
  simp [ByteArray.get!, getElem!_pos, h]
  rfl
/-- Behind a byte from 128 on: a rune from 128 on; what it passes over lies there too. -/
theorem decode_over (s : ByteArray) (i : Nat) (h : i < s.size) (h0 : 128 ≤ s[i].toNat) :
    1 ≤ (Utf8.decode s i).2 ∧ i + (Utf8.decode s i).2 ≤ s.size ∧ (128 ≤ (Utf8.decode s i).1 ∧ ((Utf8.decode s i).1 < 55296 ∨ (57343 < (Utf8.decode s i).1 ∧ (Utf8.decode s i).1 ≤ 1114111))) ∧
    ∀ j (hj : j < s.size), i ≤ j → j < i + (Utf8.decode s i).2 → 128 ≤ s[j].toNat := by
  have hd := Lib.decode_at s i
  have hg : (s.get! i).toNat = s[i].toNat := by rw [get_nth s i h]
  have H := decodeN_high (s.size - i) (s.get! i).toNat (s.get! (i + 1)).toNat (s.get! (i + 2)).toNat (s.get! (i + 3)).toNat (by omega) (by omega)
  rw [← hd] at H
  obtain ⟨h1, h2, h3, h4, h5, h6, h7, h8⟩ := H
  refine ⟨h1, by omega, ⟨h7, h8⟩, fun j hj hij hjk => ?_⟩
  rcases Nat.lt_or_ge j (i + 1) with e | e
  · have : j = i := by omega
    subst this; exact h0
  · rcases Nat.lt_or_ge j (i + 2) with e2 | e2
    · have : j = i + 1 := by omega
      subst this
      rw [← get_nth s _ hj]; exact h3 (by omega)
    · rcases Nat.lt_or_ge j (i + 3) with e3 | e3
      · have : j = i + 2 := by omega
        subst this
        rw [← get_nth s _ hj]; exact h4 (by omega)
      · have : j = i + 3 := by omega
        subst this
        rw [← get_nth s _ hj]; exact h5 (by omega)
def mk2 : List UInt8 := [47, 63]
theorem mk2_no {b : UInt8} (h : 128 ≤ b.toNat) : mk2.contains b = false := by
  simp only [mk2, List.contains_cons, List.contains_nil, Bool.or_false]
  rw [Bool.or_eq_false_iff]
  constructor <;> exact beq_eq_false_iff_ne.2 fun e => by subst e; revert h; decide
theorem noAny_over {s : ByteArray} {i : Nat} (h : i < s.size) (h0 : 128 ≤ s[i].toNat) (hn : Lib.NoAny s.data.toList mk2 i) : Lib.NoAny s.data.toList mk2 (i + (Utf8.decode s i).2) := by
  intro j b hj hb
  by_cases hij : j < i
  · exact hn j b hij hb
  · have hjs : j < s.size := by
      have := (List.getElem?_eq_some_iff.1 hb).1
      rw [size_len] at this; exact this
    have hb2 : s[j] = b := by
      obtain ⟨_, h2⟩ := List.getElem?_eq_some_iff.1 hb
      rw [← h2]; rfl
    rw [← hb2]
    exact mk2_no ((decode_over s i h h0).2.2.2 j hjs (by omega) hj)
end Go.Proofs.YtacnnomkacfdbaaGreatDoor
/- strings.IndexAny with these two marks, at every text. -/
namespace Go.Proofs.YtacnnomkacfdbaaGreatDoor
open Go.ChangeShapes Go.WideShapes Go.ChangeAt Go.RowKit

def mkS : ByteArray := ⟨#[47, 63]⟩
theorem below_iter (w : World) (s : ByteArray) (p : Nat) : Below w.heap.size w (w.iter s p) := (Below.refl _ w).alloc (Nat.le_refl _) _
set_option maxRecDepth 1000000 in
set_option maxHeartbeats 2000000 in
theorem rune_bad (w : World) : Calls Tryz.prog 104 #[.string mkS, .int .i32 65533] w fun e w' => e = .returned (.int .i64 (-1)) ∧ Below w.heap.size w w' := by
  go_enter Tryz.func104, Tryz.ntmps104
  go_wp2
  go_loopg [5, 6] 2 (fun g _ _ wx => ∃ i : Nat, i + g = 2 ∧ wx = w.iter mkS i)
  case atStart => exact ⟨0, by omega, rfl⟩
  case round =>
    obtain ⟨i, hig, rfl⟩ := hrel
    cases gk with
    | zero =>
      obtain rfl : i = 2 := by omega
      have hnx := fun ty => run_next_end (P := Tryz.prog) w mkS 2 ty (by decide)
      go_wp2
      go_ret
      exact ⟨rfl, below_iter _ _ _⟩
    | succ g =>
      cases g with
      | zero =>
        obtain rfl : i = 1 := by omega
        have hnx := fun ty => run_next_ascii (P := Tryz.prog) w mkS 1 ty (by decide) (by decide)
        rw [show (mkS[1]'(by decide)).toNat = 63 from rfl] at hnx
        go_wp2
        go_roundg 0
        case measure => omega
        case rel => exact ⟨2, by omega, rfl⟩
      | succ g =>
        obtain rfl : i = 0 := by omega
        obtain rfl : g = 0 := by omega
        have hnx := fun ty => run_next_ascii (P := Tryz.prog) w mkS 0 ty (by decide) (by decide)
        rw [show (mkS[0]'(by decide)).toNat = 47 from rfl] at hnx
        go_wp2
        go_roundg 1
        case measure => omega
        case rel => exact ⟨1, by omega, rfl⟩
set_option maxRecDepth 1000000 in
set_option maxHeartbeats 2000000 in
theorem rune_high (r : Int) (h0 : 128 ≤ r) (hv : r < 55296 ∨ (57343 < r ∧ r ≤ 1114111)) (hne : r ≠ 65533) (w : World) : Calls Tryz.prog 104 #[.string mkS, .int .i32 r] w fun e w' => e = .returned (.int .i64 (-1)) ∧ Below w.heap.size w w' := by
  have hval : Utf8.valid r = true := by rw [validRune_eq]; unfold validRune; exact decide_eq_true (by omega)
  obtain ⟨E, hE, e1, e2, e3⟩ : ∃ E : ByteArray, Utf8.encode r = E ∧ 2 ≤ E.size ∧ E.size ≤ 4 ∧ ∀ h : E.size - 1 < E.size, 128 ≤ (E[E.size - 1]'h).toNat := ⟨_, rfl, encode_facts r hval h0⟩
  have tne : (r == 65533) = false := beq_eq_false_iff_ne.2 hne
  have H3 := hide e3
  clear e3 hval
  have cE : ∀ W : World, (convert 21 9 (.int .i32 r)).run Tryz.prog W = .ok (.string E) W := fun W => by rw [run_convert_int_string W 21 9 .i32 r (by rw [Tryz.underlying21]; rfl) Tryz.underlying9, hE]
  have HI := hide (fun c w => Tryz.strings_IndexByte (⟨#[]⟩ : ByteArray) c w)
  clear hE
  by_cases h2 : E.size = 2
  · obtain ⟨a, b, rfl⟩ : ∃ a b : UInt8, E = ⟨#[a, b]⟩ := by
      obtain ⟨⟨l⟩⟩ := E
      match l, h2 with
      | [a, b], _ => exact ⟨a, b, rfl⟩
    have hb : 128 ≤ b.toNat := H3.out (by show 1 < 2; omega)
    have tb : ((63 : Int) != (b.toNat : Int)) = true := by rw [bne_iff_ne]; omega
    clear H3 e1 e2 h2
    have hsl : ∀ W : World, (Instr.slice 9 (.string mkS) (some (.int .i64 2)) none none).run Tryz.prog W = .ok (.string ⟨#[]⟩) W := fun W => by
      simp [Instr.slice, go_sem, mkS]
      rfl
    have HJ : Hid (∀ w : World, Calls Tryz.prog 109 #[.string ⟨#[]⟩, .int .u8 (b.toNat : Int)] w fun e w' => e = .returned (.int .i64 (-1)) ∧ w' = w) := hide (fun w => HI.out _ w)
    clear HI
    have hw2 : IntKind.i64.wrap 2 = 2 := by decide
    have hi1 : ∀ W : World, (Instr.index 9 (.string mkS) (.int .i64 1)).run Tryz.prog W = .ok (.int .u8 63) W := fun W => by
      simp [Instr.index, go_sem, mkS]
      try rfl
    have hi2 : ∀ W : World, (Instr.index 9 (.string ⟨#[a, b]⟩) (.int .i64 1)).run Tryz.prog W = .ok (.int .u8 (b.toNat : Int)) W := fun W => by
      simp [Instr.index, go_sem]
      try rfl
    rcases hv with hv | hv
    · go_enter Tryz.func104, Tryz.ntmps104
      go_wp2
      go_step3
      go_wp2
      go_loopg [9, 10] 1 (fun g i f wx => i = .int .i64 1 ∧ f = .int .i64 0 ∧ wx = w)
      case atStart => exact ⟨rfl, rfl, rfl⟩
      case round =>
        obtain ⟨rfl, rfl, rfl⟩ := hrel
        go_wp2
        go_step3
        go_wp2
        go_quiet (fail)
        have HX := hide (below_drewN wr nq)
        generalize wr.drewN nq = wx at HX ⊢
        go_wp2
        go_quiet (first | (go_at_call 109; refine Calls.quiet_of_same (HJ.out _)))
        go_wp2
        rw [Exit.noGoto_ret]
        go_wp2
        try rw [Exit.noGoto_ret]
        go_wp2
        go_ret
        exact ⟨rfl, HX.out.trans ((below_drewN wx nq).mono HX.out.size)⟩
    · go_enter Tryz.func104, Tryz.ntmps104
      go_wp2
      go_step3
      go_wp2
      go_loopg [9, 10] 1 (fun g i f wx => i = .int .i64 1 ∧ f = .int .i64 0 ∧ wx = w)
      case atStart => exact ⟨rfl, rfl, rfl⟩
      case round =>
        obtain ⟨rfl, rfl, rfl⟩ := hrel
        go_wp2
        go_step3
        go_wp2
        go_quiet (fail)
        have HX := hide (below_drewN wr nq)
        generalize wr.drewN nq = wx at HX ⊢
        go_wp2
        go_quiet (first | (go_at_call 109; refine Calls.quiet_of_same (HJ.out _)))
        go_wp2
        rw [Exit.noGoto_ret]
        go_wp2
        try rw [Exit.noGoto_ret]
        go_wp2
        go_ret
        exact ⟨rfl, HX.out.trans ((below_drewN wx nq).mono HX.out.size)⟩
  · have h3 : ¬ (E.size : Int) - 1 < (mkS.size : Int) := by rw [show mkS.size = 2 from rfl]; omega
    clear HI H3
    rcases hv with hv | hv
    · go_enter Tryz.func104, Tryz.ntmps104
      go_wp2
      go_step3
      go_wp2
      go_loopg [9, 10] 1 (fun g i f wx => i = .int .i64 ((E.size : Int) - 1) ∧ f = .int .i64 0 ∧ wx = w)
      case atStart => exact ⟨rfl, rfl, rfl⟩
      case round =>
        obtain ⟨rfl, rfl, rfl⟩ := hrel
        go_wp2
        try rw [Exit.noGoto_ret]
        try go_wp2
        go_ret
        exact ⟨rfl, Below.refl _ _⟩
    · go_enter Tryz.func104, Tryz.ntmps104
      go_wp2
      go_step3
      go_wp2
      go_loopg [9, 10] 1 (fun g i f wx => i = .int .i64 ((E.size : Int) - 1) ∧ f = .int .i64 0 ∧ wx = w)
      case atStart => exact ⟨rfl, rfl, rfl⟩
      case round =>
        obtain ⟨rfl, rfl, rfl⟩ := hrel
        go_wp2
        try rw [Exit.noGoto_ret]
        try go_wp2
        go_ret
        exact ⟨rfl, Below.refl _ _⟩
end Go.Proofs.YtacnnomkacfdbaaGreatDoor
/- strings.IndexAny with these two marks, at every text: where a host ends. -/
namespace Go.Proofs.YtacnnomkacfdbaaGreatDoor
open Go.ChangeShapes Go.WideShapes Go.ChangeAt Go.RowKit

theorem rune_any (r : Int) (h0 : 128 ≤ r) (hv : r < 55296 ∨ (57343 < r ∧ r ≤ 1114111)) (w : World) : Calls Tryz.prog 104 #[.string mkS, .int .i32 r] w fun e w' => e = .returned (.int .i64 (-1)) ∧ Below w.heap.size w w' := by
  by_cases h : r = 65533
  · subst h; exact rune_bad w
  · exact rune_high r h0 hv h w
set_option maxRecDepth 1000000 in
set_option maxHeartbeats 1000000 in
theorem rune_low (c : UInt8) (h : c.toNat < 128) (w : World) : Calls Tryz.prog 104 #[.string mkS, .int .i32 (c.toNat : Int)] w fun e w' => e = .returned (.int .i64 (Lib.indexByte mk2 c)) ∧ Below w.heap.size w w' := by
  have HI : Hid (∀ w, Calls Tryz.prog 109 #[.string mkS, .int .u8 (c.toNat : Int)] w fun e w' => e = .returned (.int .i64 (Lib.indexByte mk2 c)) ∧ w' = w) := hide (fun w => by
    have := Tryz.strings_IndexByte mkS (c.toNat : Int) w
    rw [show ((c.toNat : Int)).toNat.toUInt8 = c by simp] at this
    exact this)
  have h0 : (0 : Int) ≤ (c.toNat : Int) := by omega
  have h1 : (c.toNat : Int) < 128 := by omega
  generalize Lib.indexByte mk2 c = z at *
  go_enter Tryz.func104, Tryz.ntmps104
  go_wp2_with (go_at_call 109; refine (HI.out _).mono ?_; rintro e w' ⟨rfl, rfl⟩)
  go_ret
  exact ⟨rfl, Below.refl _ _⟩

/-- The iterator stands there; nothing else has turned. -/
structure It (w x : World) (s : ByteArray) (i : Nat) : Prop where
  h : x.heap[w.heap.size]? = some (.stringIter s i)
  b : Below w.heap.size w x
theorem It.start (w : World) (s : ByteArray) : It w (w.iter s 0) s 0 := ⟨World.iter_heap w s 0, below_iter w s 0⟩
theorem It.move {w x : World} {s : ByteArray} {i : Nat} (h : It w x s i) (j : Nat) : It w (x.iterAt w.heap.size s j) s j := ⟨Lib.iterAt_heap x _ s i j h.h, Lib.below_iterAt h.b (Nat.le_refl _) s j⟩
theorem It.below {w x y : World} {s : ByteArray} {i : Nat} (h : It w x s i) (hb : Below x.heap.size x y) : It w y s i := ⟨(hb.block _ (lt_of_heap h.h)).trans h.h, h.b.trans (hb.mono h.b.size)⟩

set_option maxRecDepth 1000000 in
set_option maxHeartbeats 4000000 in
theorem any_short (s : ByteArray) (w : World) (h8 : s.size ≤ 8) :
    Calls Tryz.prog 80 #[.string s, .string mkS] w fun e w' => e = .returned (.int .i64 (Lib.indexAny s.data.toList mk2)) ∧ Below w.heap.size w w' := by
  have h8z : ¬ (8 : Int) < (s.size : Int) := by omega
  have hms : mkS.size = 2 := rfl
  have hme : mkS.toList.isEmpty = false := by rw [Lib.toList_data]; rfl
  go_enter Tryz.func80, Tryz.ntmps80
  go_wp2
  go_loopg [9, 10] s.size (fun g _ _ wx => ∃ i : Nat, i + g = s.size ∧ Hid (It w wx s i) ∧ Hid (Lib.NoAny s.data.toList mk2 i))
  case atStart => exact ⟨0, by omega, hide (It.start w s), hide (Lib.NoAny.zero _ _)⟩
  case round =>
    obtain ⟨i, hig, HI, HN⟩ := hrel
    by_cases hi : i < s.size
    · by_cases hc : s[i].toNat < 128
      · have hnx := fun ty => Lib.run_next_ascii_at (P := Tryz.prog) _ _ s i ty HI.out.h hi hc
        have HI2 := hide (HI.out.move (i + 1))
        have hcon := Lib.contains_iff_indexByte mk2 s[i]
        have HR := hide (rune_low s[i] hc)
        have Hx : Hid (s.data.toList[i]? = some s[i]) := hide (by rw [List.getElem?_eq_getElem (by rw [size_len]; exact hi)]; rfl)
        cases hin : mk2.contains s[i] with
        | false =>
          rw [hin] at hcon
          have hlt : ¬ ((0 : Int) ≤ Lib.indexByte mk2 s[i]) := of_decide_eq_false hcon.symm
          have HN2 := hide (HN.out.succ Hx.out hin)
          clear hcon hin
          generalize Lib.indexByte mk2 s[i] = z at *
          go_wp2_with fail
          refine (HR.out _).mono ?_
          rintro e w2 ⟨rfl, b2⟩
          have HI3 := hide (HI2.out.below b2)
          clear b2 HI2 HI
          go_wp2
          go_roundg (s.size - (i + 1))
          case measure => omega
          case rel => exact ⟨i + 1, by omega, HI3, HN2⟩
        | true =>
          rw [hin] at hcon
          have hge : (0 : Int) ≤ Lib.indexByte mk2 s[i] := of_decide_eq_true hcon.symm
          have HF := hide (Lib.indexAny_hit HN.out Hx.out hin)
          clear hcon hin
          generalize Lib.indexByte mk2 s[i] = z at *
          go_wp2_with fail
          refine (HR.out _).mono ?_
          rintro e w2 ⟨rfl, b2⟩
          have HI3 := hide (HI2.out.below b2)
          clear b2 HI2 HI
          go_wp2
          go_ret
          exact ⟨by rw [HF.out]; rfl, HI3.out.b⟩
      · have hov := decode_over s i hi (by omega)
        have HN2 := hide (noAny_over hi (by omega) HN.out)
        have hnx := fun ty => Lib.run_next_any_at (P := Tryz.prog) _ _ s i ty HI.out.h hi
        have HI2 := hide (HI.out.move (i + (Utf8.decode s i).2))
        generalize (Utf8.decode s i).2 = k at *
        obtain ⟨hk1, hk2, hr, _⟩ := hov
        have HR := hide (rune_any ((Utf8.decode s i).1 : Int) (by omega) (by omega))
        clear hr
        generalize (Utf8.decode s i).1 = rr at *
        go_wp2_with fail
        refine (HR.out _).mono ?_
        rintro e w2 ⟨rfl, b2⟩
        have HI3 := hide (HI2.out.below b2)
        clear b2 HI2 HI
        go_wp2
        go_roundg (s.size - (i + k))
        case measure => omega
        case rel => exact ⟨i + k, by omega, HI3, HN2⟩
    · have hnx := fun ty => Lib.run_next_end_at (P := Tryz.prog) _ _ s i ty HI.out.h hi
      have HF := hide (Lib.indexAny_none (s := s.data.toList) (chars := mk2) (by rw [size_len]; have e : i = s.size := (by omega); rw [← e]; exact HN.out))
      go_wp2
      go_ret
      exact ⟨by rw [HF.out]; rfl, HI.out.b⟩
/-- Where a host with a port ends. -/
def endI (l : List UInt8) : Int := Lib.indexAny l mk2
def endN (l : List UInt8) : Nat := if 0 ≤ endI l then (endI l).toNat else l.length
theorem endI_lt : ∀ l : List UInt8, endI l < l.length
  | [] => by simp [endI, Lib.indexAny]
  | b :: l => by
    have ih := endI_lt l
    unfold endI at *
    unfold Lib.indexAny
    split
    · simp
    · split
      · first | (simp; done) | (simp; omega)
      · first | (simp; done) | (simp; omega)
theorem endN_le (l : List UInt8) : endN l ≤ l.length := by
  have := endI_lt l
  unfold endN
  split
  · omega
  · exact Nat.le_refl _
set_option maxRecDepth 1000000 in
theorem zvA (w : World) : (zeroValue 131).run Tryz.prog w = .ok (.agg (Array.replicate 256 (.bool false))) w := by kernel_rfl
theorem mk_low (j : Nat) (b : UInt8) (h : mkS.data.toList[j]? = some b) : b.toNat < 128 := by
  have hm : b ∈ [47, 63] := List.mem_of_getElem? h
  simp only [List.mem_cons, List.not_mem_nil, or_false] at hm
  rcases hm with rfl | rfl <;> decide
theorem any_any (s : ByteArray) (w : World) (hs : s.size ≤ 8200) :
    Calls Tryz.prog 80 #[.string s, .string mkS] w fun e w' => e = .returned (.int .i64 (endI s.data.toList)) ∧ Below w.heap.size w w' := by
  by_cases h8 : s.size ≤ 8
  · exact any_short s w h8
  · refine (Tryz.strings_IndexAny_long zvA s mkS w (by decide) (by omega) (by omega) (by decide) mk_low).mono ?_
    rintro e w' ⟨rfl, rfl⟩
    exact ⟨rfl, ((Below.refl _ w).alloc (Nat.le_refl _) _).alloc (by simp) _⟩
theorem hostend_any (s : ByteArray) (w : World) (hs : s.size ≤ 8200) :
    Calls Tryz.prog 52 #[.string s] w fun e w' => e = .returned (.int .i64 (endN s.data.toList : Nat)) ∧ Below w.heap.size w w' := by
  have HA := hide (fun w => any_any s w hs)
  have hl := endI_lt s.data.toList
  unfold endN
  rw [size_len] at *
  generalize endI s.data.toList = z at *
  by_cases h : 0 ≤ z
  · rw [if_pos h]
    have HZ : Hid (((z.toNat : Nat) : Int) = z) := hide (by omega)
    go_enter Tryz.func52, Tryz.ntmps52
    go_wp2_with fail
    refine (HA.out _).mono ?_
    rintro e w2 ⟨rfl, b2⟩
    go_wp2
    go_ret
    exact ⟨by rw [HZ.out]; rfl, b2⟩
  · rw [if_neg h]
    go_enter Tryz.func52, Tryz.ntmps52
    go_wp2_with fail
    refine (HA.out _).mono ?_
    rintro e w2 ⟨rfl, b2⟩
    go_wp2
    go_ret
    exact ⟨rfl, b2⟩
def rootS (s : ByteArray) : ByteArray := if s.data.toList.head? = some 47 then s else slash ++ s
theorem root_size (s : ByteArray) : (rootS s).size ≤ s.size + 1 := by
  unfold rootS
  split
  · omega
  · rw [app_size, show slash.size = 1 from rfl]; omega
theorem rooted_any (s : ByteArray) (w : World) (hs : s.size ≤ 8200) :
    Calls Tryz.prog 53 #[.string s] w fun e w' => e = .returned (.string (rootS s)) ∧ w = w' := by
  have hP := Tryz.strings_HasPrefix s ⟨#[47]⟩
  rw [show (⟨#[47]⟩ : ByteArray).data.toList = [47] from rfl, prefix_head] at hP
  unfold rootS
  by_cases h1 : s.data.toList.head? = some 47
  · rw [if_pos h1]
    rw [decide_eq_true h1] at hP
    have HP := hide hP
    clear hP h1
    go_enter Tryz.func53, Tryz.ntmps53
    go_wp2_with (go_at_call 41; refine (HP.out _).mono ?_; rintro e w' ⟨rfl, rfl⟩)
    go_ret
    exact ⟨rfl, rfl⟩
  · rw [if_neg h1]
    rw [decide_eq_false h1] at hP
    have HP := hide hP
    clear hP h1
    go_enter Tryz.func53, Tryz.ntmps53
    go_wp2_with (go_at_call 41; refine (HP.out _).mono ?_; rintro e w' ⟨rfl, rfl⟩)
    go_ret
    exact ⟨rfl, rfl⟩
end Go.Proofs.YtacnnomkacfdbaaGreatDoor
/- What a target tells in the absolute form: by the program. -/
namespace Go.Proofs.YtacnnomkacfdbaaGreatDoor
open Go.ChangeShapes Go.WideShapes Go.ChangeAt Go.RowKit

def absT (s : ByteArray) : ByteArray := s.extract 7 s.size
def absH (s : ByteArray) : ByteArray := (absT s).extract 0 (endN (absT s).data.toList)
def absR (s : ByteArray) : ByteArray := rootS ((absT s).extract (endN (absT s).data.toList) (absT s).size)

set_option maxHeartbeats 2000000 in
theorem read_abs_bad (s : ByteArray) (w : World) (hs : s.size ≤ 8192) (h7 : 7 ≤ s.size) (hbad : hostE (absH s).data.toList ≠ 0) :
    Calls Tryz.prog 29 #[.int .i64 2, .string s] w fun e w' => e = .returned (.tuple #[tgV 2 (hostS (absH s)) (hostP (absH s).data.toList) ⟨#[]⟩ ⟨#[]⟩ false, .int .i64 (hostE (absH s).data.toList : Nat)]) ∧ Below w.heap.size w w' := by
  have hT : (absT s).size = s.size - 7 := by unfold absT; rw [ext_size]; omega
  have hE := fun w => hostend_any (absT s) w (by omega)
  have hH := fun w => host_any (absH s) w (by have : (absH s).size ≤ (absT s).size := (by unfold absH; rw [ext_size]; omega); omega)
  have hle := endN_le (absT s).data.toList
  rw [size_len] at hle
  generalize hostS (absH s) = hn at hH ⊢
  generalize hostP (absH s).data.toList = hp at hH ⊢
  generalize hostE (absH s).data.toList = he at hH hbad ⊢
  unfold absH at hH
  generalize endN (absT s).data.toList = n at hH hE hle 
  have HE := hide hE
  have HH := hide hH
  clear hE hH
  have eT : s.extract 7 s.size = absT s := rfl
  have hnT : ((n : Nat) : Int) ≤ ((absT s).size : Int) := by omega
  have hT8 : (absT s).size ≤ 8192 := by omega
  clear hT
  go_enter Tryz.func29, Tryz.ntmps29
  go_wp2_with fail
  have T0 := hide (Two.start w #[.int .i64 0, .string ⟨#[]⟩, .int .i64 0, .string ⟨#[]⟩, .string ⟨#[]⟩, .bool false] #[.int .i64 2, .string ⟨#[]⟩, .int .i64 (-1), .string ⟨#[]⟩, .string ⟨#[]⟩, .bool false])
  generalize ((w.alloc (.cells #[.int .i64 0, .string ⟨#[]⟩, .int .i64 0, .string ⟨#[]⟩, .string ⟨#[]⟩, .bool false] 53)).alloc (.cells #[.int .i64 2, .string ⟨#[]⟩, .int .i64 (-1), .string ⟨#[]⟩, .string ⟨#[]⟩, .bool false] 53)) = x at T0 ⊢
  clear eT
  generalize absT s = T at *
  refine (HE.out _).mono ?_
  rintro e w1 ⟨rfl, b1'⟩
  have T1 := hide (T0.out.below b1')
  clear b1' T0
  go_wp2_with fail
  refine (HH.out _).mono ?_
  rintro e w2 ⟨rfl, b2'⟩
  have T2 := hide (T1.out.below b2')
  clear b2' T1
  have f1 := T2.out.fr1 1
  have f2 := T2.out.fr1 2
  have tE : ((he : Int) != 0) = true := by rw [bne_iff_ne]; omega
  clear hbad
  have d0 : w2.cell? ⟨w.heap.size + 1, 0, none⟩ = some (.int .i64 2) := T2.out.cell1 0
  have d1 : w2.cell? ⟨w.heap.size + 1, 1, none⟩ = some (.string ⟨#[]⟩) := T2.out.cell1 1
  have d2 : w2.cell? ⟨w.heap.size + 1, 2, none⟩ = some (.int .i64 (-1)) := T2.out.cell1 2
  have d3 : w2.cell? ⟨w.heap.size + 1, 3, none⟩ = some (.string ⟨#[]⟩) := T2.out.cell1 3
  have d4 : w2.cell? ⟨w.heap.size + 1, 4, none⟩ = some (.string ⟨#[]⟩) := T2.out.cell1 4
  have d5 : w2.cell? ⟨w.heap.size + 1, 5, none⟩ = some (.bool false) := T2.out.cell1 5
  have r0 : w2.cell? ⟨w.heap.size, 0, none⟩ = some (.int .i64 0) := T2.out.cell0 0
  have r1 : w2.cell? ⟨w.heap.size, 1, none⟩ = some (.string ⟨#[]⟩) := T2.out.cell0 1
  have r2 : w2.cell? ⟨w.heap.size, 2, none⟩ = some (.int .i64 0) := T2.out.cell0 2
  have r3 : w2.cell? ⟨w.heap.size, 3, none⟩ = some (.string ⟨#[]⟩) := T2.out.cell0 3
  have r4 : w2.cell? ⟨w.heap.size, 4, none⟩ = some (.string ⟨#[]⟩) := T2.out.cell0 4
  have r5 : w2.cell? ⟨w.heap.size, 5, none⟩ = some (.bool false) := T2.out.cell0 5
  have g0 := T2.out.fr0 0
  have g1 := T2.out.fr0 1
  have g2 := T2.out.fr0 2
  have g3 := T2.out.fr0 3
  have g4 := T2.out.fr0 4
  have g5 := T2.out.fr0 5
  have T3 := hide ((T2.out.set1 1 (.string hn)).set1 2 (.int .i64 hp))
  go_wp2
  have T4 := hide ((((((T3.out.set0 0 (.int .i64 2)).set0 1 (.string hn)).set0 2 (.int .i64 hp)).set0 3 (.string ⟨#[]⟩)).set0 4 (.string ⟨#[]⟩)).set0 5 (.bool false))
  generalize ((((((((w2.setCell ⟨w.heap.size + 1, 1, none⟩ (.string hn)).setCell ⟨w.heap.size + 1, 2, none⟩ (.int .i64 hp)).setCell ⟨w.heap.size, 0, none⟩ (.int .i64 2)).setCell ⟨w.heap.size, 1, none⟩ (.string hn)).setCell ⟨w.heap.size, 2, none⟩ (.int .i64 hp)).setCell ⟨w.heap.size, 3, none⟩ (.string ⟨#[]⟩)).setCell ⟨w.heap.size, 4, none⟩ (.string ⟨#[]⟩)).setCell ⟨w.heap.size, 5, none⟩ (.bool false)) = w4 at T4 ⊢
  have k0 : w4.cell? ⟨w.heap.size, 0, none⟩ = some (.int .i64 2) := T4.out.cell0 0
  have k1 : w4.cell? ⟨w.heap.size, 1, none⟩ = some (.string hn) := T4.out.cell0 1
  have k2 : w4.cell? ⟨w.heap.size, 2, none⟩ = some (.int .i64 hp) := T4.out.cell0 2
  have k3 : w4.cell? ⟨w.heap.size, 3, none⟩ = some (.string ⟨#[]⟩) := T4.out.cell0 3
  have k4 : w4.cell? ⟨w.heap.size, 4, none⟩ = some (.string ⟨#[]⟩) := T4.out.cell0 4
  have k5 : w4.cell? ⟨w.heap.size, 5, none⟩ = some (.bool false) := T4.out.cell0 5
  clear d0 d1 d2 d3 d4 d5 r0 r1 r2 r3 r4 r5 g0 g1 g2 g3 g4 g5
  refine bodyPost_ret (v := .tuple #[tgV 2 hn hp ⟨#[]⟩ ⟨#[]⟩ false, .int .i64 he]) (by simp [results, Tryz.results29, go_sem, k0, k1, k2, k3, k4, k5, tgV]) rfl ⟨rfl, T4.out.b⟩
set_option maxHeartbeats 2000000 in
theorem read_abs_ok (s : ByteArray) (w : World) (hs : s.size ≤ 8192) (h7 : 7 ≤ s.size) (hm : MX w) (hbad : hostE (absH s).data.toList = 0) :
    Calls Tryz.prog 29 #[.int .i64 2, .string s] w fun e w' => e = .returned (.tuple #[tgV 2 (hostS (absH s)) (hostP (absH s).data.toList) (cutP (absR s)) (cutQ (absR s)) (cutA (absR s)), .int .i64 (if locB (absR s) then 0 else 60)]) ∧ Below w.heap.size w w' := by
  have HM := hide hm
  clear hm
  have hzr : (absR s).size ≤ 8193 := by
    have h1 := root_size ((absT s).extract (endN (absT s).data.toList) (absT s).size)
    have h2 : ((absT s).extract (endN (absT s).data.toList) (absT s).size).size ≤ (absT s).size := by rw [ext_size]; omega
    have h3 : (absT s).size = s.size - 7 := by unfold absT; rw [ext_size]; omega
    show (rootS _).size ≤ _
    omega
  have hz := cut_size (absR s)
  have hC := fun w => cut_at (absR s) w (by omega)
  have hH1 := fun w => holds_any (cutP (absR s)) ⟨#[45, 46, 95, 126, 33, 36, 38, 39, 40, 41, 42, 43, 44, 59, 61, 58, 64, 47]⟩ w
  have hH2 := fun w => holds_any (cutQ (absR s)) ⟨#[45, 46, 95, 126, 33, 36, 38, 39, 40, 41, 42, 43, 44, 59, 61, 58, 64, 47, 63]⟩ w
  rw [show (⟨#[45, 46, 95, 126, 33, 36, 38, 39, 40, 41, 42, 43, 44, 59, 61, 58, 64, 47]⟩ : ByteArray).data.toList = pathMarks from rfl] at hH1
  rw [show (⟨#[45, 46, 95, 126, 33, 36, 38, 39, 40, 41, 42, 43, 44, 59, 61, 58, 64, 47, 63]⟩ : ByteArray).data.toList = queryMarks from rfl] at hH2
  unfold locB
  generalize holdsB pathMarks (cutP (absR s)).data.toList = b1 at hH1 ⊢
  generalize holdsB queryMarks (cutQ (absR s)).data.toList = b2 at hH2 ⊢
  generalize cutP (absR s) = pa at hz hC hH1 ⊢
  generalize cutQ (absR s) = qu at hz hC hH2 ⊢
  generalize cutA (absR s) = ask at hC ⊢
  have hRo := fun w => rooted_any ((absT s).extract (endN (absT s).data.toList) (absT s).size) w
  rw [show rootS ((absT s).extract (endN (absT s).data.toList) (absT s).size) = absR s from rfl] at hRo
  generalize absR s = R at hz hC hRo hzr
  have hp' : pa.size ≤ maxLen := by unfold maxLen; omega
  have hq' : qu.size ≤ maxLen := by unfold maxLen; omega
  have HC := hide hC
  have HH1 := hide hH1
  have HH2 := hide hH2
  clear hC hH1 hH2
  have hT : (absT s).size = s.size - 7 := by unfold absT; rw [ext_size]; omega
  have hE := fun w => hostend_any (absT s) w (by omega)
  have hH := fun w => host_any (absH s) w (by have : (absH s).size ≤ (absT s).size := (by unfold absH; rw [ext_size]; omega); omega)
  have hle := endN_le (absT s).data.toList
  rw [size_len] at hle
  generalize hostS (absH s) = hn at hH ⊢
  generalize hostP (absH s).data.toList = hp at hH ⊢
  generalize hostE (absH s).data.toList = he at hH hbad ⊢
  unfold absH at hH
  generalize endN (absT s).data.toList = n at hH hE hle hRo
  have HE := hide hE
  have HH := hide hH
  have HRo := hide hRo
  clear hE hH hRo
  have eT : s.extract 7 s.size = absT s := rfl
  have hzt : ((absT s).extract n (absT s).size).size ≤ 8200 := by rw [ext_size]; omega
  have hnT : ((n : Nat) : Int) ≤ ((absT s).size : Int) := by omega
  have hT8 : (absT s).size ≤ 8192 := by omega
  clear hT
  go_enter Tryz.func29, Tryz.ntmps29
  go_wp2_with fail
  have T0 := hide (Two.start w #[.int .i64 0, .string ⟨#[]⟩, .int .i64 0, .string ⟨#[]⟩, .string ⟨#[]⟩, .bool false] #[.int .i64 2, .string ⟨#[]⟩, .int .i64 (-1), .string ⟨#[]⟩, .string ⟨#[]⟩, .bool false])
  generalize ((w.alloc (.cells #[.int .i64 0, .string ⟨#[]⟩, .int .i64 0, .string ⟨#[]⟩, .string ⟨#[]⟩, .bool false] 53)).alloc (.cells #[.int .i64 2, .string ⟨#[]⟩, .int .i64 (-1), .string ⟨#[]⟩, .string ⟨#[]⟩, .bool false] 53)) = x at T0 ⊢
  clear eT
  generalize absT s = T at *
  refine (HE.out _).mono ?_
  rintro e w1 ⟨rfl, b1'⟩
  have T1 := hide (T0.out.below b1')
  clear b1' T0
  go_wp2_with fail
  refine (HH.out _).mono ?_
  rintro e w2 ⟨rfl, b2'⟩
  have T2 := hide (T1.out.below b2')
  clear b2' T1
  have f1 := T2.out.fr1 1
  have f2 := T2.out.fr1 2
  subst hbad
  have d0 : w2.cell? ⟨w.heap.size + 1, 0, none⟩ = some (.int .i64 2) := T2.out.cell1 0
  have d1 : w2.cell? ⟨w.heap.size + 1, 1, none⟩ = some (.string ⟨#[]⟩) := T2.out.cell1 1
  have d2 : w2.cell? ⟨w.heap.size + 1, 2, none⟩ = some (.int .i64 (-1)) := T2.out.cell1 2
  have d3 : w2.cell? ⟨w.heap.size + 1, 3, none⟩ = some (.string ⟨#[]⟩) := T2.out.cell1 3
  have d4 : w2.cell? ⟨w.heap.size + 1, 4, none⟩ = some (.string ⟨#[]⟩) := T2.out.cell1 4
  have d5 : w2.cell? ⟨w.heap.size + 1, 5, none⟩ = some (.bool false) := T2.out.cell1 5
  go_wp2_with fail
  have T3 := hide ((T2.out.set1 1 (.string hn)).set1 2 (.int .i64 hp))
  clear T2 f1 f2 d0 d1 d2 d3 d4 d5
  generalize ((w2.setCell ⟨w.heap.size + 1, 1, none⟩ (.string hn)).setCell ⟨w.heap.size + 1, 2, none⟩ (.int .i64 hp)) = w3 at T3 ⊢
  refine (HRo.out _ hzt).mono ?_
  rintro e w' ⟨rfl, rfl⟩
  go_wp2_with fail
  refine (clone_at _ _ (by omega)).mono ?_
  rintro e w4 ⟨rfl, b4⟩
  have T4 := hide (T3.out.below b4)
  clear b4 T3
  go_wp2_with fail
  refine (HC.out _ (HM.out.below T4.out.b)).mono ?_
  rintro e w5 ⟨rfl, b5⟩
  have T5 := hide (T4.out.below b5)
  clear b5 T4
  have c3 : w5.cell? ⟨w.heap.size + 1, 3, none⟩ = some (.string ⟨#[]⟩) := T5.out.cell1 3
  have c4 : w5.cell? ⟨w.heap.size + 1, 4, none⟩ = some (.string ⟨#[]⟩) := T5.out.cell1 4
  have c5 : w5.cell? ⟨w.heap.size + 1, 5, none⟩ = some (.bool false) := T5.out.cell1 5
  have f3 := T5.out.fr1 3
  have f4 := T5.out.fr1 4
  have f5 := T5.out.fr1 5
  go_wp2_with fail
  have T6 := hide (((T5.out.set1 3 (.string pa)).set1 4 (.string qu)).set1 5 (.bool ask))
  clear T5 c3 c4 c5 f3 f4 f5
  generalize (((w5.setCell ⟨w.heap.size + 1, 3, none⟩ (.string pa)).setCell ⟨w.heap.size + 1, 4, none⟩ (.string qu)).setCell ⟨w.heap.size + 1, 5, none⟩ (.bool ask)) = w6 at T6 ⊢
  have d0 : w6.cell? ⟨w.heap.size + 1, 0, none⟩ = some (.int .i64 2) := T6.out.cell1 0
  have d1 : w6.cell? ⟨w.heap.size + 1, 1, none⟩ = some (.string hn) := T6.out.cell1 1
  have d2 : w6.cell? ⟨w.heap.size + 1, 2, none⟩ = some (.int .i64 hp) := T6.out.cell1 2
  have d3 : w6.cell? ⟨w.heap.size + 1, 3, none⟩ = some (.string pa) := T6.out.cell1 3
  have d4 : w6.cell? ⟨w.heap.size + 1, 4, none⟩ = some (.string qu) := T6.out.cell1 4
  have d5 : w6.cell? ⟨w.heap.size + 1, 5, none⟩ = some (.bool ask) := T6.out.cell1 5
  have r0 : w6.cell? ⟨w.heap.size, 0, none⟩ = some (.int .i64 0) := T6.out.cell0 0
  have r1 : w6.cell? ⟨w.heap.size, 1, none⟩ = some (.string ⟨#[]⟩) := T6.out.cell0 1
  have r2 : w6.cell? ⟨w.heap.size, 2, none⟩ = some (.int .i64 0) := T6.out.cell0 2
  have r3 : w6.cell? ⟨w.heap.size, 3, none⟩ = some (.string ⟨#[]⟩) := T6.out.cell0 3
  have r4 : w6.cell? ⟨w.heap.size, 4, none⟩ = some (.string ⟨#[]⟩) := T6.out.cell0 4
  have r5 : w6.cell? ⟨w.heap.size, 5, none⟩ = some (.bool false) := T6.out.cell0 5
  have g0 := T6.out.fr0 0
  have g1 := T6.out.fr0 1
  have g2 := T6.out.fr0 2
  have g3 := T6.out.fr0 3
  have g4 := T6.out.fr0 4
  have g5 := T6.out.fr0 5
  refine (HH1.out _ hp').mono ?_
  rintro e w' ⟨rfl, rfl⟩
  cases b1 with
  | false =>
    go_wp2
    have T9 := hide ((((((T6.out.set0 0 (.int .i64 2)).set0 1 (.string hn)).set0 2 (.int .i64 hp)).set0 3 (.string pa)).set0 4 (.string qu)).set0 5 (.bool ask))
    generalize ((((((w6.setCell ⟨w.heap.size, 0, none⟩ (.int .i64 2)).setCell ⟨w.heap.size, 1, none⟩ (.string hn)).setCell ⟨w.heap.size, 2, none⟩ (.int .i64 hp)).setCell ⟨w.heap.size, 3, none⟩ (.string pa)).setCell ⟨w.heap.size, 4, none⟩ (.string qu)).setCell ⟨w.heap.size, 5, none⟩ (.bool ask)) = w9 at T9 ⊢
    have k0 : w9.cell? ⟨w.heap.size, 0, none⟩ = some (.int .i64 2) := T9.out.cell0 0
    have k1 : w9.cell? ⟨w.heap.size, 1, none⟩ = some (.string hn) := T9.out.cell0 1
    have k2 : w9.cell? ⟨w.heap.size, 2, none⟩ = some (.int .i64 hp) := T9.out.cell0 2
    have k3 : w9.cell? ⟨w.heap.size, 3, none⟩ = some (.string pa) := T9.out.cell0 3
    have k4 : w9.cell? ⟨w.heap.size, 4, none⟩ = some (.string qu) := T9.out.cell0 4
    have k5 : w9.cell? ⟨w.heap.size, 5, none⟩ = some (.bool ask) := T9.out.cell0 5
    clear d0 d1 d2 d3 d4 d5 r0 r1 r2 r3 r4 r5 g0 g1 g2 g3 g4 g5
    refine bodyPost_ret (v := .tuple #[tgV 2 hn hp pa qu ask, .int .i64 60]) (by simp [results, Tryz.results29, go_sem, k0, k1, k2, k3, k4, k5, tgV]) rfl ⟨rfl, T9.out.b⟩
  | true =>
    go_wp2_with fail
    refine (HH2.out _ hq').mono ?_
    rintro e w' ⟨rfl, rfl⟩
    cases b2 with
    | false =>
      go_wp2
      have T9 := hide ((((((T6.out.set0 0 (.int .i64 2)).set0 1 (.string hn)).set0 2 (.int .i64 hp)).set0 3 (.string pa)).set0 4 (.string qu)).set0 5 (.bool ask))
      generalize ((((((w6.setCell ⟨w.heap.size, 0, none⟩ (.int .i64 2)).setCell ⟨w.heap.size, 1, none⟩ (.string hn)).setCell ⟨w.heap.size, 2, none⟩ (.int .i64 hp)).setCell ⟨w.heap.size, 3, none⟩ (.string pa)).setCell ⟨w.heap.size, 4, none⟩ (.string qu)).setCell ⟨w.heap.size, 5, none⟩ (.bool ask)) = w9 at T9 ⊢
      have k0 : w9.cell? ⟨w.heap.size, 0, none⟩ = some (.int .i64 2) := T9.out.cell0 0
      have k1 : w9.cell? ⟨w.heap.size, 1, none⟩ = some (.string hn) := T9.out.cell0 1
      have k2 : w9.cell? ⟨w.heap.size, 2, none⟩ = some (.int .i64 hp) := T9.out.cell0 2
      have k3 : w9.cell? ⟨w.heap.size, 3, none⟩ = some (.string pa) := T9.out.cell0 3
      have k4 : w9.cell? ⟨w.heap.size, 4, none⟩ = some (.string qu) := T9.out.cell0 4
      have k5 : w9.cell? ⟨w.heap.size, 5, none⟩ = some (.bool ask) := T9.out.cell0 5
      clear d0 d1 d2 d3 d4 d5 r0 r1 r2 r3 r4 r5 g0 g1 g2 g3 g4 g5
      refine bodyPost_ret (v := .tuple #[tgV 2 hn hp pa qu ask, .int .i64 60]) (by simp [results, Tryz.results29, go_sem, k0, k1, k2, k3, k4, k5, tgV]) rfl ⟨rfl, T9.out.b⟩
    | true =>
      go_wp2
      have T9 := hide ((((((T6.out.set0 0 (.int .i64 2)).set0 1 (.string hn)).set0 2 (.int .i64 hp)).set0 3 (.string pa)).set0 4 (.string qu)).set0 5 (.bool ask))
      generalize ((((((w6.setCell ⟨w.heap.size, 0, none⟩ (.int .i64 2)).setCell ⟨w.heap.size, 1, none⟩ (.string hn)).setCell ⟨w.heap.size, 2, none⟩ (.int .i64 hp)).setCell ⟨w.heap.size, 3, none⟩ (.string pa)).setCell ⟨w.heap.size, 4, none⟩ (.string qu)).setCell ⟨w.heap.size, 5, none⟩ (.bool ask)) = w9 at T9 ⊢
      have k0 : w9.cell? ⟨w.heap.size, 0, none⟩ = some (.int .i64 2) := T9.out.cell0 0
      have k1 : w9.cell? ⟨w.heap.size, 1, none⟩ = some (.string hn) := T9.out.cell0 1
      have k2 : w9.cell? ⟨w.heap.size, 2, none⟩ = some (.int .i64 hp) := T9.out.cell0 2
      have k3 : w9.cell? ⟨w.heap.size, 3, none⟩ = some (.string pa) := T9.out.cell0 3
      have k4 : w9.cell? ⟨w.heap.size, 4, none⟩ = some (.string qu) := T9.out.cell0 4
      have k5 : w9.cell? ⟨w.heap.size, 5, none⟩ = some (.bool ask) := T9.out.cell0 5
      clear d0 d1 d2 d3 d4 d5 r0 r1 r2 r3 r4 r5 g0 g1 g2 g3 g4 g5
      refine bodyPost_ret (v := .tuple #[tgV 2 hn hp pa qu ask, .int .i64 0]) (by simp [results, Tryz.results29, go_sem, k0, k1, k2, k3, k4, k5, tgV]) rfl ⟨rfl, T9.out.b⟩
end Go.Proofs.YtacnnomkacfdbaaGreatDoor
/- Nothing in what is taken is below 33 or above 126: no program in it. -/
namespace Go.Proofs.YtacnnomkacfdbaaGreatDoor

def safe (c : UInt8) : Prop := 33 ≤ c.toNat ∧ c.toNat ≤ 126
def allSafe (l : List UInt8) : Prop := ∀ c ∈ l, safe c
theorem allSafe_app {a b : List UInt8} (h1 : allSafe a) (h2 : allSafe b) : allSafe (a ++ b) := fun c hc => (List.mem_append.1 hc).elim (h1 c) (h2 c)
theorem allSafe_cons {c : UInt8} {b : List UInt8} (h1 : safe c) (h2 : allSafe b) : allSafe (c :: b) := fun x hx => by
  rcases List.mem_cons.1 hx with rfl | hx
  · exact h1
  · exact h2 x hx
theorem allSafe_nil : allSafe [] := fun _ h => by cases h
theorem allSafe_of_app {a b : List UInt8} (h : allSafe (a ++ b)) : allSafe b := fun c hc => h c (List.mem_append.2 (.inr hc))
theorem allSafe_tail {c : UInt8} {b : List UInt8} (h : allSafe (c :: b)) : allSafe b := fun x hx => h x (List.mem_cons.2 (.inr hx))
theorem alnum_safe {c : UInt8} (h : alnum c = true) : safe c := by
  simp only [alnum, Bool.or_eq_true, Bool.and_eq_true, decide_eq_true_eq] at h
  unfold safe
  omega
theorem marks_safe {m : List UInt8} (hm : (m.all fun c => decide (33 ≤ c.toNat) && decide (c.toNat ≤ 126)) = true) {c : UInt8} (h : m.contains c = true) : safe c := by
  have := List.all_eq_true.1 hm c (by simpa using h)
  simp only [Bool.and_eq_true, decide_eq_true_eq] at this
  exact this
theorem plain_safe {m : List UInt8} (hm : (m.all fun c => decide (33 ≤ c.toNat) && decide (c.toNat ≤ 126)) = true) {c : UInt8} (h : plainc m c = true) : safe c := by
  unfold plainc at h
  rcases Bool.or_eq_true_iff.1 h with h | h
  · exact alnum_safe h
  · exact marks_safe hm h
theorem esc_pct : ∀ {l : List UInt8} {c : UInt8}, esc (c :: l) = true → c = 37
  | [], _, h => by simp [esc] at h
  | [_], _, h => by simp [esc] at h
  | _ :: _ :: _, c, h => by
    simp only [esc, Bool.and_eq_true, decide_eq_true_eq] at h
    exact h.1
theorem holds_safe {m : List UInt8} (hm : (m.all fun c => decide (33 ≤ c.toNat) && decide (c.toNat ≤ 126)) = true) : ∀ {l : List UInt8}, holdsB m l = true → allSafe l
  | [], _ => allSafe_nil
  | c :: r, h => by
    simp only [holdsB, Bool.and_eq_true, Bool.or_eq_true] at h
    refine allSafe_cons ?_ (holds_safe hm h.2)
    rcases h.1 with h1 | h1
    · exact plain_safe hm h1
    · rw [esc_pct h1]; exact ⟨by decide, by decide⟩
theorem digv_safe {c : UInt8} (h : digv c < 16) : safe c := by
  unfold digv at h
  unfold safe
  split at h
  · omega
  · split at h
    · omega
    · split at h
      · omega
      · omega
theorem brc_safe {c : UInt8} (h : brc c = true) : safe c := by
  unfold brc at h
  simp only [Bool.or_eq_true, decide_eq_true_eq] at h
  rcases h with (rfl | rfl) | h
  · exact ⟨by decide, by decide⟩
  · exact ⟨by decide, by decide⟩
  · exact digv_safe (of_decide_eq_true h)
theorem suffix_split {d : List UInt8} (h : Lib.hasSuffix d [93] = true) : d = Lib.trimSuffix d [93] ++ [93] := by
  unfold Lib.trimSuffix
  rw [h]
  obtain ⟨t, ht⟩ : [93] <:+ d := by
    unfold Lib.hasSuffix at h
    exact List.isSuffixOf_iff_suffix.1 h
  subst ht
  simp
theorem brac_safe {l : List UInt8} (h0 : Lib.hasPrefix l [91] = true) (h : bracB l = true) : allSafe l := by
  rw [prefix_head] at h0
  have h0 := of_decide_eq_true h0
  unfold bracB at h
  simp only [Bool.and_eq_true] at h
  obtain ⟨h1, h2, _⟩ := h
  cases l with
  | nil => cases h0
  | cons c d =>
    simp only [List.head?_cons, Option.some.injEq] at h0
    subst h0
    rw [List.drop_succ_cons, List.drop_zero] at h1 h2
    rw [suffix_split h1]
    refine allSafe_cons ⟨by decide, by decide⟩ (allSafe_app (fun c hc => brc_safe (List.all_eq_true.1 h2 c hc)) (allSafe_cons ⟨by decide, by decide⟩ allSafe_nil))
theorem hostB_safe {l : List UInt8} (h : hostB l = true) : allSafe l := by
  unfold hostB at h
  split at h
  · exact brac_safe (by assumption) h
  · simp only [Bool.and_eq_true] at h
    exact holds_safe (by decide) h.2.2
theorem port_safe {d : List UInt8} (h : portE d = 0) : allSafe d := by
  unfold portE at h
  split at h
  · rename_i e; subst e; exact allSafe_nil
  · split at h
    · omega
    · rename_i hb
      simp only [portBad, Bool.or_eq_true, not_or, Bool.not_eq_true', decide_eq_false_iff_not, Classical.not_not, decide_eq_true_eq] at hb
      have hn := hb.1
      unfold numE at hn
      split at hn
      · omega
      · rename_i hd
        simp only [not_or, Classical.not_not] at hd
        intro c hc
        have := List.all_eq_true.1 hd.2 c hc
        simp only [decide_eq_true_eq] at this
        exact digv_safe (by omega)
theorem pstate_colon (l : List UInt8) : (∀ k : Nat, (pstate l).1 = k → l[k]? = some 58) ∧ (∀ k : Nat, (pstate l).2.1 = k → l[k]? = some 58) := by
  induction l using snoc_ind with
  | h0 => constructor <;> intro k h <;> simp [pstate, pfold] at h <;> omega
  | h1 l c ih =>
    have hle := pstate_le l
    have old : ∀ k : Nat, (k : Int) < l.length → l[k]? = some 58 → (l ++ [c])[k]? = some 58 := fun k hk h => by
      rw [List.getElem?_append_left (by omega)]; exact h
    have o1 : ∀ k : Nat, (pstate l).1 = k → (l ++ [c])[k]? = some 58 := fun k h => old k (by omega) (ih.1 k h)
    have o2 : ∀ k : Nat, (pstate l).2.1 = k → (l ++ [c])[k]? = some 58 := fun k h => old k (by omega) (ih.2 k h)
    rw [pstate_snoc]
    unfold pstep
    by_cases h58 : c = 58
    · rw [if_pos h58]
      refine ⟨fun k h => ?_, o2⟩
      have : k = l.length := by simp only at h; omega
      subst this
      subst h58
      simp
    · rw [if_neg h58]
      by_cases h91 : c = 91
      · rw [if_pos h91]
        split
        · exact ⟨o1, o2⟩
        · exact ⟨o1, o1⟩
      · rw [if_neg h91]
        by_cases h93 : c = 93
        · rw [if_pos h93]
          split
          · exact ⟨o2, o2⟩
          · exact ⟨o1, o2⟩
        · rw [if_neg h93]
          exact ⟨o1, o2⟩
theorem split_at_k {l : List UInt8} {k : Nat} {c : UInt8} (h : l[k]? = some c) : l = l.take k ++ c :: l.drop (k + 1) := by
  obtain ⟨hlt, hc⟩ := List.getElem?_eq_some_iff.1 h
  conv => lhs; rw [← List.take_append_drop k l, List.drop_eq_getElem_cons hlt, hc]
theorem host_safe {l : List UInt8} (h : hostE l = 0) : allSafe l := by
  unfold hostE at h
  split at h
  · rename_i hb
    have h1 := hostB_safe hb
    have h2 := port_safe h
    by_cases hn : (pstate l).1 < 0
    · unfold nameOf at h1
      rw [if_pos hn] at h1
      exact h1
    · unfold nameOf at h1
      unfold digsOf at h2
      rw [if_neg hn] at h1 h2
      have hk := (pstate_colon l).1 (pstate l).1.toNat (by omega)
      rw [split_at_k hk]
      exact allSafe_app h1 (allSafe_cons ⟨by decide, by decide⟩ h2)
  · omega
theorem indexByte_at : ∀ {l : List UInt8} {c : UInt8} {i : Nat}, Lib.indexByte l c = i → l[i]? = some c
  | [], c, i, h => by simp [Lib.indexByte] at h
  | a :: r, c, i, h => by
    unfold Lib.indexByte at h
    have hg := Lib.indexByte_ge r c
    split at h
    · rename_i hc
      have e : i = 0 := by omega
      subst e
      simp at hc
      simp [hc]
    · split at h
      · omega
      · rename_i h2
        obtain ⟨j, hj⟩ : ∃ j : Nat, Lib.indexByte r c = j := ⟨(Lib.indexByte r c).toNat, by simp at h2; omega⟩
        have e : i = j + 1 := by omega
        subst e
        simp [indexByte_at hj]
theorem cut_safe {l : List UInt8} (h1 : allSafe (Lib.cut l [63]).1) (h2 : allSafe (Lib.cut l [63]).2.1) : allSafe l := by
  unfold Lib.cut at h1 h2
  by_cases h : 0 ≤ Lib.index l [63]
  · rw [if_pos h] at h1 h2
    have hi : Lib.indexByte l 63 = ((Lib.index l [63]).toNat : Int) := by rw [← Lib.index_one]; omega
    rw [split_at_k (indexByte_at hi)]
    exact allSafe_app h1 (allSafe_cons ⟨by decide, by decide⟩ h2)
  · rw [if_neg h] at h1
    exact h1
theorem low_safe {c : UInt8} (h : safe (lowc c)) : safe c := by
  unfold lowc at h
  split at h
  · rename_i h2
    unfold safe; omega
  · exact h
theorem lower_safe {l m : List UInt8} (h : lowerB l = m) (hm : allSafe m) : allSafe l := fun c hc => low_safe (hm _ (by rw [← h]; exact List.mem_map_of_mem hc))
end Go.Proofs.YtacnnomkacfdbaaGreatDoor
/- Parse, whole: what it takes, and what that is. -/
namespace Go.Proofs.YtacnnomkacfdbaaGreatDoor
open Go.ChangeShapes Go.WideShapes Go.ChangeAt Go.RowKit

/-- A target that is taken, and what it tells. -/
inductive Taken (m s : ByteArray) : Value → Prop where
  | auth (hf : formN m.data.toList s.data.toList = 3) (h0 : hostE s.data.toList = 0) (h1 : hostP s.data.toList ≠ -1) : Taken m s (tgV 3 (hostS s) (hostP s.data.toList) ⟨#[]⟩ ⟨#[]⟩ false)
  | ast (hf : formN m.data.toList s.data.toList = 4) : Taken m s (tgV 4 ⟨#[]⟩ (-1) ⟨#[]⟩ ⟨#[]⟩ false)
  | origin (hf : formN m.data.toList s.data.toList = 1) (h0 : locB s = true) : Taken m s (tgV 1 ⟨#[]⟩ (-1) (cutP s) (cutQ s) (cutA s))
  | abs (hf : formN m.data.toList s.data.toList = 2) (h0 : hostE (absH s).data.toList = 0) (h1 : locB (absR s) = true) : Taken m s (tgV 2 (hostS (absH s)) (hostP (absH s).data.toList) (cutP (absR s)) (cutQ (absR s)) (cutA (absR s)))
def tgZ : Value := tgV 0 ⟨#[]⟩ 0 ⟨#[]⟩ ⟨#[]⟩ false
def Parses (m s : ByteArray) (t : Value) (re : Int) : Prop := ∀ w : World, MX w → Calls Tryz.prog 17 #[.string m, .string s] w fun e w' => e = .returned (.tuple #[t, .int .i64 re]) ∧ Below w.heap.size w w'

set_option maxHeartbeats 1000000 in
theorem parse_long (m s : ByteArray) (hs : 8192 < s.size) : Parses m s tgZ 2 := by
  intro w _
  go_enter Tryz.func17, Tryz.ntmps17
  go_wp2
  have T4 := hide (One.start w #[.int .i64 0, .string ⟨#[]⟩, .int .i64 0, .string ⟨#[]⟩, .string ⟨#[]⟩, .bool false])
  generalize (w.alloc (.cells #[.int .i64 0, .string ⟨#[]⟩, .int .i64 0, .string ⟨#[]⟩, .string ⟨#[]⟩, .bool false] 53)) = w4 at T4 ⊢
  have k0 : w4.cell? ⟨w.heap.size, 0, none⟩ = some (.int .i64 0) := T4.out.cell0 0
  have k1 : w4.cell? ⟨w.heap.size, 1, none⟩ = some (.string ⟨#[]⟩) := T4.out.cell0 1
  have k2 : w4.cell? ⟨w.heap.size, 2, none⟩ = some (.int .i64 0) := T4.out.cell0 2
  have k3 : w4.cell? ⟨w.heap.size, 3, none⟩ = some (.string ⟨#[]⟩) := T4.out.cell0 3
  have k4 : w4.cell? ⟨w.heap.size, 4, none⟩ = some (.string ⟨#[]⟩) := T4.out.cell0 4
  have k5 : w4.cell? ⟨w.heap.size, 5, none⟩ = some (.bool false) := T4.out.cell0 5
  exact bodyPost_ret (v := .tuple #[tgZ, .int .i64 2]) (by simp [results, Tryz.results17, go_sem, k0, k1, k2, k3, k4, k5, tgZ, tgV]) rfl ⟨rfl, T4.out.b⟩
theorem form_le (m l : List UInt8) : formN m l = 0 ∨ formN m l = 1 ∨ (formN m l = 2 ∧ 7 ≤ l.length) ∨ formN m l = 3 ∨ formN m l = 4 := by
  unfold formN
  split
  · simp
  · split
    · simp
    · split
      · simp
      · split
        · rename_i h; right; right; left; exact ⟨rfl, h.1⟩
        · simp
theorem parse_total (m s : ByteArray) : ∃ (t : Value) (re : Int), Parses m s t re ∧ (re = 0 → Taken m s t ∧ s.size ≤ 8192) ∧ (re ≠ 0 → t = tgZ) ∧ (∀ t', Taken m s t' → s.size ≤ 8192 → re = 0 ∧ t = t') := by
  by_cases hs : s.size ≤ 8192
  · have go : ∀ (f : Nat), formN m.data.toList s.data.toList = f → ∀ (h : ByteArray) (p : Int) (pa q : ByteArray) (a : Bool) (re : Int),
        (∀ w', MX w' → Calls Tryz.prog 29 #[.int .i64 (f : Int), .string s] w' fun e w'' => e = .returned (.tuple #[tgV f h p pa q a, .int .i64 re]) ∧ Below w'.heap.size w' w'') →
        (re = 0 → Taken m s (tgV f h p pa q a)) → (∀ t', Taken m s t' → re = 0 ∧ tgV f h p pa q a = t') →
        ∃ (t : Value) (re : Int), Parses m s t re ∧ (re = 0 → Taken m s t ∧ s.size ≤ 8192) ∧ (re ≠ 0 → t = tgZ) ∧ (∀ t', Taken m s t' → s.size ≤ 8192 → re = 0 ∧ t = t') := by
      intro f hf h p pa q a re hR hT hU
      refine ⟨if re = 0 then tgV f h p pa q a else tgZ, re, fun w hm => parse_of m s w hs hm f hf h p pa q a re hR, fun h0 => ?_, fun h0 => ?_, fun t' ht _ => ?_⟩
      · rw [if_pos h0]; exact ⟨hT h0, hs⟩
      · rw [if_neg h0]
      · obtain ⟨u1, u2⟩ := hU t' ht
        exact ⟨u1, by rw [if_pos u1]; exact u2⟩
    rcases form_le m.data.toList s.data.toList with hf | hf | ⟨hf, h7⟩ | hf | hf
    · refine go 0 hf ⟨#[]⟩ (-1) ⟨#[]⟩ ⟨#[]⟩ false 60 (fun w' _ => read_none s w') (fun h => by omega) (fun t' ht => ?_)
      cases ht <;> omega
    · refine go 1 hf ⟨#[]⟩ (-1) (cutP s) (cutQ s) (cutA s) (if locB s then 0 else 60) (fun w' hm => read_origin s w' (by omega) hm) (fun h => ?_) (fun t' ht => ?_)
      · cases hl : locB s with
        | true => exact Taken.origin hf hl
        | false => rw [hl] at h; exact absurd h (by decide)
      · cases ht with
        | origin h1 h2 => exact ⟨by rw [h2]; rfl, rfl⟩
        | auth h1 => omega
        | ast h1 => omega
        | abs h1 => omega
    · rw [size_len] at h7
      by_cases hb : hostE (absH s).data.toList = 0
      · refine go 2 hf (hostS (absH s)) (hostP (absH s).data.toList) (cutP (absR s)) (cutQ (absR s)) (cutA (absR s)) (if locB (absR s) then 0 else 60) (fun w' hm => read_abs_ok s w' hs h7 hm hb) (fun h => ?_) (fun t' ht => ?_)
        · cases hl : locB (absR s) with
          | true => exact Taken.abs hf hb hl
          | false => rw [hl] at h; exact absurd h (by decide)
        · cases ht with
          | abs h1 h2 h3 => exact ⟨by rw [h3]; rfl, rfl⟩
          | auth h1 => omega
          | ast h1 => omega
          | origin h1 => omega
      · refine go 2 hf (hostS (absH s)) (hostP (absH s).data.toList) ⟨#[]⟩ ⟨#[]⟩ false (hostE (absH s).data.toList : Nat) (fun w' _ => read_abs_bad s w' hs h7 hb) (fun h => by omega) (fun t' ht => ?_)
        cases ht with
        | abs h1 h2 h3 => exact absurd h2 hb
        | auth h1 => omega
        | ast h1 => omega
        | origin h1 => omega
    · refine go 3 hf (hostS s) (hostP s.data.toList) ⟨#[]⟩ ⟨#[]⟩ false (autE s.data.toList) (fun w' _ => read_auth s w' (by omega)) (fun h => ?_) (fun t' ht => ?_)
      · unfold autE at h
        split at h
        · rename_i h0
          split at h
          · omega
          · rename_i h1; exact Taken.auth hf h0 h1
        · omega
      · cases ht with
        | auth h1 h2 h3 => exact ⟨by unfold autE; rw [if_pos h2, if_neg h3], rfl⟩
        | abs h1 => omega
        | ast h1 => omega
        | origin h1 => omega
    · refine go 4 hf ⟨#[]⟩ (-1) ⟨#[]⟩ ⟨#[]⟩ false 0 (fun w' _ => read_ast s w') (fun _ => Taken.ast hf) (fun t' ht => ?_)
      cases ht with
      | ast h1 => exact ⟨rfl, rfl⟩
      | abs h1 => omega
      | auth h1 => omega
      | origin h1 => omega
  · exact ⟨tgZ, 2, parse_long m s (by omega), fun h => by omega, fun _ => rfl, fun _ _ h => absurd h hs⟩

theorem loc_safe {s : ByteArray} (h : locB s = true) : allSafe s.data.toList := by
  unfold locB at h
  simp only [Bool.and_eq_true] at h
  have h1 := holds_safe (by decide) h.1
  have h2 := holds_safe (by decide) h.2
  unfold cutP at h1
  unfold cutQ at h2
  rw [sS_list] at h1 h2
  exact cut_safe h1 h2
theorem root_safe {s : ByteArray} (h : allSafe (rootS s).data.toList) : allSafe s.data.toList := by
  unfold rootS at h
  split at h
  · exact h
  · rw [app_list] at h
    exact allSafe_of_app h
theorem taken_safe {m s : ByteArray} {t : Value} (h : Taken m s t) : allSafe s.data.toList := by
  cases h with
  | auth hf h0 h1 => exact host_safe h0
  | ast hf =>
    unfold formN at hf
    split at hf
    · omega
    · split at hf
      · rename_i h; rw [h.2]; exact allSafe_cons ⟨by decide, by decide⟩ allSafe_nil
      · split at hf
        · omega
        · split at hf <;> omega
  | origin hf h0 => exact loc_safe h0
  | abs hf h0 h1 =>
    have hT : allSafe (absT s).data.toList := by
      have a := host_safe h0
      have b := root_safe (loc_safe h1)
      unfold absH at a
      rw [ext_take] at a
      rw [ext_drop] at b
      have := allSafe_app a b
      rw [List.take_append_drop] at this
      exact this
    have h7 : allSafe (s.data.toList.take 7) := by
      unfold formN at hf
      split at hf
      · omega
      · split at hf
        · omega
        · split at hf
          · omega
          · split at hf
            · rename_i h
              have := of_decide_eq_true h.2
              refine lower_safe this ?_
              intro c hc
              have hall : ((lowerB httpL).all fun c => decide (33 ≤ c.toNat) && decide (c.toNat ≤ 126)) = true := by decide
              have := List.all_eq_true.1 hall c hc
              simp only [Bool.and_eq_true, decide_eq_true_eq] at this
              exact this
            · omega
    unfold absT at hT
    rw [ext_drop] at hT
    have := allSafe_app h7 hT
    rw [List.take_append_drop] at this
    exact this
end Go.Proofs.YtacnnomkacfdbaaGreatDoor
/- A request's host and path, whatever the form of its target. -/
namespace Go.Proofs.YtacnnomkacfdbaaGreatDoor
open Go.ChangeShapes Go.WideShapes Go.ChangeAt Go.RowKit
set_option linter.unusedVariables false

theorem hostS_le (s : ByteArray) : (hostS s).size ≤ s.size := by
  cases h : hostB (nameOf s.data.toList) with
  | false => rw [(host_no h).1]; exact Nat.zero_le _
  | true =>
    by_cases h2 : portE (digsOf s.data.toList) = 0
    · rw [(host_yes h h2).1, lowS_size]; exact name_size s
    · rw [(host_bad h h2).1]; exact Nat.zero_le _
theorem hostS_err {s : ByteArray} (h : hostE s.data.toList ≠ 0) : hostS s = ⟨#[]⟩ := by
  cases h1 : hostB (nameOf s.data.toList) with
  | false => exact (host_no h1).1
  | true =>
    by_cases h2 : portE (digsOf s.data.toList) = 0
    · exact absurd (host_yes h1 h2).2.2 h
    · exact (host_bad h1 h2).1
def pathK (f : Int) (pa : ByteArray) : ByteArray := if f = 4 then slash else cleanS pa
theorem pathOf_any (w : World) (f : Int) (ho : ByteArray) (po : Int) (pa qu : ByteArray) (ak : Bool) (hm : MX w) :
    Calls Tryz.prog 19 #[tgV f ho po pa qu ak] w fun e w' => e = .returned (.string (pathK f pa)) ∧ Below w.heap.size w w' := by
  have HC := hide (fun W h => clean_any pa W h)
  have HM := hide hm
  clear hm
  unfold tgV
  obtain ⟨R, HR⟩ : ∃ R, Hid (pathK f pa = R) := ⟨_, hide rfl⟩
  rw [HR.out]
  unfold pathK at HR
  generalize cleanS pa = s at HC HR
  generalize cleanE pa.data.toList = e0 at HC
  by_cases hf : f = 4
  · subst hf
    have HX : Hid (R = slash) := hide (by rw [← HR.out, if_pos rfl])
    go_enter Tryz.func19, Tryz.ntmps19
    go_wp2_with fail
    have T0 := hide (Bl.one w #[.int .i64 4, .string ho, .int .i64 po, .string pa, .string qu, .bool ak] 53)
    generalize (w.alloc (.cells #[.int .i64 4, .string ho, .int .i64 po, .string pa, .string qu, .bool ak] 53)) = x at T0 ⊢
    go_wp2
    go_ret
    exact ⟨by rw [HX.out]; first | done | rfl, T0.out.b⟩
  · have HX : Hid (R = s) := hide (by rw [← HR.out, if_neg hf])
    have t0 : (f == 4) = false := beq_eq_false_iff_ne.2 hf
    go_enter Tryz.func19, Tryz.ntmps19
    go_wp2_with fail
    have T0 := hide (Bl.one w #[.int .i64 f, .string ho, .int .i64 po, .string pa, .string qu, .bool ak] 53)
    generalize (w.alloc (.cells #[.int .i64 f, .string ho, .int .i64 po, .string pa, .string qu, .bool ak] 53)) = x at T0 ⊢
    refine (HC.out _ (HM.out.below T0.out.b)).mono ?_
    rintro e w1 ⟨rfl, bb⟩
    have T1 := hide (T0.out.below bb)
    clear bb T0
    go_wp2
    go_ret
    exact ⟨by rw [HX.out]; first | done | rfl, T1.out.b⟩
def hdV (V : List ByteArray) : ByteArray := V.headD ⟨#[]⟩
/-- What hostOf tells. -/
def hofS (f : Int) (ho : ByteArray) (mi : Int) (V : List ByteArray) : ByteArray × Int :=
  if f = 3 then (⟨#[]⟩, 60) else if f = 2 then (ho, 0) else if V.length = 0 ∧ mi = 0 then (⟨#[]⟩, 0) else if V.length ≠ 1 then (⟨#[]⟩, 61) else (hostS (hdV V), ((hostE (hdV V).data.toList : Nat) : Int))
theorem hofS_le {f : Int} {ho : ByteArray} {mi : Int} {V : List ByteArray} (h1 : ho.size ≤ 1048576) (h2 : ∀ x ∈ V, x.size ≤ 1048576) : (hofS f ho mi V).1.size ≤ 1048576 := by
  unfold hofS
  split
  · exact Nat.zero_le _
  · split
    · exact h1
    · split
      · exact Nat.zero_le _
      · split
        · exact Nat.zero_le _
        · refine Nat.le_trans (hostS_le _) ?_
          cases V with
          | nil => exact Nat.zero_le _
          | cons y l => exact h2 y (List.mem_cons_self ..)
set_option maxHeartbeats 2000000 in
theorem hostOf_any (w : World) (f : Int) (ho : ByteArray) (po : Int) (pa qu : ByteArray) (ak : Bool) (r : Bool) (me ta : ByteArray) (mi st : Int) (re : ByteArray) (l : Value) (A : List (ByteArray × ByteArray)) (hA : Flds w l A) (hs : Sm A) :
    Calls Tryz.prog 18 #[tgV f ho po pa qu ak, .agg (hdC r me ta mi st re l)] w fun e w' => e = .returned (.tuple #[.string (hofS f ho mi (allS A hostN)).1, .int .i64 (hofS f ho mi (allS A hostN)).2]) ∧ Below w.heap.size w w' := by
  have HAL := hide (fun W h => all_any W l A hostN h hs (by decide))
  have HV0 := hide (fun x (hx : x ∈ allS A hostN) => allS_mem hs hx)
  have F0 := hide hA
  obtain ⟨a0, c0, rfl, _, _⟩ := hA
  generalize allS A hostN = V at HAL HV0 ⊢
  clear hs
  unfold hdC tgV
  unfold hostN at HAL
  obtain ⟨S, HS⟩ : ∃ S, Hid (hofS f ho mi V = S) := ⟨_, hide rfl⟩
  rw [HS.out]
  obtain ⟨s, e0⟩ := S
  unfold hofS at HS
  dsimp only
  by_cases h3 : f = 3
  · subst h3
    have HX := HS.out
    rw [if_pos rfl] at HX
    cases HX
    go_enter Tryz.func18, Tryz.ntmps18
    go_wp2_with fail
    have T0 := hide (Bl.two w #[.int .i64 3, .string ho, .int .i64 po, .string pa, .string qu, .bool ak] 53 #[.bool r, .string me, .string ta, .int .i64 mi, .int .i64 st, .string re, .slice a0 A.length c0] 28)
    generalize ((w.alloc (.cells #[.int .i64 3, .string ho, .int .i64 po, .string pa, .string qu, .bool ak] 53)).alloc (.cells #[.bool r, .string me, .string ta, .int .i64 mi, .int .i64 st, .string re, .slice a0 A.length c0] 28)) = x at T0 ⊢
    go_wp2
    go_ret2
    exact ⟨rfl, T0.out.b⟩
  · have t3 : (f == 3) = false := beq_eq_false_iff_ne.2 h3
    by_cases h2 : f = 2
    · subst h2
      have HX := HS.out
      rw [if_neg (by decide), if_pos rfl] at HX
      cases HX
      clear h3
      go_enter Tryz.func18, Tryz.ntmps18
      go_wp2_with fail
      have T0 := hide (Bl.two w #[.int .i64 2, .string ho, .int .i64 po, .string pa, .string qu, .bool ak] 53 #[.bool r, .string me, .string ta, .int .i64 mi, .int .i64 st, .string re, .slice a0 A.length c0] 28)
      generalize ((w.alloc (.cells #[.int .i64 2, .string ho, .int .i64 po, .string pa, .string qu, .bool ak] 53)).alloc (.cells #[.bool r, .string me, .string ta, .int .i64 mi, .int .i64 st, .string re, .slice a0 A.length c0] 28)) = x at T0 ⊢
      go_wp2
      go_ret2
      exact ⟨rfl, T0.out.b⟩
    · have t2 : (f == 2) = false := beq_eq_false_iff_ne.2 h2
      have HX := hide HS.out
      rw [if_neg h3, if_neg h2] at HX
      clear HS h3 h2
      go_enter Tryz.func18, Tryz.ntmps18
      go_wp2_with fail
      have T0 := hide (Bl.two w #[.int .i64 f, .string ho, .int .i64 po, .string pa, .string qu, .bool ak] 53 #[.bool r, .string me, .string ta, .int .i64 mi, .int .i64 st, .string re, .slice a0 A.length c0] 28)
      generalize ((w.alloc (.cells #[.int .i64 f, .string ho, .int .i64 po, .string pa, .string qu, .bool ak] 53)).alloc (.cells #[.bool r, .string me, .string ta, .int .i64 mi, .int .i64 st, .string re, .slice a0 A.length c0] 28)) = x at T0 ⊢
      refine (HAL.out _ (F0.out.below T0.out.b)).mono ?_
      rintro e w1 ⟨v1, rfl, hV, bb⟩
      have T1 := hide (T0.out.below bb)
      obtain ⟨a1, c1, rfl, hcv⟩ := Strs.of_row hV
      clear bb T0 HAL hV
      have n3 : w1.cell? ⟨w.heap.size + 1, 3, none⟩ = some (.int .i64 mi) := T1.out.cell 1 rfl 3
      by_cases h0 : V.length = 0
      · have t0 : ((V.length : Int) == 0) = true := beq_iff_eq.2 (by omega)
        by_cases hmi : mi = 0
        · subst hmi
          have HY := HX.out
          rw [if_pos ⟨h0, rfl⟩] at HY
          cases HY
          clear hcv
          go_wp2
          go_ret2
          exact ⟨rfl, T1.out.b⟩
        · have tm : (mi == 0) = false := beq_eq_false_iff_ne.2 hmi
          have t1 : ((V.length : Int) == 1) = false := beq_eq_false_iff_ne.2 (by omega)
          have HY := HX.out
          rw [if_neg (fun h => hmi h.2), if_pos (by omega)] at HY
          cases HY
          clear hcv
          go_wp2
          go_ret2
          exact ⟨rfl, T1.out.b⟩
      · have t0 : ((V.length : Int) == 0) = false := beq_eq_false_iff_ne.2 (by omega)
        have HY := hide HX.out
        rw [if_neg (fun h => h0 h.1)] at HY
        clear HX
        by_cases h1 : V.length = 1
        · obtain ⟨g, rfl, hg, r0⟩ := hcv 0 (by omega)
          have hv : V[0]'(by omega) = hdV V := by
            cases V with
            | nil => simp at h1
            | cons y l => rfl
          rw [hv] at r0
          have hys : (hdV V).size ≤ 1048576 := by
            rw [← hv]; exact HV0.out _ (List.getElem_mem _)
          rw [if_neg (by omega)] at HY
          have HH := hide (fun W => host_any (hdV V) W (by omega))
          clear hcv hv hys HV0
          generalize hdV V = y at HH HY r0
          have t1 : ((V.length : Int) == 1) = true := beq_iff_eq.2 (by omega)
          have hpos : 0 < V.length := by omega
          clear h1 h0
          have HZ := HY.out
          generalize hostS y = s1 at HH HZ
          generalize hostE y.data.toList = e1 at HH HZ
          generalize hostP y.data.toList = p0 at HH
          cases HZ
          clear HY
          go_wp2_with fail
          refine (HH.out _).mono ?_
          rintro e w2 ⟨rfl, bb⟩
          have T2 := hide (T1.out.below bb)
          clear bb T1
          go_wp2
          go_ret2
          exact ⟨rfl, T2.out.b⟩
        · have t1 : ((V.length : Int) == 1) = false := beq_eq_false_iff_ne.2 (by omega)
          rw [if_pos h1] at HY
          have HZ := HY.out
          cases HZ
          clear hcv h1 h0 HY
          go_wp2
          go_ret2
          exact ⟨rfl, T1.out.b⟩
end Go.Proofs.YtacnnomkacfdbaaGreatDoor
/- How near a route's host is; numbers held against one another; the first that is not 0. -/
namespace Go.Proofs.YtacnnomkacfdbaaGreatDoor
open Go.ChangeShapes Go.WideShapes Go.ChangeAt Go.RowKit
set_option linter.unusedVariables false

theorem isnan_any (x : Int) (w : World) : Calls Tryz.prog 28 #[.int .i64 x] w fun e w' => e = .returned (.bool false) ∧ w = w' := by
  have hx : (x == x) = true := beq_self_eq_true x
  go_enter Tryz.func28, Tryz.ntmps28
  go_wp2
  go_ret
  exact ⟨rfl, rfl⟩
def cmpK (a b : Int) : Int := if a < b then -1 else if b < a then 1 else 0
theorem compare_any (a b : Int) (w : World) : Calls Tryz.prog 15 #[.int .i64 a, .int .i64 b] w fun e w' => e = .returned (.int .i64 (cmpK a b)) ∧ w = w' := by
  have H1 := hide (fun W => isnan_any a W)
  have H2 := hide (fun W => isnan_any b W)
  obtain ⟨R, HR⟩ : ∃ R, Hid (cmpK a b = R) := ⟨_, hide rfl⟩
  rw [HR.out]
  unfold cmpK at HR
  by_cases h1 : a < b
  · have HX : Hid (R = -1) := hide (by rw [← HR.out, if_pos h1])
    go_enter Tryz.func15, Tryz.ntmps15
    go_wp2_with fail
    refine (H1.out _).mono ?_
    rintro e w1 ⟨rfl, rfl⟩
    go_wp2_with fail
    refine (H2.out _).mono ?_
    rintro e w1 ⟨rfl, rfl⟩
    go_wp2
    go_ret
    exact ⟨by rw [HX.out]; first | done | rfl, rfl⟩
  · by_cases h2 : b < a
    · have HX : Hid (R = 1) := hide (by rw [← HR.out, if_neg h1, if_pos h2])
      go_enter Tryz.func15, Tryz.ntmps15
      go_wp2_with fail
      refine (H1.out _).mono ?_
      rintro e w1 ⟨rfl, rfl⟩
      go_wp2_with fail
      refine (H2.out _).mono ?_
      rintro e w1 ⟨rfl, rfl⟩
      go_wp2
      go_ret
      exact ⟨by rw [HX.out]; first | done | rfl, rfl⟩
    · have HX : Hid (R = 0) := hide (by rw [← HR.out, if_neg h1, if_neg h2])
      go_enter Tryz.func15, Tryz.ntmps15
      go_wp2_with fail
      refine (H1.out _).mono ?_
      rintro e w1 ⟨rfl, rfl⟩
      go_wp2_with fail
      refine (H2.out _).mono ?_
      rintro e w1 ⟨rfl, rfl⟩
      go_wp2
      go_ret
      exact ⟨by rw [HX.out]; first | done | rfl, rfl⟩
def nearK (p h : ByteArray) : Int := if p.data.toList = [] then -1 else if p.data.toList = h.data.toList then h.size else p.size - 2
theorem near_any (p h : ByteArray) (w : World) (hp : p.size ≤ 1048576) (hh : h.size ≤ 1048576) : Calls Tryz.prog 16 #[.string p, .string h] w fun e w' => e = .returned (.int .i64 (nearK p h)) ∧ w = w' := by
  have e1 := str_eq p []
  have e2 := bytes_eq p h
  obtain ⟨R, HR⟩ : ∃ R, Hid (nearK p h = R) := ⟨_, hide rfl⟩
  rw [HR.out]
  unfold nearK at HR
  by_cases h1 : p.data.toList = []
  · have HX : Hid (R = -1) := hide (by rw [← HR.out, if_pos h1])
    rw [decide_eq_true h1] at e1
    clear e2 h1
    go_enter Tryz.func16, Tryz.ntmps16
    go_wp2
    go_ret
    exact ⟨by rw [HX.out]; first | done | rfl, rfl⟩
  · rw [decide_eq_false h1] at e1
    by_cases h2 : p = h
    · subst h2
      have HX : Hid (R = p.size) := hide (by rw [← HR.out, if_neg h1, if_pos rfl])
      rw [decide_eq_true rfl] at e2
      clear h1
      go_enter Tryz.func16, Tryz.ntmps16
      go_wp2
      go_ret
      exact ⟨by rw [HX.out]; first | done | rfl, rfl⟩
    · have h3 : ¬ p.data.toList = h.data.toList := fun e => h2 (bytes_ext e)
      have HX : Hid (R = p.size - 2) := hide (by rw [← HR.out, if_neg h1, if_neg h3])
      rw [decide_eq_false h2] at e2
      have e3 : IntKind.i64.wrap ((p.size : Int) - 2) = (p.size : Int) - 2 := IntWalk.i64_in _ ⟨by omega, by omega⟩
      clear h1 h2 h3
      go_enter Tryz.func16, Tryz.ntmps16
      go_wp2
      go_ret
      exact ⟨by rw [HX.out]; first | done | rfl, rfl⟩
def orK (a b : Int) : Int := if a = 0 then b else a
/-- cmp.Or of two numbers in a block of the call's own. -/
theorem or_any (a b : Int) (g : Nat) (w : World) (h0 : w.cell? ⟨g, 0, none⟩ = some (.int .i64 a)) (h1 : w.cell? ⟨g, 1, none⟩ = some (.int .i64 b)) :
    Calls Tryz.prog 14 #[.slice (some ⟨g, 0, none⟩) 2 2] w fun e w' => e = .returned (.int .i64 (orK a b)) ∧ w = w' := by
  obtain ⟨R, HR⟩ : ∃ R, Hid (orK a b = R) := ⟨_, hide rfl⟩
  rw [HR.out]
  unfold orK at HR
  have H0 := hide h0
  have H1 := hide h1
  clear h0 h1
  go_enter Tryz.func14, Tryz.ntmps14
  go_wp2
  go_loop [8] (fun i => ∃ k : Nat, k ≤ 2 ∧ i = .int .i64 k ∧ Hid (1 ≤ k → a = 0) ∧ Hid (2 ≤ k → b = 0)) (fun i => 2 - (intOf i).toNat)
  case atStart => exact ⟨0, Nat.zero_le _, rfl, hide (fun h => absurd h (by omega)), hide (fun h => absurd h (by omega))⟩
  case round =>
    obtain ⟨k, hk, rfl, HA, HB⟩ := hrel
    match k, hk with
    | 0, _ =>
      have r0 := H0.out
      by_cases ha : a = 0
      · have t0 : (a == 0) = true := beq_iff_eq.2 ha
        have HA2 : Hid (1 ≤ 1 → a = 0) := hide (fun _ => ha)
        have HB2 : Hid (2 ≤ 1 → b = 0) := hide (fun h => absurd h (by omega))
        go_wp2
        exact ⟨⟨1, by omega, by go_num, HA2, HB2⟩, by simp [intOf]⟩
      · have t0 : (a == 0) = false := beq_eq_false_iff_ne.2 ha
        have HX : Hid (R = a) := hide (by rw [← HR.out, if_neg ha])
        go_wp2
        go_ret
        exact ⟨by rw [HX.out]; first | done | rfl, rfl⟩
    | 1, _ =>
      have r0 := H1.out
      have ha := HA.out (by omega)
      by_cases hb : b = 0
      · have t0 : (b == 0) = true := beq_iff_eq.2 hb
        have HA2 : Hid (1 ≤ 2 → a = 0) := hide (fun _ => ha)
        have HB2 : Hid (2 ≤ 2 → b = 0) := hide (fun _ => hb)
        go_wp2
        exact ⟨⟨2, by omega, by go_num, HA2, HB2⟩, by simp [intOf]⟩
      · have t0 : (b == 0) = false := beq_eq_false_iff_ne.2 hb
        have HX : Hid (R = b) := hide (by rw [← HR.out, if_pos ha])
        go_wp2
        go_ret
        exact ⟨by rw [HX.out]; first | done | rfl, rfl⟩
    | 2, _ =>
      have HX : Hid (R = 0) := hide (by rw [← HR.out, if_pos (HA.out (by omega)), HB.out (by omega)])
      go_wp2
      go_ret
      exact ⟨by rw [HX.out]; first | done | rfl, rfl⟩
    | n + 3, h => exact absurd h (by omega)
end Go.Proofs.YtacnnomkacfdbaaGreatDoor
