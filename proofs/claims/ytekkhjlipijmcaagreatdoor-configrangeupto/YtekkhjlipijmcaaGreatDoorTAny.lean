/- strings.IndexAny with these two marks, at every text. -/
import Derived.Test.YtekkhjlipijmcaaGreatDoorTUtf
import Derived.Test.YtekkhjlipijmcaaGreatDoorTRead
import Derived.Shelf.Strings.IndexAny
import Derived.Deep.LoopGhost
import Derived.WalkMore
import Derived.Deep.QuietTactic
import Derived.BigQuiet
namespace Go.Proofs.YtekkhjlipijmcaaGreatDoor
open Go.ChangeShapes Go.WideShapes Go.ChangeAt Go.RowKit

def mkS : ByteArray := ⟨#[47, 63]⟩
theorem below_iter (w : World) (s : ByteArray) (p : Nat) : Below w.heap.size w (w.iter s p) := (Below.refl _ w).alloc (Nat.le_refl _) _
set_option maxRecDepth 1000000 in
set_option maxHeartbeats 2000000 in
theorem rune_bad (w : World) : Calls Tryz.prog 123 #[.string mkS, .int .i32 65533] w fun e w' => e = .returned (.int .i64 (-1)) ∧ Below w.heap.size w w' := by
  go_enter Tryz.func123, Tryz.ntmps123
  go_wp2
  go_loopg [5, 6] 2 (fun g _ _ wx => ∃ i : Nat, i + g = 2 ∧ wx = w.iter mkS i)
  case atStart => exact ⟨0, by omega, rfl⟩
  case round =>
    obtain ⟨i, hig, rfl⟩ := hrel
    cases gk with
    | zero =>
      obtain rfl : i = 2 := by omega
      have hnx := fun ty => run_next_end (P := Tryz.prog) w mkS 2 ty (by decide)
      go_wp2
      go_ret
      exact ⟨rfl, below_iter _ _ _⟩
    | succ g =>
      cases g with
      | zero =>
        obtain rfl : i = 1 := by omega
        have hnx := fun ty => run_next_ascii (P := Tryz.prog) w mkS 1 ty (by decide) (by decide)
        rw [show (mkS[1]'(by decide)).toNat = 63 from rfl] at hnx
        go_wp2
        go_roundg 0
        case measure => omega
        case rel => exact ⟨2, by omega, rfl⟩
      | succ g =>
        obtain rfl : i = 0 := by omega
        obtain rfl : g = 0 := by omega
        have hnx := fun ty => run_next_ascii (P := Tryz.prog) w mkS 0 ty (by decide) (by decide)
        rw [show (mkS[0]'(by decide)).toNat = 47 from rfl] at hnx
        go_wp2
        go_roundg 1
        case measure => omega
        case rel => exact ⟨1, by omega, rfl⟩
set_option maxRecDepth 1000000 in
set_option maxHeartbeats 2000000 in
theorem rune_high (r : Int) (h0 : 128 ≤ r) (hv : r < 55296 ∨ (57343 < r ∧ r ≤ 1114111)) (hne : r ≠ 65533) (w : World) : Calls Tryz.prog 123 #[.string mkS, .int .i32 r] w fun e w' => e = .returned (.int .i64 (-1)) ∧ Below w.heap.size w w' := by
  have hval : Utf8.valid r = true := by rw [validRune_eq]; unfold validRune; exact decide_eq_true (by omega)
  obtain ⟨E, hE, e1, e2, e3⟩ : ∃ E : ByteArray, Utf8.encode r = E ∧ 2 ≤ E.size ∧ E.size ≤ 4 ∧ ∀ h : E.size - 1 < E.size, 128 ≤ (E[E.size - 1]'h).toNat := ⟨_, rfl, encode_facts r hval h0⟩
  have tne : (r == 65533) = false := beq_eq_false_iff_ne.2 hne
  have H3 := hide e3
  clear e3 hval
  have cE : ∀ W : World, (convert 21 9 (.int .i32 r)).run Tryz.prog W = .ok (.string E) W := fun W => by rw [run_convert_int_string W 21 9 .i32 r (by rw [Tryz.underlying21]; rfl) Tryz.underlying9, hE]
  have HI := hide (fun c w => Tryz.strings_IndexByte (⟨#[]⟩ : ByteArray) c w)
  clear hE
  by_cases h2 : E.size = 2
  · obtain ⟨a, b, rfl⟩ : ∃ a b : UInt8, E = ⟨#[a, b]⟩ := by
      obtain ⟨⟨l⟩⟩ := E
      match l, h2 with
      | [a, b], _ => exact ⟨a, b, rfl⟩
    have hb : 128 ≤ b.toNat := H3.out (by show 1 < 2; omega)
    have tb : ((63 : Int) != (b.toNat : Int)) = true := by rw [bne_iff_ne]; omega
    clear H3 e1 e2 h2
    have hsl : ∀ W : World, (Instr.slice 9 (.string mkS) (some (.int .i64 2)) none none).run Tryz.prog W = .ok (.string ⟨#[]⟩) W := fun W => by
      simp [Instr.slice, go_sem, mkS]
      rfl
    have HJ : Hid (∀ w : World, Calls Tryz.prog 80 #[.string ⟨#[]⟩, .int .u8 (b.toNat : Int)] w fun e w' => e = .returned (.int .i64 (-1)) ∧ w' = w) := hide (fun w => HI.out _ w)
    clear HI
    have hw2 : IntKind.i64.wrap 2 = 2 := by decide
    have hi1 : ∀ W : World, (Instr.index 9 (.string mkS) (.int .i64 1)).run Tryz.prog W = .ok (.int .u8 63) W := fun W => by
      simp [Instr.index, go_sem, mkS]
      try rfl
    have hi2 : ∀ W : World, (Instr.index 9 (.string ⟨#[a, b]⟩) (.int .i64 1)).run Tryz.prog W = .ok (.int .u8 (b.toNat : Int)) W := fun W => by
      simp [Instr.index, go_sem]
      try rfl
    rcases hv with hv | hv
    · go_enter Tryz.func123, Tryz.ntmps123
      go_wp2
      go_step3
      go_wp2
      go_loopg [9, 10] 1 (fun g i f wx => i = .int .i64 1 ∧ f = .int .i64 0 ∧ wx = w)
      case atStart => exact ⟨rfl, rfl, rfl⟩
      case round =>
        obtain ⟨rfl, rfl, rfl⟩ := hrel
        go_wp2
        go_step3
        go_wp2
        go_quiet (fail)
        have HX := hide (below_drewN wr nq)
        generalize wr.drewN nq = wx at HX ⊢
        go_wp2
        go_quiet (first | (go_at_call 80; refine Calls.quiet_of_same (HJ.out _)))
        go_wp2
        rw [Exit.noGoto_ret]
        go_wp2
        try rw [Exit.noGoto_ret]
        go_wp2
        go_ret
        exact ⟨rfl, HX.out.trans ((below_drewN wx nq).mono HX.out.size)⟩
    · go_enter Tryz.func123, Tryz.ntmps123
      go_wp2
      go_step3
      go_wp2
      go_loopg [9, 10] 1 (fun g i f wx => i = .int .i64 1 ∧ f = .int .i64 0 ∧ wx = w)
      case atStart => exact ⟨rfl, rfl, rfl⟩
      case round =>
        obtain ⟨rfl, rfl, rfl⟩ := hrel
        go_wp2
        go_step3
        go_wp2
        go_quiet (fail)
        have HX := hide (below_drewN wr nq)
        generalize wr.drewN nq = wx at HX ⊢
        go_wp2
        go_quiet (first | (go_at_call 80; refine Calls.quiet_of_same (HJ.out _)))
        go_wp2
        rw [Exit.noGoto_ret]
        go_wp2
        try rw [Exit.noGoto_ret]
        go_wp2
        go_ret
        exact ⟨rfl, HX.out.trans ((below_drewN wx nq).mono HX.out.size)⟩
  · have h3 : ¬ (E.size : Int) - 1 < (mkS.size : Int) := by rw [show mkS.size = 2 from rfl]; omega
    clear HI H3
    rcases hv with hv | hv
    · go_enter Tryz.func123, Tryz.ntmps123
      go_wp2
      go_step3
      go_wp2
      go_loopg [9, 10] 1 (fun g i f wx => i = .int .i64 ((E.size : Int) - 1) ∧ f = .int .i64 0 ∧ wx = w)
      case atStart => exact ⟨rfl, rfl, rfl⟩
      case round =>
        obtain ⟨rfl, rfl, rfl⟩ := hrel
        go_wp2
        try rw [Exit.noGoto_ret]
        try go_wp2
        go_ret
        exact ⟨rfl, Below.refl _ _⟩
    · go_enter Tryz.func123, Tryz.ntmps123
      go_wp2
      go_step3
      go_wp2
      go_loopg [9, 10] 1 (fun g i f wx => i = .int .i64 ((E.size : Int) - 1) ∧ f = .int .i64 0 ∧ wx = w)
      case atStart => exact ⟨rfl, rfl, rfl⟩
      case round =>
        obtain ⟨rfl, rfl, rfl⟩ := hrel
        go_wp2
        try rw [Exit.noGoto_ret]
        try go_wp2
        go_ret
        exact ⟨rfl, Below.refl _ _⟩
end Go.Proofs.YtekkhjlipijmcaaGreatDoor
