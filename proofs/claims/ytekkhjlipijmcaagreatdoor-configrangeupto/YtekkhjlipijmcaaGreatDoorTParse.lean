/- Which form a target must have; Parse, when what read tells is known. -/
import Derived.Test.YtekkhjlipijmcaaGreatDoorTRead2
namespace Go.Proofs.YtekkhjlipijmcaaGreatDoor
open Go.ChangeShapes Go.WideShapes Go.ChangeAt Go.RowKit

def connectL : List UInt8 := [67, 79, 78, 78, 69, 67, 84]
def optionsL : List UInt8 := [79, 80, 84, 73, 79, 78, 83]
def httpL : List UInt8 := [104, 116, 116, 112, 58, 47, 47]
def formN (m l : List UInt8) : Nat := if m = connectL then 3 else if m = optionsL ∧ l = [42] then 4 else if l.head? = some 47 then 1 else if 7 ≤ l.length ∧ sameB (l.take 7) httpL = true then 2 else 0
theorem ret_intN {a b : Int} (h : b = a) : Ending.returned (.int .i64 a) = .returned (.int .i64 b) := by rw [h]
set_option maxHeartbeats 1000000 in
theorem form_any (m s : ByteArray) (w : World) :
    Calls Tryz.prog 66 #[.string m, .string s] w fun e w' => e = .returned (.int .i64 (formN m.data.toList s.data.toList : Nat)) ∧ Below w.heap.size w w' := by
  have hP := Tryz.strings_HasPrefix s ⟨#[47]⟩
  rw [show (⟨#[47]⟩ : ByteArray).data.toList = [47] from rfl, prefix_head] at hP
  have e1 := str_eq m [67, 79, 78, 78, 69, 67, 84]
  have e2 := str_eq m [79, 80, 84, 73, 79, 78, 83]
  have e3 := str_eq s [42]
  unfold formN
  by_cases h1 : m.data.toList = connectL
  · rw [if_pos h1]
    have t1 : (m.toList == [67, 79, 78, 78, 69, 67, 84]) = true := by rw [e1]; exact decide_eq_true h1
    clear e1 e2 e3 h1 hP
    go_enter Tryz.func66, Tryz.ntmps66
    go_wp2
    go_ret
    exact ⟨rfl, Below.refl _ _⟩
  · rw [if_neg h1]
    have t1 : (m.toList == [67, 79, 78, 78, 69, 67, 84]) = false := by rw [e1]; exact decide_eq_false h1
    by_cases h2 : m.data.toList = optionsL ∧ s.data.toList = [42]
    · rw [if_pos h2]
      have t2 : (m.toList == [79, 80, 84, 73, 79, 78, 83]) = true := by rw [e2]; exact decide_eq_true h2.1
      have t3 : (s.toList == [42]) = true := by rw [e3]; exact decide_eq_true h2.2
      clear e1 e2 e3 h1 h2 hP
      go_enter Tryz.func66, Tryz.ntmps66
      go_wp2
      go_ret
      exact ⟨rfl, Below.refl _ _⟩
    · rw [if_neg h2]
      have t23 : ((m.toList == [79, 80, 84, 73, 79, 78, 83]) = false) ∨ ((m.toList == [79, 80, 84, 73, 79, 78, 83]) = true ∧ (s.toList == [42]) = false) := by
        rw [e2, e3]
        by_cases h3 : m.data.toList = optionsL
        · exact .inr ⟨decide_eq_true h3, decide_eq_false fun h4 => h2 ⟨h3, h4⟩⟩
        · exact .inl (decide_eq_false h3)
      clear e1 e2 e3 h1 h2
      by_cases h4 : s.data.toList.head? = some 47
      · rw [if_pos h4]
        rw [decide_eq_true h4] at hP
        have HP := hide hP
        clear hP h4
        rcases t23 with t2 | ⟨t2, t3⟩
        · go_enter Tryz.func66, Tryz.ntmps66
          go_wp2_with (go_at_call 67; refine (HP.out _).mono ?_; rintro e w' ⟨rfl, rfl⟩)
          go_ret
          exact ⟨rfl, Below.refl _ _⟩
        · go_enter Tryz.func66, Tryz.ntmps66
          go_wp2_with (go_at_call 67; refine (HP.out _).mono ?_; rintro e w' ⟨rfl, rfl⟩)
          go_ret
          exact ⟨rfl, Below.refl _ _⟩
      · rw [if_neg h4]
        rw [decide_eq_false h4] at hP
        have HP := hide hP
        clear hP h4
        by_cases h7 : 7 ≤ s.size
        · have h7' : (7 : Int) ≤ (s.size : Int) := by omega
          have hes : (s.extract 0 7).size = 7 := by rw [ext_size]; omega
          have hS := fun w => same_any (s.extract 0 7) ⟨#[104, 116, 116, 112, 58, 47, 47]⟩ w (by unfold maxLen; omega) (by unfold maxLen; decide)
          rw [ext_take, show (⟨#[104, 116, 116, 112, 58, 47, 47]⟩ : ByteArray).data.toList = httpL from rfl] at hS
          rw [size_len]
          cases hb : sameB (s.data.toList.take 7) httpL with
          | true =>
            rw [hb] at hS
            rw [if_pos ⟨h7, rfl⟩]
            have HS := hide hS
            clear hS hb
            rcases t23 with t2 | ⟨t2, t3⟩
            · go_enter Tryz.func66, Tryz.ntmps66
              go_wp2_with (first | (go_at_call 67; refine (HP.out _).mono ?_; rintro e w' ⟨rfl, rfl⟩) | (go_at_call 93; refine (HS.out _).mono ?_; rintro e w2 ⟨rfl, b2⟩))
              go_ret
              exact ⟨rfl, b2⟩
            · go_enter Tryz.func66, Tryz.ntmps66
              go_wp2_with (first | (go_at_call 67; refine (HP.out _).mono ?_; rintro e w' ⟨rfl, rfl⟩) | (go_at_call 93; refine (HS.out _).mono ?_; rintro e w2 ⟨rfl, b2⟩))
              go_ret
              exact ⟨rfl, b2⟩
          | false =>
            rw [hb] at hS
            rw [if_neg (by simp)]
            have HS := hide hS
            clear hS hb
            rcases t23 with t2 | ⟨t2, t3⟩
            · go_enter Tryz.func66, Tryz.ntmps66
              go_wp2_with (first | (go_at_call 67; refine (HP.out _).mono ?_; rintro e w' ⟨rfl, rfl⟩) | (go_at_call 93; refine (HS.out _).mono ?_; rintro e w2 ⟨rfl, b2⟩))
              go_ret
              exact ⟨rfl, b2⟩
            · go_enter Tryz.func66, Tryz.ntmps66
              go_wp2_with (first | (go_at_call 67; refine (HP.out _).mono ?_; rintro e w' ⟨rfl, rfl⟩) | (go_at_call 93; refine (HS.out _).mono ?_; rintro e w2 ⟨rfl, b2⟩))
              go_ret
              exact ⟨rfl, b2⟩
        · have h7' : ¬ (7 : Int) ≤ (s.size : Int) := by omega
          rw [if_neg (by rw [size_len]; omega)]
          rcases t23 with t2 | ⟨t2, t3⟩
          · go_enter Tryz.func66, Tryz.ntmps66
            go_wp2_with (go_at_call 67; refine (HP.out _).mono ?_; rintro e w' ⟨rfl, rfl⟩)
            go_ret
            exact ⟨rfl, Below.refl _ _⟩
          · go_enter Tryz.func66, Tryz.ntmps66
            go_wp2_with (go_at_call 67; refine (HP.out _).mono ?_; rintro e w' ⟨rfl, rfl⟩)
            go_ret
            exact ⟨rfl, Below.refl _ _⟩

/-- One block of the function's own: what it hands back. -/
structure One (w x : World) (c0 : Array Value) : Prop where
  h0 : x.heap[w.heap.size]? = some (.cells c0 61)
  b : Below w.heap.size w x
theorem One.start (w : World) (c0 : Array Value) : One w (w.alloc (.cells c0 61)) c0 := ⟨hp_new w _, (Below.refl _ w).alloc (Nat.le_refl _) _⟩
theorem One.below {w x y : World} {c0 : Array Value} (h : One w x c0) (hb : Below x.heap.size x y) : One w y c0 := ⟨(hb.block _ (lt_of_heap h.h0)).trans h.h0, h.b.trans (hb.mono h.b.size)⟩
theorem One.set0 {w x : World} {c0 : Array Value} (h : One w x c0) (i : Nat) (v : Value) : One w (x.setCell ⟨w.heap.size, i, none⟩ v) (c0.setIfInBounds i v) := ⟨hp_set h.h0 i v, h.b.setCell (Nat.le_refl _) _⟩
theorem One.cell0 {w x : World} {c0 : Array Value} (h : One w x c0) (i : Nat) : x.cell? ⟨w.heap.size, i, none⟩ = c0[i]? := cell_at h.h0 i
theorem One.fr0 {w x : World} {c0 : Array Value} (h : One w x c0) (i : Nat) : x.frozen? ⟨w.heap.size, i, none⟩ = false := by rw [frozen_at h.h0]; simp

set_option maxHeartbeats 1000000 in
theorem parse_of (m s : ByteArray) (w : World) (hs : s.size ≤ 8192) (hm : MX w) (f : Nat) (hf : formN m.data.toList s.data.toList = f) (h : ByteArray) (p : Int) (pa q : ByteArray) (a : Bool) (re : Int)
    (hR : ∀ w', MX w' → Calls Tryz.prog 65 #[.int .i64 (f : Int), .string s] w' fun e w'' => e = .returned (.tuple #[tgV f h p pa q a, .int .i64 re]) ∧ Below w'.heap.size w' w'') :
    Calls Tryz.prog 46 #[.string m, .string s] w fun e w' => e = .returned (.tuple #[if re = 0 then tgV f h p pa q a else tgV 0 ⟨#[]⟩ 0 ⟨#[]⟩ ⟨#[]⟩ false, .int .i64 re]) ∧ Below w.heap.size w w' := by
  have hF := fun w => form_any m s w
  rw [hf] at hF
  have HF := hide hF
  have HR := hide hR
  have HM := hide hm
  clear hF hR hm hf
  go_enter Tryz.func46, Tryz.ntmps46
  go_wp2_with fail
  have T0 := hide (One.start w #[.int .i64 0, .string ⟨#[]⟩, .int .i64 0, .string ⟨#[]⟩, .string ⟨#[]⟩, .bool false])
  generalize (w.alloc (.cells #[.int .i64 0, .string ⟨#[]⟩, .int .i64 0, .string ⟨#[]⟩, .string ⟨#[]⟩, .bool false] 61)) = x at T0 ⊢
  refine (HF.out _).mono ?_
  rintro e w1 ⟨rfl, b1⟩
  have T1 := hide (T0.out.below b1)
  clear b1 T0
  go_wp2_with fail
  refine (HR.out _ (HM.out.below T1.out.b)).mono ?_
  rintro e w2 ⟨rfl, b2⟩
  have T2 := hide (T1.out.below b2)
  clear b2 T1
  unfold tgV
  go_upto_region 4 with fail
  have T3 := hide (T2.out.below ((Below.refl _ w2).alloc (Nat.le_refl _) (.cells #[.int .i64 (f : Int), .string h, .int .i64 p, .string pa, .string q, .bool a] 61)))
  have HD := hide (hp_new w2 (.cells #[.int .i64 (f : Int), .string h, .int .i64 p, .string pa, .string q, .bool a] 61))
  generalize w2.alloc (.cells #[.int .i64 (f : Int), .string h, .int .i64 p, .string pa, .string q, .bool a] 61) = w3 at T3 HD ⊢
  generalize w2.heap.size = b at HD ⊢
  clear T2
  have d0 : w3.cell? ⟨b, 0, none⟩ = some (.int .i64 (f : Int)) := cell_at HD.out 0
  have d1 : w3.cell? ⟨b, 1, none⟩ = some (.string h) := cell_at HD.out 1
  have d2 : w3.cell? ⟨b, 2, none⟩ = some (.int .i64 p) := cell_at HD.out 2
  have d3 : w3.cell? ⟨b, 3, none⟩ = some (.string pa) := cell_at HD.out 3
  have d4 : w3.cell? ⟨b, 4, none⟩ = some (.string q) := cell_at HD.out 4
  have d5 : w3.cell? ⟨b, 5, none⟩ = some (.bool a) := cell_at HD.out 5
  have r0 : w3.cell? ⟨w.heap.size, 0, none⟩ = some (.int .i64 0) := T3.out.cell0 0
  have r1 : w3.cell? ⟨w.heap.size, 1, none⟩ = some (.string ⟨#[]⟩) := T3.out.cell0 1
  have r2 : w3.cell? ⟨w.heap.size, 2, none⟩ = some (.int .i64 0) := T3.out.cell0 2
  have r3 : w3.cell? ⟨w.heap.size, 3, none⟩ = some (.string ⟨#[]⟩) := T3.out.cell0 3
  have r4 : w3.cell? ⟨w.heap.size, 4, none⟩ = some (.string ⟨#[]⟩) := T3.out.cell0 4
  have r5 : w3.cell? ⟨w.heap.size, 5, none⟩ = some (.bool false) := T3.out.cell0 5
  have g0 := T3.out.fr0 0
  have g1 := T3.out.fr0 1
  have g2 := T3.out.fr0 2
  have g3 := T3.out.fr0 3
  have g4 := T3.out.fr0 4
  have g5 := T3.out.fr0 5
  by_cases h0 : re = 0
  · subst h0
    go_wp2
    have T4 := hide ((((((T3.out.set0 0 (.int .i64 (f : Int))).set0 1 (.string h)).set0 2 (.int .i64 p)).set0 3 (.string pa)).set0 4 (.string q)).set0 5 (.bool a))
    generalize ((((((w3.setCell ⟨w.heap.size, 0, none⟩ (.int .i64 (f : Int))).setCell ⟨w.heap.size, 1, none⟩ (.string h)).setCell ⟨w.heap.size, 2, none⟩ (.int .i64 p)).setCell ⟨w.heap.size, 3, none⟩ (.string pa)).setCell ⟨w.heap.size, 4, none⟩ (.string q)).setCell ⟨w.heap.size, 5, none⟩ (.bool a)) = w4 at T4 ⊢
    have k0 : w4.cell? ⟨w.heap.size, 0, none⟩ = some (.int .i64 (f : Int)) := T4.out.cell0 0
    have k1 : w4.cell? ⟨w.heap.size, 1, none⟩ = some (.string h) := T4.out.cell0 1
    have k2 : w4.cell? ⟨w.heap.size, 2, none⟩ = some (.int .i64 p) := T4.out.cell0 2
    have k3 : w4.cell? ⟨w.heap.size, 3, none⟩ = some (.string pa) := T4.out.cell0 3
    have k4 : w4.cell? ⟨w.heap.size, 4, none⟩ = some (.string q) := T4.out.cell0 4
    have k5 : w4.cell? ⟨w.heap.size, 5, none⟩ = some (.bool a) := T4.out.cell0 5
    clear d0 d1 d2 d3 d4 d5 r0 r1 r2 r3 r4 r5 g0 g1 g2 g3 g4 g5
    exact bodyPost_ret (v := .tuple #[.agg #[.int .i64 (f : Int), .string h, .int .i64 p, .string pa, .string q, .bool a], .int .i64 0]) (by simp [results, Tryz.results46, go_sem, k0, k1, k2, k3, k4, k5]) rfl ⟨rfl, T4.out.b⟩
  · have t0 : (re != 0) = true := by rw [bne_iff_ne]; exact h0
    have H0 := hide h0
    clear h0
    go_wp2
    have T4 := hide ((((((T3.out.set0 0 (.int .i64 0)).set0 1 (.string ⟨#[]⟩)).set0 2 (.int .i64 0)).set0 3 (.string ⟨#[]⟩)).set0 4 (.string ⟨#[]⟩)).set0 5 (.bool false))
    generalize ((((((w3.setCell ⟨w.heap.size, 0, none⟩ (.int .i64 0)).setCell ⟨w.heap.size, 1, none⟩ (.string ⟨#[]⟩)).setCell ⟨w.heap.size, 2, none⟩ (.int .i64 0)).setCell ⟨w.heap.size, 3, none⟩ (.string ⟨#[]⟩)).setCell ⟨w.heap.size, 4, none⟩ (.string ⟨#[]⟩)).setCell ⟨w.heap.size, 5, none⟩ (.bool false)) = w4 at T4 ⊢
    have k0 : w4.cell? ⟨w.heap.size, 0, none⟩ = some (.int .i64 0) := T4.out.cell0 0
    have k1 : w4.cell? ⟨w.heap.size, 1, none⟩ = some (.string ⟨#[]⟩) := T4.out.cell0 1
    have k2 : w4.cell? ⟨w.heap.size, 2, none⟩ = some (.int .i64 0) := T4.out.cell0 2
    have k3 : w4.cell? ⟨w.heap.size, 3, none⟩ = some (.string ⟨#[]⟩) := T4.out.cell0 3
    have k4 : w4.cell? ⟨w.heap.size, 4, none⟩ = some (.string ⟨#[]⟩) := T4.out.cell0 4
    have k5 : w4.cell? ⟨w.heap.size, 5, none⟩ = some (.bool false) := T4.out.cell0 5
    clear d0 d1 d2 d3 d4 d5 r0 r1 r2 r3 r4 r5 g0 g1 g2 g3 g4 g5
    exact bodyPost_ret (v := .tuple #[.agg #[.int .i64 0, .string ⟨#[]⟩, .int .i64 0, .string ⟨#[]⟩, .string ⟨#[]⟩, .bool false], .int .i64 re]) (by simp [results, Tryz.results46, go_sem, k0, k1, k2, k3, k4, k5]) rfl ⟨ret_tg ⟨rfl, rfl⟩, T4.out.b⟩
end Go.Proofs.YtekkhjlipijmcaaGreatDoor
