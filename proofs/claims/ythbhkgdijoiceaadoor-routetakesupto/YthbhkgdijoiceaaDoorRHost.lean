/- How near a match's host is to a host: the program's, the document's. -/
import Derived.Test.YthbhkgdijoiceaaDoorRCov
namespace Go.Proofs.YthbhkgdijoiceaaDoor
open Go.ChangeShapes Go.WideShapes Go.ChangeAt Go.RowKit

def wildB (m h : ByteArray) : Bool := Lib.hasPrefix m.data.toList [42, 46] && (decide (m.size ≤ h.size) && decide (h.extract (h.size - m.size + 1) h.size = m.extract 1 m.size))
def hostK (m h : ByteArray) : Nat := if m.size = 0 then 1 else if m = h then 3 else if wildB m h = true then 2 else 0
theorem pre_two (m : ByteArray) : Lib.hasPrefix m.data.toList [42, 46] = decide (2 ≤ m.size ∧ m.extract 0 2 = ⟨#[42, 46]⟩) := pre_iff m ⟨#[42, 46]⟩
set_option maxHeartbeats 1000000 in
theorem thost_any (m h : ByteArray) (w : World) (hm : m.size ≤ 1099511627776) (hh : h.size ≤ 1099511627776) :
    Calls Tryd.prog 19 #[.string m, .string h] w fun e w' => e = .returned (.bool (decide (hostK m h ≠ 0))) ∧ Below w.heap.size w w' := by
  by_cases h0 : m.size = 0
  · have HR : Hid (decide (hostK m h ≠ 0) = true) := hide (decide_eq_true (by unfold hostK; rw [if_pos h0]; decide))
    have he : m.toList.isEmpty = true := by rw [Lib.toList_data, isEmpty_size]; exact decide_eq_true h0
    clear h0
    go_enter Tryd.func19, Tryd.ntmps19
    go_wp2
    go_ret
    exact ⟨ret_bool HR.out.symm, Below.refl _ _⟩
  · have he : m.toList.isEmpty = false := by rw [Lib.toList_data, isEmpty_size]; exact decide_eq_false h0
    have hbe := bytes_eq m h
    by_cases h1 : m = h
    · have HR : Hid (decide (hostK m h ≠ 0) = true) := hide (decide_eq_true (by unfold hostK; rw [if_neg h0, if_pos h1]; decide))
      rw [decide_eq_true h1] at hbe
      clear h0 h1
      go_enter Tryd.func19, Tryd.ntmps19
      go_wp2
      go_ret
      exact ⟨ret_bool HR.out.symm, Below.refl _ _⟩
    · rw [decide_eq_false h1] at hbe
      have hR : decide (hostK m h ≠ 0) = wildB m h := by
        unfold hostK
        rw [if_neg h0, if_neg h1]
        cases wildB m h <;> rfl
      have hP := Tryd.strings_HasPrefix m ⟨#[42, 46]⟩
      rw [show (⟨#[42, 46]⟩ : ByteArray).data.toList = [42, 46] from rfl] at hP
      clear h1
      cases hb : Lib.hasPrefix m.data.toList [42, 46] with
      | false =>
        rw [hb] at hP
        have HP := hide hP
        have HR : Hid (decide (hostK m h ≠ 0) = false) := hide (by rw [hR]; unfold wildB; rw [hb]; rfl)
        clear hP hR hb
        go_enter Tryd.func19, Tryd.ntmps19
        go_wp2_with (go_at_call 26; refine (HP.out _).mono ?_; rintro e w' ⟨rfl, rfl⟩)
        go_ret
        exact ⟨ret_bool HR.out.symm, Below.refl _ _⟩
      | true =>
        have h2 : 2 ≤ m.size := (of_decide_eq_true ((pre_two m).symm.trans hb)).1
        rw [hb] at hP
        have HP := hide hP
        have hez : (m.extract 1 m.size).size = m.size - 1 := by rw [ext_size]; omega
        by_cases h3 : m.size ≤ h.size
        · have hS := fun w => Tryd.strings_HasSuffix h (m.extract 1 m.size) w (by omega)
          rw [suf_iff h (m.extract 1 m.size) (by omega), hez, show h.size - (m.size - 1) = h.size - m.size + 1 by omega] at hS
          have HR : Hid (decide (hostK m h ≠ 0) = decide (h.extract (h.size - m.size + 1) h.size = m.extract 1 m.size)) := hide (by rw [hR]; unfold wildB; rw [hb, decide_eq_true h3]; rfl)
          generalize decide (h.extract (h.size - m.size + 1) h.size = m.extract 1 m.size) = y at hS HR
          have HS := hide hS
          clear hP hR hb hS
          go_enter Tryd.func19, Tryd.ntmps19
          go_wp2_with (first | (go_at_call 26; refine (HP.out _).mono ?_; rintro e w' ⟨rfl, rfl⟩) | (go_at_call 25; refine (HS.out _).mono ?_; rintro e w' ⟨rfl, rfl⟩))
          go_ret
          exact ⟨ret_bool HR.out.symm, Below.refl _ _⟩
        · have HR : Hid (decide (hostK m h ≠ 0) = false) := hide (by rw [hR]; unfold wildB; rw [decide_eq_false h3]; simp)
          clear hP hR hb
          go_enter Tryd.func19, Tryd.ntmps19
          go_wp2_with (go_at_call 26; refine (HP.out _).mono ?_; rintro e w' ⟨rfl, rfl⟩)
          go_ret
          exact ⟨ret_bool HR.out.symm, Below.refl _ _⟩
end Go.Proofs.YthbhkgdijoiceaaDoor
