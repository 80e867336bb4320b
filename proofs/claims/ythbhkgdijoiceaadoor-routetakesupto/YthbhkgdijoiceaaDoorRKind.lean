/- How near a match's host is to a host, by the document. -/
import Derived.Test.YthbhkgdijoiceaaDoorRHost
namespace Go.Proofs.YthbhkgdijoiceaaDoor
open Go.ChangeShapes Go.WideShapes Go.ChangeAt Go.RowKit

set_option maxHeartbeats 2000000 in
theorem kind_any (m h : ByteArray) (w : World) (hm : m.size ≤ 1099511627776) (hh : h.size ≤ 1099511627776) :
    Calls Tryd.prog 22 #[.string m, .string h] w fun e w' => e = .returned (.int .i64 (hostK m h : Nat)) ∧ Below w.heap.size w w' := by
  by_cases h0 : m.size = 0
  · have HR : Hid ((1 : Int) = ((hostK m h : Nat) : Int)) := hide (by unfold hostK; rw [if_pos h0]; rfl)
    have he : m.toList.isEmpty = true := by rw [Lib.toList_data, isEmpty_size]; exact decide_eq_true h0
    clear h0
    go_enter Tryd.func22, Tryd.ntmps22
    go_wp2
    go_ret
    exact ⟨ret_int HR.out, Below.refl _ _⟩
  · have he : m.toList.isEmpty = false := by rw [Lib.toList_data, isEmpty_size]; exact decide_eq_false h0
    have hbe := bytes_eq m h
    by_cases h1 : m = h
    · have HR : Hid ((3 : Int) = ((hostK m h : Nat) : Int)) := hide (by unfold hostK; rw [if_neg h0, if_pos h1]; rfl)
      rw [decide_eq_true h1] at hbe
      clear h0 h1
      go_enter Tryd.func22, Tryd.ntmps22
      go_wp2
      go_ret
      exact ⟨ret_int HR.out, Below.refl _ _⟩
    · rw [decide_eq_false h1] at hbe
      have hR : hostK m h = if wildB m h = true then 2 else 0 := by
        unfold hostK
        rw [if_neg h0, if_neg h1]
      have hpre := pre_two m
      have hb2 := bytes_eq (m.extract 0 2) ⟨#[42, 46]⟩
      rw [show (⟨#[42, 46]⟩ : ByteArray).toList = [42, 46] by rw [Lib.toList_data]] at hb2
      have hb3 := bytes_eq (h.extract (h.size - m.size + 1) h.size) (m.extract 1 m.size)
      clear h1
      by_cases h2 : 2 ≤ m.size
      · have d2 : (2 : Int) ≤ (m.size : Int) := by omega
        have d2b : decide ((2 : Int) ≤ (m.size : Int)) = true := decide_eq_true d2
        by_cases h3 : m.extract 0 2 = ⟨#[42, 46]⟩
        · rw [decide_eq_true h3] at hb2
          have hp : Lib.hasPrefix m.data.toList [42, 46] = true := by rw [hpre]; exact decide_eq_true ⟨h2, h3⟩
          clear hpre h3
          by_cases h4 : m.size ≤ h.size
          · have d4 : (m.size : Int) ≤ (h.size : Int) := by omega
            have d4b : decide ((m.size : Int) ≤ (h.size : Int)) = true := decide_eq_true d4
            by_cases h5 : h.extract (h.size - m.size + 1) h.size = m.extract 1 m.size
            · rw [decide_eq_true h5] at hb3
              have HR : Hid ((2 : Int) = ((hostK m h : Nat) : Int)) := hide (by rw [hR, if_pos (by unfold wildB; rw [hp, decide_eq_true h4, decide_eq_true h5]; rfl)]; rfl)
              clear hR hp h5
              go_enter Tryd.func22, Tryd.ntmps22
              go_wp2
              go_quiet (fail)
              go_wp2
              go_ret
              exact ⟨ret_int HR.out, ⟨rfl, rfl, rfl, Nat.le_refl _, fun _ _ => rfl⟩⟩
            · rw [decide_eq_false h5] at hb3
              have HR : Hid ((0 : Int) = ((hostK m h : Nat) : Int)) := hide (by rw [hR, if_neg (by unfold wildB; rw [hp, decide_eq_true h4, decide_eq_false h5]; simp)]; rfl)
              clear hR hp h5
              go_enter Tryd.func22, Tryd.ntmps22
              go_wp2
              go_quiet (fail)
              go_wp2
              go_ret
              exact ⟨ret_int HR.out, ⟨rfl, rfl, rfl, Nat.le_refl _, fun _ _ => rfl⟩⟩
          · have HR : Hid ((0 : Int) = ((hostK m h : Nat) : Int)) := hide (by rw [hR, if_neg (by unfold wildB; rw [decide_eq_false h4]; simp)]; rfl)
            have d4 : ¬ (m.size : Int) ≤ (h.size : Int) := by omega
            have d4b : decide ((m.size : Int) ≤ (h.size : Int)) = false := decide_eq_false d4
            clear hR hp hb3
            go_enter Tryd.func22, Tryd.ntmps22
            go_wp2
            go_quiet (fail)
            go_wp2
            go_ret
            exact ⟨ret_int HR.out, ⟨rfl, rfl, rfl, Nat.le_refl _, fun _ _ => rfl⟩⟩
        · rw [decide_eq_false h3] at hb2
          have HR : Hid ((0 : Int) = ((hostK m h : Nat) : Int)) := hide (by rw [hR, if_neg (by unfold wildB; rw [hpre, decide_eq_false (fun h => h3 h.2)]; simp)]; rfl)
          clear hR hpre hb3 h3
          go_enter Tryd.func22, Tryd.ntmps22
          go_wp2
          go_quiet (fail)
          go_wp2
          go_ret
          exact ⟨ret_int HR.out, ⟨rfl, rfl, rfl, Nat.le_refl _, fun _ _ => rfl⟩⟩
      · have HR : Hid ((0 : Int) = ((hostK m h : Nat) : Int)) := hide (by rw [hR, if_neg (by unfold wildB; rw [hpre, decide_eq_false (fun h => h2 h.1)]; simp)]; rfl)
        have d2 : ¬ (2 : Int) ≤ (m.size : Int) := by omega
        have d2b : decide ((2 : Int) ≤ (m.size : Int)) = false := decide_eq_false d2
        clear hR hpre hb2 hb3
        go_enter Tryd.func22, Tryd.ntmps22
        go_wp2
        go_quiet (fail)
        go_wp2
        go_ret
        exact ⟨ret_int HR.out, ⟨rfl, rfl, rfl, Nat.le_refl _, fun _ _ => rfl⟩⟩
end Go.Proofs.YthbhkgdijoiceaaDoor
