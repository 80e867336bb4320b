/- Whether a prefix covers a path, by the document; how near a match's host is to a host. -/
import Derived.Test.YthbhkgdijoiceaaDoorRCov
namespace Go.Proofs.YthbhkgdijoiceaaDoor
open Go.ChangeShapes Go.WideShapes Go.ChangeAt Go.RowKit

set_option maxHeartbeats 1000000 in
theorem rcov_any (p s : ByteArray) (w : World) (hp : p.size ≤ 1099511627776) (hs : s.size ≤ 1099511627776) :
    Calls Tryd.prog 11 #[.string p, .string s] w fun e w' => e = .returned (.bool (covB p s)) ∧ Below w.heap.size w w' := by
  have hpre := pre_iff s p
  by_cases h1 : s.size < p.size
  · have HR : Hid (covB p s = false) := hide (by unfold covB; rw [hpre, decide_eq_false (by omega)]; rfl)
    clear hpre
    go_enter Tryd.func11, Tryd.ntmps11
    go_wp2
    go_ret
    exact ⟨ret_bool HR.out.symm, Below.refl _ _⟩
  · by_cases h2 : s.extract 0 p.size = p
    · have t2 : ((s.extract 0 p.size).toList == p.toList) = true := by rw [bytes_eq]; exact decide_eq_true h2
      have hb : Lib.hasPrefix s.data.toList p.data.toList = true := by rw [hpre]; exact decide_eq_true ⟨by omega, h2⟩
      clear hpre h2
      by_cases h3 : s.size = p.size
      · have HR : Hid (covB p s = true) := hide (by unfold covB; rw [hb, decide_eq_true h3]; rfl)
        clear hb
        go_enter Tryd.func11, Tryd.ntmps11
        go_wp2
        go_ret
        exact ⟨ret_bool HR.out.symm, Below.refl _ _⟩
      · have h4 : p.size < s.size := by omega
        have hq := pre_one s p.size h4
        by_cases h5 : 0 < p.size
        · have hx := suf_one p h5
          have hR : covB p s = (decide (p[p.size - 1].toNat = 47) || decide (s[p.size].toNat = 47)) := by
            unfold covB
            rw [hb, decide_eq_false h3, hx, hq]; rfl
          clear hx hq hb
          by_cases h6 : p[p.size - 1].toNat = 47
          · have HR : Hid (covB p s = true) := hide (by rw [hR, decide_eq_true h6]; rfl)
            have t6 : (((p[p.size - 1].toNat : Int)) == 47) = true := beq_iff_eq.2 (by omega)
            clear hR
            go_enter Tryd.func11, Tryd.ntmps11
            go_wp2
            go_ret
            exact ⟨ret_bool HR.out.symm, Below.refl _ _⟩
          · have HR : Hid (covB p s = decide (s[p.size].toNat = 47)) := hide (by rw [hR, decide_eq_false h6]; rfl)
            have t6 : (((p[p.size - 1].toNat : Int)) == 47) = false := beq_eq_false_iff_ne.2 (by omega)
            clear hR
            go_enter Tryd.func11, Tryd.ntmps11
            go_wp2
            go_ret
            exact ⟨ret_bool (by rw [HR.out, show (((s.size : Nat) : Int) == ((p.size : Nat) : Int)) = false from beq_eq_false_iff_ne.2 (by omega), Bool.false_or, Bool.eq_iff_iff, beq_iff_eq, decide_eq_true_eq]; omega), Below.refl _ _⟩
        · have hR : covB p s = decide (s[p.size].toNat = 47) := by
            unfold covB
            have hp0 : p.data.toList = [] := List.eq_nil_of_length_eq_zero (by rw [size_len]; omega)
            rw [hb, decide_eq_false h3, hq, show Lib.hasSuffix p.data.toList [47] = false by rw [hp0]; rfl]; rfl
          have HR := hide hR
          clear hR hq hb
          go_enter Tryd.func11, Tryd.ntmps11
          go_wp2
          go_ret
          exact ⟨ret_bool (by rw [HR.out, show (((s.size : Nat) : Int) == ((p.size : Nat) : Int)) = false from beq_eq_false_iff_ne.2 (by omega), Bool.false_or, Bool.eq_iff_iff, beq_iff_eq, decide_eq_true_eq]; omega), Below.refl _ _⟩
    · have t2 : ((s.extract 0 p.size).toList == p.toList) = false := by rw [bytes_eq]; exact decide_eq_false h2
      have HR : Hid (covB p s = false) := hide (by unfold covB; rw [hpre, decide_eq_false (fun h => h2 h.2)]; rfl)
      clear hpre h2
      go_enter Tryd.func11, Tryd.ntmps11
      go_wp2
      go_ret
      exact ⟨ret_bool HR.out.symm, Below.refl _ _⟩
end Go.Proofs.YthbhkgdijoiceaaDoor
