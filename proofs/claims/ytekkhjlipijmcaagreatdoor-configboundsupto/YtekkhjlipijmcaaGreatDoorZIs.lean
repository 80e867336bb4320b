/- Config: whether a number is one of a range, whether a text is a host: the program's. -/
import Derived.Test.YtekkhjlipijmcaaGreatDoorTPart
import Derived.Test.YtekkhjlipijmcaaGreatDoorQZ1
namespace Go.Proofs.YtekkhjlipijmcaaGreatDoor
open Go.ChangeShapes Go.WideShapes Go.ChangeAt Go.RowKit

def inB (n a b : Int) : Bool := decide (a ≤ n) && decide (n ≤ b)
theorem hold_any (w : World) (a b n : Int) : Calls Tryz.prog 40 #[.agg #[.int .i64 a, .int .i64 b], .int .i64 n] w fun e w' => e = .returned (.bool (inB n a b)) ∧ Below w.heap.size w w' := by
  unfold inB
  by_cases h : a ≤ n
  · have HD := hide (decide_eq_true h)
    go_enter Tryz.func40, Tryz.ntmps40
    go_wp2
    go_ret
    exact ⟨ret_bool (by rw [HD.out]; rfl), (Bl.one w _ _).b⟩
  · have HD := hide (decide_eq_false h)
    go_enter Tryz.func40, Tryz.ntmps40
    go_wp2
    go_ret
    exact ⟨ret_bool (by rw [HD.out]; rfl), (Bl.one w _ _).b⟩
def isHostB (s : ByteArray) : Bool := decide (hostE s.data.toList = 0) && decide (hostS s = s)
theorem ishostC_any (s : ByteArray) (w : World) (hs : s.size ≤ 140737488355328) : Calls Tryz.prog 26 #[.string s] w fun e w' => e = .returned (.bool (isHostB s)) ∧ Below w.heap.size w w' := by
  have HH := hide (host_any s w hs)
  have hbe := bytes_eq (hostS s) s
  unfold isHostB
  generalize hostS s = t at HH hbe ⊢
  generalize hostE s.data.toList = ee at HH ⊢
  generalize hostP s.data.toList = p at HH
  clear hs
  by_cases h0 : ee = 0
  · subst h0
    go_enter Tryz.func26, Tryz.ntmps26
    go_wp2_with fail
    refine HH.out.mono ?_
    rintro e w1 ⟨rfl, bb⟩
    have B1 := hide bb
    clear bb HH
    go_wp2
    go_ret
    exact ⟨ret_bool (by simp), B1.out⟩
  · have t0 : ((ee : Int) == 0) = false := beq_eq_false_iff_ne.2 (by omega)
    have HD := hide (decide_eq_false h0)
    go_enter Tryz.func26, Tryz.ntmps26
    go_wp2_with fail
    refine HH.out.mono ?_
    rintro e w1 ⟨rfl, bb⟩
    have B1 := hide bb
    clear bb HH
    go_wp2
    go_ret
    exact ⟨ret_bool (by rw [HD.out]; rfl), B1.out⟩
end Go.Proofs.YtekkhjlipijmcaaGreatDoor
