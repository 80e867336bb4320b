/- A field's name held against another one: the program's test as a function value. -/
import Derived.Test.YtcagjipdldlehaaGreatDoorFld
import Derived.Test.YtcagjipdldlehaaGreatDoorLow
import Derived.Test.YtcagjipdldlehaaGreatDoorBcl
namespace Go.Proofs.YtcagjipdldlehaaGreatDoor
open Go.ChangeShapes Go.WideShapes Go.ChangeAt Go.RowKit

set_option maxHeartbeats 1000000 in
theorem namedf_any (n v small : ByteArray) (g : Nat) (w : World) (hn : n.size ≤ maxLen) (hc : w.cell? ⟨g, 0, none⟩ = some (.string small)) :
    Calls Tryz.prog 178 #[.agg #[.string n, .string v], .pointer (some ⟨g, 0, none⟩)] w fun e w' => e = .returned (.bool ((lowS n).toList == small.toList)) ∧ Below w.heap.size w w' := by
  have HL := hide (fun W => lower_any n W hn)
  clear hn
  go_enter Tryz.func178, Tryz.ntmps178
  go_wp2_with fail
  have b0 := hide ((Below.refl _ w).alloc (Nat.le_refl _) (.cells #[.string n, .string v] 48))
  have c0 : (w.alloc (.cells #[.string n, .string v] 48)).cell? ⟨w.heap.size, 0, none⟩ = some (.string n) := cell_at (hp_new w _) 0
  have c1 : (w.alloc (.cells #[.string n, .string v] 48)).cell? ⟨g, 0, none⟩ = some (.string small) := by rw [b0.out.cell (p := ⟨g, 0, none⟩) (World.block_lt_of_cell? w _ hc)]; exact hc
  clear hc
  generalize w.alloc (.cells #[.string n, .string v] 48) = w1 at b0 c0 c1 ⊢
  refine wp_region_cl (by kernel_rfl) (by kernel_rfl) ?_
  refine cl_val (v := ?_) (by kernel_rfl) (fun W hW => ?_) ?_
  rotate_left
  · unfold Oper.quietAt; go_simp; try with_reducible rfl
  simp only [Act.put, List.setIfInBounds_toArray, List.set_cons_zero, List.set_cons_succ]
  refine cl_val (v := ?_) (by kernel_rfl) (fun W hW => ?_) ?_
  rotate_left
  · have l0 := hW.cell c0; unfold Oper.quietAt; go_simp; try with_reducible rfl
  simp only [Act.put, List.setIfInBounds_toArray, List.set_cons_zero, List.set_cons_succ]
  refine cl_val (v := .string (lowS n)) (by kernel_rfl) (fun W hW => ?_) ?_
  · unfold Oper.quietAt; go_simp; exact call_cl hW (HL.out W)
  simp only [Act.put, List.setIfInBounds_toArray, List.set_cons_zero, List.set_cons_succ]
  refine cl_val (v := ?_) (by kernel_rfl) (fun W hW => ?_) ?_
  rotate_left
  · have l0 := hW.cell c1; unfold Oper.quietAt; go_simp; try with_reducible rfl
  simp only [Act.put, List.setIfInBounds_toArray, List.set_cons_zero, List.set_cons_succ]
  refine cl_val (v := ?_) (by kernel_rfl) (fun W hW => ?_) ?_
  rotate_left
  · unfold Oper.quietAt; go_simp; try with_reducible rfl
  simp only [Act.put, List.setIfInBounds_toArray, List.set_cons_zero, List.set_cons_succ]
  refine cl_assign _ (by kernel_rfl) rfl ?_
  simp only [Act.put, List.setIfInBounds_toArray, List.set_cons_zero, List.set_cons_succ]
  refine wpQuiet_nil ?_
  intro w2 Hw2
  go_wp2
  go_ret
  exact ⟨rfl, b0.out.trans (Hw2.out.mono b0.out.size)⟩
theorem named_any (n : ByteArray) (w : World) (hn : n.size ≤ maxLen) :
    Calls Tryz.prog 167 #[.string n] w fun e w' => ∃ g, e = .returned (.func (.func 178) #[] #[.pointer (some ⟨g, 0, none⟩)]) ∧ w'.cell? ⟨g, 0, none⟩ = some (.string (lowS n)) ∧ Below w.heap.size w w' := by
  have hmf : ∀ (fn : Fn) (first cap : Array Value) (w : World), (Instr.makeFunc fn first cap).run Tryz.prog w = .ok (.func fn first cap) w := fun _ _ _ _ => rfl
  go_enter Tryz.func167, Tryz.ntmps167
  go_wp2_with (go_at_call 158; refine (lower_any _ _ hn).mono ?_; rintro e w1 ⟨rfl, b1⟩)
  go_ret
  exact ⟨_, rfl, cell_at (hp_new w1 _) 0, b1.alloc b1.size _⟩
end Go.Proofs.YtcagjipdldlehaaGreatDoor
