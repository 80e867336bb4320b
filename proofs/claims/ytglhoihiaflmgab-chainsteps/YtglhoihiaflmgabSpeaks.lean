/- The small case which each statement asks first, a chain that is stopped and then not, comes out true. -/
import Derived.Test.YtglhoihiaflmgabFind
namespace Go.Proofs.Ytglhoihiaflmgab
open Go.ChangeShapes Go.WideShapes Go.ChangeAt Go.RowKit

theorem room_chain {w : World} {b r bound high low : Nat} {L : List Int} {stop : Bool} (h : Chain w b r bound high low L stop) :
    Calls Try.prog 21 #[.pointer (some ⟨b, 0, none⟩)] w fun e w' => e = .returned (.int .i64 ((bound : Int) - L.length)) ∧ ∃ n, w.drewN n = w' := by
  obtain ⟨rv, st, hd⟩ := h.hd
  have := h.fits
  have := h.marks.h3
  exact room_any hd (by omega) (by omega) (by omega)
theorem stopped_chain {w : World} {b r bound high low : Nat} {L : List Int} {stop : Bool} (h : Chain w b r bound high low L stop) :
    Calls Try.prog 22 #[.pointer (some ⟨b, 0, none⟩)] w fun e w' => e = .returned (.bool stop) ∧ w = w' := by
  obtain ⟨rv, st, hd⟩ := h.hd
  exact stopped_any hd
theorem len_chain {w : World} {b r bound high low : Nat} {L : List Int} {stop : Bool} (h : Chain w b r bound high low L stop) :
    Calls Try.prog 20 #[.pointer (some ⟨b, 0, none⟩)] w fun e w' => e = .returned (.int .i64 (L.length : Int)) ∧ w = w' := by
  obtain ⟨rv, st, hd⟩ := h.hd
  exact len_any hd

theorem five (w : World) (j : Nat) (hj : j < [1, 2, 3, 4, 5].length) : (w.alloc (.cells #[.int .u8 1, .int .u8 2, .int .u8 3, .int .u8 4, .int .u8 5] 5)).cell? ⟨w.heap.size, 0 + j, none⟩ = some (.int .u8 ([1, 2, 3, 4, 5].getD j 0)) := by
  match j, hj with
  | 0, _ => simp [go_sem]
  | 1, _ => simp [go_sem]
  | 2, _ => simp [go_sem]
  | 3, _ => simp [go_sem]
  | 4, _ => simp [go_sem]

set_option maxHeartbeats 1000000 in
theorem speaks_any (w : World) : Calls Try.prog 10 #[] w fun e w' => e = .returned (.bool true) ∧ Fr (fun _ => False) w w' := by
  go_enter Try.func10, Try.ntmps10
  go_wp2_with fail
  refine (new_yes 4 3 1 ⟨by omega, by omega, by omega, by omega⟩ _).mono ?_
  rintro e w1 ⟨rfl, F1, z1, C1⟩
  have C2 := hide C1
  have F2 := hide F1
  have Z1 := hide z1
  clear C1 F1 z1
  go_wp2_with fail
  have hN : w.heap.size < w1.heap.size := by rw [Z1.out]; omega
  have A1 : Fr (fun _ => False) w1 (w1.alloc (.cells #[.int .u8 1, .int .u8 2, .int .u8 3, .int .u8 4, .int .u8 5] 5)) := Fr.alloc _ _ _
  refine (put_some (C2.out.frame A1 (fun x => x) (fun x => x)) [1, 2, 3, 4, 5] w1.heap.size 0 5 4 (by omega) (by omega) (by decide) (by decide) (by simp) (five w1) (by omega) rfl).mono ?_
  rintro e w2 ⟨rfl, F3, r2, C3, hr⟩
  have F4 : Hid (Fr (fun _ => False) w w2) := hide ((F2.out.trans A1 (fun _ _ x => x)).trans F3 (fun i hi x => by rcases x with x | x <;> omega))
  have C4 : Hid (Chain w2 w.heap.size r2 4 3 1 [1, 2, 3, 4] true) := hide C3
  have hr2 : w.heap.size ≤ r2 := by
    rcases hr with e | e
    · omega
    · have := A1.size; omega
  have hs2 : w.heap.size < w2.heap.size := by
    have := F3.size
    have := A1.size
    omega
  clear F3 C3 hr A1 hN C2 F2 Z1
  go_wp2_with fail
  refine (stopped_chain C4.out).mono ?_
  rintro e w' ⟨rfl, rfl⟩
  go_wp2_with fail
  refine (take_some C4.out 2 2 rfl (by omega)).mono ?_
  rintro e w3 ⟨rfl, F5, z3, _, C5⟩
  have F6 : Hid (Fr (fun _ => False) w w3) := hide (F4.out.trans F5 (fun i hi x => by omega))
  have C6 : Hid (Chain w3 w.heap.size r2 4 3 1 [3, 4] true) := hide C5
  clear F5 C5 C4 F4 z3 hs2
  go_wp2_with fail
  refine (stopped_chain C6.out).mono ?_
  rintro e w' ⟨rfl, rfl⟩
  go_wp2_with fail
  refine (drop_some C6.out 1 1 rfl (by omega)).mono ?_
  rintro e w4 ⟨rfl, F7, C7⟩
  have F8 : Hid (Fr (fun _ => False) w w4) := hide (F6.out.trans F7 (fun i hi x => by omega))
  have C8 : Hid (Chain w4 w.heap.size r2 4 3 1 [4] false) := hide C7
  clear F7 C7 C6 F6
  go_wp2_with fail
  refine (stopped_chain C8.out).mono ?_
  rintro e w' ⟨rfl, rfl⟩
  go_wp2_with fail
  refine (find_any C8.out (by intro x hx; simp at hx; omega) 4 (by omega)).mono ?_
  rintro e w' ⟨rfl, n1, rfl⟩
  have e4 : findI [4] 4 = 0 := by decide
  go_wp2_with fail
  refine (room_chain (C8.out.drewN n1)).mono ?_
  rintro e w' ⟨rfl, n2, rfl⟩
  go_wp2_with fail
  go_ret
  exact ⟨rfl, F8.out.trans (Fr.drewN (fun _ => False) _ _) (fun _ _ x => x)⟩
end Go.Proofs.Ytglhoihiaflmgab
