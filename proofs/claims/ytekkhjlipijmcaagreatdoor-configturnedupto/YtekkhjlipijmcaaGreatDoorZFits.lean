/- Whether numbers are in their ranges: the program's. -/
import Derived.Test.YtekkhjlipijmcaaGreatDoorZIs
namespace Go.Proofs.YtekkhjlipijmcaaGreatDoor
open Go.ChangeShapes Go.WideShapes Go.ChangeAt Go.RowKit

/-- The variable of the program that holds ranges, as it is laid. -/
def RG (w : World) (g : Nat) (L : List (Int × Int)) : Prop := g < w.heap.size ∧ ∀ k a b, L[k]? = some (a, b) → w.cell? ⟨g, 2 * k, none⟩ = some (.int .i64 a) ∧ w.cell? ⟨g, 2 * k + 1, none⟩ = some (.int .i64 b)
theorem RG.below {w w' : World} {g : Nat} {L : List (Int × Int)} (h : RG w g L) (hb : Below w.heap.size w w') : RG w' g L :=
  ⟨Nat.lt_of_lt_of_le h.1 hb.size, fun k a b hk => ⟨(hb.cell (p := ⟨g, 2 * k, none⟩) h.1).trans (h.2 k a b hk).1, (hb.cell (p := ⟨g, 2 * k + 1, none⟩) h.1).trans (h.2 k a b hk).2⟩⟩
theorem RG.at {w : World} {g : Nat} {L : List (Int × Int)} (h : RG w g L) (k : Nat) (a b : Int) (hk : L[k]? = some (a, b)) : w.cell? ⟨g, 2 * k, none⟩ = some (.int .i64 a) ∧ w.cell? ⟨g, 2 * k + 1, none⟩ = some (.int .i64 b) := h.2 k a b hk
def fitK (N : List Int) (L : List (Int × Int)) (k : Nat) : Bool := ((N.zip L).take k).all fun x => inB x.1 x.2.1 x.2.2
theorem fit_next {N : List Int} {L : List (Int × Int)} {k : Nat} {n a b : Int} (h : (N.zip L)[k]? = some (n, (a, b))) : fitK N L (k + 1) = (fitK N L k && inB n a b) := by
  unfold fitK
  rw [List.take_add_one, h, List.all_append]
  simp
theorem fit_no {N : List Int} {L : List (Int × Int)} {k m : Nat} {n a b : Int} (h : (N.zip L)[k]? = some (n, (a, b))) (hk : k < m) (hb : inB n a b = false) : fitK N L m = false := by
  unfold fitK
  rw [List.all_eq_false]
  refine ⟨(n, (a, b)), List.mem_of_getElem? (i := k) ?_, by rw [hb]; decide⟩
  rw [List.getElem?_take, if_pos hk, h]
def hostFits_anyL : List (Int × Int) := [(1, 64), (0, 64)]
set_option maxHeartbeats 4000000 in
set_option maxRecDepth 100000 in
theorem hostFits_any (w : World) (nm : ByteArray) (ca pe : Int) (hR : RG w 0 hostFits_anyL) :
    Calls Tryz.prog 27 #[.agg #[.string nm, .int .i64 ca, .int .i64 pe]] w fun e w' => e = .returned (.bool (fitK [ca, pe] hostFits_anyL 2)) ∧ Below w.heap.size w w' := by
  have HR := hide hR
  clear hR
  go_enter Tryz.func27, Tryz.ntmps27
  go_wp2
  have T0 := hide (Bl.one w #[.string nm, .int .i64 ca, .int .i64 pe] 43)
  generalize (w.alloc (.cells #[.string nm, .int .i64 ca, .int .i64 pe] 43)) = x at T0 ⊢
  go_loopw [10] (fun i wr => ∃ k : Nat, k ≤ 2 ∧ i = .int .i64 k ∧ Hid (fitK [ca, pe] hostFits_anyL k = true) ∧ Hid (Below w.heap.size w wr)) (fun i _ => 2 - (intOf i).toNat)
  case atStart => exact ⟨0, Nat.zero_le _, rfl, hide rfl, hide T0.out.b⟩
  case round =>
    obtain ⟨k, hk, rfl, H, HB⟩ := hrel
    by_cases hlt : k < 2
    · have hcs : k = 0 ∨ k = 1 := by omega
      rcases hcs with rfl | rfl
      · obtain ⟨q0, q1⟩ := (HR.out.below HB.out).at 0 1 64 rfl
        have ix : (Instr.index 68 (.agg #[.int .i64 ca, .int .i64 pe]) (.int .i64 0)).run Tryz.prog wr = .ok (.int .i64 ca) wr := by kernel_rfl
        have HI := hide (fun W => hold_any W 1 64 ca)
        have HS := hide (fit_next (N := [ca, pe]) (L := hostFits_anyL) (k := 0) (n := ca) (a := 1) (b := 64) rfl)
        have HN := hide (fit_no (N := [ca, pe]) (L := hostFits_anyL) (k := 0) (m := 2) (n := ca) (a := 1) (b := 64) rfl (by decide))
        generalize inB ca 1 64 = bq at HI HS HN
        cases bq
        · have HX := hide (HN.out rfl)
          clear HS HN
          go_wp2_with fail
          refine (HI.out _).mono ?_
          rintro e w' ⟨rfl, bb⟩
          have B2 := hide (HB.out.trans (bb.mono HB.out.size))
          clear bb
          go_wp2
          go_ret
          exact ⟨ret_bool HX.out.symm, B2.out⟩
        · have HX : Hid (fitK [ca, pe] hostFits_anyL 1 = true) := hide (by rw [HS.out, H.out]; rfl)
          clear HS HN
          go_wp2_with fail
          refine (HI.out _).mono ?_
          rintro e w' ⟨rfl, bb⟩
          have B2 := hide (HB.out.trans (bb.mono HB.out.size))
          clear bb
          go_wp2
          exact ⟨⟨1, by omega, by go_num, HX, B2⟩, by simp [intOf]⟩
      · obtain ⟨q0, q1⟩ := (HR.out.below HB.out).at 1 0 64 rfl
        have ix : (Instr.index 68 (.agg #[.int .i64 ca, .int .i64 pe]) (.int .i64 1)).run Tryz.prog wr = .ok (.int .i64 pe) wr := by kernel_rfl
        have HI := hide (fun W => hold_any W 0 64 pe)
        have HS := hide (fit_next (N := [ca, pe]) (L := hostFits_anyL) (k := 1) (n := pe) (a := 0) (b := 64) rfl)
        have HN := hide (fit_no (N := [ca, pe]) (L := hostFits_anyL) (k := 1) (m := 2) (n := pe) (a := 0) (b := 64) rfl (by decide))
        generalize inB pe 0 64 = bq at HI HS HN
        cases bq
        · have HX := hide (HN.out rfl)
          clear HS HN
          go_wp2_with fail
          refine (HI.out _).mono ?_
          rintro e w' ⟨rfl, bb⟩
          have B2 := hide (HB.out.trans (bb.mono HB.out.size))
          clear bb
          go_wp2
          go_ret
          exact ⟨ret_bool HX.out.symm, B2.out⟩
        · have HX : Hid (fitK [ca, pe] hostFits_anyL 2 = true) := hide (by rw [HS.out, H.out]; rfl)
          clear HS HN
          go_wp2_with fail
          refine (HI.out _).mono ?_
          rintro e w' ⟨rfl, bb⟩
          have B2 := hide (HB.out.trans (bb.mono HB.out.size))
          clear bb
          go_wp2
          exact ⟨⟨2, by omega, by go_num, HX, B2⟩, by simp [intOf]⟩
    · have HX : Hid (fitK [ca, pe] hostFits_anyL 2 = true) := hide (by rw [← H.out]; congr 1; omega)
      go_wp2
      go_ret
      exact ⟨ret_bool HX.out.symm, HB.out⟩
end Go.Proofs.YtekkhjlipijmcaaGreatDoor
