/- QZa: ZIs ZFits ZFits2 ZFits3 ZCaps ZRow ZNum ZPlace ZMatch ZRest. -/
import Derived.Test.YtekkhjlipijmcaaGreatDoorTPart
import Derived.Test.YtekkhjlipijmcaaGreatDoorBlk
import Derived.Test.YtekkhjlipijmcaaGreatDoorStrs
import Derived.Test.YtekkhjlipijmcaaGreatDoorTTaken
/- Config: whether a number is one of a range, whether a text is a host: the program's. -/
namespace Go.Proofs.YtekkhjlipijmcaaGreatDoor
open Go.ChangeShapes Go.WideShapes Go.ChangeAt Go.RowKit

def inB (n a b : Int) : Bool := decide (a ≤ n) && decide (n ≤ b)
theorem hold_any (w : World) (a b n : Int) : Calls Tryz.prog 40 #[.agg #[.int .i64 a, .int .i64 b], .int .i64 n] w fun e w' => e = .returned (.bool (inB n a b)) ∧ Below w.heap.size w w' := by
  unfold inB
  by_cases h : a ≤ n
  · have HD := hide (decide_eq_true h)
    go_enter Tryz.func40, Tryz.ntmps40
    go_wp2
    go_ret
    exact ⟨ret_bool (by rw [HD.out]; rfl), (Bl.one w _ _).b⟩
  · have HD := hide (decide_eq_false h)
    go_enter Tryz.func40, Tryz.ntmps40
    go_wp2
    go_ret
    exact ⟨ret_bool (by rw [HD.out]; rfl), (Bl.one w _ _).b⟩
def isHostB (s : ByteArray) : Bool := decide (hostE s.data.toList = 0) && decide (hostS s = s)
theorem ishostC_any (s : ByteArray) (w : World) (hs : s.size ≤ 140737488355328) : Calls Tryz.prog 26 #[.string s] w fun e w' => e = .returned (.bool (isHostB s)) ∧ Below w.heap.size w w' := by
  have HH := hide (host_any s w hs)
  have hbe := bytes_eq (hostS s) s
  unfold isHostB
  generalize hostS s = t at HH hbe ⊢
  generalize hostE s.data.toList = ee at HH ⊢
  generalize hostP s.data.toList = p at HH
  clear hs
  by_cases h0 : ee = 0
  · subst h0
    go_enter Tryz.func26, Tryz.ntmps26
    go_wp2_with fail
    refine HH.out.mono ?_
    rintro e w1 ⟨rfl, bb⟩
    have B1 := hide bb
    clear bb HH
    go_wp2
    go_ret
    exact ⟨ret_bool (by simp), B1.out⟩
  · have t0 : ((ee : Int) == 0) = false := beq_eq_false_iff_ne.2 (by omega)
    have HD := hide (decide_eq_false h0)
    go_enter Tryz.func26, Tryz.ntmps26
    go_wp2_with fail
    refine HH.out.mono ?_
    rintro e w1 ⟨rfl, bb⟩
    have B1 := hide bb
    clear bb HH
    go_wp2
    go_ret
    exact ⟨ret_bool (by rw [HD.out]; rfl), B1.out⟩
end Go.Proofs.YtekkhjlipijmcaaGreatDoor
/- Whether numbers are in their ranges: the program's. -/
namespace Go.Proofs.YtekkhjlipijmcaaGreatDoor
open Go.ChangeShapes Go.WideShapes Go.ChangeAt Go.RowKit

/-- The variable of the program that holds ranges, as it is laid. -/
def RG (w : World) (g : Nat) (L : List (Int × Int)) : Prop := g < w.heap.size ∧ ∀ k a b, L[k]? = some (a, b) → w.cell? ⟨g, 2 * k, none⟩ = some (.int .i64 a) ∧ w.cell? ⟨g, 2 * k + 1, none⟩ = some (.int .i64 b)
theorem RG.below {w w' : World} {g : Nat} {L : List (Int × Int)} (h : RG w g L) (hb : Below w.heap.size w w') : RG w' g L :=
  ⟨Nat.lt_of_lt_of_le h.1 hb.size, fun k a b hk => ⟨(hb.cell (p := ⟨g, 2 * k, none⟩) h.1).trans (h.2 k a b hk).1, (hb.cell (p := ⟨g, 2 * k + 1, none⟩) h.1).trans (h.2 k a b hk).2⟩⟩
theorem RG.at {w : World} {g : Nat} {L : List (Int × Int)} (h : RG w g L) (k : Nat) (a b : Int) (hk : L[k]? = some (a, b)) : w.cell? ⟨g, 2 * k, none⟩ = some (.int .i64 a) ∧ w.cell? ⟨g, 2 * k + 1, none⟩ = some (.int .i64 b) := h.2 k a b hk
def fitK (N : List Int) (L : List (Int × Int)) (k : Nat) : Bool := ((N.zip L).take k).all fun x => inB x.1 x.2.1 x.2.2
theorem fit_next {N : List Int} {L : List (Int × Int)} {k : Nat} {n a b : Int} (h : (N.zip L)[k]? = some (n, (a, b))) : fitK N L (k + 1) = (fitK N L k && inB n a b) := by
  unfold fitK
  rw [List.take_add_one, h, List.all_append]
  simp
theorem fit_no {N : List Int} {L : List (Int × Int)} {k m : Nat} {n a b : Int} (h : (N.zip L)[k]? = some (n, (a, b))) (hk : k < m) (hb : inB n a b = false) : fitK N L m = false := by
  unfold fitK
  rw [List.all_eq_false]
  refine ⟨(n, (a, b)), List.mem_of_getElem? (i := k) ?_, by rw [hb]; decide⟩
  rw [List.getElem?_take, if_pos hk, h]
def hostFits_anyL : List (Int × Int) := [(1, 64), (0, 64)]
set_option maxHeartbeats 4000000 in
set_option maxRecDepth 100000 in
theorem hostFits_any (w : World) (nm : ByteArray) (ca pe : Int) (hR : RG w 0 hostFits_anyL) :
    Calls Tryz.prog 27 #[.agg #[.string nm, .int .i64 ca, .int .i64 pe]] w fun e w' => e = .returned (.bool (fitK [ca, pe] hostFits_anyL 2)) ∧ Below w.heap.size w w' := by
  have HR := hide hR
  clear hR
  go_enter Tryz.func27, Tryz.ntmps27
  go_wp2
  have T0 := hide (Bl.one w #[.string nm, .int .i64 ca, .int .i64 pe] 43)
  generalize (w.alloc (.cells #[.string nm, .int .i64 ca, .int .i64 pe] 43)) = x at T0 ⊢
  go_loopw [10] (fun i wr => ∃ k : Nat, k ≤ 2 ∧ i = .int .i64 k ∧ Hid (fitK [ca, pe] hostFits_anyL k = true) ∧ Hid (Below w.heap.size w wr)) (fun i _ => 2 - (intOf i).toNat)
  case atStart => exact ⟨0, Nat.zero_le _, rfl, hide rfl, hide T0.out.b⟩
  case round =>
    obtain ⟨k, hk, rfl, H, HB⟩ := hrel
    by_cases hlt : k < 2
    · have hcs : k = 0 ∨ k = 1 := by omega
      rcases hcs with rfl | rfl
      · obtain ⟨q0, q1⟩ := (HR.out.below HB.out).at 0 1 64 rfl
        have ix : (Instr.index 68 (.agg #[.int .i64 ca, .int .i64 pe]) (.int .i64 0)).run Tryz.prog wr = .ok (.int .i64 ca) wr := by kernel_rfl
        have HI := hide (fun W => hold_any W 1 64 ca)
        have HS := hide (fit_next (N := [ca, pe]) (L := hostFits_anyL) (k := 0) (n := ca) (a := 1) (b := 64) rfl)
        have HN := hide (fit_no (N := [ca, pe]) (L := hostFits_anyL) (k := 0) (m := 2) (n := ca) (a := 1) (b := 64) rfl (by decide))
        generalize inB ca 1 64 = bq at HI HS HN
        cases bq
        · have HX := hide (HN.out rfl)
          clear HS HN
          go_wp2_with fail
          refine (HI.out _).mono ?_
          rintro e w' ⟨rfl, bb⟩
          have B2 := hide (HB.out.trans (bb.mono HB.out.size))
          clear bb
          go_wp2
          go_ret
          exact ⟨ret_bool HX.out.symm, B2.out⟩
        · have HX : Hid (fitK [ca, pe] hostFits_anyL 1 = true) := hide (by rw [HS.out, H.out]; rfl)
          clear HS HN
          go_wp2_with fail
          refine (HI.out _).mono ?_
          rintro e w' ⟨rfl, bb⟩
          have B2 := hide (HB.out.trans (bb.mono HB.out.size))
          clear bb
          go_wp2
          exact ⟨⟨1, by omega, by go_num, HX, B2⟩, by simp [intOf]⟩
      · obtain ⟨q0, q1⟩ := (HR.out.below HB.out).at 1 0 64 rfl
        have ix : (Instr.index 68 (.agg #[.int .i64 ca, .int .i64 pe]) (.int .i64 1)).run Tryz.prog wr = .ok (.int .i64 pe) wr := by kernel_rfl
        have HI := hide (fun W => hold_any W 0 64 pe)
        have HS := hide (fit_next (N := [ca, pe]) (L := hostFits_anyL) (k := 1) (n := pe) (a := 0) (b := 64) rfl)
        have HN := hide (fit_no (N := [ca, pe]) (L := hostFits_anyL) (k := 1) (m := 2) (n := pe) (a := 0) (b := 64) rfl (by decide))
        generalize inB pe 0 64 = bq at HI HS HN
        cases bq
        · have HX := hide (HN.out rfl)
          clear HS HN
          go_wp2_with fail
          refine (HI.out _).mono ?_
          rintro e w' ⟨rfl, bb⟩
          have B2 := hide (HB.out.trans (bb.mono HB.out.size))
          clear bb
          go_wp2
          go_ret
          exact ⟨ret_bool HX.out.symm, B2.out⟩
        · have HX : Hid (fitK [ca, pe] hostFits_anyL 2 = true) := hide (by rw [HS.out, H.out]; rfl)
          clear HS HN
          go_wp2_with fail
          refine (HI.out _).mono ?_
          rintro e w' ⟨rfl, bb⟩
          have B2 := hide (HB.out.trans (bb.mono HB.out.size))
          clear bb
          go_wp2
          exact ⟨⟨2, by omega, by go_num, HX, B2⟩, by simp [intOf]⟩
    · have HX : Hid (fitK [ca, pe] hostFits_anyL 2 = true) := hide (by rw [← H.out]; congr 1; omega)
      go_wp2
      go_ret
      exact ⟨ret_bool HX.out.symm, HB.out⟩
end Go.Proofs.YtekkhjlipijmcaaGreatDoor
/- Whether a route's numbers are in their ranges: the program's. -/
namespace Go.Proofs.YtekkhjlipijmcaaGreatDoor
open Go.ChangeShapes Go.WideShapes Go.ChangeAt Go.RowKit

def routeFits_anyL : List (Int × Int) := [(0, 1000000), (1, 1000000), (0, 1000000), (1, 1000), (0, 1000), (1, 1000000), (1, 100), (0, 100), (0, 1000), (1, 1000000), (0, 5), (0, 3), (1, 1000000), (1, 1000000), (1, 1000000)]
set_option maxHeartbeats 4000000 in
set_option maxRecDepth 100000 in
theorem routeFits_any (w : World) (ho pf : ByteArray) (a1 : Option Addr) (n1 c1 : Nat) (hd va : ByteArray) (a2 : Option Addr) (n2 c2 : Nat) (r0 r1 r2 r3 r4 r5 r6 r7 r8 r9 r10 r11 r12 r13 r14 : Int) (hR : RG w 1 routeFits_anyL) :
    Calls Tryz.prog 31 #[.agg #[.string ho, .string pf, .slice a1 n1 c1, .string hd, .string va, .slice a2 n2 c2, .int .i64 r0, .int .i64 r1, .int .i64 r2, .int .i64 r3, .int .i64 r4, .int .i64 r5, .int .i64 r6, .int .i64 r7, .int .i64 r8, .int .i64 r9, .int .i64 r10, .int .i64 r11, .int .i64 r12, .int .i64 r13, .int .i64 r14]] w fun e w' => e = .returned (.bool (fitK [r0, r1, r2, r3, r4, r5, r6, r7, r8, r9, r10, r11, r12, r13, r14] routeFits_anyL 15)) ∧ Below w.heap.size w w' := by
  have HR := hide hR
  clear hR
  go_enter Tryz.func31, Tryz.ntmps31
  go_wp2
  have T0 := hide (Bl.one w #[.string ho, .string pf, .slice a1 n1 c1, .string hd, .string va, .slice a2 n2 c2, .int .i64 r0, .int .i64 r1, .int .i64 r2, .int .i64 r3, .int .i64 r4, .int .i64 r5, .int .i64 r6, .int .i64 r7, .int .i64 r8, .int .i64 r9, .int .i64 r10, .int .i64 r11, .int .i64 r12, .int .i64 r13, .int .i64 r14] 40)
  generalize (w.alloc (.cells #[.string ho, .string pf, .slice a1 n1 c1, .string hd, .string va, .slice a2 n2 c2, .int .i64 r0, .int .i64 r1, .int .i64 r2, .int .i64 r3, .int .i64 r4, .int .i64 r5, .int .i64 r6, .int .i64 r7, .int .i64 r8, .int .i64 r9, .int .i64 r10, .int .i64 r11, .int .i64 r12, .int .i64 r13, .int .i64 r14] 40)) = x at T0 ⊢
  go_loopw [36] (fun i wr => ∃ k : Nat, k ≤ 15 ∧ i = .int .i64 k ∧ Hid (fitK [r0, r1, r2, r3, r4, r5, r6, r7, r8, r9, r10, r11, r12, r13, r14] routeFits_anyL k = true) ∧ Hid (Below w.heap.size w wr)) (fun i _ => 15 - (intOf i).toNat)
  case atStart => exact ⟨0, Nat.zero_le _, rfl, hide rfl, hide T0.out.b⟩
  case round =>
    obtain ⟨k, hk, rfl, H, HB⟩ := hrel
    by_cases hlt : k < 15
    · have hcs : k = 0 ∨ k = 1 ∨ k = 2 ∨ k = 3 ∨ k = 4 ∨ k = 5 ∨ k = 6 ∨ k = 7 ∨ k = 8 ∨ k = 9 ∨ k = 10 ∨ k = 11 ∨ k = 12 ∨ k = 13 ∨ k = 14 := by omega
      rcases hcs with rfl | rfl | rfl | rfl | rfl | rfl | rfl | rfl | rfl | rfl | rfl | rfl | rfl | rfl | rfl
      · obtain ⟨q0, q1⟩ := (HR.out.below HB.out).at 0 0 1000000 rfl
        have ix : (Instr.index 74 (.agg #[.int .i64 r0, .int .i64 r1, .int .i64 r2, .int .i64 r3, .int .i64 r4, .int .i64 r5, .int .i64 r6, .int .i64 r7, .int .i64 r8, .int .i64 r9, .int .i64 r10, .int .i64 r11, .int .i64 r12, .int .i64 r13, .int .i64 r14]) (.int .i64 0)).run Tryz.prog wr = .ok (.int .i64 r0) wr := by kernel_rfl
        have HI := hide (fun W => hold_any W 0 1000000 r0)
        have HS := hide (fit_next (N := [r0, r1, r2, r3, r4, r5, r6, r7, r8, r9, r10, r11, r12, r13, r14]) (L := routeFits_anyL) (k := 0) (n := r0) (a := 0) (b := 1000000) rfl)
        have HN := hide (fit_no (N := [r0, r1, r2, r3, r4, r5, r6, r7, r8, r9, r10, r11, r12, r13, r14]) (L := routeFits_anyL) (k := 0) (m := 15) (n := r0) (a := 0) (b := 1000000) rfl (by decide))
        generalize inB r0 0 1000000 = bq at HI HS HN
        cases bq
        · have HX := hide (HN.out rfl)
          clear HS HN
          go_wp2_with fail
          refine (HI.out _).mono ?_
          rintro e w' ⟨rfl, bb⟩
          have B2 := hide (HB.out.trans (bb.mono HB.out.size))
          clear bb
          go_wp2
          go_ret
          exact ⟨ret_bool HX.out.symm, B2.out⟩
        · have HX : Hid (fitK [r0, r1, r2, r3, r4, r5, r6, r7, r8, r9, r10, r11, r12, r13, r14] routeFits_anyL 1 = true) := hide (by rw [HS.out, H.out]; rfl)
          clear HS HN
          go_wp2_with fail
          refine (HI.out _).mono ?_
          rintro e w' ⟨rfl, bb⟩
          have B2 := hide (HB.out.trans (bb.mono HB.out.size))
          clear bb
          go_wp2
          exact ⟨⟨1, by omega, by go_num, HX, B2⟩, by simp [intOf]⟩
      · obtain ⟨q0, q1⟩ := (HR.out.below HB.out).at 1 1 1000000 rfl
        have ix : (Instr.index 74 (.agg #[.int .i64 r0, .int .i64 r1, .int .i64 r2, .int .i64 r3, .int .i64 r4, .int .i64 r5, .int .i64 r6, .int .i64 r7, .int .i64 r8, .int .i64 r9, .int .i64 r10, .int .i64 r11, .int .i64 r12, .int .i64 r13, .int .i64 r14]) (.int .i64 1)).run Tryz.prog wr = .ok (.int .i64 r1) wr := by kernel_rfl
        have HI := hide (fun W => hold_any W 1 1000000 r1)
        have HS := hide (fit_next (N := [r0, r1, r2, r3, r4, r5, r6, r7, r8, r9, r10, r11, r12, r13, r14]) (L := routeFits_anyL) (k := 1) (n := r1) (a := 1) (b := 1000000) rfl)
        have HN := hide (fit_no (N := [r0, r1, r2, r3, r4, r5, r6, r7, r8, r9, r10, r11, r12, r13, r14]) (L := routeFits_anyL) (k := 1) (m := 15) (n := r1) (a := 1) (b := 1000000) rfl (by decide))
        generalize inB r1 1 1000000 = bq at HI HS HN
        cases bq
        · have HX := hide (HN.out rfl)
          clear HS HN
          go_wp2_with fail
          refine (HI.out _).mono ?_
          rintro e w' ⟨rfl, bb⟩
          have B2 := hide (HB.out.trans (bb.mono HB.out.size))
          clear bb
          go_wp2
          go_ret
          exact ⟨ret_bool HX.out.symm, B2.out⟩
        · have HX : Hid (fitK [r0, r1, r2, r3, r4, r5, r6, r7, r8, r9, r10, r11, r12, r13, r14] routeFits_anyL 2 = true) := hide (by rw [HS.out, H.out]; rfl)
          clear HS HN
          go_wp2_with fail
          refine (HI.out _).mono ?_
          rintro e w' ⟨rfl, bb⟩
          have B2 := hide (HB.out.trans (bb.mono HB.out.size))
          clear bb
          go_wp2
          exact ⟨⟨2, by omega, by go_num, HX, B2⟩, by simp [intOf]⟩
      · obtain ⟨q0, q1⟩ := (HR.out.below HB.out).at 2 0 1000000 rfl
        have ix : (Instr.index 74 (.agg #[.int .i64 r0, .int .i64 r1, .int .i64 r2, .int .i64 r3, .int .i64 r4, .int .i64 r5, .int .i64 r6, .int .i64 r7, .int .i64 r8, .int .i64 r9, .int .i64 r10, .int .i64 r11, .int .i64 r12, .int .i64 r13, .int .i64 r14]) (.int .i64 2)).run Tryz.prog wr = .ok (.int .i64 r2) wr := by kernel_rfl
        have HI := hide (fun W => hold_any W 0 1000000 r2)
        have HS := hide (fit_next (N := [r0, r1, r2, r3, r4, r5, r6, r7, r8, r9, r10, r11, r12, r13, r14]) (L := routeFits_anyL) (k := 2) (n := r2) (a := 0) (b := 1000000) rfl)
        have HN := hide (fit_no (N := [r0, r1, r2, r3, r4, r5, r6, r7, r8, r9, r10, r11, r12, r13, r14]) (L := routeFits_anyL) (k := 2) (m := 15) (n := r2) (a := 0) (b := 1000000) rfl (by decide))
        generalize inB r2 0 1000000 = bq at HI HS HN
        cases bq
        · have HX := hide (HN.out rfl)
          clear HS HN
          go_wp2_with fail
          refine (HI.out _).mono ?_
          rintro e w' ⟨rfl, bb⟩
          have B2 := hide (HB.out.trans (bb.mono HB.out.size))
          clear bb
          go_wp2
          go_ret
          exact ⟨ret_bool HX.out.symm, B2.out⟩
        · have HX : Hid (fitK [r0, r1, r2, r3, r4, r5, r6, r7, r8, r9, r10, r11, r12, r13, r14] routeFits_anyL 3 = true) := hide (by rw [HS.out, H.out]; rfl)
          clear HS HN
          go_wp2_with fail
          refine (HI.out _).mono ?_
          rintro e w' ⟨rfl, bb⟩
          have B2 := hide (HB.out.trans (bb.mono HB.out.size))
          clear bb
          go_wp2
          exact ⟨⟨3, by omega, by go_num, HX, B2⟩, by simp [intOf]⟩
      · obtain ⟨q0, q1⟩ := (HR.out.below HB.out).at 3 1 1000 rfl
        have ix : (Instr.index 74 (.agg #[.int .i64 r0, .int .i64 r1, .int .i64 r2, .int .i64 r3, .int .i64 r4, .int .i64 r5, .int .i64 r6, .int .i64 r7, .int .i64 r8, .int .i64 r9, .int .i64 r10, .int .i64 r11, .int .i64 r12, .int .i64 r13, .int .i64 r14]) (.int .i64 3)).run Tryz.prog wr = .ok (.int .i64 r3) wr := by kernel_rfl
        have HI := hide (fun W => hold_any W 1 1000 r3)
        have HS := hide (fit_next (N := [r0, r1, r2, r3, r4, r5, r6, r7, r8, r9, r10, r11, r12, r13, r14]) (L := routeFits_anyL) (k := 3) (n := r3) (a := 1) (b := 1000) rfl)
        have HN := hide (fit_no (N := [r0, r1, r2, r3, r4, r5, r6, r7, r8, r9, r10, r11, r12, r13, r14]) (L := routeFits_anyL) (k := 3) (m := 15) (n := r3) (a := 1) (b := 1000) rfl (by decide))
        generalize inB r3 1 1000 = bq at HI HS HN
        cases bq
        · have HX := hide (HN.out rfl)
          clear HS HN
          go_wp2_with fail
          refine (HI.out _).mono ?_
          rintro e w' ⟨rfl, bb⟩
          have B2 := hide (HB.out.trans (bb.mono HB.out.size))
          clear bb
          go_wp2
          go_ret
          exact ⟨ret_bool HX.out.symm, B2.out⟩
        · have HX : Hid (fitK [r0, r1, r2, r3, r4, r5, r6, r7, r8, r9, r10, r11, r12, r13, r14] routeFits_anyL 4 = true) := hide (by rw [HS.out, H.out]; rfl)
          clear HS HN
          go_wp2_with fail
          refine (HI.out _).mono ?_
          rintro e w' ⟨rfl, bb⟩
          have B2 := hide (HB.out.trans (bb.mono HB.out.size))
          clear bb
          go_wp2
          exact ⟨⟨4, by omega, by go_num, HX, B2⟩, by simp [intOf]⟩
      · obtain ⟨q0, q1⟩ := (HR.out.below HB.out).at 4 0 1000 rfl
        have ix : (Instr.index 74 (.agg #[.int .i64 r0, .int .i64 r1, .int .i64 r2, .int .i64 r3, .int .i64 r4, .int .i64 r5, .int .i64 r6, .int .i64 r7, .int .i64 r8, .int .i64 r9, .int .i64 r10, .int .i64 r11, .int .i64 r12, .int .i64 r13, .int .i64 r14]) (.int .i64 4)).run Tryz.prog wr = .ok (.int .i64 r4) wr := by kernel_rfl
        have HI := hide (fun W => hold_any W 0 1000 r4)
        have HS := hide (fit_next (N := [r0, r1, r2, r3, r4, r5, r6, r7, r8, r9, r10, r11, r12, r13, r14]) (L := routeFits_anyL) (k := 4) (n := r4) (a := 0) (b := 1000) rfl)
        have HN := hide (fit_no (N := [r0, r1, r2, r3, r4, r5, r6, r7, r8, r9, r10, r11, r12, r13, r14]) (L := routeFits_anyL) (k := 4) (m := 15) (n := r4) (a := 0) (b := 1000) rfl (by decide))
        generalize inB r4 0 1000 = bq at HI HS HN
        cases bq
        · have HX := hide (HN.out rfl)
          clear HS HN
          go_wp2_with fail
          refine (HI.out _).mono ?_
          rintro e w' ⟨rfl, bb⟩
          have B2 := hide (HB.out.trans (bb.mono HB.out.size))
          clear bb
          go_wp2
          go_ret
          exact ⟨ret_bool HX.out.symm, B2.out⟩
        · have HX : Hid (fitK [r0, r1, r2, r3, r4, r5, r6, r7, r8, r9, r10, r11, r12, r13, r14] routeFits_anyL 5 = true) := hide (by rw [HS.out, H.out]; rfl)
          clear HS HN
          go_wp2_with fail
          refine (HI.out _).mono ?_
          rintro e w' ⟨rfl, bb⟩
          have B2 := hide (HB.out.trans (bb.mono HB.out.size))
          clear bb
          go_wp2
          exact ⟨⟨5, by omega, by go_num, HX, B2⟩, by simp [intOf]⟩
      · obtain ⟨q0, q1⟩ := (HR.out.below HB.out).at 5 1 1000000 rfl
        have ix : (Instr.index 74 (.agg #[.int .i64 r0, .int .i64 r1, .int .i64 r2, .int .i64 r3, .int .i64 r4, .int .i64 r5, .int .i64 r6, .int .i64 r7, .int .i64 r8, .int .i64 r9, .int .i64 r10, .int .i64 r11, .int .i64 r12, .int .i64 r13, .int .i64 r14]) (.int .i64 5)).run Tryz.prog wr = .ok (.int .i64 r5) wr := by kernel_rfl
        have HI := hide (fun W => hold_any W 1 1000000 r5)
        have HS := hide (fit_next (N := [r0, r1, r2, r3, r4, r5, r6, r7, r8, r9, r10, r11, r12, r13, r14]) (L := routeFits_anyL) (k := 5) (n := r5) (a := 1) (b := 1000000) rfl)
        have HN := hide (fit_no (N := [r0, r1, r2, r3, r4, r5, r6, r7, r8, r9, r10, r11, r12, r13, r14]) (L := routeFits_anyL) (k := 5) (m := 15) (n := r5) (a := 1) (b := 1000000) rfl (by decide))
        generalize inB r5 1 1000000 = bq at HI HS HN
        cases bq
        · have HX := hide (HN.out rfl)
          clear HS HN
          go_wp2_with fail
          refine (HI.out _).mono ?_
          rintro e w' ⟨rfl, bb⟩
          have B2 := hide (HB.out.trans (bb.mono HB.out.size))
          clear bb
          go_wp2
          go_ret
          exact ⟨ret_bool HX.out.symm, B2.out⟩
        · have HX : Hid (fitK [r0, r1, r2, r3, r4, r5, r6, r7, r8, r9, r10, r11, r12, r13, r14] routeFits_anyL 6 = true) := hide (by rw [HS.out, H.out]; rfl)
          clear HS HN
          go_wp2_with fail
          refine (HI.out _).mono ?_
          rintro e w' ⟨rfl, bb⟩
          have B2 := hide (HB.out.trans (bb.mono HB.out.size))
          clear bb
          go_wp2
          exact ⟨⟨6, by omega, by go_num, HX, B2⟩, by simp [intOf]⟩
      · obtain ⟨q0, q1⟩ := (HR.out.below HB.out).at 6 1 100 rfl
        have ix : (Instr.index 74 (.agg #[.int .i64 r0, .int .i64 r1, .int .i64 r2, .int .i64 r3, .int .i64 r4, .int .i64 r5, .int .i64 r6, .int .i64 r7, .int .i64 r8, .int .i64 r9, .int .i64 r10, .int .i64 r11, .int .i64 r12, .int .i64 r13, .int .i64 r14]) (.int .i64 6)).run Tryz.prog wr = .ok (.int .i64 r6) wr := by kernel_rfl
        have HI := hide (fun W => hold_any W 1 100 r6)
        have HS := hide (fit_next (N := [r0, r1, r2, r3, r4, r5, r6, r7, r8, r9, r10, r11, r12, r13, r14]) (L := routeFits_anyL) (k := 6) (n := r6) (a := 1) (b := 100) rfl)
        have HN := hide (fit_no (N := [r0, r1, r2, r3, r4, r5, r6, r7, r8, r9, r10, r11, r12, r13, r14]) (L := routeFits_anyL) (k := 6) (m := 15) (n := r6) (a := 1) (b := 100) rfl (by decide))
        generalize inB r6 1 100 = bq at HI HS HN
        cases bq
        · have HX := hide (HN.out rfl)
          clear HS HN
          go_wp2_with fail
          refine (HI.out _).mono ?_
          rintro e w' ⟨rfl, bb⟩
          have B2 := hide (HB.out.trans (bb.mono HB.out.size))
          clear bb
          go_wp2
          go_ret
          exact ⟨ret_bool HX.out.symm, B2.out⟩
        · have HX : Hid (fitK [r0, r1, r2, r3, r4, r5, r6, r7, r8, r9, r10, r11, r12, r13, r14] routeFits_anyL 7 = true) := hide (by rw [HS.out, H.out]; rfl)
          clear HS HN
          go_wp2_with fail
          refine (HI.out _).mono ?_
          rintro e w' ⟨rfl, bb⟩
          have B2 := hide (HB.out.trans (bb.mono HB.out.size))
          clear bb
          go_wp2
          exact ⟨⟨7, by omega, by go_num, HX, B2⟩, by simp [intOf]⟩
      · obtain ⟨q0, q1⟩ := (HR.out.below HB.out).at 7 0 100 rfl
        have ix : (Instr.index 74 (.agg #[.int .i64 r0, .int .i64 r1, .int .i64 r2, .int .i64 r3, .int .i64 r4, .int .i64 r5, .int .i64 r6, .int .i64 r7, .int .i64 r8, .int .i64 r9, .int .i64 r10, .int .i64 r11, .int .i64 r12, .int .i64 r13, .int .i64 r14]) (.int .i64 7)).run Tryz.prog wr = .ok (.int .i64 r7) wr := by kernel_rfl
        have HI := hide (fun W => hold_any W 0 100 r7)
        have HS := hide (fit_next (N := [r0, r1, r2, r3, r4, r5, r6, r7, r8, r9, r10, r11, r12, r13, r14]) (L := routeFits_anyL) (k := 7) (n := r7) (a := 0) (b := 100) rfl)
        have HN := hide (fit_no (N := [r0, r1, r2, r3, r4, r5, r6, r7, r8, r9, r10, r11, r12, r13, r14]) (L := routeFits_anyL) (k := 7) (m := 15) (n := r7) (a := 0) (b := 100) rfl (by decide))
        generalize inB r7 0 100 = bq at HI HS HN
        cases bq
        · have HX := hide (HN.out rfl)
          clear HS HN
          go_wp2_with fail
          refine (HI.out _).mono ?_
          rintro e w' ⟨rfl, bb⟩
          have B2 := hide (HB.out.trans (bb.mono HB.out.size))
          clear bb
          go_wp2
          go_ret
          exact ⟨ret_bool HX.out.symm, B2.out⟩
        · have HX : Hid (fitK [r0, r1, r2, r3, r4, r5, r6, r7, r8, r9, r10, r11, r12, r13, r14] routeFits_anyL 8 = true) := hide (by rw [HS.out, H.out]; rfl)
          clear HS HN
          go_wp2_with fail
          refine (HI.out _).mono ?_
          rintro e w' ⟨rfl, bb⟩
          have B2 := hide (HB.out.trans (bb.mono HB.out.size))
          clear bb
          go_wp2
          exact ⟨⟨8, by omega, by go_num, HX, B2⟩, by simp [intOf]⟩
      · obtain ⟨q0, q1⟩ := (HR.out.below HB.out).at 8 0 1000 rfl
        have ix : (Instr.index 74 (.agg #[.int .i64 r0, .int .i64 r1, .int .i64 r2, .int .i64 r3, .int .i64 r4, .int .i64 r5, .int .i64 r6, .int .i64 r7, .int .i64 r8, .int .i64 r9, .int .i64 r10, .int .i64 r11, .int .i64 r12, .int .i64 r13, .int .i64 r14]) (.int .i64 8)).run Tryz.prog wr = .ok (.int .i64 r8) wr := by kernel_rfl
        have HI := hide (fun W => hold_any W 0 1000 r8)
        have HS := hide (fit_next (N := [r0, r1, r2, r3, r4, r5, r6, r7, r8, r9, r10, r11, r12, r13, r14]) (L := routeFits_anyL) (k := 8) (n := r8) (a := 0) (b := 1000) rfl)
        have HN := hide (fit_no (N := [r0, r1, r2, r3, r4, r5, r6, r7, r8, r9, r10, r11, r12, r13, r14]) (L := routeFits_anyL) (k := 8) (m := 15) (n := r8) (a := 0) (b := 1000) rfl (by decide))
        generalize inB r8 0 1000 = bq at HI HS HN
        cases bq
        · have HX := hide (HN.out rfl)
          clear HS HN
          go_wp2_with fail
          refine (HI.out _).mono ?_
          rintro e w' ⟨rfl, bb⟩
          have B2 := hide (HB.out.trans (bb.mono HB.out.size))
          clear bb
          go_wp2
          go_ret
          exact ⟨ret_bool HX.out.symm, B2.out⟩
        · have HX : Hid (fitK [r0, r1, r2, r3, r4, r5, r6, r7, r8, r9, r10, r11, r12, r13, r14] routeFits_anyL 9 = true) := hide (by rw [HS.out, H.out]; rfl)
          clear HS HN
          go_wp2_with fail
          refine (HI.out _).mono ?_
          rintro e w' ⟨rfl, bb⟩
          have B2 := hide (HB.out.trans (bb.mono HB.out.size))
          clear bb
          go_wp2
          exact ⟨⟨9, by omega, by go_num, HX, B2⟩, by simp [intOf]⟩
      · obtain ⟨q0, q1⟩ := (HR.out.below HB.out).at 9 1 1000000 rfl
        have ix : (Instr.index 74 (.agg #[.int .i64 r0, .int .i64 r1, .int .i64 r2, .int .i64 r3, .int .i64 r4, .int .i64 r5, .int .i64 r6, .int .i64 r7, .int .i64 r8, .int .i64 r9, .int .i64 r10, .int .i64 r11, .int .i64 r12, .int .i64 r13, .int .i64 r14]) (.int .i64 9)).run Tryz.prog wr = .ok (.int .i64 r9) wr := by kernel_rfl
        have HI := hide (fun W => hold_any W 1 1000000 r9)
        have HS := hide (fit_next (N := [r0, r1, r2, r3, r4, r5, r6, r7, r8, r9, r10, r11, r12, r13, r14]) (L := routeFits_anyL) (k := 9) (n := r9) (a := 1) (b := 1000000) rfl)
        have HN := hide (fit_no (N := [r0, r1, r2, r3, r4, r5, r6, r7, r8, r9, r10, r11, r12, r13, r14]) (L := routeFits_anyL) (k := 9) (m := 15) (n := r9) (a := 1) (b := 1000000) rfl (by decide))
        generalize inB r9 1 1000000 = bq at HI HS HN
        cases bq
        · have HX := hide (HN.out rfl)
          clear HS HN
          go_wp2_with fail
          refine (HI.out _).mono ?_
          rintro e w' ⟨rfl, bb⟩
          have B2 := hide (HB.out.trans (bb.mono HB.out.size))
          clear bb
          go_wp2
          go_ret
          exact ⟨ret_bool HX.out.symm, B2.out⟩
        · have HX : Hid (fitK [r0, r1, r2, r3, r4, r5, r6, r7, r8, r9, r10, r11, r12, r13, r14] routeFits_anyL 10 = true) := hide (by rw [HS.out, H.out]; rfl)
          clear HS HN
          go_wp2_with fail
          refine (HI.out _).mono ?_
          rintro e w' ⟨rfl, bb⟩
          have B2 := hide (HB.out.trans (bb.mono HB.out.size))
          clear bb
          go_wp2
          exact ⟨⟨10, by omega, by go_num, HX, B2⟩, by simp [intOf]⟩
      · obtain ⟨q0, q1⟩ := (HR.out.below HB.out).at 10 0 5 rfl
        have ix : (Instr.index 74 (.agg #[.int .i64 r0, .int .i64 r1, .int .i64 r2, .int .i64 r3, .int .i64 r4, .int .i64 r5, .int .i64 r6, .int .i64 r7, .int .i64 r8, .int .i64 r9, .int .i64 r10, .int .i64 r11, .int .i64 r12, .int .i64 r13, .int .i64 r14]) (.int .i64 10)).run Tryz.prog wr = .ok (.int .i64 r10) wr := by kernel_rfl
        have HI := hide (fun W => hold_any W 0 5 r10)
        have HS := hide (fit_next (N := [r0, r1, r2, r3, r4, r5, r6, r7, r8, r9, r10, r11, r12, r13, r14]) (L := routeFits_anyL) (k := 10) (n := r10) (a := 0) (b := 5) rfl)
        have HN := hide (fit_no (N := [r0, r1, r2, r3, r4, r5, r6, r7, r8, r9, r10, r11, r12, r13, r14]) (L := routeFits_anyL) (k := 10) (m := 15) (n := r10) (a := 0) (b := 5) rfl (by decide))
        generalize inB r10 0 5 = bq at HI HS HN
        cases bq
        · have HX := hide (HN.out rfl)
          clear HS HN
          go_wp2_with fail
          refine (HI.out _).mono ?_
          rintro e w' ⟨rfl, bb⟩
          have B2 := hide (HB.out.trans (bb.mono HB.out.size))
          clear bb
          go_wp2
          go_ret
          exact ⟨ret_bool HX.out.symm, B2.out⟩
        · have HX : Hid (fitK [r0, r1, r2, r3, r4, r5, r6, r7, r8, r9, r10, r11, r12, r13, r14] routeFits_anyL 11 = true) := hide (by rw [HS.out, H.out]; rfl)
          clear HS HN
          go_wp2_with fail
          refine (HI.out _).mono ?_
          rintro e w' ⟨rfl, bb⟩
          have B2 := hide (HB.out.trans (bb.mono HB.out.size))
          clear bb
          go_wp2
          exact ⟨⟨11, by omega, by go_num, HX, B2⟩, by simp [intOf]⟩
      · obtain ⟨q0, q1⟩ := (HR.out.below HB.out).at 11 0 3 rfl
        have ix : (Instr.index 74 (.agg #[.int .i64 r0, .int .i64 r1, .int .i64 r2, .int .i64 r3, .int .i64 r4, .int .i64 r5, .int .i64 r6, .int .i64 r7, .int .i64 r8, .int .i64 r9, .int .i64 r10, .int .i64 r11, .int .i64 r12, .int .i64 r13, .int .i64 r14]) (.int .i64 11)).run Tryz.prog wr = .ok (.int .i64 r11) wr := by kernel_rfl
        have HI := hide (fun W => hold_any W 0 3 r11)
        have HS := hide (fit_next (N := [r0, r1, r2, r3, r4, r5, r6, r7, r8, r9, r10, r11, r12, r13, r14]) (L := routeFits_anyL) (k := 11) (n := r11) (a := 0) (b := 3) rfl)
        have HN := hide (fit_no (N := [r0, r1, r2, r3, r4, r5, r6, r7, r8, r9, r10, r11, r12, r13, r14]) (L := routeFits_anyL) (k := 11) (m := 15) (n := r11) (a := 0) (b := 3) rfl (by decide))
        generalize inB r11 0 3 = bq at HI HS HN
        cases bq
        · have HX := hide (HN.out rfl)
          clear HS HN
          go_wp2_with fail
          refine (HI.out _).mono ?_
          rintro e w' ⟨rfl, bb⟩
          have B2 := hide (HB.out.trans (bb.mono HB.out.size))
          clear bb
          go_wp2
          go_ret
          exact ⟨ret_bool HX.out.symm, B2.out⟩
        · have HX : Hid (fitK [r0, r1, r2, r3, r4, r5, r6, r7, r8, r9, r10, r11, r12, r13, r14] routeFits_anyL 12 = true) := hide (by rw [HS.out, H.out]; rfl)
          clear HS HN
          go_wp2_with fail
          refine (HI.out _).mono ?_
          rintro e w' ⟨rfl, bb⟩
          have B2 := hide (HB.out.trans (bb.mono HB.out.size))
          clear bb
          go_wp2
          exact ⟨⟨12, by omega, by go_num, HX, B2⟩, by simp [intOf]⟩
      · obtain ⟨q0, q1⟩ := (HR.out.below HB.out).at 12 1 1000000 rfl
        have ix : (Instr.index 74 (.agg #[.int .i64 r0, .int .i64 r1, .int .i64 r2, .int .i64 r3, .int .i64 r4, .int .i64 r5, .int .i64 r6, .int .i64 r7, .int .i64 r8, .int .i64 r9, .int .i64 r10, .int .i64 r11, .int .i64 r12, .int .i64 r13, .int .i64 r14]) (.int .i64 12)).run Tryz.prog wr = .ok (.int .i64 r12) wr := by kernel_rfl
        have HI := hide (fun W => hold_any W 1 1000000 r12)
        have HS := hide (fit_next (N := [r0, r1, r2, r3, r4, r5, r6, r7, r8, r9, r10, r11, r12, r13, r14]) (L := routeFits_anyL) (k := 12) (n := r12) (a := 1) (b := 1000000) rfl)
        have HN := hide (fit_no (N := [r0, r1, r2, r3, r4, r5, r6, r7, r8, r9, r10, r11, r12, r13, r14]) (L := routeFits_anyL) (k := 12) (m := 15) (n := r12) (a := 1) (b := 1000000) rfl (by decide))
        generalize inB r12 1 1000000 = bq at HI HS HN
        cases bq
        · have HX := hide (HN.out rfl)
          clear HS HN
          go_wp2_with fail
          refine (HI.out _).mono ?_
          rintro e w' ⟨rfl, bb⟩
          have B2 := hide (HB.out.trans (bb.mono HB.out.size))
          clear bb
          go_wp2
          go_ret
          exact ⟨ret_bool HX.out.symm, B2.out⟩
        · have HX : Hid (fitK [r0, r1, r2, r3, r4, r5, r6, r7, r8, r9, r10, r11, r12, r13, r14] routeFits_anyL 13 = true) := hide (by rw [HS.out, H.out]; rfl)
          clear HS HN
          go_wp2_with fail
          refine (HI.out _).mono ?_
          rintro e w' ⟨rfl, bb⟩
          have B2 := hide (HB.out.trans (bb.mono HB.out.size))
          clear bb
          go_wp2
          exact ⟨⟨13, by omega, by go_num, HX, B2⟩, by simp [intOf]⟩
      · obtain ⟨q0, q1⟩ := (HR.out.below HB.out).at 13 1 1000000 rfl
        have ix : (Instr.index 74 (.agg #[.int .i64 r0, .int .i64 r1, .int .i64 r2, .int .i64 r3, .int .i64 r4, .int .i64 r5, .int .i64 r6, .int .i64 r7, .int .i64 r8, .int .i64 r9, .int .i64 r10, .int .i64 r11, .int .i64 r12, .int .i64 r13, .int .i64 r14]) (.int .i64 13)).run Tryz.prog wr = .ok (.int .i64 r13) wr := by kernel_rfl
        have HI := hide (fun W => hold_any W 1 1000000 r13)
        have HS := hide (fit_next (N := [r0, r1, r2, r3, r4, r5, r6, r7, r8, r9, r10, r11, r12, r13, r14]) (L := routeFits_anyL) (k := 13) (n := r13) (a := 1) (b := 1000000) rfl)
        have HN := hide (fit_no (N := [r0, r1, r2, r3, r4, r5, r6, r7, r8, r9, r10, r11, r12, r13, r14]) (L := routeFits_anyL) (k := 13) (m := 15) (n := r13) (a := 1) (b := 1000000) rfl (by decide))
        generalize inB r13 1 1000000 = bq at HI HS HN
        cases bq
        · have HX := hide (HN.out rfl)
          clear HS HN
          go_wp2_with fail
          refine (HI.out _).mono ?_
          rintro e w' ⟨rfl, bb⟩
          have B2 := hide (HB.out.trans (bb.mono HB.out.size))
          clear bb
          go_wp2
          go_ret
          exact ⟨ret_bool HX.out.symm, B2.out⟩
        · have HX : Hid (fitK [r0, r1, r2, r3, r4, r5, r6, r7, r8, r9, r10, r11, r12, r13, r14] routeFits_anyL 14 = true) := hide (by rw [HS.out, H.out]; rfl)
          clear HS HN
          go_wp2_with fail
          refine (HI.out _).mono ?_
          rintro e w' ⟨rfl, bb⟩
          have B2 := hide (HB.out.trans (bb.mono HB.out.size))
          clear bb
          go_wp2
          exact ⟨⟨14, by omega, by go_num, HX, B2⟩, by simp [intOf]⟩
      · obtain ⟨q0, q1⟩ := (HR.out.below HB.out).at 14 1 1000000 rfl
        have ix : (Instr.index 74 (.agg #[.int .i64 r0, .int .i64 r1, .int .i64 r2, .int .i64 r3, .int .i64 r4, .int .i64 r5, .int .i64 r6, .int .i64 r7, .int .i64 r8, .int .i64 r9, .int .i64 r10, .int .i64 r11, .int .i64 r12, .int .i64 r13, .int .i64 r14]) (.int .i64 14)).run Tryz.prog wr = .ok (.int .i64 r14) wr := by kernel_rfl
        have HI := hide (fun W => hold_any W 1 1000000 r14)
        have HS := hide (fit_next (N := [r0, r1, r2, r3, r4, r5, r6, r7, r8, r9, r10, r11, r12, r13, r14]) (L := routeFits_anyL) (k := 14) (n := r14) (a := 1) (b := 1000000) rfl)
        have HN := hide (fit_no (N := [r0, r1, r2, r3, r4, r5, r6, r7, r8, r9, r10, r11, r12, r13, r14]) (L := routeFits_anyL) (k := 14) (m := 15) (n := r14) (a := 1) (b := 1000000) rfl (by decide))
        generalize inB r14 1 1000000 = bq at HI HS HN
        cases bq
        · have HX := hide (HN.out rfl)
          clear HS HN
          go_wp2_with fail
          refine (HI.out _).mono ?_
          rintro e w' ⟨rfl, bb⟩
          have B2 := hide (HB.out.trans (bb.mono HB.out.size))
          clear bb
          go_wp2
          go_ret
          exact ⟨ret_bool HX.out.symm, B2.out⟩
        · have HX : Hid (fitK [r0, r1, r2, r3, r4, r5, r6, r7, r8, r9, r10, r11, r12, r13, r14] routeFits_anyL 15 = true) := hide (by rw [HS.out, H.out]; rfl)
          clear HS HN
          go_wp2_with fail
          refine (HI.out _).mono ?_
          rintro e w' ⟨rfl, bb⟩
          have B2 := hide (HB.out.trans (bb.mono HB.out.size))
          clear bb
          go_wp2
          exact ⟨⟨15, by omega, by go_num, HX, B2⟩, by simp [intOf]⟩
    · have HX : Hid (fitK [r0, r1, r2, r3, r4, r5, r6, r7, r8, r9, r10, r11, r12, r13, r14] routeFits_anyL 15 = true) := hide (by rw [← H.out]; congr 1; omega)
      go_wp2
      go_ret
      exact ⟨ret_bool HX.out.symm, HB.out⟩
end Go.Proofs.YtekkhjlipijmcaaGreatDoor
/- Whether a configuration's own numbers are in their ranges: the program's. -/
namespace Go.Proofs.YtekkhjlipijmcaaGreatDoor
open Go.ChangeShapes Go.WideShapes Go.ChangeAt Go.RowKit

def restFits_anyL : List (Int × Int) := [(0, 1000000), (1, 1000000), (1, 100), (1, 100), (0, 1000), (1, 1000000), (1, 1000000), (0, 100), (16, 65536), (0, 1048576), (1, 1048576), (1, 1000000), (1, 1000000), (1, 1000000), (1, 256)]
set_option maxHeartbeats 4000000 in
set_option maxRecDepth 100000 in
theorem restFits_any (w : World) (a1 : Option Addr) (n1 k1 : Nat) (a2 : Option Addr) (n2 k2 : Nat) (pa : ByteArray) (c0 c1 c2 c3 c4 c5 c6 c7 c8 c9 c10 c11 c12 c13 c14 : Int) (hR : RG w 2 restFits_anyL) :
    Calls Tryz.prog 32 #[.agg #[.slice a1 n1 k1, .slice a2 n2 k2, .int .i64 c0, .int .i64 c1, .int .i64 c2, .int .i64 c3, .string pa, .int .i64 c4, .int .i64 c5, .int .i64 c6, .int .i64 c7, .int .i64 c8, .int .i64 c9, .int .i64 c10, .int .i64 c11, .int .i64 c12, .int .i64 c13, .int .i64 c14]] w fun e w' => e = .returned (.bool (fitK [c0, c1, c2, c3, c4, c5, c6, c7, c8, c9, c10, c11, c12, c13, c14] restFits_anyL 15)) ∧ Below w.heap.size w w' := by
  have HR := hide hR
  clear hR
  go_enter Tryz.func32, Tryz.ntmps32
  go_wp2
  have T0 := hide (Bl.one w #[.slice a1 n1 k1, .slice a2 n2 k2, .int .i64 c0, .int .i64 c1, .int .i64 c2, .int .i64 c3, .string pa, .int .i64 c4, .int .i64 c5, .int .i64 c6, .int .i64 c7, .int .i64 c8, .int .i64 c9, .int .i64 c10, .int .i64 c11, .int .i64 c12, .int .i64 c13, .int .i64 c14] 25)
  generalize (w.alloc (.cells #[.slice a1 n1 k1, .slice a2 n2 k2, .int .i64 c0, .int .i64 c1, .int .i64 c2, .int .i64 c3, .string pa, .int .i64 c4, .int .i64 c5, .int .i64 c6, .int .i64 c7, .int .i64 c8, .int .i64 c9, .int .i64 c10, .int .i64 c11, .int .i64 c12, .int .i64 c13, .int .i64 c14] 25)) = x at T0 ⊢
  go_loopw [36] (fun i wr => ∃ k : Nat, k ≤ 15 ∧ i = .int .i64 k ∧ Hid (fitK [c0, c1, c2, c3, c4, c5, c6, c7, c8, c9, c10, c11, c12, c13, c14] restFits_anyL k = true) ∧ Hid (Below w.heap.size w wr)) (fun i _ => 15 - (intOf i).toNat)
  case atStart => exact ⟨0, Nat.zero_le _, rfl, hide rfl, hide T0.out.b⟩
  case round =>
    obtain ⟨k, hk, rfl, H, HB⟩ := hrel
    by_cases hlt : k < 15
    · have hcs : k = 0 ∨ k = 1 ∨ k = 2 ∨ k = 3 ∨ k = 4 ∨ k = 5 ∨ k = 6 ∨ k = 7 ∨ k = 8 ∨ k = 9 ∨ k = 10 ∨ k = 11 ∨ k = 12 ∨ k = 13 ∨ k = 14 := by omega
      rcases hcs with rfl | rfl | rfl | rfl | rfl | rfl | rfl | rfl | rfl | rfl | rfl | rfl | rfl | rfl | rfl
      · obtain ⟨q0, q1⟩ := (HR.out.below HB.out).at 0 0 1000000 rfl
        have ix : (Instr.index 74 (.agg #[.int .i64 c0, .int .i64 c1, .int .i64 c2, .int .i64 c3, .int .i64 c4, .int .i64 c5, .int .i64 c6, .int .i64 c7, .int .i64 c8, .int .i64 c9, .int .i64 c10, .int .i64 c11, .int .i64 c12, .int .i64 c13, .int .i64 c14]) (.int .i64 0)).run Tryz.prog wr = .ok (.int .i64 c0) wr := by kernel_rfl
        have HI := hide (fun W => hold_any W 0 1000000 c0)
        have HS := hide (fit_next (N := [c0, c1, c2, c3, c4, c5, c6, c7, c8, c9, c10, c11, c12, c13, c14]) (L := restFits_anyL) (k := 0) (n := c0) (a := 0) (b := 1000000) rfl)
        have HN := hide (fit_no (N := [c0, c1, c2, c3, c4, c5, c6, c7, c8, c9, c10, c11, c12, c13, c14]) (L := restFits_anyL) (k := 0) (m := 15) (n := c0) (a := 0) (b := 1000000) rfl (by decide))
        generalize inB c0 0 1000000 = bq at HI HS HN
        cases bq
        · have HX := hide (HN.out rfl)
          clear HS HN
          go_wp2_with fail
          refine (HI.out _).mono ?_
          rintro e w' ⟨rfl, bb⟩
          have B2 := hide (HB.out.trans (bb.mono HB.out.size))
          clear bb
          go_wp2
          go_ret
          exact ⟨ret_bool HX.out.symm, B2.out⟩
        · have HX : Hid (fitK [c0, c1, c2, c3, c4, c5, c6, c7, c8, c9, c10, c11, c12, c13, c14] restFits_anyL 1 = true) := hide (by rw [HS.out, H.out]; rfl)
          clear HS HN
          go_wp2_with fail
          refine (HI.out _).mono ?_
          rintro e w' ⟨rfl, bb⟩
          have B2 := hide (HB.out.trans (bb.mono HB.out.size))
          clear bb
          go_wp2
          exact ⟨⟨1, by omega, by go_num, HX, B2⟩, by simp [intOf]⟩
      · obtain ⟨q0, q1⟩ := (HR.out.below HB.out).at 1 1 1000000 rfl
        have ix : (Instr.index 74 (.agg #[.int .i64 c0, .int .i64 c1, .int .i64 c2, .int .i64 c3, .int .i64 c4, .int .i64 c5, .int .i64 c6, .int .i64 c7, .int .i64 c8, .int .i64 c9, .int .i64 c10, .int .i64 c11, .int .i64 c12, .int .i64 c13, .int .i64 c14]) (.int .i64 1)).run Tryz.prog wr = .ok (.int .i64 c1) wr := by kernel_rfl
        have HI := hide (fun W => hold_any W 1 1000000 c1)
        have HS := hide (fit_next (N := [c0, c1, c2, c3, c4, c5, c6, c7, c8, c9, c10, c11, c12, c13, c14]) (L := restFits_anyL) (k := 1) (n := c1) (a := 1) (b := 1000000) rfl)
        have HN := hide (fit_no (N := [c0, c1, c2, c3, c4, c5, c6, c7, c8, c9, c10, c11, c12, c13, c14]) (L := restFits_anyL) (k := 1) (m := 15) (n := c1) (a := 1) (b := 1000000) rfl (by decide))
        generalize inB c1 1 1000000 = bq at HI HS HN
        cases bq
        · have HX := hide (HN.out rfl)
          clear HS HN
          go_wp2_with fail
          refine (HI.out _).mono ?_
          rintro e w' ⟨rfl, bb⟩
          have B2 := hide (HB.out.trans (bb.mono HB.out.size))
          clear bb
          go_wp2
          go_ret
          exact ⟨ret_bool HX.out.symm, B2.out⟩
        · have HX : Hid (fitK [c0, c1, c2, c3, c4, c5, c6, c7, c8, c9, c10, c11, c12, c13, c14] restFits_anyL 2 = true) := hide (by rw [HS.out, H.out]; rfl)
          clear HS HN
          go_wp2_with fail
          refine (HI.out _).mono ?_
          rintro e w' ⟨rfl, bb⟩
          have B2 := hide (HB.out.trans (bb.mono HB.out.size))
          clear bb
          go_wp2
          exact ⟨⟨2, by omega, by go_num, HX, B2⟩, by simp [intOf]⟩
      · obtain ⟨q0, q1⟩ := (HR.out.below HB.out).at 2 1 100 rfl
        have ix : (Instr.index 74 (.agg #[.int .i64 c0, .int .i64 c1, .int .i64 c2, .int .i64 c3, .int .i64 c4, .int .i64 c5, .int .i64 c6, .int .i64 c7, .int .i64 c8, .int .i64 c9, .int .i64 c10, .int .i64 c11, .int .i64 c12, .int .i64 c13, .int .i64 c14]) (.int .i64 2)).run Tryz.prog wr = .ok (.int .i64 c2) wr := by kernel_rfl
        have HI := hide (fun W => hold_any W 1 100 c2)
        have HS := hide (fit_next (N := [c0, c1, c2, c3, c4, c5, c6, c7, c8, c9, c10, c11, c12, c13, c14]) (L := restFits_anyL) (k := 2) (n := c2) (a := 1) (b := 100) rfl)
        have HN := hide (fit_no (N := [c0, c1, c2, c3, c4, c5, c6, c7, c8, c9, c10, c11, c12, c13, c14]) (L := restFits_anyL) (k := 2) (m := 15) (n := c2) (a := 1) (b := 100) rfl (by decide))
        generalize inB c2 1 100 = bq at HI HS HN
        cases bq
        · have HX := hide (HN.out rfl)
          clear HS HN
          go_wp2_with fail
          refine (HI.out _).mono ?_
          rintro e w' ⟨rfl, bb⟩
          have B2 := hide (HB.out.trans (bb.mono HB.out.size))
          clear bb
          go_wp2
          go_ret
          exact ⟨ret_bool HX.out.symm, B2.out⟩
        · have HX : Hid (fitK [c0, c1, c2, c3, c4, c5, c6, c7, c8, c9, c10, c11, c12, c13, c14] restFits_anyL 3 = true) := hide (by rw [HS.out, H.out]; rfl)
          clear HS HN
          go_wp2_with fail
          refine (HI.out _).mono ?_
          rintro e w' ⟨rfl, bb⟩
          have B2 := hide (HB.out.trans (bb.mono HB.out.size))
          clear bb
          go_wp2
          exact ⟨⟨3, by omega, by go_num, HX, B2⟩, by simp [intOf]⟩
      · obtain ⟨q0, q1⟩ := (HR.out.below HB.out).at 3 1 100 rfl
        have ix : (Instr.index 74 (.agg #[.int .i64 c0, .int .i64 c1, .int .i64 c2, .int .i64 c3, .int .i64 c4, .int .i64 c5, .int .i64 c6, .int .i64 c7, .int .i64 c8, .int .i64 c9, .int .i64 c10, .int .i64 c11, .int .i64 c12, .int .i64 c13, .int .i64 c14]) (.int .i64 3)).run Tryz.prog wr = .ok (.int .i64 c3) wr := by kernel_rfl
        have HI := hide (fun W => hold_any W 1 100 c3)
        have HS := hide (fit_next (N := [c0, c1, c2, c3, c4, c5, c6, c7, c8, c9, c10, c11, c12, c13, c14]) (L := restFits_anyL) (k := 3) (n := c3) (a := 1) (b := 100) rfl)
        have HN := hide (fit_no (N := [c0, c1, c2, c3, c4, c5, c6, c7, c8, c9, c10, c11, c12, c13, c14]) (L := restFits_anyL) (k := 3) (m := 15) (n := c3) (a := 1) (b := 100) rfl (by decide))
        generalize inB c3 1 100 = bq at HI HS HN
        cases bq
        · have HX := hide (HN.out rfl)
          clear HS HN
          go_wp2_with fail
          refine (HI.out _).mono ?_
          rintro e w' ⟨rfl, bb⟩
          have B2 := hide (HB.out.trans (bb.mono HB.out.size))
          clear bb
          go_wp2
          go_ret
          exact ⟨ret_bool HX.out.symm, B2.out⟩
        · have HX : Hid (fitK [c0, c1, c2, c3, c4, c5, c6, c7, c8, c9, c10, c11, c12, c13, c14] restFits_anyL 4 = true) := hide (by rw [HS.out, H.out]; rfl)
          clear HS HN
          go_wp2_with fail
          refine (HI.out _).mono ?_
          rintro e w' ⟨rfl, bb⟩
          have B2 := hide (HB.out.trans (bb.mono HB.out.size))
          clear bb
          go_wp2
          exact ⟨⟨4, by omega, by go_num, HX, B2⟩, by simp [intOf]⟩
      · obtain ⟨q0, q1⟩ := (HR.out.below HB.out).at 4 0 1000 rfl
        have ix : (Instr.index 74 (.agg #[.int .i64 c0, .int .i64 c1, .int .i64 c2, .int .i64 c3, .int .i64 c4, .int .i64 c5, .int .i64 c6, .int .i64 c7, .int .i64 c8, .int .i64 c9, .int .i64 c10, .int .i64 c11, .int .i64 c12, .int .i64 c13, .int .i64 c14]) (.int .i64 4)).run Tryz.prog wr = .ok (.int .i64 c4) wr := by kernel_rfl
        have HI := hide (fun W => hold_any W 0 1000 c4)
        have HS := hide (fit_next (N := [c0, c1, c2, c3, c4, c5, c6, c7, c8, c9, c10, c11, c12, c13, c14]) (L := restFits_anyL) (k := 4) (n := c4) (a := 0) (b := 1000) rfl)
        have HN := hide (fit_no (N := [c0, c1, c2, c3, c4, c5, c6, c7, c8, c9, c10, c11, c12, c13, c14]) (L := restFits_anyL) (k := 4) (m := 15) (n := c4) (a := 0) (b := 1000) rfl (by decide))
        generalize inB c4 0 1000 = bq at HI HS HN
        cases bq
        · have HX := hide (HN.out rfl)
          clear HS HN
          go_wp2_with fail
          refine (HI.out _).mono ?_
          rintro e w' ⟨rfl, bb⟩
          have B2 := hide (HB.out.trans (bb.mono HB.out.size))
          clear bb
          go_wp2
          go_ret
          exact ⟨ret_bool HX.out.symm, B2.out⟩
        · have HX : Hid (fitK [c0, c1, c2, c3, c4, c5, c6, c7, c8, c9, c10, c11, c12, c13, c14] restFits_anyL 5 = true) := hide (by rw [HS.out, H.out]; rfl)
          clear HS HN
          go_wp2_with fail
          refine (HI.out _).mono ?_
          rintro e w' ⟨rfl, bb⟩
          have B2 := hide (HB.out.trans (bb.mono HB.out.size))
          clear bb
          go_wp2
          exact ⟨⟨5, by omega, by go_num, HX, B2⟩, by simp [intOf]⟩
      · obtain ⟨q0, q1⟩ := (HR.out.below HB.out).at 5 1 1000000 rfl
        have ix : (Instr.index 74 (.agg #[.int .i64 c0, .int .i64 c1, .int .i64 c2, .int .i64 c3, .int .i64 c4, .int .i64 c5, .int .i64 c6, .int .i64 c7, .int .i64 c8, .int .i64 c9, .int .i64 c10, .int .i64 c11, .int .i64 c12, .int .i64 c13, .int .i64 c14]) (.int .i64 5)).run Tryz.prog wr = .ok (.int .i64 c5) wr := by kernel_rfl
        have HI := hide (fun W => hold_any W 1 1000000 c5)
        have HS := hide (fit_next (N := [c0, c1, c2, c3, c4, c5, c6, c7, c8, c9, c10, c11, c12, c13, c14]) (L := restFits_anyL) (k := 5) (n := c5) (a := 1) (b := 1000000) rfl)
        have HN := hide (fit_no (N := [c0, c1, c2, c3, c4, c5, c6, c7, c8, c9, c10, c11, c12, c13, c14]) (L := restFits_anyL) (k := 5) (m := 15) (n := c5) (a := 1) (b := 1000000) rfl (by decide))
        generalize inB c5 1 1000000 = bq at HI HS HN
        cases bq
        · have HX := hide (HN.out rfl)
          clear HS HN
          go_wp2_with fail
          refine (HI.out _).mono ?_
          rintro e w' ⟨rfl, bb⟩
          have B2 := hide (HB.out.trans (bb.mono HB.out.size))
          clear bb
          go_wp2
          go_ret
          exact ⟨ret_bool HX.out.symm, B2.out⟩
        · have HX : Hid (fitK [c0, c1, c2, c3, c4, c5, c6, c7, c8, c9, c10, c11, c12, c13, c14] restFits_anyL 6 = true) := hide (by rw [HS.out, H.out]; rfl)
          clear HS HN
          go_wp2_with fail
          refine (HI.out _).mono ?_
          rintro e w' ⟨rfl, bb⟩
          have B2 := hide (HB.out.trans (bb.mono HB.out.size))
          clear bb
          go_wp2
          exact ⟨⟨6, by omega, by go_num, HX, B2⟩, by simp [intOf]⟩
      · obtain ⟨q0, q1⟩ := (HR.out.below HB.out).at 6 1 1000000 rfl
        have ix : (Instr.index 74 (.agg #[.int .i64 c0, .int .i64 c1, .int .i64 c2, .int .i64 c3, .int .i64 c4, .int .i64 c5, .int .i64 c6, .int .i64 c7, .int .i64 c8, .int .i64 c9, .int .i64 c10, .int .i64 c11, .int .i64 c12, .int .i64 c13, .int .i64 c14]) (.int .i64 6)).run Tryz.prog wr = .ok (.int .i64 c6) wr := by kernel_rfl
        have HI := hide (fun W => hold_any W 1 1000000 c6)
        have HS := hide (fit_next (N := [c0, c1, c2, c3, c4, c5, c6, c7, c8, c9, c10, c11, c12, c13, c14]) (L := restFits_anyL) (k := 6) (n := c6) (a := 1) (b := 1000000) rfl)
        have HN := hide (fit_no (N := [c0, c1, c2, c3, c4, c5, c6, c7, c8, c9, c10, c11, c12, c13, c14]) (L := restFits_anyL) (k := 6) (m := 15) (n := c6) (a := 1) (b := 1000000) rfl (by decide))
        generalize inB c6 1 1000000 = bq at HI HS HN
        cases bq
        · have HX := hide (HN.out rfl)
          clear HS HN
          go_wp2_with fail
          refine (HI.out _).mono ?_
          rintro e w' ⟨rfl, bb⟩
          have B2 := hide (HB.out.trans (bb.mono HB.out.size))
          clear bb
          go_wp2
          go_ret
          exact ⟨ret_bool HX.out.symm, B2.out⟩
        · have HX : Hid (fitK [c0, c1, c2, c3, c4, c5, c6, c7, c8, c9, c10, c11, c12, c13, c14] restFits_anyL 7 = true) := hide (by rw [HS.out, H.out]; rfl)
          clear HS HN
          go_wp2_with fail
          refine (HI.out _).mono ?_
          rintro e w' ⟨rfl, bb⟩
          have B2 := hide (HB.out.trans (bb.mono HB.out.size))
          clear bb
          go_wp2
          exact ⟨⟨7, by omega, by go_num, HX, B2⟩, by simp [intOf]⟩
      · obtain ⟨q0, q1⟩ := (HR.out.below HB.out).at 7 0 100 rfl
        have ix : (Instr.index 74 (.agg #[.int .i64 c0, .int .i64 c1, .int .i64 c2, .int .i64 c3, .int .i64 c4, .int .i64 c5, .int .i64 c6, .int .i64 c7, .int .i64 c8, .int .i64 c9, .int .i64 c10, .int .i64 c11, .int .i64 c12, .int .i64 c13, .int .i64 c14]) (.int .i64 7)).run Tryz.prog wr = .ok (.int .i64 c7) wr := by kernel_rfl
        have HI := hide (fun W => hold_any W 0 100 c7)
        have HS := hide (fit_next (N := [c0, c1, c2, c3, c4, c5, c6, c7, c8, c9, c10, c11, c12, c13, c14]) (L := restFits_anyL) (k := 7) (n := c7) (a := 0) (b := 100) rfl)
        have HN := hide (fit_no (N := [c0, c1, c2, c3, c4, c5, c6, c7, c8, c9, c10, c11, c12, c13, c14]) (L := restFits_anyL) (k := 7) (m := 15) (n := c7) (a := 0) (b := 100) rfl (by decide))
        generalize inB c7 0 100 = bq at HI HS HN
        cases bq
        · have HX := hide (HN.out rfl)
          clear HS HN
          go_wp2_with fail
          refine (HI.out _).mono ?_
          rintro e w' ⟨rfl, bb⟩
          have B2 := hide (HB.out.trans (bb.mono HB.out.size))
          clear bb
          go_wp2
          go_ret
          exact ⟨ret_bool HX.out.symm, B2.out⟩
        · have HX : Hid (fitK [c0, c1, c2, c3, c4, c5, c6, c7, c8, c9, c10, c11, c12, c13, c14] restFits_anyL 8 = true) := hide (by rw [HS.out, H.out]; rfl)
          clear HS HN
          go_wp2_with fail
          refine (HI.out _).mono ?_
          rintro e w' ⟨rfl, bb⟩
          have B2 := hide (HB.out.trans (bb.mono HB.out.size))
          clear bb
          go_wp2
          exact ⟨⟨8, by omega, by go_num, HX, B2⟩, by simp [intOf]⟩
      · obtain ⟨q0, q1⟩ := (HR.out.below HB.out).at 8 16 65536 rfl
        have ix : (Instr.index 74 (.agg #[.int .i64 c0, .int .i64 c1, .int .i64 c2, .int .i64 c3, .int .i64 c4, .int .i64 c5, .int .i64 c6, .int .i64 c7, .int .i64 c8, .int .i64 c9, .int .i64 c10, .int .i64 c11, .int .i64 c12, .int .i64 c13, .int .i64 c14]) (.int .i64 8)).run Tryz.prog wr = .ok (.int .i64 c8) wr := by kernel_rfl
        have HI := hide (fun W => hold_any W 16 65536 c8)
        have HS := hide (fit_next (N := [c0, c1, c2, c3, c4, c5, c6, c7, c8, c9, c10, c11, c12, c13, c14]) (L := restFits_anyL) (k := 8) (n := c8) (a := 16) (b := 65536) rfl)
        have HN := hide (fit_no (N := [c0, c1, c2, c3, c4, c5, c6, c7, c8, c9, c10, c11, c12, c13, c14]) (L := restFits_anyL) (k := 8) (m := 15) (n := c8) (a := 16) (b := 65536) rfl (by decide))
        generalize inB c8 16 65536 = bq at HI HS HN
        cases bq
        · have HX := hide (HN.out rfl)
          clear HS HN
          go_wp2_with fail
          refine (HI.out _).mono ?_
          rintro e w' ⟨rfl, bb⟩
          have B2 := hide (HB.out.trans (bb.mono HB.out.size))
          clear bb
          go_wp2
          go_ret
          exact ⟨ret_bool HX.out.symm, B2.out⟩
        · have HX : Hid (fitK [c0, c1, c2, c3, c4, c5, c6, c7, c8, c9, c10, c11, c12, c13, c14] restFits_anyL 9 = true) := hide (by rw [HS.out, H.out]; rfl)
          clear HS HN
          go_wp2_with fail
          refine (HI.out _).mono ?_
          rintro e w' ⟨rfl, bb⟩
          have B2 := hide (HB.out.trans (bb.mono HB.out.size))
          clear bb
          go_wp2
          exact ⟨⟨9, by omega, by go_num, HX, B2⟩, by simp [intOf]⟩
      · obtain ⟨q0, q1⟩ := (HR.out.below HB.out).at 9 0 1048576 rfl
        have ix : (Instr.index 74 (.agg #[.int .i64 c0, .int .i64 c1, .int .i64 c2, .int .i64 c3, .int .i64 c4, .int .i64 c5, .int .i64 c6, .int .i64 c7, .int .i64 c8, .int .i64 c9, .int .i64 c10, .int .i64 c11, .int .i64 c12, .int .i64 c13, .int .i64 c14]) (.int .i64 9)).run Tryz.prog wr = .ok (.int .i64 c9) wr := by kernel_rfl
        have HI := hide (fun W => hold_any W 0 1048576 c9)
        have HS := hide (fit_next (N := [c0, c1, c2, c3, c4, c5, c6, c7, c8, c9, c10, c11, c12, c13, c14]) (L := restFits_anyL) (k := 9) (n := c9) (a := 0) (b := 1048576) rfl)
        have HN := hide (fit_no (N := [c0, c1, c2, c3, c4, c5, c6, c7, c8, c9, c10, c11, c12, c13, c14]) (L := restFits_anyL) (k := 9) (m := 15) (n := c9) (a := 0) (b := 1048576) rfl (by decide))
        generalize inB c9 0 1048576 = bq at HI HS HN
        cases bq
        · have HX := hide (HN.out rfl)
          clear HS HN
          go_wp2_with fail
          refine (HI.out _).mono ?_
          rintro e w' ⟨rfl, bb⟩
          have B2 := hide (HB.out.trans (bb.mono HB.out.size))
          clear bb
          go_wp2
          go_ret
          exact ⟨ret_bool HX.out.symm, B2.out⟩
        · have HX : Hid (fitK [c0, c1, c2, c3, c4, c5, c6, c7, c8, c9, c10, c11, c12, c13, c14] restFits_anyL 10 = true) := hide (by rw [HS.out, H.out]; rfl)
          clear HS HN
          go_wp2_with fail
          refine (HI.out _).mono ?_
          rintro e w' ⟨rfl, bb⟩
          have B2 := hide (HB.out.trans (bb.mono HB.out.size))
          clear bb
          go_wp2
          exact ⟨⟨10, by omega, by go_num, HX, B2⟩, by simp [intOf]⟩
      · obtain ⟨q0, q1⟩ := (HR.out.below HB.out).at 10 1 1048576 rfl
        have ix : (Instr.index 74 (.agg #[.int .i64 c0, .int .i64 c1, .int .i64 c2, .int .i64 c3, .int .i64 c4, .int .i64 c5, .int .i64 c6, .int .i64 c7, .int .i64 c8, .int .i64 c9, .int .i64 c10, .int .i64 c11, .int .i64 c12, .int .i64 c13, .int .i64 c14]) (.int .i64 10)).run Tryz.prog wr = .ok (.int .i64 c10) wr := by kernel_rfl
        have HI := hide (fun W => hold_any W 1 1048576 c10)
        have HS := hide (fit_next (N := [c0, c1, c2, c3, c4, c5, c6, c7, c8, c9, c10, c11, c12, c13, c14]) (L := restFits_anyL) (k := 10) (n := c10) (a := 1) (b := 1048576) rfl)
        have HN := hide (fit_no (N := [c0, c1, c2, c3, c4, c5, c6, c7, c8, c9, c10, c11, c12, c13, c14]) (L := restFits_anyL) (k := 10) (m := 15) (n := c10) (a := 1) (b := 1048576) rfl (by decide))
        generalize inB c10 1 1048576 = bq at HI HS HN
        cases bq
        · have HX := hide (HN.out rfl)
          clear HS HN
          go_wp2_with fail
          refine (HI.out _).mono ?_
          rintro e w' ⟨rfl, bb⟩
          have B2 := hide (HB.out.trans (bb.mono HB.out.size))
          clear bb
          go_wp2
          go_ret
          exact ⟨ret_bool HX.out.symm, B2.out⟩
        · have HX : Hid (fitK [c0, c1, c2, c3, c4, c5, c6, c7, c8, c9, c10, c11, c12, c13, c14] restFits_anyL 11 = true) := hide (by rw [HS.out, H.out]; rfl)
          clear HS HN
          go_wp2_with fail
          refine (HI.out _).mono ?_
          rintro e w' ⟨rfl, bb⟩
          have B2 := hide (HB.out.trans (bb.mono HB.out.size))
          clear bb
          go_wp2
          exact ⟨⟨11, by omega, by go_num, HX, B2⟩, by simp [intOf]⟩
      · obtain ⟨q0, q1⟩ := (HR.out.below HB.out).at 11 1 1000000 rfl
        have ix : (Instr.index 74 (.agg #[.int .i64 c0, .int .i64 c1, .int .i64 c2, .int .i64 c3, .int .i64 c4, .int .i64 c5, .int .i64 c6, .int .i64 c7, .int .i64 c8, .int .i64 c9, .int .i64 c10, .int .i64 c11, .int .i64 c12, .int .i64 c13, .int .i64 c14]) (.int .i64 11)).run Tryz.prog wr = .ok (.int .i64 c11) wr := by kernel_rfl
        have HI := hide (fun W => hold_any W 1 1000000 c11)
        have HS := hide (fit_next (N := [c0, c1, c2, c3, c4, c5, c6, c7, c8, c9, c10, c11, c12, c13, c14]) (L := restFits_anyL) (k := 11) (n := c11) (a := 1) (b := 1000000) rfl)
        have HN := hide (fit_no (N := [c0, c1, c2, c3, c4, c5, c6, c7, c8, c9, c10, c11, c12, c13, c14]) (L := restFits_anyL) (k := 11) (m := 15) (n := c11) (a := 1) (b := 1000000) rfl (by decide))
        generalize inB c11 1 1000000 = bq at HI HS HN
        cases bq
        · have HX := hide (HN.out rfl)
          clear HS HN
          go_wp2_with fail
          refine (HI.out _).mono ?_
          rintro e w' ⟨rfl, bb⟩
          have B2 := hide (HB.out.trans (bb.mono HB.out.size))
          clear bb
          go_wp2
          go_ret
          exact ⟨ret_bool HX.out.symm, B2.out⟩
        · have HX : Hid (fitK [c0, c1, c2, c3, c4, c5, c6, c7, c8, c9, c10, c11, c12, c13, c14] restFits_anyL 12 = true) := hide (by rw [HS.out, H.out]; rfl)
          clear HS HN
          go_wp2_with fail
          refine (HI.out _).mono ?_
          rintro e w' ⟨rfl, bb⟩
          have B2 := hide (HB.out.trans (bb.mono HB.out.size))
          clear bb
          go_wp2
          exact ⟨⟨12, by omega, by go_num, HX, B2⟩, by simp [intOf]⟩
      · obtain ⟨q0, q1⟩ := (HR.out.below HB.out).at 12 1 1000000 rfl
        have ix : (Instr.index 74 (.agg #[.int .i64 c0, .int .i64 c1, .int .i64 c2, .int .i64 c3, .int .i64 c4, .int .i64 c5, .int .i64 c6, .int .i64 c7, .int .i64 c8, .int .i64 c9, .int .i64 c10, .int .i64 c11, .int .i64 c12, .int .i64 c13, .int .i64 c14]) (.int .i64 12)).run Tryz.prog wr = .ok (.int .i64 c12) wr := by kernel_rfl
        have HI := hide (fun W => hold_any W 1 1000000 c12)
        have HS := hide (fit_next (N := [c0, c1, c2, c3, c4, c5, c6, c7, c8, c9, c10, c11, c12, c13, c14]) (L := restFits_anyL) (k := 12) (n := c12) (a := 1) (b := 1000000) rfl)
        have HN := hide (fit_no (N := [c0, c1, c2, c3, c4, c5, c6, c7, c8, c9, c10, c11, c12, c13, c14]) (L := restFits_anyL) (k := 12) (m := 15) (n := c12) (a := 1) (b := 1000000) rfl (by decide))
        generalize inB c12 1 1000000 = bq at HI HS HN
        cases bq
        · have HX := hide (HN.out rfl)
          clear HS HN
          go_wp2_with fail
          refine (HI.out _).mono ?_
          rintro e w' ⟨rfl, bb⟩
          have B2 := hide (HB.out.trans (bb.mono HB.out.size))
          clear bb
          go_wp2
          go_ret
          exact ⟨ret_bool HX.out.symm, B2.out⟩
        · have HX : Hid (fitK [c0, c1, c2, c3, c4, c5, c6, c7, c8, c9, c10, c11, c12, c13, c14] restFits_anyL 13 = true) := hide (by rw [HS.out, H.out]; rfl)
          clear HS HN
          go_wp2_with fail
          refine (HI.out _).mono ?_
          rintro e w' ⟨rfl, bb⟩
          have B2 := hide (HB.out.trans (bb.mono HB.out.size))
          clear bb
          go_wp2
          exact ⟨⟨13, by omega, by go_num, HX, B2⟩, by simp [intOf]⟩
      · obtain ⟨q0, q1⟩ := (HR.out.below HB.out).at 13 1 1000000 rfl
        have ix : (Instr.index 74 (.agg #[.int .i64 c0, .int .i64 c1, .int .i64 c2, .int .i64 c3, .int .i64 c4, .int .i64 c5, .int .i64 c6, .int .i64 c7, .int .i64 c8, .int .i64 c9, .int .i64 c10, .int .i64 c11, .int .i64 c12, .int .i64 c13, .int .i64 c14]) (.int .i64 13)).run Tryz.prog wr = .ok (.int .i64 c13) wr := by kernel_rfl
        have HI := hide (fun W => hold_any W 1 1000000 c13)
        have HS := hide (fit_next (N := [c0, c1, c2, c3, c4, c5, c6, c7, c8, c9, c10, c11, c12, c13, c14]) (L := restFits_anyL) (k := 13) (n := c13) (a := 1) (b := 1000000) rfl)
        have HN := hide (fit_no (N := [c0, c1, c2, c3, c4, c5, c6, c7, c8, c9, c10, c11, c12, c13, c14]) (L := restFits_anyL) (k := 13) (m := 15) (n := c13) (a := 1) (b := 1000000) rfl (by decide))
        generalize inB c13 1 1000000 = bq at HI HS HN
        cases bq
        · have HX := hide (HN.out rfl)
          clear HS HN
          go_wp2_with fail
          refine (HI.out _).mono ?_
          rintro e w' ⟨rfl, bb⟩
          have B2 := hide (HB.out.trans (bb.mono HB.out.size))
          clear bb
          go_wp2
          go_ret
          exact ⟨ret_bool HX.out.symm, B2.out⟩
        · have HX : Hid (fitK [c0, c1, c2, c3, c4, c5, c6, c7, c8, c9, c10, c11, c12, c13, c14] restFits_anyL 14 = true) := hide (by rw [HS.out, H.out]; rfl)
          clear HS HN
          go_wp2_with fail
          refine (HI.out _).mono ?_
          rintro e w' ⟨rfl, bb⟩
          have B2 := hide (HB.out.trans (bb.mono HB.out.size))
          clear bb
          go_wp2
          exact ⟨⟨14, by omega, by go_num, HX, B2⟩, by simp [intOf]⟩
      · obtain ⟨q0, q1⟩ := (HR.out.below HB.out).at 14 1 256 rfl
        have ix : (Instr.index 74 (.agg #[.int .i64 c0, .int .i64 c1, .int .i64 c2, .int .i64 c3, .int .i64 c4, .int .i64 c5, .int .i64 c6, .int .i64 c7, .int .i64 c8, .int .i64 c9, .int .i64 c10, .int .i64 c11, .int .i64 c12, .int .i64 c13, .int .i64 c14]) (.int .i64 14)).run Tryz.prog wr = .ok (.int .i64 c14) wr := by kernel_rfl
        have HI := hide (fun W => hold_any W 1 256 c14)
        have HS := hide (fit_next (N := [c0, c1, c2, c3, c4, c5, c6, c7, c8, c9, c10, c11, c12, c13, c14]) (L := restFits_anyL) (k := 14) (n := c14) (a := 1) (b := 256) rfl)
        have HN := hide (fit_no (N := [c0, c1, c2, c3, c4, c5, c6, c7, c8, c9, c10, c11, c12, c13, c14]) (L := restFits_anyL) (k := 14) (m := 15) (n := c14) (a := 1) (b := 256) rfl (by decide))
        generalize inB c14 1 256 = bq at HI HS HN
        cases bq
        · have HX := hide (HN.out rfl)
          clear HS HN
          go_wp2_with fail
          refine (HI.out _).mono ?_
          rintro e w' ⟨rfl, bb⟩
          have B2 := hide (HB.out.trans (bb.mono HB.out.size))
          clear bb
          go_wp2
          go_ret
          exact ⟨ret_bool HX.out.symm, B2.out⟩
        · have HX : Hid (fitK [c0, c1, c2, c3, c4, c5, c6, c7, c8, c9, c10, c11, c12, c13, c14] restFits_anyL 15 = true) := hide (by rw [HS.out, H.out]; rfl)
          clear HS HN
          go_wp2_with fail
          refine (HI.out _).mono ?_
          rintro e w' ⟨rfl, bb⟩
          have B2 := hide (HB.out.trans (bb.mono HB.out.size))
          clear bb
          go_wp2
          exact ⟨⟨15, by omega, by go_num, HX, B2⟩, by simp [intOf]⟩
    · have HX : Hid (fitK [c0, c1, c2, c3, c4, c5, c6, c7, c8, c9, c10, c11, c12, c13, c14] restFits_anyL 15 = true) := hide (by rw [← H.out]; congr 1; omega)
      go_wp2
      go_ret
      exact ⟨ret_bool HX.out.symm, HB.out⟩
end Go.Proofs.YtekkhjlipijmcaaGreatDoor
/- Rows of hosts; how many connections they may have together: the program's. -/
namespace Go.Proofs.YtekkhjlipijmcaaGreatDoor
open Go.ChangeShapes Go.WideShapes Go.ChangeAt Go.RowKit

/-- A host: its name, its cap, how many may wait. -/
structure Hst where
  nm : ByteArray
  ca : Int
  pe : Int
/-- The slice v reads as the hosts L, wherever it begins. -/
def HRow (W : World) (v : Value) (L : List Hst) : Prop := ∃ (a : Option Addr) (c : Nat), v = .slice a L.length c ∧ ∀ j (h : j < L.length), ∃ g o, a = some ⟨g, o, none⟩ ∧ g < W.heap.size ∧ W.cell? ⟨g, o + j * 3, none⟩ = some (.string L[j].nm) ∧ W.cell? ⟨g, o + j * 3 + 1, none⟩ = some (.int .i64 L[j].ca) ∧ W.cell? ⟨g, o + j * 3 + 2, none⟩ = some (.int .i64 L[j].pe)
theorem HRow.below {W W' : World} {v : Value} {L : List Hst} (h : HRow W v L) (hb : Below W.heap.size W W') : HRow W' v L := by
  obtain ⟨a, c, rfl, hc⟩ := h
  refine ⟨a, c, rfl, fun j hj => ?_⟩
  obtain ⟨g, o, h1, h2, h3, h4, h5⟩ := hc j hj
  exact ⟨g, o, h1, Nat.lt_of_lt_of_le h2 hb.size, (hb.cell (p := ⟨g, o + j * 3, none⟩) h2).trans h3, (hb.cell (p := ⟨g, o + j * 3 + 1, none⟩) h2).trans h4, (hb.cell (p := ⟨g, o + j * 3 + 2, none⟩) h2).trans h5⟩
def capsI (L : List Hst) : Int := (L.map (·.ca)).sum
theorem capsI_snoc (L : List Hst) (k : Nat) (h : k < L.length) : capsI (L.take (k + 1)) = capsI (L.take k) + L[k].ca := by
  unfold capsI
  rw [List.take_succ_eq_append_getElem h, List.map_append, List.sum_append]
  simp
theorem capsI_le (L : List Hst) (hl : L.length ≤ 16) (hc : ∀ x ∈ L, 0 ≤ x.ca ∧ x.ca ≤ 64) (k : Nat) (hk : k ≤ L.length) : 0 ≤ capsI (L.take k) ∧ capsI (L.take k) ≤ 64 * (k : Int) := by
  induction k with
  | zero => simp [capsI]
  | succ k ih =>
    have h := ih (by omega)
    have hm := hc L[k] (List.getElem_mem (by omega))
    rw [capsI_snoc L k (by omega)]
    omega
set_option maxHeartbeats 1000000 in
theorem caps_any (w : World) (v : Value) (L : List Hst) (h : HRow w v L) (hl : L.length ≤ 16) (hcs : ∀ x ∈ L, 0 ≤ x.ca ∧ x.ca ≤ 64) :
    Calls Tryz.prog 14 #[v] w fun e w' => e = .returned (.int .i64 (capsI L)) ∧ Below w.heap.size w w' := by
  have HL := hide (capsI_le L hl hcs)
  have H0 := hide h
  obtain ⟨a, c, rfl, _⟩ := h
  clear hcs
  go_enter Tryz.func14, Tryz.ntmps14
  go_wp2
  go_loopw [8, 3] (fun i s wr => ∃ (k : Nat) (z : Int), k ≤ L.length ∧ i = .int .i64 k ∧ s = .int .i64 z ∧ (0 ≤ z ∧ z ≤ 64 * (k : Int)) ∧ Hid (z = capsI (L.take k)) ∧ Hid (Below w.heap.size w wr)) (fun i _ _ => L.length - (intOf i).toNat)
  case atStart => exact ⟨0, 0, Nat.zero_le _, rfl, rfl, by omega, hide rfl, hide (Below.refl _ _)⟩
  case round =>
    obtain ⟨k, z, hk, rfl, rfl, hz, H, HB⟩ := hrel
    by_cases hlt : k < L.length
    · obtain ⟨a2, c2, he2, hcv⟩ := H0.out.below HB.out
      simp only [Value.slice.injEq, true_and] at he2
      obtain ⟨rfl, rfl⟩ := he2
      obtain ⟨g, o, rfl, hg, r0, r1, r2⟩ := hcv k hlt
      have HS := hide (capsI_snoc L k hlt)
      have hz2 := HL.out (k + 1) (by omega)
      rw [HS.out, ← H.out] at hz2
      rw [← H.out] at HS
      generalize L[k] = y at r0 r1 r2 HS hz2
      obtain ⟨nm, ca, pe⟩ := y
      simp only at r0 r1 r2 hz2
      clear hcv hg
      go_wp2
      exact ⟨⟨k + 1, z + ca, by omega, by go_num, by go_num, by omega, hide HS.out.symm, hide (HB.out.trans ((Bl.one wr _ _).b.mono HB.out.size))⟩, by simp [intOf]; omega⟩
    · have HE : Hid (z = capsI L) := hide (by rw [H.out, List.take_of_length_le (by omega)])
      go_wp2
      go_ret
      exact ⟨ret_int HE.out, HB.out⟩
end Go.Proofs.YtekkhjlipijmcaaGreatDoor
/- Rows of texts, wherever they begin; whether one is there; whether one is there twice; whether a text says of which hosts a route takes requests. -/
namespace Go.Proofs.YtekkhjlipijmcaaGreatDoor
open Go.ChangeShapes Go.WideShapes Go.ChangeAt Go.RowKit

/-- The slice v reads as the texts A, wherever it begins. -/
def SRow (W : World) (v : Value) (A : List ByteArray) : Prop := ∃ (a : Option Addr) (c : Nat), v = .slice a A.length c ∧ ∀ j (h : j < A.length), ∃ g o, a = some ⟨g, o, none⟩ ∧ g < W.heap.size ∧ W.cell? ⟨g, o + j, none⟩ = some (.string A[j])
theorem SRow.below {W W' : World} {v : Value} {A : List ByteArray} (h : SRow W v A) (hb : Below W.heap.size W W') : SRow W' v A := by
  obtain ⟨a, c, rfl, hc⟩ := h
  refine ⟨a, c, rfl, fun j hj => ?_⟩
  obtain ⟨g, o, h1, h2, h3⟩ := hc j hj
  exact ⟨g, o, h1, Nat.lt_of_lt_of_le h2 hb.size, (hb.cell (p := ⟨g, o + j, none⟩) h2).trans h3⟩
def memB (A : List ByteArray) (n : ByteArray) : Bool := A.any fun x => decide (n = x)
theorem memB_snoc {A : List ByteArray} {n : ByteArray} {k : Nat} (h : k < A.length) : memB (A.take (k + 1)) n = (memB (A.take k) n || decide (n = A[k])) := by
  unfold memB
  rw [take_snocA A k h, List.any_append]; simp
theorem memB_all {A : List ByteArray} {n : ByteArray} {k : Nat} (h : A.length ≤ k) : memB (A.take k) n = memB A n := by rw [List.take_of_length_le h]
theorem memB_at {A : List ByteArray} {n : ByteArray} {k : Nat} (h : k < A.length) (he : n = A[k]) : memB A n = true := by
  unfold memB
  rw [List.any_eq_true]
  exact ⟨A[k], List.getElem_mem h, decide_eq_true he⟩
set_option maxHeartbeats 1000000 in
theorem index_any (w : World) (v : Value) (A : List ByteArray) (n : ByteArray) (h : SRow w v A) (hA : A.length ≤ maxLen) :
    Calls Tryz.prog 59 #[v, .string n] w fun e w' => (∃ r : Int, e = .returned (.int .i64 r) ∧ decide (0 ≤ r) = memB A n) ∧ w' = w := by
  obtain ⟨a, c, rfl, hc⟩ := h
  have HC := hide hc
  unfold maxLen at hA
  clear hc
  go_enter Tryz.func59, Tryz.ntmps59
  go_wp2
  go_loop [8] (fun i => ∃ k : Nat, k ≤ A.length ∧ i = .int .i64 k ∧ Hid (memB (A.take k) n = false)) (fun i => A.length - (intOf i).toNat)
  case atStart => exact ⟨0, Nat.zero_le _, rfl, hide rfl⟩
  case round =>
    obtain ⟨k, hk, rfl, H⟩ := hrel
    by_cases hlt : k < A.length
    · obtain ⟨g, o, rfl, hg, r1⟩ := HC.out k hlt
      have hbe := bytes_eq n A[k]
      have HM := hide (memB_snoc (A := A) (n := n) hlt)
      by_cases he : n = A[k]
      · have HY : Hid (memB A n = true) := hide (memB_at hlt he)
        rw [decide_eq_true he] at hbe
        generalize A[k] = x at r1 hbe
        clear he hg HM
        go_wp2
        go_ret
        exact ⟨⟨k, rfl, by rw [HY.out]; exact decide_eq_true (by omega)⟩, rfl⟩
      · have HN : Hid (memB (A.take (k + 1)) n = false) := hide (by rw [HM.out, H.out, decide_eq_false he]; rfl)
        rw [decide_eq_false he] at hbe
        generalize A[k] = x at r1 hbe
        clear he hg HM
        go_wp2
        exact ⟨⟨k + 1, by omega, by go_num, HN⟩, by simp [intOf]; omega⟩
    · have HN := hide ((memB_all (Nat.le_of_not_lt hlt)).symm.trans H.out)
      go_wp2
      go_ret
      exact ⟨⟨-1, rfl, by rw [HN.out]; rfl⟩, rfl⟩
theorem contains_any (w : World) (v : Value) (A : List ByteArray) (n : ByteArray) (h : SRow w v A) (hA : A.length ≤ maxLen) :
    Calls Tryz.prog 41 #[v, .string n] w fun e w' => e = .returned (.bool (memB A n)) ∧ w' = w := by
  have HI := hide (index_any w v A n h hA)
  obtain ⟨a, c, rfl, hc⟩ := h
  clear hc
  go_enter Tryz.func41, Tryz.ntmps41
  go_wp2_with fail
  refine HI.out.mono ?_
  rintro e w' ⟨⟨r, rfl, hr⟩, rfl⟩
  have HR := hide hr
  clear hr HI
  go_wp2
  go_ret
  exact ⟨ret_bool HR.out, rfl⟩
def twB (A : List ByteArray) (k : Nat) : Bool := (List.range k).any fun i => memB (A.take i) (A.getD i ⟨#[]⟩)
theorem twB_succ (A : List ByteArray) (k : Nat) (h : k < A.length) : twB A (k + 1) = (twB A k || memB (A.take k) A[k]) := by
  unfold twB
  rw [List.range_succ, List.any_append]
  simp [List.getD_eq_getElem?_getD, h]
theorem twB_yes (A : List ByteArray) (k : Nat) (h : k < A.length) (hm : memB (A.take k) A[k] = true) : twB A A.length = true := by
  unfold twB
  rw [List.any_eq_true]
  exact ⟨k, List.mem_range.2 h, by simpa [List.getD_eq_getElem?_getD, h] using hm⟩
theorem SRow.take {W : World} {a : Option Addr} {c : Nat} {A : List ByteArray} (hc : ∀ j (h : j < A.length), ∃ g o, a = some ⟨g, o, none⟩ ∧ g < W.heap.size ∧ W.cell? ⟨g, o + j, none⟩ = some (.string A[j])) (k : Nat) (hk : k ≤ A.length) : SRow W (.slice a k c) (A.take k) := by
  refine ⟨a, c, by rw [List.length_take, Nat.min_eq_left hk], fun j hj => ?_⟩
  rw [List.length_take] at hj
  obtain ⟨g, o, h1, h2, h3⟩ := hc j (by omega)
  exact ⟨g, o, h1, h2, by rw [h3, List.getElem_take]⟩
set_option maxHeartbeats 1000000 in
theorem twiceS_any (w : World) (v : Value) (A : List ByteArray) (h : SRow w v A) (hcap : ∀ a n c, v = .slice a n c → n ≤ c ∧ c ≤ maxLen) :
    Calls Tryz.prog 28 #[v] w fun e w' => e = .returned (.bool (twB A A.length)) ∧ w' = w := by
  obtain ⟨a, c, rfl, hc⟩ := h
  obtain ⟨hc1, hc2⟩ := hcap _ _ _ rfl
  unfold maxLen at hc2
  have HC := hide hc
  have HT := hide (fun k hk => SRow.take (c := c) hc k hk)
  clear hc hcap
  go_enter Tryz.func28, Tryz.ntmps28
  go_wp2
  go_loop [7] (fun i => ∃ k : Nat, k ≤ A.length ∧ i = .int .i64 k ∧ Hid (twB A k = false)) (fun i => A.length - (intOf i).toNat)
  case atStart => exact ⟨0, Nat.zero_le _, rfl, hide rfl⟩
  case round =>
    obtain ⟨k, hk, rfl, H⟩ := hrel
    by_cases hlt : k < A.length
    · obtain ⟨g, o, rfl, hg, r1⟩ := HC.out k hlt
      have HI := hide (contains_any w (.slice (some ⟨g, o, none⟩) k c) (A.take k) A[k] (HT.out k hk) (by unfold maxLen; rw [List.length_take]; omega))
      have HS := hide (twB_succ A k hlt)
      have HY := hide (twB_yes A k hlt)
      generalize A[k] = x at r1 HI HS HY
      generalize memB (A.take k) x = b at HI HS HY
      clear hg
      cases b
      · have HN : Hid (twB A (k + 1) = false) := hide (by rw [HS.out, H.out]; rfl)
        clear HS HY
        go_wp2_with fail
        refine HI.out.mono ?_
        rintro e w' ⟨rfl, rfl⟩
        go_wp2
        exact ⟨⟨k + 1, by omega, by go_num, HN⟩, by simp [intOf]; omega⟩
      · have HX := hide (HY.out rfl)
        clear HS HY
        go_wp2_with fail
        refine HI.out.mono ?_
        rintro e w' ⟨rfl, rfl⟩
        go_wp2
        go_ret
        exact ⟨ret_bool HX.out.symm, rfl⟩
    · have HN : Hid (twB A A.length = false) := hide (by rw [← H.out]; congr 1; omega)
      go_wp2
      go_ret
      exact ⟨ret_bool HN.out.symm, rfl⟩
def trimW (s : ByteArray) : ByteArray := ⟨(Lib.trimPrefix s.data.toList [42, 46]).toArray⟩
theorem trimW_size (s : ByteArray) : (trimW s).size ≤ s.size := by
  have h : (Lib.trimPrefix s.data.toList [42, 46]).length ≤ s.data.toList.length := by
    unfold Lib.trimPrefix
    split
    · rw [List.length_drop]; omega
    · exact Nat.le_refl _
  rw [size_len] at h
  have e : (trimW s).data.toList = Lib.trimPrefix s.data.toList [42, 46] := by unfold trimW; simp
  rw [← size_len, e]
  exact h
def patB (s : ByteArray) : Bool := decide (s.size = 0) || (isHostB s || isHostB (trimW s))
theorem pattern_any (s : ByteArray) (w : World) (hs : s.size ≤ 140737488355328) : Calls Tryz.prog 42 #[.string s] w fun e w' => e = .returned (.bool (patB s)) ∧ Below w.heap.size w w' := by
  have hz := trimW_size s
  have H1 := hide (fun W => ishostC_any s W hs)
  have H2 := hide (fun W => ishostC_any (trimW s) W (by omega))
  have H3 := hide (fun W => Tryz.strings_TrimPrefix s ⟨#[42, 46]⟩ W)
  unfold patB
  generalize isHostB s = b1 at H1 ⊢
  generalize isHostB (trimW s) = b2 at H2 ⊢
  obtain ⟨bz, hbz⟩ : ∃ b, decide (s.size = 0) = b := ⟨_, rfl⟩
  rw [hbz]
  have HZ := hide hbz
  clear hz hbz
  by_cases h0 : s.size = 0
  · have he : s.toList.isEmpty = true := by rw [Lib.toList_data, isEmpty_size]; exact decide_eq_true h0
    have H0 : Hid (bz = true) := hide (HZ.out.symm.trans (decide_eq_true h0))
    clear h0 hs HZ
    go_enter Tryz.func42, Tryz.ntmps42
    go_wp2
    go_ret
    exact ⟨ret_bool (by rw [H0.out]; rfl), Below.refl _ _⟩
  · have he : s.toList.isEmpty = false := by rw [Lib.toList_data, isEmpty_size]; exact decide_eq_false h0
    have H0 : Hid (bz = false) := hide (HZ.out.symm.trans (decide_eq_false h0))
    clear h0 hs HZ
    go_enter Tryz.func42, Tryz.ntmps42
    go_wp2_with fail
    refine (H1.out _).mono ?_
    rintro e w1 ⟨rfl, bb⟩
    have B1 := hide bb
    clear bb H1
    cases b1
    · go_wp2_with fail
      refine (H3.out _).mono ?_
      rintro e w2 ⟨rfl, rfl⟩
      go_wp2_with fail
      refine (H2.out _).mono ?_
      rintro e w3 ⟨rfl, bb⟩
      have B2 := hide (B1.out.trans (bb.mono B1.out.size))
      clear bb
      go_wp2
      go_ret
      exact ⟨ret_bool (by rw [H0.out]; rfl), B2.out⟩
    · go_wp2
      go_ret
      exact ⟨ret_bool (by rw [H0.out]; rfl), B1.out⟩
end Go.Proofs.YtekkhjlipijmcaaGreatDoor
/- Rows of numbers, wherever they begin; whether one is there; whether one is there twice; whether a route may have the hosts of these numbers: the program's. -/
namespace Go.Proofs.YtekkhjlipijmcaaGreatDoor
open Go.ChangeShapes Go.WideShapes Go.ChangeAt Go.RowKit

/-- The slice v reads as the numbers A, wherever it begins. -/
def IRow (W : World) (v : Value) (A : List Int) : Prop := ∃ (a : Option Addr) (c : Nat), v = .slice a A.length c ∧ ∀ j (h : j < A.length), ∃ g o, a = some ⟨g, o, none⟩ ∧ g < W.heap.size ∧ W.cell? ⟨g, o + j, none⟩ = some (.int .i64 A[j])
theorem IRow.below {W W' : World} {v : Value} {A : List Int} (h : IRow W v A) (hb : Below W.heap.size W W') : IRow W' v A := by
  obtain ⟨a, c, rfl, hc⟩ := h
  refine ⟨a, c, rfl, fun j hj => ?_⟩
  obtain ⟨g, o, h1, h2, h3⟩ := hc j hj
  exact ⟨g, o, h1, Nat.lt_of_lt_of_le h2 hb.size, (hb.cell (p := ⟨g, o + j, none⟩) h2).trans h3⟩
def memI (A : List Int) (n : Int) : Bool := A.any fun x => decide (n = x)
theorem memI_snoc {A : List Int} {n : Int} {k : Nat} (h : k < A.length) : memI (A.take (k + 1)) n = (memI (A.take k) n || decide (n = A[k])) := by
  unfold memI
  rw [List.take_succ_eq_append_getElem h, List.any_append]; simp
theorem memI_all {A : List Int} {n : Int} {k : Nat} (h : A.length ≤ k) : memI (A.take k) n = memI A n := by rw [List.take_of_length_le h]
theorem memI_at {A : List Int} {n : Int} {k : Nat} (h : k < A.length) (he : n = A[k]) : memI A n = true := by
  unfold memI
  rw [List.any_eq_true]
  exact ⟨A[k], List.getElem_mem h, decide_eq_true he⟩
set_option maxHeartbeats 1000000 in
theorem indexI_any (w : World) (v : Value) (A : List Int) (n : Int) (h : IRow w v A) (hA : A.length ≤ maxLen) :
    Calls Tryz.prog 88 #[v, .int .i64 n] w fun e w' => (∃ r : Int, e = .returned (.int .i64 r) ∧ decide (0 ≤ r) = memI A n) ∧ w' = w := by
  obtain ⟨a, c, rfl, hc⟩ := h
  have HC := hide hc
  unfold maxLen at hA
  clear hc
  go_enter Tryz.func88, Tryz.ntmps88
  go_wp2
  go_loop [8] (fun i => ∃ k : Nat, k ≤ A.length ∧ i = .int .i64 k ∧ Hid (memI (A.take k) n = false)) (fun i => A.length - (intOf i).toNat)
  case atStart => exact ⟨0, Nat.zero_le _, rfl, hide rfl⟩
  case round =>
    obtain ⟨k, hk, rfl, H⟩ := hrel
    by_cases hlt : k < A.length
    · obtain ⟨g, o, rfl, hg, r1⟩ := HC.out k hlt
      have hbe : (n == A[k]) = decide (n = A[k]) := by rw [Bool.eq_iff_iff]; simp
      have HM := hide (memI_snoc (A := A) (n := n) hlt)
      by_cases he : n = A[k]
      · have HY : Hid (memI A n = true) := hide (memI_at hlt he)
        rw [decide_eq_true he] at hbe
        generalize A[k] = x at r1 hbe
        clear he hg HM
        go_wp2
        go_ret
        exact ⟨⟨k, rfl, by rw [HY.out]; exact decide_eq_true (by omega)⟩, rfl⟩
      · have HN : Hid (memI (A.take (k + 1)) n = false) := hide (by rw [HM.out, H.out, decide_eq_false he]; rfl)
        rw [decide_eq_false he] at hbe
        generalize A[k] = x at r1 hbe
        clear he hg HM
        go_wp2
        exact ⟨⟨k + 1, by omega, by go_num, HN⟩, by simp [intOf]; omega⟩
    · have HN := hide ((memI_all (Nat.le_of_not_lt hlt)).symm.trans H.out)
      go_wp2
      go_ret
      exact ⟨⟨-1, rfl, by rw [HN.out]; rfl⟩, rfl⟩
theorem containsI_any (w : World) (v : Value) (A : List Int) (n : Int) (h : IRow w v A) (hA : A.length ≤ maxLen) :
    Calls Tryz.prog 64 #[v, .int .i64 n] w fun e w' => e = .returned (.bool (memI A n)) ∧ w' = w := by
  have HI := hide (indexI_any w v A n h hA)
  obtain ⟨a, c, rfl, hc⟩ := h
  clear hc
  go_enter Tryz.func64, Tryz.ntmps64
  go_wp2_with fail
  refine HI.out.mono ?_
  rintro e w' ⟨⟨r, rfl, hr⟩, rfl⟩
  have HR := hide hr
  clear hr HI
  go_wp2
  go_ret
  exact ⟨ret_bool HR.out, rfl⟩
def twI (A : List Int) (k : Nat) : Bool := (List.range k).any fun i => memI (A.take i) (A.getD i 0)
theorem twI_succ (A : List Int) (k : Nat) (h : k < A.length) : twI A (k + 1) = (twI A k || memI (A.take k) A[k]) := by
  unfold twI
  rw [List.range_succ, List.any_append]
  simp [List.getD_eq_getElem?_getD, h]
theorem twI_yes (A : List Int) (k : Nat) (h : k < A.length) (hm : memI (A.take k) A[k] = true) : twI A A.length = true := by
  unfold twI
  rw [List.any_eq_true]
  exact ⟨k, List.mem_range.2 h, by simpa [List.getD_eq_getElem?_getD, h] using hm⟩
theorem IRow.take {W : World} {a : Option Addr} {c : Nat} {A : List Int} (hc : ∀ j (h : j < A.length), ∃ g o, a = some ⟨g, o, none⟩ ∧ g < W.heap.size ∧ W.cell? ⟨g, o + j, none⟩ = some (.int .i64 A[j])) (k : Nat) (hk : k ≤ A.length) : IRow W (.slice a k c) (A.take k) := by
  refine ⟨a, c, by rw [List.length_take, Nat.min_eq_left hk], fun j hj => ?_⟩
  rw [List.length_take] at hj
  obtain ⟨g, o, h1, h2, h3⟩ := hc j (by omega)
  exact ⟨g, o, h1, h2, by rw [h3, List.getElem_take]⟩
set_option maxHeartbeats 1000000 in
theorem twiceI_any (w : World) (v : Value) (A : List Int) (h : IRow w v A) (hcap : ∀ a n c, v = .slice a n c → n ≤ c ∧ c ≤ maxLen) :
    Calls Tryz.prog 45 #[v] w fun e w' => e = .returned (.bool (twI A A.length)) ∧ w' = w := by
  obtain ⟨a, c, rfl, hc⟩ := h
  obtain ⟨hc1, hc2⟩ := hcap _ _ _ rfl
  unfold maxLen at hc2
  have HC := hide hc
  have HT := hide (fun k hk => IRow.take (c := c) hc k hk)
  clear hc hcap
  go_enter Tryz.func45, Tryz.ntmps45
  go_wp2
  go_loop [7] (fun i => ∃ k : Nat, k ≤ A.length ∧ i = .int .i64 k ∧ Hid (twI A k = false)) (fun i => A.length - (intOf i).toNat)
  case atStart => exact ⟨0, Nat.zero_le _, rfl, hide rfl⟩
  case round =>
    obtain ⟨k, hk, rfl, H⟩ := hrel
    by_cases hlt : k < A.length
    · obtain ⟨g, o, rfl, hg, r1⟩ := HC.out k hlt
      have HI := hide (containsI_any w (.slice (some ⟨g, o, none⟩) k c) (A.take k) A[k] (HT.out k hk) (by unfold maxLen; rw [List.length_take]; omega))
      have HS := hide (twI_succ A k hlt)
      have HY := hide (twI_yes A k hlt)
      generalize A[k] = x at r1 HI HS HY
      generalize memI (A.take k) x = b at HI HS HY
      clear hg
      cases b
      · have HN : Hid (twI A (k + 1) = false) := hide (by rw [HS.out, H.out]; rfl)
        clear HS HY
        go_wp2_with fail
        refine HI.out.mono ?_
        rintro e w' ⟨rfl, rfl⟩
        go_wp2
        exact ⟨⟨k + 1, by omega, by go_num, HN⟩, by simp [intOf]; omega⟩
      · have HX := hide (HY.out rfl)
        clear HS HY
        go_wp2_with fail
        refine HI.out.mono ?_
        rintro e w' ⟨rfl, rfl⟩
        go_wp2
        go_ret
        exact ⟨ret_bool HX.out.symm, rfl⟩
    · have HN : Hid (twI A A.length = false) := hide (by rw [← H.out]; congr 1; omega)
      go_wp2
      go_ret
      exact ⟨ret_bool HN.out.symm, rfl⟩
def numsB (A : List Int) (hosts : Int) : Bool := decide (1 ≤ A.length ∧ A.length ≤ 16) && (A.all (fun n => decide (0 ≤ n) && decide (n < hosts)) && !twI A A.length)
theorem allI_snoc {A : List Int} {k : Nat} (p : Int → Bool) (h : k < A.length) : (A.take (k + 1)).all p = ((A.take k).all p && p A[k]) := by
  rw [List.take_succ_eq_append_getElem h, List.all_append]; simp
theorem allI_no {A : List Int} {k : Nat} (p : Int → Bool) (h : k < A.length) (hp : p A[k] = false) : A.all p = false := by
  rw [List.all_eq_false]
  exact ⟨A[k], List.getElem_mem h, by rw [hp]; decide⟩
set_option maxHeartbeats 1000000 in
theorem nums_any (w : World) (v : Value) (A : List Int) (hosts : Int) (h : IRow w v A) (hcap : ∀ a n c, v = .slice a n c → n ≤ c ∧ c ≤ maxLen) :
    Calls Tryz.prog 30 #[v, .int .i64 hosts] w fun e w' => e = .returned (.bool (numsB A hosts)) ∧ w' = w := by
  have HT := hide (twiceI_any w v A h hcap)
  obtain ⟨a, c, rfl, hc⟩ := h
  obtain ⟨hc1, hc2⟩ := hcap _ _ _ rfl
  unfold maxLen at hc2
  have HC := hide hc
  clear hc hcap
  obtain ⟨R, hR⟩ : ∃ R, numsB A hosts = R := ⟨_, rfl⟩
  rw [hR]
  have HV := hide hR
  unfold numsB at HV
  clear hR
  generalize twI A A.length = tw at HT HV
  by_cases h1 : A.length < 1
  · have HD := hide (decide_eq_false (p := 1 ≤ A.length ∧ A.length ≤ 16) (by omega))
    go_enter Tryz.func30, Tryz.ntmps30
    go_wp2
    go_ret
    exact ⟨ret_bool (by rw [← HV.out, HD.out]; rfl), rfl⟩
  · by_cases h2 : 16 < A.length
    · have HD := hide (decide_eq_false (p := 1 ≤ A.length ∧ A.length ≤ 16) (by omega))
      go_enter Tryz.func30, Tryz.ntmps30
      go_wp2
      go_ret
      exact ⟨ret_bool (by rw [← HV.out, HD.out]; rfl), rfl⟩
    · have HD := hide (decide_eq_true (p := 1 ≤ A.length ∧ A.length ≤ 16) (by omega))
      go_enter Tryz.func30, Tryz.ntmps30
      go_wp2
      go_loop [17] (fun i => ∃ k : Nat, k ≤ A.length ∧ i = .int .i64 k ∧ Hid ((A.take k).all (fun n => decide (0 ≤ n) && decide (n < hosts)) = true)) (fun i => A.length - (intOf i).toNat)
      case atStart => exact ⟨0, Nat.zero_le _, rfl, hide rfl⟩
      case round =>
        obtain ⟨k, hk, rfl, H⟩ := hrel
        by_cases hlt : k < A.length
        · obtain ⟨g, o, rfl, hg, r1⟩ := HC.out k hlt
          have HS := hide (allI_snoc (A := A) (fun n => decide (0 ≤ n) && decide (n < hosts)) hlt)
          have HN := hide (allI_no (A := A) (fun n => decide (0 ≤ n) && decide (n < hosts)) hlt)
          generalize A[k] = x at r1 HS HN
          clear hg
          by_cases x0 : x < 0
          · have HX := hide (HN.out (by simp only [decide_eq_false (show ¬ 0 ≤ x by omega)]; rfl))
            clear HS HN
            go_wp2
            go_ret
            exact ⟨ret_bool (by rw [← HV.out, HD.out, HX.out]; rfl), rfl⟩
          · by_cases x1 : hosts ≤ x
            · have HX := hide (HN.out (by simp only [decide_eq_false (show ¬ x < hosts by omega)]; simp))
              clear HS HN
              go_wp2
              go_ret
              exact ⟨ret_bool (by rw [← HV.out, HD.out, HX.out]; rfl), rfl⟩
            · have HX : Hid ((A.take (k + 1)).all (fun n => decide (0 ≤ n) && decide (n < hosts)) = true) := hide (by
                rw [HS.out, H.out]; simp only [decide_eq_true (show 0 ≤ x by omega), decide_eq_true (show x < hosts by omega)]; rfl)
              clear HS HN
              go_wp2
              exact ⟨⟨k + 1, by omega, by go_num, HX⟩, by simp [intOf]; omega⟩
        · have HX : Hid (A.all (fun n => decide (0 ≤ n) && decide (n < hosts)) = true) := hide (by
            have := H.out; rw [List.take_of_length_le (by omega)] at this; exact this)
          go_wp2_with fail
          refine HT.out.mono ?_
          rintro e w' ⟨rfl, rfl⟩
          go_wp2
          go_ret
          exact ⟨ret_bool (by rw [← HV.out, HD.out, HX.out]; rfl), rfl⟩
end Go.Proofs.YtekkhjlipijmcaaGreatDoor
/- Whether a text is a path without a query and without dots: the program's. -/
namespace Go.Proofs.YtekkhjlipijmcaaGreatDoor
open Go.ChangeShapes Go.WideShapes Go.ChangeAt Go.RowKit

def getN : ByteArray := ⟨#[71, 69, 84]⟩
def pathB (s : ByteArray) : Bool := decide (s.size ≤ 8192 ∧ formN getN.data.toList s.data.toList = 1 ∧ locB s = true ∧ cutA s = false)
theorem tgV_inj {f f' : Int} {h h' : ByteArray} {p p' : Int} {pa pa' q q' : ByteArray} {a a' : Bool} (e : tgV f h p pa q a = tgV f' h' p' pa' q' a') : f = f' ∧ a = a' := by
  unfold tgV at e
  simp only [Value.agg.injEq, Array.mk.injEq, List.cons.injEq, Value.int.injEq, Value.bool.injEq, and_true, true_and] at e
  exact ⟨e.1, e.2.2.2.2.2⟩
theorem parse_get (s : ByteArray) : ∃ (f : Int) (h : ByteArray) (p : Int) (pa q : ByteArray) (a : Bool) (re : Int), Parses getN s (tgV f h p pa q a) re ∧ ((re = 0 ∧ f = 1 ∧ a = false) ↔ pathB s = true) := by
  obtain ⟨t, re, h1, h2, h3, h4⟩ := parse_total getN s
  have key : ∀ (f : Int) (h : ByteArray) (p : Int) (pa q : ByteArray) (a : Bool), t = tgV f h p pa q a → ∃ (f : Int) (h : ByteArray) (p : Int) (pa q : ByteArray) (a : Bool) (re : Int), Parses getN s (tgV f h p pa q a) re ∧ ((re = 0 ∧ f = 1 ∧ a = false) ↔ pathB s = true) := by
    intro f h p pa q a ht
    refine ⟨f, h, p, pa, q, a, re, by rw [← ht]; exact h1, ⟨?_, ?_⟩⟩
    · rintro ⟨r0, rfl, rfl⟩
      obtain ⟨tk, hz⟩ := h2 r0
      rw [ht] at tk
      unfold pathB
      refine decide_eq_true ⟨hz, ?_⟩
      generalize hg : tgV 1 h p pa q false = g at tk
      cases tk with
      | auth hf _ _ => exact absurd (tgV_inj hg).1 (by decide)
      | ast hf => exact absurd (tgV_inj hg).1 (by decide)
      | origin hf h0 => exact ⟨hf, h0, (tgV_inj hg).2.symm⟩
      | abs hf _ _ => exact absurd (tgV_inj hg).1 (by decide)
    · intro hb
      obtain ⟨hz, hf, hl, hc⟩ := of_decide_eq_true hb
      obtain ⟨r0, e⟩ := h4 _ (Taken.origin hf hl) hz
      rw [ht] at e
      obtain ⟨e1, e2⟩ := tgV_inj e
      exact ⟨r0, e1, e2.trans hc⟩
  by_cases r0 : re = 0
  · obtain ⟨tk, _⟩ := h2 r0
    generalize hg : t = g at tk
    cases tk with
    | auth _ _ _ => exact key _ _ _ _ _ _ hg
    | ast _ => exact key _ _ _ _ _ _ hg
    | origin _ _ => exact key _ _ _ _ _ _ hg
    | abs _ _ _ => exact key _ _ _ _ _ _ hg
  · exact key _ _ _ _ _ _ (h3 r0)
def placeB (s : ByteArray) : Bool := pathB s && (decide (cleanE s.data.toList = 0) && decide (cleanS s = s))
set_option maxHeartbeats 2000000 in
set_option maxRecDepth 100000 in
theorem place_any (s : ByteArray) (w : World) (hm : MX w) : Calls Tryz.prog 33 #[.string s] w fun e w' => e = .returned (.bool (placeB s)) ∧ Below w.heap.size w w' := by
  obtain ⟨f, h, p, pa, q, a, re, hP, hI⟩ := parse_get s
  have HP := hide (hP w hm)
  have HC := hide (fun W h => clean_any s W h)
  have HM := hide hm
  have hbe := bytes_eq (cleanS s) s
  unfold placeB
  generalize pathB s = pb at hI ⊢
  generalize cleanS s = cs at HC hbe ⊢
  generalize cleanE s.data.toList = ce at HC ⊢
  unfold tgV at HP
  unfold getN at HP
  clear hP hm
  by_cases r0 : re = 0
  · by_cases f1 : f = 1
    · cases a
      · have HB : Hid (pb = true) := hide (hI.1 ⟨r0, f1, rfl⟩)
        subst r0 f1
        clear hI
        go_enter Tryz.func33, Tryz.ntmps33
        go_wp2_with fail
        refine HP.out.mono ?_
        rintro e w1 ⟨rfl, bb⟩
        have B1 := hide bb
        clear bb HP
        go_wp2_with fail
        have U1 := hide (Bl.one w1 #[.int .i64 1, .string h, .int .i64 p, .string pa, .string q, .bool false] 61)
        generalize (w1.alloc (.cells #[.int .i64 1, .string h, .int .i64 p, .string pa, .string q, .bool false] 61)) = y at U1 ⊢
        have B2 := hide (B1.out.trans (U1.out.b.mono B1.out.size))
        refine (HC.out _ (HM.out.below B2.out)).mono ?_
        rintro e w2 ⟨rfl, bb⟩
        have B3 := hide (B2.out.trans (bb.mono B2.out.size))
        clear bb U1
        by_cases c0 : ce = 0
        · subst c0
          go_wp2
          go_ret
          exact ⟨ret_bool (by rw [HB.out]; simp), B3.out⟩
        · have t0 : ((ce : Int) == 0) = false := beq_eq_false_iff_ne.2 (by omega)
          have HD := hide (decide_eq_false c0)
          go_wp2
          go_ret
          exact ⟨ret_bool (by rw [HB.out, HD.out]; rfl), B3.out⟩
      · have HB : Hid (pb = false) := hide (by cases hpb : pb with | false => rfl | true => exact absurd (hI.2 hpb).2.2 (by decide))
        subst r0 f1
        clear hI
        go_enter Tryz.func33, Tryz.ntmps33
        go_wp2_with fail
        refine HP.out.mono ?_
        rintro e w1 ⟨rfl, bb⟩
        have B1 := hide bb
        clear bb HP
        go_wp2
        go_ret
        exact ⟨ret_bool (by rw [HB.out]; rfl), B1.out.trans ((Bl.one w1 _ _).b.mono B1.out.size)⟩
    · have HB : Hid (pb = false) := hide (by cases hpb : pb with | false => rfl | true => exact absurd (hI.2 hpb).2.1 f1)
      have t1 : (f == 1) = false := beq_eq_false_iff_ne.2 f1
      subst r0
      clear hI
      go_enter Tryz.func33, Tryz.ntmps33
      go_wp2_with fail
      refine HP.out.mono ?_
      rintro e w1 ⟨rfl, bb⟩
      have B1 := hide bb
      clear bb HP
      go_wp2
      go_ret
      exact ⟨ret_bool (by rw [HB.out]; rfl), B1.out.trans ((Bl.one w1 _ _).b.mono B1.out.size)⟩
  · have HB : Hid (pb = false) := hide (by cases hpb : pb with | false => rfl | true => exact absurd (hI.2 hpb).1 r0)
    have t1 : (re == 0) = false := beq_eq_false_iff_ne.2 r0
    clear hI
    go_enter Tryz.func33, Tryz.ntmps33
    go_wp2_with fail
    refine HP.out.mono ?_
    rintro e w1 ⟨rfl, bb⟩
    have B1 := hide bb
    clear bb HP
    go_wp2
    go_ret
    exact ⟨ret_bool (by rw [HB.out]; rfl), B1.out.trans ((Bl.one w1 _ _).b.mono B1.out.size)⟩
end Go.Proofs.YtekkhjlipijmcaaGreatDoor
/- Whether a route may ask for this: the program's. -/
namespace Go.Proofs.YtekkhjlipijmcaaGreatDoor
open Go.ChangeShapes Go.WideShapes Go.ChangeAt Go.RowKit

def tokS (s : ByteArray) : Bool := tokenB s.data.toList
def askB (hd va : ByteArray) : Bool := if hd.size = 0 then decide (va.size = 0) else tokS hd && valueB va.data.toList
def matB (ho pf : ByteArray) (M : List ByteArray) (hd va : ByteArray) : Bool := decide (M.length ≤ 8) && (placeB pf && (patB ho && (M.all tokS && askB hd va)))
theorem allS_snocM {A : List ByteArray} {k : Nat} (p : ByteArray → Bool) (h : k < A.length) : (A.take (k + 1)).all p = ((A.take k).all p && p A[k]) := by
  rw [List.take_succ_eq_append_getElem h, List.all_append]; simp
theorem allS_noM {A : List ByteArray} {k : Nat} (p : ByteArray → Bool) (h : k < A.length) (hp : p A[k] = false) : A.all p = false := by
  rw [List.all_eq_false]
  exact ⟨A[k], List.getElem_mem h, by rw [hp]; decide⟩
set_option maxHeartbeats 4000000 in
set_option maxRecDepth 100000 in
theorem match_any (w : World) (ho pf : ByteArray) (ml : Value) (M : List ByteArray) (hd va : ByteArray) (hM : SRow w ml M) (hMs : ∀ x ∈ M, x.size ≤ 1048576) (hho : ho.size ≤ 1048576) (hhd : hd.size ≤ 1048576) (hva : va.size ≤ 1048576) (hm : MX w) :
    Calls Tryz.prog 29 #[.agg #[.string ho, .string pf, ml, .string hd, .string va]] w fun e w' => e = .returned (.bool (matB ho pf M hd va)) ∧ Below w.heap.size w w' := by
  have HP := hide (fun W h => place_any pf W h)
  have HQ := hide (fun W => pattern_any ho W (by omega))
  have HT := hide (fun W (x : ByteArray) (hx : x.size ≤ 1048576) => token_any x W (by unfold maxLen; omega))
  have HTh := hide (fun W => token_any hd W (by unfold maxLen; omega))
  have HVv := hide (fun W => value_any va W (by unfold maxLen; omega))
  have HM := hide hm
  have M0 := hide hM
  have MS := hide hMs
  obtain ⟨a1, c1, rfl, _⟩ := hM
  obtain ⟨R, hR⟩ : ∃ R, matB ho pf M hd va = R := ⟨_, rfl⟩
  rw [hR]
  have HV := hide hR
  unfold matB at HV
  clear hR hm hMs hho hhd hva
  generalize placeB pf = b1 at HP HV
  generalize patB ho = b2 at HQ HV
  by_cases h8 : 8 < M.length
  · have HD := hide (decide_eq_false (p := M.length ≤ 8) (by omega))
    go_enter Tryz.func29, Tryz.ntmps29
    go_wp2
    go_ret
    exact ⟨ret_bool (by rw [← HV.out, HD.out]; rfl), (Bl.one w _ _).b⟩
  · have HD := hide (decide_eq_true (p := M.length ≤ 8) (by omega))
    go_enter Tryz.func29, Tryz.ntmps29
    go_wp2_with fail
    have T0 := hide (Bl.one w #[.string ho, .string pf, .slice a1 M.length c1, .string hd, .string va] 37)
    generalize (w.alloc (.cells #[.string ho, .string pf, .slice a1 M.length c1, .string hd, .string va] 37)) = x at T0 ⊢
    refine (HP.out _ (HM.out.below T0.out.b)).mono ?_
    rintro e w1 ⟨rfl, bb⟩
    have T1 := hide (T0.out.below bb)
    clear bb T0 HP
    cases b1
    · go_wp2
      go_ret
      exact ⟨ret_bool (by rw [← HV.out, HD.out]; rfl), T1.out.b⟩
    · have m0 : w1.cell? ⟨w.heap.size, 0, none⟩ = some (.string ho) := T1.out.cell 0 rfl 0
      go_wp2_with fail
      refine (HQ.out _).mono ?_
      rintro e w2 ⟨rfl, bb⟩
      have T2 := hide (T1.out.below bb)
      clear bb m0 T1 HQ
      cases b2
      · go_wp2
        go_ret
        exact ⟨ret_bool (by rw [← HV.out, HD.out]; rfl), T2.out.b⟩
      · have m2 : w2.cell? ⟨w.heap.size, 2, none⟩ = some (.slice a1 M.length c1) := T2.out.cell 0 rfl 2
        have MR := hide (M0.out.below T2.out.b)
        go_wp2
        go_loop [24] (fun i => ∃ k : Nat, k ≤ M.length ∧ i = .int .i64 k ∧ Hid ((M.take k).all tokS = true)) (fun i => M.length - (intOf i).toNat)
        case atStart => exact ⟨0, Nat.zero_le _, rfl, hide rfl⟩
        case round =>
          obtain ⟨k, hk, rfl, H⟩ := hrel
          by_cases hlt : k < M.length
          · obtain ⟨a2, c2, he2, hcv⟩ := MR.out
            simp only [Value.slice.injEq, true_and] at he2
            obtain ⟨rfl, rfl⟩ := he2
            obtain ⟨g, o, rfl, hg, r1⟩ := hcv k hlt
            have HX := hide (HT.out w2 M[k] (MS.out _ (List.getElem_mem hlt)))
            have HS := hide (allS_snocM (A := M) tokS hlt)
            have HN := hide (allS_noM (A := M) tokS hlt)
            generalize M[k] = y at r1 HX HS HN
            have hty : tokenB y.data.toList = tokS y := rfl
            rw [hty] at HX
            generalize tokS y = bq at HX HS HN
            clear hcv hg hty
            cases bq
            · have HZ := hide (HN.out rfl)
              clear HS HN
              go_wp2_with fail
              refine HX.out.mono ?_
              rintro e w' ⟨rfl, rfl⟩
              go_wp2
              go_ret
              exact ⟨ret_bool (by rw [← HV.out, HD.out, HZ.out]; rfl), T2.out.b⟩
            · have HZ : Hid ((M.take (k + 1)).all tokS = true) := hide (by rw [HS.out, H.out]; rfl)
              clear HS HN
              go_wp2_with fail
              refine HX.out.mono ?_
              rintro e w' ⟨rfl, rfl⟩
              go_wp2
              exact ⟨⟨k + 1, by omega, by go_num, HZ⟩, by simp [intOf]; omega⟩
          · have HZ : Hid (M.all tokS = true) := hide (by have := H.out; rw [List.take_of_length_le (by omega)] at this; exact this)
            have m3 : w2.cell? ⟨w.heap.size, 3, none⟩ = some (.string hd) := T2.out.cell 0 rfl 3
            have m4 : w2.cell? ⟨w.heap.size, 4, none⟩ = some (.string va) := T2.out.cell 0 rfl 4
            have HA : Hid (R = askB hd va) := hide (by rw [← HV.out, HD.out, HZ.out]; rfl)
            unfold askB at HA
            clear HV HD
            by_cases h0 : hd.size = 0
            · have he : hd.toList.isEmpty = true := by rw [Lib.toList_data, isEmpty_size]; exact decide_eq_true h0
              have HE : Hid (va.toList.isEmpty = R) := hide (by rw [HA.out, if_pos h0, Lib.toList_data, isEmpty_size])
              clear h0 HA
              go_wp2
              go_ret
              exact ⟨ret_bool HE.out, T2.out.b⟩
            · have he : hd.toList.isEmpty = false := by rw [Lib.toList_data, isEmpty_size]; exact decide_eq_false h0
              have HE : Hid (R = (tokenB hd.data.toList && valueB va.data.toList)) := hide (by rw [HA.out, if_neg h0]; rfl)
              clear h0 HA
              generalize tokenB hd.data.toList = t1 at HTh HE
              generalize valueB va.data.toList = t2 at HVv HE
              go_wp2_with fail
              refine (HTh.out _).mono ?_
              rintro e w' ⟨rfl, rfl⟩
              cases t1
              · go_wp2
                go_ret
                exact ⟨ret_bool HE.out.symm, T2.out.b⟩
              · go_wp2_with fail
                refine (HVv.out _).mono ?_
                rintro e w3 ⟨rfl, bb⟩
                have T3 := hide (T2.out.below bb)
                clear bb
                go_wp2
                go_ret
                exact ⟨ret_bool HE.out.symm, T3.out.b⟩
end Go.Proofs.YtekkhjlipijmcaaGreatDoor
/- Whether a configuration is right beside its hosts and routes: the program's. -/
namespace Go.Proofs.YtekkhjlipijmcaaGreatDoor
open Go.ChangeShapes Go.WideShapes Go.ChangeAt Go.RowKit

def restB (pa : ByteArray) (c0 c1 c2 c3 c4 c5 c6 c7 c8 c9 c10 c11 c12 c13 c14 : Int) : Bool := fitK [c0, c1, c2, c3, c4, c5, c6, c7, c8, c9, c10, c11, c12, c13, c14] restFits_anyL 15 && (decide (c5 ≤ c6) && (placeB pa || (decide (pa.size = 0) && decide (c0 = 0))))
set_option maxHeartbeats 4000000 in
set_option maxRecDepth 100000 in
theorem rest_any (w : World) (a1 : Option Addr) (n1 k1 : Nat) (a2 : Option Addr) (n2 k2 : Nat) (pa : ByteArray) (c0 c1 c2 c3 c4 c5 c6 c7 c8 c9 c10 c11 c12 c13 c14 : Int) (hR : RG w 2 restFits_anyL) (hm : MX w) :
    Calls Tryz.prog 19 #[.agg #[.slice a1 n1 k1, .slice a2 n2 k2, .int .i64 c0, .int .i64 c1, .int .i64 c2, .int .i64 c3, .string pa, .int .i64 c4, .int .i64 c5, .int .i64 c6, .int .i64 c7, .int .i64 c8, .int .i64 c9, .int .i64 c10, .int .i64 c11, .int .i64 c12, .int .i64 c13, .int .i64 c14]] w fun e w' => e = .returned (.bool (restB pa c0 c1 c2 c3 c4 c5 c6 c7 c8 c9 c10 c11 c12 c13 c14)) ∧ Below w.heap.size w w' := by
  have HF := hide (fun W h => restFits_any W a1 n1 k1 a2 n2 k2 pa c0 c1 c2 c3 c4 c5 c6 c7 c8 c9 c10 c11 c12 c13 c14 h)
  have HP := hide (fun W h => place_any pa W h)
  have HR := hide hR
  have HM := hide hm
  obtain ⟨R, hR2⟩ : ∃ R, restB pa c0 c1 c2 c3 c4 c5 c6 c7 c8 c9 c10 c11 c12 c13 c14 = R := ⟨_, rfl⟩
  rw [hR2]
  have HV := hide hR2
  unfold restB at HV
  clear hR hm hR2
  generalize fitK [c0, c1, c2, c3, c4, c5, c6, c7, c8, c9, c10, c11, c12, c13, c14] restFits_anyL 15 = b1 at HF HV
  generalize placeB pa = b2 at HP HV
  go_enter Tryz.func19, Tryz.ntmps19
  go_wp2_with fail
  have T0 := hide (Bl.one w #[.slice a1 n1 k1, .slice a2 n2 k2, .int .i64 c0, .int .i64 c1, .int .i64 c2, .int .i64 c3, .string pa, .int .i64 c4, .int .i64 c5, .int .i64 c6, .int .i64 c7, .int .i64 c8, .int .i64 c9, .int .i64 c10, .int .i64 c11, .int .i64 c12, .int .i64 c13, .int .i64 c14] 25)
  generalize (w.alloc (.cells #[.slice a1 n1 k1, .slice a2 n2 k2, .int .i64 c0, .int .i64 c1, .int .i64 c2, .int .i64 c3, .string pa, .int .i64 c4, .int .i64 c5, .int .i64 c6, .int .i64 c7, .int .i64 c8, .int .i64 c9, .int .i64 c10, .int .i64 c11, .int .i64 c12, .int .i64 c13, .int .i64 c14] 25)) = x at T0 ⊢
  refine (HF.out _ (HR.out.below T0.out.b)).mono ?_
  rintro e w1 ⟨rfl, bb⟩
  have T1 := hide (T0.out.below bb)
  clear bb T0 HF
  cases b1
  · go_wp2
    go_ret
    exact ⟨ret_bool HV.out, T1.out.b⟩
  · skip
    have m2 : w1.cell? ⟨w.heap.size, 2, none⟩ = some (.int .i64 c0) := T1.out.cell 0 rfl 2
    have m6 : w1.cell? ⟨w.heap.size, 6, none⟩ = some (.string pa) := T1.out.cell 0 rfl 6
    have m8 : w1.cell? ⟨w.heap.size, 8, none⟩ = some (.int .i64 c5) := T1.out.cell 0 rfl 8
    have m9 : w1.cell? ⟨w.heap.size, 9, none⟩ = some (.int .i64 c6) := T1.out.cell 0 rfl 9
    by_cases h1 : c5 ≤ c6
    · have HD := hide (decide_eq_true h1)
      go_wp2_with fail
      refine (HP.out _ (HM.out.below T1.out.b)).mono ?_
      rintro e w2 ⟨rfl, bb⟩
      have T2 := hide (T1.out.below bb)
      clear bb T1 m2 m6 m8 m9 HP
      cases b2
      · skip
        have m2 : w2.cell? ⟨w.heap.size, 2, none⟩ = some (.int .i64 c0) := T2.out.cell 0 rfl 2
        have m6 : w2.cell? ⟨w.heap.size, 6, none⟩ = some (.string pa) := T2.out.cell 0 rfl 6
        by_cases h2 : pa.size = 0
        · have he : pa.toList.isEmpty = true := by rw [Lib.toList_data, isEmpty_size]; exact decide_eq_true h2
          have HE : Hid (R = (c0 == 0)) := hide (by rw [← HV.out, HD.out, decide_eq_true h2, Bool.eq_iff_iff]; simp)
          clear h2 HV
          go_wp2
          go_ret
          exact ⟨ret_bool HE.out.symm, T2.out.b⟩
        · have he : pa.toList.isEmpty = false := by rw [Lib.toList_data, isEmpty_size]; exact decide_eq_false h2
          have HE : Hid (R = false) := hide (by rw [← HV.out, HD.out, decide_eq_false h2]; rfl)
          clear h2 HV
          go_wp2
          go_ret
          exact ⟨ret_bool HE.out.symm, T2.out.b⟩
      · have HE : Hid (R = true) := hide (by rw [← HV.out, HD.out]; rfl)
        go_wp2
        go_ret
        exact ⟨ret_bool HE.out.symm, T2.out.b⟩
    · have HE : Hid (R = false) := hide (by rw [← HV.out, decide_eq_false h1]; rfl)
      go_wp2
      go_ret
      exact ⟨ret_bool HE.out.symm, T1.out.b⟩
end Go.Proofs.YtekkhjlipijmcaaGreatDoor
