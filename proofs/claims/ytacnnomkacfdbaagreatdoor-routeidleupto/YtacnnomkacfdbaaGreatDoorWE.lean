/- WE: ZFits ZCaps ZNum ZHosts ZPlace ZMatch ZFits2 ZRoutes. -/
import Derived.Test.YtacnnomkacfdbaaGreatDoorWB
import Derived.Test.YtacnnomkacfdbaaGreatDoorWA
import Derived.Test.YtacnnomkacfdbaaGreatDoorWD
import Derived.Deep.MidRow
import Derived.Deep.WholeRow
/- Whether numbers are in their ranges: the program's. -/
namespace Go.Proofs.YtacnnomkacfdbaaGreatDoor
open Go.ChangeShapes Go.WideShapes Go.ChangeAt Go.RowKit

/-- The variable of the program that holds ranges, as it is laid. -/
def RG (w : World) (g : Nat) (L : List (Int × Int)) : Prop := g < w.heap.size ∧ ∀ k a b, L[k]? = some (a, b) → w.cell? ⟨g, 2 * k, none⟩ = some (.int .i64 a) ∧ w.cell? ⟨g, 2 * k + 1, none⟩ = some (.int .i64 b)
theorem RG.below {w w' : World} {g : Nat} {L : List (Int × Int)} (h : RG w g L) (hb : Below w.heap.size w w') : RG w' g L :=
  ⟨Nat.lt_of_lt_of_le h.1 hb.size, fun k a b hk => ⟨(hb.cell (p := ⟨g, 2 * k, none⟩) h.1).trans (h.2 k a b hk).1, (hb.cell (p := ⟨g, 2 * k + 1, none⟩) h.1).trans (h.2 k a b hk).2⟩⟩
theorem RG.at {w : World} {g : Nat} {L : List (Int × Int)} (h : RG w g L) (k : Nat) (a b : Int) (hk : L[k]? = some (a, b)) : w.cell? ⟨g, 2 * k, none⟩ = some (.int .i64 a) ∧ w.cell? ⟨g, 2 * k + 1, none⟩ = some (.int .i64 b) := h.2 k a b hk
def fitK (N : List Int) (L : List (Int × Int)) (k : Nat) : Bool := ((N.zip L).take k).all fun x => inB x.1 x.2.1 x.2.2
theorem fit_next {N : List Int} {L : List (Int × Int)} {k : Nat} {n a b : Int} (h : (N.zip L)[k]? = some (n, (a, b))) : fitK N L (k + 1) = (fitK N L k && inB n a b) := by
  unfold fitK
  rw [List.take_add_one, h, List.all_append]
  simp
theorem fit_no {N : List Int} {L : List (Int × Int)} {k m : Nat} {n a b : Int} (h : (N.zip L)[k]? = some (n, (a, b))) (hk : k < m) (hb : inB n a b = false) : fitK N L m = false := by
  unfold fitK
  rw [List.all_eq_false]
  refine ⟨(n, (a, b)), List.mem_of_getElem? (i := k) ?_, by rw [hb]; decide⟩
  rw [List.getElem?_take, if_pos hk, h]
def hostFits_anyL : List (Int × Int) := [(1, 64), (0, 64)]
set_option maxHeartbeats 4000000 in
set_option maxRecDepth 100000 in
theorem hostFits_any (w : World) (nm : ByteArray) (ca pe : Int) (hR : RG w 0 hostFits_anyL) :
    Calls Tryz.prog 45 #[.agg #[.string nm, .int .i64 ca, .int .i64 pe]] w fun e w' => e = .returned (.bool (fitK [ca, pe] hostFits_anyL 2)) ∧ Below w.heap.size w w' := by
  have HR := hide hR
  clear hR
  go_enter Tryz.func45, Tryz.ntmps45
  go_wp2
  have T0 := hide (Bl.one w #[.string nm, .int .i64 ca, .int .i64 pe] 73)
  generalize (w.alloc (.cells #[.string nm, .int .i64 ca, .int .i64 pe] 73)) = x at T0 ⊢
  go_loopw [10] (fun i wr => ∃ k : Nat, k ≤ 2 ∧ i = .int .i64 k ∧ Hid (fitK [ca, pe] hostFits_anyL k = true) ∧ Hid (Below w.heap.size w wr)) (fun i _ => 2 - (intOf i).toNat)
  case atStart => exact ⟨0, Nat.zero_le _, rfl, hide rfl, hide T0.out.b⟩
  case round =>
    obtain ⟨k, hk, rfl, H, HB⟩ := hrel
    by_cases hlt : k < 2
    · have hcs : k = 0 ∨ k = 1 := by omega
      rcases hcs with rfl | rfl
      · obtain ⟨q0, q1⟩ := (HR.out.below HB.out).at 0 1 64 rfl
        have ix : (Instr.index 103 (.agg #[.int .i64 ca, .int .i64 pe]) (.int .i64 0)).run Tryz.prog wr = .ok (.int .i64 ca) wr := by kernel_rfl
        have HI := hide (fun W => hold_any W 1 64 ca)
        have HS := hide (fit_next (N := [ca, pe]) (L := hostFits_anyL) (k := 0) (n := ca) (a := 1) (b := 64) rfl)
        have HN := hide (fit_no (N := [ca, pe]) (L := hostFits_anyL) (k := 0) (m := 2) (n := ca) (a := 1) (b := 64) rfl (by decide))
        generalize inB ca 1 64 = bq at HI HS HN
        cases bq
        · have HX := hide (HN.out rfl)
          clear HS HN
          go_wp2_with fail
          refine (HI.out _).mono ?_
          rintro e w' ⟨rfl, bb⟩
          have B2 := hide (HB.out.trans (bb.mono HB.out.size))
          clear bb
          go_wp2
          go_ret
          exact ⟨ret_bool HX.out.symm, B2.out⟩
        · have HX : Hid (fitK [ca, pe] hostFits_anyL 1 = true) := hide (by rw [HS.out, H.out]; rfl)
          clear HS HN
          go_wp2_with fail
          refine (HI.out _).mono ?_
          rintro e w' ⟨rfl, bb⟩
          have B2 := hide (HB.out.trans (bb.mono HB.out.size))
          clear bb
          go_wp2
          exact ⟨⟨1, by omega, by go_num, HX, B2⟩, by simp [intOf]⟩
      · obtain ⟨q0, q1⟩ := (HR.out.below HB.out).at 1 0 64 rfl
        have ix : (Instr.index 103 (.agg #[.int .i64 ca, .int .i64 pe]) (.int .i64 1)).run Tryz.prog wr = .ok (.int .i64 pe) wr := by kernel_rfl
        have HI := hide (fun W => hold_any W 0 64 pe)
        have HS := hide (fit_next (N := [ca, pe]) (L := hostFits_anyL) (k := 1) (n := pe) (a := 0) (b := 64) rfl)
        have HN := hide (fit_no (N := [ca, pe]) (L := hostFits_anyL) (k := 1) (m := 2) (n := pe) (a := 0) (b := 64) rfl (by decide))
        generalize inB pe 0 64 = bq at HI HS HN
        cases bq
        · have HX := hide (HN.out rfl)
          clear HS HN
          go_wp2_with fail
          refine (HI.out _).mono ?_
          rintro e w' ⟨rfl, bb⟩
          have B2 := hide (HB.out.trans (bb.mono HB.out.size))
          clear bb
          go_wp2
          go_ret
          exact ⟨ret_bool HX.out.symm, B2.out⟩
        · have HX : Hid (fitK [ca, pe] hostFits_anyL 2 = true) := hide (by rw [HS.out, H.out]; rfl)
          clear HS HN
          go_wp2_with fail
          refine (HI.out _).mono ?_
          rintro e w' ⟨rfl, bb⟩
          have B2 := hide (HB.out.trans (bb.mono HB.out.size))
          clear bb
          go_wp2
          exact ⟨⟨2, by omega, by go_num, HX, B2⟩, by simp [intOf]⟩
    · have HX : Hid (fitK [ca, pe] hostFits_anyL 2 = true) := hide (by rw [← H.out]; congr 1; omega)
      go_wp2
      go_ret
      exact ⟨ret_bool HX.out.symm, HB.out⟩
end Go.Proofs.YtacnnomkacfdbaaGreatDoor
/- Rows of hosts; how many connections they may have together: the program's. -/
namespace Go.Proofs.YtacnnomkacfdbaaGreatDoor
open Go.ChangeShapes Go.WideShapes Go.ChangeAt Go.RowKit

/-- A host: its name, its cap, how many may wait. -/
structure Hst where
  nm : ByteArray
  ca : Int
  pe : Int
/-- The slice v reads as the hosts L, wherever it begins. -/
def HRow (W : World) (v : Value) (L : List Hst) : Prop := ∃ (a : Option Addr) (c : Nat), v = .slice a L.length c ∧ ∀ j (h : j < L.length), ∃ g o, a = some ⟨g, o, none⟩ ∧ g < W.heap.size ∧ W.cell? ⟨g, o + j * 3, none⟩ = some (.string L[j].nm) ∧ W.cell? ⟨g, o + j * 3 + 1, none⟩ = some (.int .i64 L[j].ca) ∧ W.cell? ⟨g, o + j * 3 + 2, none⟩ = some (.int .i64 L[j].pe)
theorem HRow.below {W W' : World} {v : Value} {L : List Hst} (h : HRow W v L) (hb : Below W.heap.size W W') : HRow W' v L := by
  obtain ⟨a, c, rfl, hc⟩ := h
  refine ⟨a, c, rfl, fun j hj => ?_⟩
  obtain ⟨g, o, h1, h2, h3, h4, h5⟩ := hc j hj
  exact ⟨g, o, h1, Nat.lt_of_lt_of_le h2 hb.size, (hb.cell (p := ⟨g, o + j * 3, none⟩) h2).trans h3, (hb.cell (p := ⟨g, o + j * 3 + 1, none⟩) h2).trans h4, (hb.cell (p := ⟨g, o + j * 3 + 2, none⟩) h2).trans h5⟩
def capsI (L : List Hst) : Int := (L.map (·.ca)).sum
theorem capsI_snoc (L : List Hst) (k : Nat) (h : k < L.length) : capsI (L.take (k + 1)) = capsI (L.take k) + L[k].ca := by
  unfold capsI
  rw [List.take_succ_eq_append_getElem h, List.map_append, List.sum_append]
  simp
theorem capsI_le (L : List Hst) (hl : L.length ≤ 16) (hc : ∀ x ∈ L, 0 ≤ x.ca ∧ x.ca ≤ 64) (k : Nat) (hk : k ≤ L.length) : 0 ≤ capsI (L.take k) ∧ capsI (L.take k) ≤ 64 * (k : Int) := by
  induction k with
  | zero => simp [capsI]
  | succ k ih =>
    have h := ih (by omega)
    have hm := hc L[k] (List.getElem_mem (by omega))
    rw [capsI_snoc L k (by omega)]
    omega
end Go.Proofs.YtacnnomkacfdbaaGreatDoor
/- Rows of numbers, wherever they begin; whether one is there; whether one is there twice; whether a route may have the hosts of these numbers: the program's. -/
namespace Go.Proofs.YtacnnomkacfdbaaGreatDoor
open Go.ChangeShapes Go.WideShapes Go.ChangeAt Go.RowKit

/-- The slice v reads as the numbers A, wherever it begins. -/
def IRow (W : World) (v : Value) (A : List Int) : Prop := ∃ (a : Option Addr) (c : Nat), v = .slice a A.length c ∧ ∀ j (h : j < A.length), ∃ g o, a = some ⟨g, o, none⟩ ∧ g < W.heap.size ∧ W.cell? ⟨g, o + j, none⟩ = some (.int .i64 A[j])
theorem IRow.below {W W' : World} {v : Value} {A : List Int} (h : IRow W v A) (hb : Below W.heap.size W W') : IRow W' v A := by
  obtain ⟨a, c, rfl, hc⟩ := h
  refine ⟨a, c, rfl, fun j hj => ?_⟩
  obtain ⟨g, o, h1, h2, h3⟩ := hc j hj
  exact ⟨g, o, h1, Nat.lt_of_lt_of_le h2 hb.size, (hb.cell (p := ⟨g, o + j, none⟩) h2).trans h3⟩
def memI (A : List Int) (n : Int) : Bool := A.any fun x => decide (n = x)
theorem memI_snoc {A : List Int} {n : Int} {k : Nat} (h : k < A.length) : memI (A.take (k + 1)) n = (memI (A.take k) n || decide (n = A[k])) := by
  unfold memI
  rw [List.take_succ_eq_append_getElem h, List.any_append]; simp
theorem memI_all {A : List Int} {n : Int} {k : Nat} (h : A.length ≤ k) : memI (A.take k) n = memI A n := by rw [List.take_of_length_le h]
theorem memI_at {A : List Int} {n : Int} {k : Nat} (h : k < A.length) (he : n = A[k]) : memI A n = true := by
  unfold memI
  rw [List.any_eq_true]
  exact ⟨A[k], List.getElem_mem h, decide_eq_true he⟩
set_option maxHeartbeats 1000000 in
theorem indexI_any (w : World) (v : Value) (A : List Int) (n : Int) (h : IRow w v A) (hA : A.length ≤ maxLen) :
    Calls Tryz.prog 130 #[v, .int .i64 n] w fun e w' => (∃ r : Int, e = .returned (.int .i64 r) ∧ decide (0 ≤ r) = memI A n) ∧ w' = w := by
  obtain ⟨a, c, rfl, hc⟩ := h
  have HC := hide hc
  unfold maxLen at hA
  clear hc
  go_enter Tryz.func130, Tryz.ntmps130
  go_wp2
  go_loop [8] (fun i => ∃ k : Nat, k ≤ A.length ∧ i = .int .i64 k ∧ Hid (memI (A.take k) n = false)) (fun i => A.length - (intOf i).toNat)
  case atStart => exact ⟨0, Nat.zero_le _, rfl, hide rfl⟩
  case round =>
    obtain ⟨k, hk, rfl, H⟩ := hrel
    by_cases hlt : k < A.length
    · obtain ⟨g, o, rfl, hg, r1⟩ := HC.out k hlt
      have hbe : (n == A[k]) = decide (n = A[k]) := by rw [Bool.eq_iff_iff]; simp
      have HM := hide (memI_snoc (A := A) (n := n) hlt)
      by_cases he : n = A[k]
      · have HY : Hid (memI A n = true) := hide (memI_at hlt he)
        rw [decide_eq_true he] at hbe
        generalize A[k] = x at r1 hbe
        clear he hg HM
        go_wp2
        go_ret
        exact ⟨⟨k, rfl, by rw [HY.out]; exact decide_eq_true (by omega)⟩, rfl⟩
      · have HN : Hid (memI (A.take (k + 1)) n = false) := hide (by rw [HM.out, H.out, decide_eq_false he]; rfl)
        rw [decide_eq_false he] at hbe
        generalize A[k] = x at r1 hbe
        clear he hg HM
        go_wp2
        exact ⟨⟨k + 1, by omega, by go_num, HN⟩, by simp [intOf]; omega⟩
    · have HN := hide ((memI_all (Nat.le_of_not_lt hlt)).symm.trans H.out)
      go_wp2
      go_ret
      exact ⟨⟨-1, rfl, by rw [HN.out]; rfl⟩, rfl⟩
theorem containsI_any (w : World) (v : Value) (A : List Int) (n : Int) (h : IRow w v A) (hA : A.length ≤ maxLen) :
    Calls Tryz.prog 103 #[v, .int .i64 n] w fun e w' => e = .returned (.bool (memI A n)) ∧ w' = w := by
  have HI := hide (indexI_any w v A n h hA)
  obtain ⟨a, c, rfl, hc⟩ := h
  clear hc
  go_enter Tryz.func103, Tryz.ntmps103
  go_wp2_with fail
  refine HI.out.mono ?_
  rintro e w' ⟨⟨r, rfl, hr⟩, rfl⟩
  have HR := hide hr
  clear hr HI
  go_wp2
  go_ret
  exact ⟨ret_bool HR.out, rfl⟩
def twI (A : List Int) (k : Nat) : Bool := (List.range k).any fun i => memI (A.take i) (A.getD i 0)
theorem twI_succ (A : List Int) (k : Nat) (h : k < A.length) : twI A (k + 1) = (twI A k || memI (A.take k) A[k]) := by
  unfold twI
  rw [List.range_succ, List.any_append]
  simp [List.getD_eq_getElem?_getD, h]
theorem twI_yes (A : List Int) (k : Nat) (h : k < A.length) (hm : memI (A.take k) A[k] = true) : twI A A.length = true := by
  unfold twI
  rw [List.any_eq_true]
  exact ⟨k, List.mem_range.2 h, by simpa [List.getD_eq_getElem?_getD, h] using hm⟩
theorem IRow.take {W : World} {a : Option Addr} {c : Nat} {A : List Int} (hc : ∀ j (h : j < A.length), ∃ g o, a = some ⟨g, o, none⟩ ∧ g < W.heap.size ∧ W.cell? ⟨g, o + j, none⟩ = some (.int .i64 A[j])) (k : Nat) (hk : k ≤ A.length) : IRow W (.slice a k c) (A.take k) := by
  refine ⟨a, c, by rw [List.length_take, Nat.min_eq_left hk], fun j hj => ?_⟩
  rw [List.length_take] at hj
  obtain ⟨g, o, h1, h2, h3⟩ := hc j (by omega)
  exact ⟨g, o, h1, h2, by rw [h3, List.getElem_take]⟩
set_option maxHeartbeats 1000000 in
theorem twiceI_any (w : World) (v : Value) (A : List Int) (h : IRow w v A) (hcap : ∀ a n c, v = .slice a n c → n ≤ c ∧ c ≤ maxLen) :
    Calls Tryz.prog 79 #[v] w fun e w' => e = .returned (.bool (twI A A.length)) ∧ w' = w := by
  obtain ⟨a, c, rfl, hc⟩ := h
  obtain ⟨hc1, hc2⟩ := hcap _ _ _ rfl
  unfold maxLen at hc2
  have HC := hide hc
  have HT := hide (fun k hk => IRow.take (c := c) hc k hk)
  clear hc hcap
  go_enter Tryz.func79, Tryz.ntmps79
  go_wp2
  go_loop [7] (fun i => ∃ k : Nat, k ≤ A.length ∧ i = .int .i64 k ∧ Hid (twI A k = false)) (fun i => A.length - (intOf i).toNat)
  case atStart => exact ⟨0, Nat.zero_le _, rfl, hide rfl⟩
  case round =>
    obtain ⟨k, hk, rfl, H⟩ := hrel
    by_cases hlt : k < A.length
    · obtain ⟨g, o, rfl, hg, r1⟩ := HC.out k hlt
      have HI := hide (containsI_any w (.slice (some ⟨g, o, none⟩) k c) (A.take k) A[k] (HT.out k hk) (by unfold maxLen; rw [List.length_take]; omega))
      have HS := hide (twI_succ A k hlt)
      have HY := hide (twI_yes A k hlt)
      generalize A[k] = x at r1 HI HS HY
      generalize memI (A.take k) x = b at HI HS HY
      clear hg
      cases b
      · have HN : Hid (twI A (k + 1) = false) := hide (by rw [HS.out, H.out]; rfl)
        clear HS HY
        go_wp2_with fail
        refine HI.out.mono ?_
        rintro e w' ⟨rfl, rfl⟩
        go_wp2
        exact ⟨⟨k + 1, by omega, by go_num, HN⟩, by simp [intOf]; omega⟩
      · have HX := hide (HY.out rfl)
        clear HS HY
        go_wp2_with fail
        refine HI.out.mono ?_
        rintro e w' ⟨rfl, rfl⟩
        go_wp2
        go_ret
        exact ⟨ret_bool HX.out.symm, rfl⟩
    · have HN : Hid (twI A A.length = false) := hide (by rw [← H.out]; congr 1; omega)
      go_wp2
      go_ret
      exact ⟨ret_bool HN.out.symm, rfl⟩
def numsB (A : List Int) (hosts : Int) : Bool := decide (1 ≤ A.length ∧ A.length ≤ 16) && (A.all (fun n => decide (0 ≤ n) && decide (n < hosts)) && !twI A A.length)
theorem allI_snoc {A : List Int} {k : Nat} (p : Int → Bool) (h : k < A.length) : (A.take (k + 1)).all p = ((A.take k).all p && p A[k]) := by
  rw [List.take_succ_eq_append_getElem h, List.all_append]; simp
theorem allI_no {A : List Int} {k : Nat} (p : Int → Bool) (h : k < A.length) (hp : p A[k] = false) : A.all p = false := by
  rw [List.all_eq_false]
  exact ⟨A[k], List.getElem_mem h, by rw [hp]; decide⟩
set_option maxHeartbeats 1000000 in
theorem nums_any (w : World) (v : Value) (A : List Int) (hosts : Int) (h : IRow w v A) (hcap : ∀ a n c, v = .slice a n c → n ≤ c ∧ c ≤ maxLen) :
    Calls Tryz.prog 48 #[v, .int .i64 hosts] w fun e w' => e = .returned (.bool (numsB A hosts)) ∧ w' = w := by
  have HT := hide (twiceI_any w v A h hcap)
  obtain ⟨a, c, rfl, hc⟩ := h
  obtain ⟨hc1, hc2⟩ := hcap _ _ _ rfl
  unfold maxLen at hc2
  have HC := hide hc
  clear hc hcap
  obtain ⟨R, hR⟩ : ∃ R, numsB A hosts = R := ⟨_, rfl⟩
  rw [hR]
  have HV := hide hR
  unfold numsB at HV
  clear hR
  generalize twI A A.length = tw at HT HV
  by_cases h1 : A.length < 1
  · have HD := hide (decide_eq_false (p := 1 ≤ A.length ∧ A.length ≤ 16) (by omega))
    go_enter Tryz.func48, Tryz.ntmps48
    go_wp2
    go_ret
    exact ⟨ret_bool (by rw [← HV.out, HD.out]; rfl), rfl⟩
  · by_cases h2 : 16 < A.length
    · have HD := hide (decide_eq_false (p := 1 ≤ A.length ∧ A.length ≤ 16) (by omega))
      go_enter Tryz.func48, Tryz.ntmps48
      go_wp2
      go_ret
      exact ⟨ret_bool (by rw [← HV.out, HD.out]; rfl), rfl⟩
    · have HD := hide (decide_eq_true (p := 1 ≤ A.length ∧ A.length ≤ 16) (by omega))
      go_enter Tryz.func48, Tryz.ntmps48
      go_wp2
      go_loop [17] (fun i => ∃ k : Nat, k ≤ A.length ∧ i = .int .i64 k ∧ Hid ((A.take k).all (fun n => decide (0 ≤ n) && decide (n < hosts)) = true)) (fun i => A.length - (intOf i).toNat)
      case atStart => exact ⟨0, Nat.zero_le _, rfl, hide rfl⟩
      case round =>
        obtain ⟨k, hk, rfl, H⟩ := hrel
        by_cases hlt : k < A.length
        · obtain ⟨g, o, rfl, hg, r1⟩ := HC.out k hlt
          have HS := hide (allI_snoc (A := A) (fun n => decide (0 ≤ n) && decide (n < hosts)) hlt)
          have HN := hide (allI_no (A := A) (fun n => decide (0 ≤ n) && decide (n < hosts)) hlt)
          generalize A[k] = x at r1 HS HN
          clear hg
          by_cases x0 : x < 0
          · have HX := hide (HN.out (by simp only [decide_eq_false (show ¬ 0 ≤ x by omega)]; rfl))
            clear HS HN
            go_wp2
            go_ret
            exact ⟨ret_bool (by rw [← HV.out, HD.out, HX.out]; rfl), rfl⟩
          · by_cases x1 : hosts ≤ x
            · have HX := hide (HN.out (by simp only [decide_eq_false (show ¬ x < hosts by omega)]; simp))
              clear HS HN
              go_wp2
              go_ret
              exact ⟨ret_bool (by rw [← HV.out, HD.out, HX.out]; rfl), rfl⟩
            · have HX : Hid ((A.take (k + 1)).all (fun n => decide (0 ≤ n) && decide (n < hosts)) = true) := hide (by
                rw [HS.out, H.out]; simp only [decide_eq_true (show 0 ≤ x by omega), decide_eq_true (show x < hosts by omega)]; rfl)
              clear HS HN
              go_wp2
              exact ⟨⟨k + 1, by omega, by go_num, HX⟩, by simp [intOf]; omega⟩
        · have HX : Hid (A.all (fun n => decide (0 ≤ n) && decide (n < hosts)) = true) := hide (by
            have := H.out; rw [List.take_of_length_le (by omega)] at this; exact this)
          go_wp2_with fail
          refine HT.out.mono ?_
          rintro e w' ⟨rfl, rfl⟩
          go_wp2
          go_ret
          exact ⟨ret_bool (by rw [← HV.out, HD.out, HX.out]; rfl), rfl⟩
end Go.Proofs.YtacnnomkacfdbaaGreatDoor
/- Whether a configuration may have these hosts: the program's. -/
namespace Go.Proofs.YtacnnomkacfdbaaGreatDoor
open Go.ChangeShapes Go.WideShapes Go.ChangeAt Go.RowKit
set_option linter.unusedVariables false

def okH (x : Hst) : Bool := isHostB x.nm && fitK [x.ca, x.pe] hostFits_anyL 2
def nmsH (L : List Hst) : List ByteArray := L.map (·.nm)
def hostsB (L : List Hst) : Bool := decide (1 ≤ L.length ∧ L.length ≤ 16) && (L.all okH && !twB (nmsH L) L.length)
theorem allH_snoc {L : List Hst} {k : Nat} (h : k < L.length) : (L.take (k + 1)).all okH = ((L.take k).all okH && okH L[k]) := by
  rw [List.take_succ_eq_append_getElem h, List.all_append]; simp
theorem allH_no {L : List Hst} {k : Nat} (h : k < L.length) (hp : okH L[k] = false) : L.all okH = false := by
  rw [List.all_eq_false]
  exact ⟨L[k], List.getElem_mem h, by rw [hp]; decide⟩
theorem nmsH_snoc {L : List Hst} {k : Nat} (h : k < L.length) : nmsH (L.take (k + 1)) = nmsH (L.take k) ++ [L[k].nm] := by
  unfold nmsH
  rw [List.take_succ_eq_append_getElem h, List.map_append]; rfl
theorem nmsH_len (L : List Hst) (k : Nat) (h : k ≤ L.length) : (nmsH (L.take k)).length = k := by
  unfold nmsH
  rw [List.length_map, List.length_take, Nat.min_eq_left h]
theorem SRow.of_strs {W : World} {v : Value} {A : List ByteArray} (h : Strs W v A) : SRow W v A := by
  obtain ⟨a, c, rfl, hc⟩ := h
  refine ⟨a, c, rfl, fun j hj => ?_⟩
  obtain ⟨g, h1, h2, h3⟩ := hc j hj
  exact ⟨g, 0, h1, h2, by rw [Nat.zero_add]; exact h3⟩
set_option maxHeartbeats 4000000 in
set_option maxRecDepth 100000 in
theorem hosts_any (w : World) (v : Value) (L : List Hst) (h : HRow w v L) (hn : ∀ x ∈ L, x.nm.size ≤ 1048576) (hR : RG w 0 hostFits_anyL) :
    Calls Tryz.prog 25 #[v] w fun e w' => e = .returned (.bool (hostsB L)) ∧ Below w.heap.size w w' := by
  have H0 := hide h
  have HRG := hide hR
  have HN0 := hide hn
  obtain ⟨a, c, rfl, _⟩ := h
  obtain ⟨R, HV⟩ : ∃ R, Hid (hostsB L = R) := ⟨_, hide rfl⟩
  rw [HV.out]
  unfold hostsB at HV
  clear hR hn
  obtain ⟨n, Hn⟩ : ∃ n, Hid (L.length = n) := ⟨_, hide rfl⟩
  rw [Hn.out] at HV ⊢
  by_cases h1 : n < 1
  · have HD := hide (decide_eq_false (p := 1 ≤ n ∧ n ≤ 16) (by omega))
    go_enter Tryz.func25, Tryz.ntmps25
    go_wp2
    go_ret
    exact ⟨ret_bool (by rw [← HV.out, HD.out]; rfl), Below.refl _ _⟩
  · by_cases h2 : 16 < n
    · have HD := hide (decide_eq_false (p := 1 ≤ n ∧ n ≤ 16) (by omega))
      go_enter Tryz.func25, Tryz.ntmps25
      go_wp2
      go_ret
      exact ⟨ret_bool (by rw [← HV.out, HD.out]; rfl), Below.refl _ _⟩
    · have HD := hide (decide_eq_true (p := 1 ≤ n ∧ n ≤ 16) (by omega))
      rw [HD.out, Bool.true_and] at HV
      clear HD
      go_enter Tryz.func25, Tryz.ntmps25
      go_wp2
      go_loopw [16, 3] (fun i v wr => ∃ k : Nat, k ≤ n ∧ i = .int .i64 k ∧ Hid ((L.take k).all okH = true) ∧ Hid (Row wr w.heap.size 9 v (sc (nmsH (L.take k)))) ∧ Hid (Below w.heap.size w wr)) (fun i _ _ => n - (intOf i).toNat)
      case atStart => exact ⟨0, Nat.zero_le _, rfl, hide rfl, hide (Row.nil _ _ _), hide (Below.refl _ _)⟩
      case round =>
        obtain ⟨k, hk, rfl, H, HR, HB⟩ := hrel
        have HNL := hide (nmsH_len L k (by rw [Hn.out]; exact hk))
        obtain ⟨a6, c6, hv6, hs1, hs2⟩ := HR.out.shape
        rw [sc_len, HNL.out] at hv6 hs1
        subst hv6
        unfold maxLen at hs2
        by_cases hlt : k < n
        · obtain ⟨a2, c2, he2, hcv⟩ := H0.out.below HB.out
          rw [Hn.out] at he2
          simp only [Value.slice.injEq, true_and] at he2
          obtain ⟨rfl, rfl⟩ := he2
          have hlL : k < L.length := by rw [Hn.out]; exact hlt
          obtain ⟨g, o, rfl, hg, r0, r1, r2⟩ := hcv k hlL
          have HS := hide (allH_snoc hlL)
          have HNO := hide (allH_no hlL)
          have HNM := hide (nmsH_snoc hlL)
          have hsz := HN0.out L[k] (List.getElem_mem hlL)
          generalize L[k] = y at r0 r1 r2 HS HNO HNM hsz
          obtain ⟨nm, ca, pe⟩ := y
          have HI := hide (fun W => ishostC_any nm W (by have : nm.size ≤ 1048576 := hsz; omega))
          have HF := hide (fun W h => hostFits_any W nm ca pe h)
          have ho : okH ⟨nm, ca, pe⟩ = (isHostB nm && fitK [ca, pe] hostFits_anyL 2) := rfl
          rw [ho] at HS HNO
          generalize isHostB nm = b1 at HI HS HNO
          generalize fitK [ca, pe] hostFits_anyL 2 = b2 at HF HS HNO
          simp only at r0 r1 r2 HNM
          clear hcv hg ho hsz hlL
          go_upto_region 7 with fail
          have U1 := hide (Bl.one wr #[.string nm, .int .i64 ca, .int .i64 pe] 73)
          generalize (wr.alloc (.cells #[.string nm, .int .i64 ca, .int .i64 pe] 73)) = x at U1 ⊢
          have d0 : x.cell? ⟨wr.heap.size, 0, none⟩ = some (.string nm) := U1.out.cell 0 rfl 0
          clear r0 r1 r2
          go_wp2_with fail
          refine (HI.out _).mono ?_
          rintro e w1 ⟨rfl, bb⟩
          have U2 := hide (U1.out.below bb)
          clear bb U1 d0
          have d0 : w1.cell? ⟨wr.heap.size, 0, none⟩ = some (.string nm) := U2.out.cell 0 rfl 0
          have d1 : w1.cell? ⟨wr.heap.size, 1, none⟩ = some (.int .i64 ca) := U2.out.cell 0 rfl 1
          have d2 : w1.cell? ⟨wr.heap.size, 2, none⟩ = some (.int .i64 pe) := U2.out.cell 0 rfl 2
          cases b1
          · have HX := hide (HNO.out rfl)
            go_wp2_with fail
            go_ret
            exact ⟨ret_bool (by rw [← HV.out, HX.out]; rfl), HB.out.trans (U2.out.b.mono HB.out.size)⟩
          · go_wp2_with fail
            refine (HF.out _ (HRG.out.below (HB.out.trans (U2.out.b.mono HB.out.size)))).mono ?_
            rintro e w2 ⟨rfl, bb⟩
            have U3 := hide (U2.out.below bb)
            clear bb U2 d0 d1 d2
            cases b2
            · have HX := hide (HNO.out rfl)
              go_wp2_with fail
              go_ret
              exact ⟨ret_bool (by rw [← HV.out, HX.out]; rfl), HB.out.trans (U3.out.b.mono HB.out.size)⟩
            · have d0 : w2.cell? ⟨wr.heap.size, 0, none⟩ = some (.string nm) := U3.out.cell 0 rfl 0
              have HX : Hid ((L.take (k + 1)).all okH = true) := hide (by rw [HS.out, H.out]; rfl)
              have HB4 := hide (HB.out.trans (U3.out.b.mono HB.out.size))
              have HR4 := hide (HR.out.below U3.out.b)
              clear HR HB H HS HNO U3
              go_wp2_with (at_builtin; apply Hid.out)
              unfold Hid
              refine wpList_append_one elS rfl _ _ rfl w2 w.heap.size (.slice a6 k c6) (sc (nmsH (L.take k))) (.string nm) rfl rfl HR4.out rfl (by rw [sc_len, HNL.out]; omega) (by rw [sc_len, HNL.out]; omega) HB4.out.size ?_
              intro v' w4 O' B'
              have O5 := hide O'
              have B5 := hide (HB4.out.trans B')
              clear O' B' d0
              go_wp2_with fail
              go_roundw
              case rel => exact ⟨k + 1, by omega, by go_num, HX, hide (by rw [HNM.out, sc_snoc]; exact O5.out), B5⟩
              case measure => simp [intOf]; omega
        · obtain rfl : k = n := by omega
          have e9 : L.take k = L := by rw [← Hn.out, List.take_length]
          rw [e9] at H HR HNL
          have HS := hide (SRow.of_strs (Strs.of_row HR.out))
          have HT := hide (twiceS_any wr (.slice a6 k c6) (nmsH L) HS.out (by rintro a' n' c' he; simp only [Value.slice.injEq] at he; obtain ⟨_, rfl, rfl⟩ := he; exact ⟨hs1, by unfold maxLen; exact hs2⟩))
          rw [HNL.out] at HT
          rw [H.out, Bool.true_and] at HV
          clear e9 HS HR H
          generalize twB (nmsH L) k = tw at *
          go_wp2_with fail
          refine HT.out.mono ?_
          rintro e w' ⟨rfl, rfl⟩
          go_wp2_with fail
          go_ret
          exact ⟨ret_bool HV.out, HB.out⟩
end Go.Proofs.YtacnnomkacfdbaaGreatDoor
/- Whether a text is a path without a query and without dots: the program's. -/
namespace Go.Proofs.YtacnnomkacfdbaaGreatDoor
open Go.ChangeShapes Go.WideShapes Go.ChangeAt Go.RowKit

def getN : ByteArray := ⟨#[71, 69, 84]⟩
def pathB (s : ByteArray) : Bool := decide (s.size ≤ 8192 ∧ formN getN.data.toList s.data.toList = 1 ∧ locB s = true ∧ cutA s = false)
theorem tgV_inj {f f' : Int} {h h' : ByteArray} {p p' : Int} {pa pa' q q' : ByteArray} {a a' : Bool} (e : tgV f h p pa q a = tgV f' h' p' pa' q' a') : f = f' ∧ a = a' := by
  unfold tgV at e
  simp only [Value.agg.injEq, Array.mk.injEq, List.cons.injEq, Value.int.injEq, Value.bool.injEq, and_true, true_and] at e
  exact ⟨e.1, e.2.2.2.2.2⟩
theorem parse_get (s : ByteArray) : ∃ (f : Int) (h : ByteArray) (p : Int) (pa q : ByteArray) (a : Bool) (re : Int), Parses getN s (tgV f h p pa q a) re ∧ ((re = 0 ∧ f = 1 ∧ a = false) ↔ pathB s = true) := by
  obtain ⟨t, re, h1, h2, h3, h4⟩ := parse_total getN s
  have key : ∀ (f : Int) (h : ByteArray) (p : Int) (pa q : ByteArray) (a : Bool), t = tgV f h p pa q a → ∃ (f : Int) (h : ByteArray) (p : Int) (pa q : ByteArray) (a : Bool) (re : Int), Parses getN s (tgV f h p pa q a) re ∧ ((re = 0 ∧ f = 1 ∧ a = false) ↔ pathB s = true) := by
    intro f h p pa q a ht
    refine ⟨f, h, p, pa, q, a, re, by rw [← ht]; exact h1, ⟨?_, ?_⟩⟩
    · rintro ⟨r0, rfl, rfl⟩
      obtain ⟨tk, hz⟩ := h2 r0
      rw [ht] at tk
      unfold pathB
      refine decide_eq_true ⟨hz, ?_⟩
      generalize hg : tgV 1 h p pa q false = g at tk
      cases tk with
      | auth hf _ _ => exact absurd (tgV_inj hg).1 (by decide)
      | ast hf => exact absurd (tgV_inj hg).1 (by decide)
      | origin hf h0 => exact ⟨hf, h0, (tgV_inj hg).2.symm⟩
      | abs hf _ _ => exact absurd (tgV_inj hg).1 (by decide)
    · intro hb
      obtain ⟨hz, hf, hl, hc⟩ := of_decide_eq_true hb
      obtain ⟨r0, e⟩ := h4 _ (Taken.origin hf hl) hz
      rw [ht] at e
      obtain ⟨e1, e2⟩ := tgV_inj e
      exact ⟨r0, e1, e2.trans hc⟩
  by_cases r0 : re = 0
  · obtain ⟨tk, _⟩ := h2 r0
    generalize hg : t = g at tk
    cases tk with
    | auth _ _ _ => exact key _ _ _ _ _ _ hg
    | ast _ => exact key _ _ _ _ _ _ hg
    | origin _ _ => exact key _ _ _ _ _ _ hg
    | abs _ _ _ => exact key _ _ _ _ _ _ hg
  · exact key _ _ _ _ _ _ (h3 r0)
def placeB (s : ByteArray) : Bool := pathB s && (decide (cleanE s.data.toList = 0) && decide (cleanS s = s))
set_option maxHeartbeats 2000000 in
set_option maxRecDepth 100000 in
theorem place_any (s : ByteArray) (w : World) (hm : MX w) : Calls Tryz.prog 51 #[.string s] w fun e w' => e = .returned (.bool (placeB s)) ∧ Below w.heap.size w w' := by
  obtain ⟨f, h, p, pa, q, a, re, hP, hI⟩ := parse_get s
  have HP := hide (hP w hm)
  have HC := hide (fun W h => clean_any s W h)
  have HM := hide hm
  have hbe := bytes_eq (cleanS s) s
  unfold placeB
  generalize pathB s = pb at hI ⊢
  generalize cleanS s = cs at HC hbe ⊢
  generalize cleanE s.data.toList = ce at HC ⊢
  unfold tgV at HP
  unfold getN at HP
  clear hP hm
  by_cases r0 : re = 0
  · by_cases f1 : f = 1
    · cases a
      · have HB : Hid (pb = true) := hide (hI.1 ⟨r0, f1, rfl⟩)
        subst r0 f1
        clear hI
        go_enter Tryz.func51, Tryz.ntmps51
        go_wp2_with fail
        refine HP.out.mono ?_
        rintro e w1 ⟨rfl, bb⟩
        have B1 := hide bb
        clear bb HP
        go_wp2_with fail
        have U1 := hide (Bl.one w1 #[.int .i64 1, .string h, .int .i64 p, .string pa, .string q, .bool false] 53)
        generalize (w1.alloc (.cells #[.int .i64 1, .string h, .int .i64 p, .string pa, .string q, .bool false] 53)) = y at U1 ⊢
        have B2 := hide (B1.out.trans (U1.out.b.mono B1.out.size))
        refine (HC.out _ (HM.out.below B2.out)).mono ?_
        rintro e w2 ⟨rfl, bb⟩
        have B3 := hide (B2.out.trans (bb.mono B2.out.size))
        clear bb U1
        by_cases c0 : ce = 0
        · subst c0
          go_wp2
          go_ret
          exact ⟨ret_bool (by rw [HB.out]; simp), B3.out⟩
        · have t0 : ((ce : Int) == 0) = false := beq_eq_false_iff_ne.2 (by omega)
          have HD := hide (decide_eq_false c0)
          go_wp2
          go_ret
          exact ⟨ret_bool (by rw [HB.out, HD.out]; rfl), B3.out⟩
      · have HB : Hid (pb = false) := hide (by cases hpb : pb with | false => rfl | true => exact absurd (hI.2 hpb).2.2 (by decide))
        subst r0 f1
        clear hI
        go_enter Tryz.func51, Tryz.ntmps51
        go_wp2_with fail
        refine HP.out.mono ?_
        rintro e w1 ⟨rfl, bb⟩
        have B1 := hide bb
        clear bb HP
        go_wp2
        go_ret
        exact ⟨ret_bool (by rw [HB.out]; rfl), B1.out.trans ((Bl.one w1 _ _).b.mono B1.out.size)⟩
    · have HB : Hid (pb = false) := hide (by cases hpb : pb with | false => rfl | true => exact absurd (hI.2 hpb).2.1 f1)
      have t1 : (f == 1) = false := beq_eq_false_iff_ne.2 f1
      subst r0
      clear hI
      go_enter Tryz.func51, Tryz.ntmps51
      go_wp2_with fail
      refine HP.out.mono ?_
      rintro e w1 ⟨rfl, bb⟩
      have B1 := hide bb
      clear bb HP
      go_wp2
      go_ret
      exact ⟨ret_bool (by rw [HB.out]; rfl), B1.out.trans ((Bl.one w1 _ _).b.mono B1.out.size)⟩
  · have HB : Hid (pb = false) := hide (by cases hpb : pb with | false => rfl | true => exact absurd (hI.2 hpb).1 r0)
    have t1 : (re == 0) = false := beq_eq_false_iff_ne.2 r0
    clear hI
    go_enter Tryz.func51, Tryz.ntmps51
    go_wp2_with fail
    refine HP.out.mono ?_
    rintro e w1 ⟨rfl, bb⟩
    have B1 := hide bb
    clear bb HP
    go_wp2
    go_ret
    exact ⟨ret_bool (by rw [HB.out]; rfl), B1.out.trans ((Bl.one w1 _ _).b.mono B1.out.size)⟩
end Go.Proofs.YtacnnomkacfdbaaGreatDoor
/- Whether a route may ask for this: the program's. -/
namespace Go.Proofs.YtacnnomkacfdbaaGreatDoor
open Go.ChangeShapes Go.WideShapes Go.ChangeAt Go.RowKit

def tokS (s : ByteArray) : Bool := tokenB s.data.toList
def askB (hd va : ByteArray) : Bool := if hd.size = 0 then decide (va.size = 0) else tokS hd && valueB va.data.toList
def matB (ho pf : ByteArray) (M : List ByteArray) (hd va : ByteArray) : Bool := decide (M.length ≤ 8) && (placeB pf && (patB ho && (M.all tokS && askB hd va)))
theorem allS_snocM {A : List ByteArray} {k : Nat} (p : ByteArray → Bool) (h : k < A.length) : (A.take (k + 1)).all p = ((A.take k).all p && p A[k]) := by
  rw [List.take_succ_eq_append_getElem h, List.all_append]; simp
theorem allS_noM {A : List ByteArray} {k : Nat} (p : ByteArray → Bool) (h : k < A.length) (hp : p A[k] = false) : A.all p = false := by
  rw [List.all_eq_false]
  exact ⟨A[k], List.getElem_mem h, by rw [hp]; decide⟩
set_option maxHeartbeats 4000000 in
set_option maxRecDepth 100000 in
theorem match_any (w : World) (ho pf : ByteArray) (ml : Value) (M : List ByteArray) (hd va : ByteArray) (hM : SRow w ml M) (hMs : ∀ x ∈ M, x.size ≤ 1048576) (hho : ho.size ≤ 1048576) (hhd : hd.size ≤ 1048576) (hva : va.size ≤ 1048576) (hm : MX w) :
    Calls Tryz.prog 47 #[.agg #[.string ho, .string pf, ml, .string hd, .string va]] w fun e w' => e = .returned (.bool (matB ho pf M hd va)) ∧ Below w.heap.size w w' := by
  have HP := hide (fun W h => place_any pf W h)
  have HQ := hide (fun W => pattern_any ho W (by omega))
  have HT := hide (fun W (x : ByteArray) (hx : x.size ≤ 1048576) => token_any x W (by unfold maxLen; omega))
  have HTh := hide (fun W => token_any hd W (by unfold maxLen; omega))
  have HVv := hide (fun W => value_any va W (by unfold maxLen; omega))
  have HM := hide hm
  have M0 := hide hM
  have MS := hide hMs
  obtain ⟨a1, c1, rfl, _⟩ := hM
  obtain ⟨R, hR⟩ : ∃ R, matB ho pf M hd va = R := ⟨_, rfl⟩
  rw [hR]
  have HV := hide hR
  unfold matB at HV
  clear hR hm hMs hho hhd hva
  generalize placeB pf = b1 at HP HV
  generalize patB ho = b2 at HQ HV
  by_cases h8 : 8 < M.length
  · have HD := hide (decide_eq_false (p := M.length ≤ 8) (by omega))
    go_enter Tryz.func47, Tryz.ntmps47
    go_wp2
    go_ret
    exact ⟨ret_bool (by rw [← HV.out, HD.out]; rfl), (Bl.one w _ _).b⟩
  · have HD := hide (decide_eq_true (p := M.length ≤ 8) (by omega))
    go_enter Tryz.func47, Tryz.ntmps47
    go_wp2_with fail
    have T0 := hide (Bl.one w #[.string ho, .string pf, .slice a1 M.length c1, .string hd, .string va] 38)
    generalize (w.alloc (.cells #[.string ho, .string pf, .slice a1 M.length c1, .string hd, .string va] 38)) = x at T0 ⊢
    refine (HP.out _ (HM.out.below T0.out.b)).mono ?_
    rintro e w1 ⟨rfl, bb⟩
    have T1 := hide (T0.out.below bb)
    clear bb T0 HP
    cases b1
    · go_wp2
      go_ret
      exact ⟨ret_bool (by rw [← HV.out, HD.out]; rfl), T1.out.b⟩
    · have m0 : w1.cell? ⟨w.heap.size, 0, none⟩ = some (.string ho) := T1.out.cell 0 rfl 0
      go_wp2_with fail
      refine (HQ.out _).mono ?_
      rintro e w2 ⟨rfl, bb⟩
      have T2 := hide (T1.out.below bb)
      clear bb m0 T1 HQ
      cases b2
      · go_wp2
        go_ret
        exact ⟨ret_bool (by rw [← HV.out, HD.out]; rfl), T2.out.b⟩
      · have m2 : w2.cell? ⟨w.heap.size, 2, none⟩ = some (.slice a1 M.length c1) := T2.out.cell 0 rfl 2
        have MR := hide (M0.out.below T2.out.b)
        go_wp2
        go_loop [24] (fun i => ∃ k : Nat, k ≤ M.length ∧ i = .int .i64 k ∧ Hid ((M.take k).all tokS = true)) (fun i => M.length - (intOf i).toNat)
        case atStart => exact ⟨0, Nat.zero_le _, rfl, hide rfl⟩
        case round =>
          obtain ⟨k, hk, rfl, H⟩ := hrel
          by_cases hlt : k < M.length
          · obtain ⟨a2, c2, he2, hcv⟩ := MR.out
            simp only [Value.slice.injEq, true_and] at he2
            obtain ⟨rfl, rfl⟩ := he2
            obtain ⟨g, o, rfl, hg, r1⟩ := hcv k hlt
            have HX := hide (HT.out w2 M[k] (MS.out _ (List.getElem_mem hlt)))
            have HS := hide (allS_snocM (A := M) tokS hlt)
            have HN := hide (allS_noM (A := M) tokS hlt)
            generalize M[k] = y at r1 HX HS HN
            have hty : tokenB y.data.toList = tokS y := rfl
            rw [hty] at HX
            generalize tokS y = bq at HX HS HN
            clear hcv hg hty
            cases bq
            · have HZ := hide (HN.out rfl)
              clear HS HN
              go_wp2_with fail
              refine HX.out.mono ?_
              rintro e w' ⟨rfl, rfl⟩
              go_wp2
              go_ret
              exact ⟨ret_bool (by rw [← HV.out, HD.out, HZ.out]; rfl), T2.out.b⟩
            · have HZ : Hid ((M.take (k + 1)).all tokS = true) := hide (by rw [HS.out, H.out]; rfl)
              clear HS HN
              go_wp2_with fail
              refine HX.out.mono ?_
              rintro e w' ⟨rfl, rfl⟩
              go_wp2
              exact ⟨⟨k + 1, by omega, by go_num, HZ⟩, by simp [intOf]; omega⟩
          · have HZ : Hid (M.all tokS = true) := hide (by have := H.out; rw [List.take_of_length_le (by omega)] at this; exact this)
            have m3 : w2.cell? ⟨w.heap.size, 3, none⟩ = some (.string hd) := T2.out.cell 0 rfl 3
            have m4 : w2.cell? ⟨w.heap.size, 4, none⟩ = some (.string va) := T2.out.cell 0 rfl 4
            have HA : Hid (R = askB hd va) := hide (by rw [← HV.out, HD.out, HZ.out]; rfl)
            unfold askB at HA
            clear HV HD
            by_cases h0 : hd.size = 0
            · have he : hd.toList.isEmpty = true := by rw [Lib.toList_data, isEmpty_size]; exact decide_eq_true h0
              have HE : Hid (va.toList.isEmpty = R) := hide (by rw [HA.out, if_pos h0, Lib.toList_data, isEmpty_size])
              clear h0 HA
              go_wp2
              go_ret
              exact ⟨ret_bool HE.out, T2.out.b⟩
            · have he : hd.toList.isEmpty = false := by rw [Lib.toList_data, isEmpty_size]; exact decide_eq_false h0
              have HE : Hid (R = (tokenB hd.data.toList && valueB va.data.toList)) := hide (by rw [HA.out, if_neg h0]; rfl)
              clear h0 HA
              generalize tokenB hd.data.toList = t1 at HTh HE
              generalize valueB va.data.toList = t2 at HVv HE
              go_wp2_with fail
              refine (HTh.out _).mono ?_
              rintro e w' ⟨rfl, rfl⟩
              cases t1
              · go_wp2
                go_ret
                exact ⟨ret_bool HE.out.symm, T2.out.b⟩
              · go_wp2_with fail
                refine (HVv.out _).mono ?_
                rintro e w3 ⟨rfl, bb⟩
                have T3 := hide (T2.out.below bb)
                clear bb
                go_wp2
                go_ret
                exact ⟨ret_bool HE.out.symm, T3.out.b⟩
end Go.Proofs.YtacnnomkacfdbaaGreatDoor
/- Whether a route's numbers are in their ranges: the program's. -/
namespace Go.Proofs.YtacnnomkacfdbaaGreatDoor
open Go.ChangeShapes Go.WideShapes Go.ChangeAt Go.RowKit

def routeFits_anyL : List (Int × Int) := [(0, 1000000), (1, 1000000), (0, 1000000), (1, 1000), (0, 1000), (1, 1000000), (1, 100), (0, 100), (0, 1000), (1, 1000000), (0, 5), (0, 3), (1, 1000000), (1, 1000000), (1, 1000000)]
set_option maxHeartbeats 4000000 in
set_option maxRecDepth 100000 in
theorem routeFits_any (w : World) (ho pf : ByteArray) (a1 : Option Addr) (n1 c1 : Nat) (hd va : ByteArray) (a2 : Option Addr) (n2 c2 : Nat) (r0 r1 r2 r3 r4 r5 r6 r7 r8 r9 r10 r11 r12 r13 r14 : Int) (hR : RG w 1 routeFits_anyL) :
    Calls Tryz.prog 49 #[.agg #[.string ho, .string pf, .slice a1 n1 c1, .string hd, .string va, .slice a2 n2 c2, .int .i64 r0, .int .i64 r1, .int .i64 r2, .int .i64 r3, .int .i64 r4, .int .i64 r5, .int .i64 r6, .int .i64 r7, .int .i64 r8, .int .i64 r9, .int .i64 r10, .int .i64 r11, .int .i64 r12, .int .i64 r13, .int .i64 r14]] w fun e w' => e = .returned (.bool (fitK [r0, r1, r2, r3, r4, r5, r6, r7, r8, r9, r10, r11, r12, r13, r14] routeFits_anyL 15)) ∧ Below w.heap.size w w' := by
  have HR := hide hR
  clear hR
  go_enter Tryz.func49, Tryz.ntmps49
  go_wp2
  have T0 := hide (Bl.one w #[.string ho, .string pf, .slice a1 n1 c1, .string hd, .string va, .slice a2 n2 c2, .int .i64 r0, .int .i64 r1, .int .i64 r2, .int .i64 r3, .int .i64 r4, .int .i64 r5, .int .i64 r6, .int .i64 r7, .int .i64 r8, .int .i64 r9, .int .i64 r10, .int .i64 r11, .int .i64 r12, .int .i64 r13, .int .i64 r14] 41)
  generalize (w.alloc (.cells #[.string ho, .string pf, .slice a1 n1 c1, .string hd, .string va, .slice a2 n2 c2, .int .i64 r0, .int .i64 r1, .int .i64 r2, .int .i64 r3, .int .i64 r4, .int .i64 r5, .int .i64 r6, .int .i64 r7, .int .i64 r8, .int .i64 r9, .int .i64 r10, .int .i64 r11, .int .i64 r12, .int .i64 r13, .int .i64 r14] 41)) = x at T0 ⊢
  go_loopw [36] (fun i wr => ∃ k : Nat, k ≤ 15 ∧ i = .int .i64 k ∧ Hid (fitK [r0, r1, r2, r3, r4, r5, r6, r7, r8, r9, r10, r11, r12, r13, r14] routeFits_anyL k = true) ∧ Hid (Below w.heap.size w wr)) (fun i _ => 15 - (intOf i).toNat)
  case atStart => exact ⟨0, Nat.zero_le _, rfl, hide rfl, hide T0.out.b⟩
  case round =>
    obtain ⟨k, hk, rfl, H, HB⟩ := hrel
    by_cases hlt : k < 15
    · have hcs : k = 0 ∨ k = 1 ∨ k = 2 ∨ k = 3 ∨ k = 4 ∨ k = 5 ∨ k = 6 ∨ k = 7 ∨ k = 8 ∨ k = 9 ∨ k = 10 ∨ k = 11 ∨ k = 12 ∨ k = 13 ∨ k = 14 := by omega
      rcases hcs with rfl | rfl | rfl | rfl | rfl | rfl | rfl | rfl | rfl | rfl | rfl | rfl | rfl | rfl | rfl
      · obtain ⟨q0, q1⟩ := (HR.out.below HB.out).at 0 0 1000000 rfl
        have ix : (Instr.index 108 (.agg #[.int .i64 r0, .int .i64 r1, .int .i64 r2, .int .i64 r3, .int .i64 r4, .int .i64 r5, .int .i64 r6, .int .i64 r7, .int .i64 r8, .int .i64 r9, .int .i64 r10, .int .i64 r11, .int .i64 r12, .int .i64 r13, .int .i64 r14]) (.int .i64 0)).run Tryz.prog wr = .ok (.int .i64 r0) wr := by kernel_rfl
        have HI := hide (fun W => hold_any W 0 1000000 r0)
        have HS := hide (fit_next (N := [r0, r1, r2, r3, r4, r5, r6, r7, r8, r9, r10, r11, r12, r13, r14]) (L := routeFits_anyL) (k := 0) (n := r0) (a := 0) (b := 1000000) rfl)
        have HN := hide (fit_no (N := [r0, r1, r2, r3, r4, r5, r6, r7, r8, r9, r10, r11, r12, r13, r14]) (L := routeFits_anyL) (k := 0) (m := 15) (n := r0) (a := 0) (b := 1000000) rfl (by decide))
        generalize inB r0 0 1000000 = bq at HI HS HN
        cases bq
        · have HX := hide (HN.out rfl)
          clear HS HN
          go_wp2_with fail
          refine (HI.out _).mono ?_
          rintro e w' ⟨rfl, bb⟩
          have B2 := hide (HB.out.trans (bb.mono HB.out.size))
          clear bb
          go_wp2
          go_ret
          exact ⟨ret_bool HX.out.symm, B2.out⟩
        · have HX : Hid (fitK [r0, r1, r2, r3, r4, r5, r6, r7, r8, r9, r10, r11, r12, r13, r14] routeFits_anyL 1 = true) := hide (by rw [HS.out, H.out]; rfl)
          clear HS HN
          go_wp2_with fail
          refine (HI.out _).mono ?_
          rintro e w' ⟨rfl, bb⟩
          have B2 := hide (HB.out.trans (bb.mono HB.out.size))
          clear bb
          go_wp2
          exact ⟨⟨1, by omega, by go_num, HX, B2⟩, by simp [intOf]⟩
      · obtain ⟨q0, q1⟩ := (HR.out.below HB.out).at 1 1 1000000 rfl
        have ix : (Instr.index 108 (.agg #[.int .i64 r0, .int .i64 r1, .int .i64 r2, .int .i64 r3, .int .i64 r4, .int .i64 r5, .int .i64 r6, .int .i64 r7, .int .i64 r8, .int .i64 r9, .int .i64 r10, .int .i64 r11, .int .i64 r12, .int .i64 r13, .int .i64 r14]) (.int .i64 1)).run Tryz.prog wr = .ok (.int .i64 r1) wr := by kernel_rfl
        have HI := hide (fun W => hold_any W 1 1000000 r1)
        have HS := hide (fit_next (N := [r0, r1, r2, r3, r4, r5, r6, r7, r8, r9, r10, r11, r12, r13, r14]) (L := routeFits_anyL) (k := 1) (n := r1) (a := 1) (b := 1000000) rfl)
        have HN := hide (fit_no (N := [r0, r1, r2, r3, r4, r5, r6, r7, r8, r9, r10, r11, r12, r13, r14]) (L := routeFits_anyL) (k := 1) (m := 15) (n := r1) (a := 1) (b := 1000000) rfl (by decide))
        generalize inB r1 1 1000000 = bq at HI HS HN
        cases bq
        · have HX := hide (HN.out rfl)
          clear HS HN
          go_wp2_with fail
          refine (HI.out _).mono ?_
          rintro e w' ⟨rfl, bb⟩
          have B2 := hide (HB.out.trans (bb.mono HB.out.size))
          clear bb
          go_wp2
          go_ret
          exact ⟨ret_bool HX.out.symm, B2.out⟩
        · have HX : Hid (fitK [r0, r1, r2, r3, r4, r5, r6, r7, r8, r9, r10, r11, r12, r13, r14] routeFits_anyL 2 = true) := hide (by rw [HS.out, H.out]; rfl)
          clear HS HN
          go_wp2_with fail
          refine (HI.out _).mono ?_
          rintro e w' ⟨rfl, bb⟩
          have B2 := hide (HB.out.trans (bb.mono HB.out.size))
          clear bb
          go_wp2
          exact ⟨⟨2, by omega, by go_num, HX, B2⟩, by simp [intOf]⟩
      · obtain ⟨q0, q1⟩ := (HR.out.below HB.out).at 2 0 1000000 rfl
        have ix : (Instr.index 108 (.agg #[.int .i64 r0, .int .i64 r1, .int .i64 r2, .int .i64 r3, .int .i64 r4, .int .i64 r5, .int .i64 r6, .int .i64 r7, .int .i64 r8, .int .i64 r9, .int .i64 r10, .int .i64 r11, .int .i64 r12, .int .i64 r13, .int .i64 r14]) (.int .i64 2)).run Tryz.prog wr = .ok (.int .i64 r2) wr := by kernel_rfl
        have HI := hide (fun W => hold_any W 0 1000000 r2)
        have HS := hide (fit_next (N := [r0, r1, r2, r3, r4, r5, r6, r7, r8, r9, r10, r11, r12, r13, r14]) (L := routeFits_anyL) (k := 2) (n := r2) (a := 0) (b := 1000000) rfl)
        have HN := hide (fit_no (N := [r0, r1, r2, r3, r4, r5, r6, r7, r8, r9, r10, r11, r12, r13, r14]) (L := routeFits_anyL) (k := 2) (m := 15) (n := r2) (a := 0) (b := 1000000) rfl (by decide))
        generalize inB r2 0 1000000 = bq at HI HS HN
        cases bq
        · have HX := hide (HN.out rfl)
          clear HS HN
          go_wp2_with fail
          refine (HI.out _).mono ?_
          rintro e w' ⟨rfl, bb⟩
          have B2 := hide (HB.out.trans (bb.mono HB.out.size))
          clear bb
          go_wp2
          go_ret
          exact ⟨ret_bool HX.out.symm, B2.out⟩
        · have HX : Hid (fitK [r0, r1, r2, r3, r4, r5, r6, r7, r8, r9, r10, r11, r12, r13, r14] routeFits_anyL 3 = true) := hide (by rw [HS.out, H.out]; rfl)
          clear HS HN
          go_wp2_with fail
          refine (HI.out _).mono ?_
          rintro e w' ⟨rfl, bb⟩
          have B2 := hide (HB.out.trans (bb.mono HB.out.size))
          clear bb
          go_wp2
          exact ⟨⟨3, by omega, by go_num, HX, B2⟩, by simp [intOf]⟩
      · obtain ⟨q0, q1⟩ := (HR.out.below HB.out).at 3 1 1000 rfl
        have ix : (Instr.index 108 (.agg #[.int .i64 r0, .int .i64 r1, .int .i64 r2, .int .i64 r3, .int .i64 r4, .int .i64 r5, .int .i64 r6, .int .i64 r7, .int .i64 r8, .int .i64 r9, .int .i64 r10, .int .i64 r11, .int .i64 r12, .int .i64 r13, .int .i64 r14]) (.int .i64 3)).run Tryz.prog wr = .ok (.int .i64 r3) wr := by kernel_rfl
        have HI := hide (fun W => hold_any W 1 1000 r3)
        have HS := hide (fit_next (N := [r0, r1, r2, r3, r4, r5, r6, r7, r8, r9, r10, r11, r12, r13, r14]) (L := routeFits_anyL) (k := 3) (n := r3) (a := 1) (b := 1000) rfl)
        have HN := hide (fit_no (N := [r0, r1, r2, r3, r4, r5, r6, r7, r8, r9, r10, r11, r12, r13, r14]) (L := routeFits_anyL) (k := 3) (m := 15) (n := r3) (a := 1) (b := 1000) rfl (by decide))
        generalize inB r3 1 1000 = bq at HI HS HN
        cases bq
        · have HX := hide (HN.out rfl)
          clear HS HN
          go_wp2_with fail
          refine (HI.out _).mono ?_
          rintro e w' ⟨rfl, bb⟩
          have B2 := hide (HB.out.trans (bb.mono HB.out.size))
          clear bb
          go_wp2
          go_ret
          exact ⟨ret_bool HX.out.symm, B2.out⟩
        · have HX : Hid (fitK [r0, r1, r2, r3, r4, r5, r6, r7, r8, r9, r10, r11, r12, r13, r14] routeFits_anyL 4 = true) := hide (by rw [HS.out, H.out]; rfl)
          clear HS HN
          go_wp2_with fail
          refine (HI.out _).mono ?_
          rintro e w' ⟨rfl, bb⟩
          have B2 := hide (HB.out.trans (bb.mono HB.out.size))
          clear bb
          go_wp2
          exact ⟨⟨4, by omega, by go_num, HX, B2⟩, by simp [intOf]⟩
      · obtain ⟨q0, q1⟩ := (HR.out.below HB.out).at 4 0 1000 rfl
        have ix : (Instr.index 108 (.agg #[.int .i64 r0, .int .i64 r1, .int .i64 r2, .int .i64 r3, .int .i64 r4, .int .i64 r5, .int .i64 r6, .int .i64 r7, .int .i64 r8, .int .i64 r9, .int .i64 r10, .int .i64 r11, .int .i64 r12, .int .i64 r13, .int .i64 r14]) (.int .i64 4)).run Tryz.prog wr = .ok (.int .i64 r4) wr := by kernel_rfl
        have HI := hide (fun W => hold_any W 0 1000 r4)
        have HS := hide (fit_next (N := [r0, r1, r2, r3, r4, r5, r6, r7, r8, r9, r10, r11, r12, r13, r14]) (L := routeFits_anyL) (k := 4) (n := r4) (a := 0) (b := 1000) rfl)
        have HN := hide (fit_no (N := [r0, r1, r2, r3, r4, r5, r6, r7, r8, r9, r10, r11, r12, r13, r14]) (L := routeFits_anyL) (k := 4) (m := 15) (n := r4) (a := 0) (b := 1000) rfl (by decide))
        generalize inB r4 0 1000 = bq at HI HS HN
        cases bq
        · have HX := hide (HN.out rfl)
          clear HS HN
          go_wp2_with fail
          refine (HI.out _).mono ?_
          rintro e w' ⟨rfl, bb⟩
          have B2 := hide (HB.out.trans (bb.mono HB.out.size))
          clear bb
          go_wp2
          go_ret
          exact ⟨ret_bool HX.out.symm, B2.out⟩
        · have HX : Hid (fitK [r0, r1, r2, r3, r4, r5, r6, r7, r8, r9, r10, r11, r12, r13, r14] routeFits_anyL 5 = true) := hide (by rw [HS.out, H.out]; rfl)
          clear HS HN
          go_wp2_with fail
          refine (HI.out _).mono ?_
          rintro e w' ⟨rfl, bb⟩
          have B2 := hide (HB.out.trans (bb.mono HB.out.size))
          clear bb
          go_wp2
          exact ⟨⟨5, by omega, by go_num, HX, B2⟩, by simp [intOf]⟩
      · obtain ⟨q0, q1⟩ := (HR.out.below HB.out).at 5 1 1000000 rfl
        have ix : (Instr.index 108 (.agg #[.int .i64 r0, .int .i64 r1, .int .i64 r2, .int .i64 r3, .int .i64 r4, .int .i64 r5, .int .i64 r6, .int .i64 r7, .int .i64 r8, .int .i64 r9, .int .i64 r10, .int .i64 r11, .int .i64 r12, .int .i64 r13, .int .i64 r14]) (.int .i64 5)).run Tryz.prog wr = .ok (.int .i64 r5) wr := by kernel_rfl
        have HI := hide (fun W => hold_any W 1 1000000 r5)
        have HS := hide (fit_next (N := [r0, r1, r2, r3, r4, r5, r6, r7, r8, r9, r10, r11, r12, r13, r14]) (L := routeFits_anyL) (k := 5) (n := r5) (a := 1) (b := 1000000) rfl)
        have HN := hide (fit_no (N := [r0, r1, r2, r3, r4, r5, r6, r7, r8, r9, r10, r11, r12, r13, r14]) (L := routeFits_anyL) (k := 5) (m := 15) (n := r5) (a := 1) (b := 1000000) rfl (by decide))
        generalize inB r5 1 1000000 = bq at HI HS HN
        cases bq
        · have HX := hide (HN.out rfl)
          clear HS HN
          go_wp2_with fail
          refine (HI.out _).mono ?_
          rintro e w' ⟨rfl, bb⟩
          have B2 := hide (HB.out.trans (bb.mono HB.out.size))
          clear bb
          go_wp2
          go_ret
          exact ⟨ret_bool HX.out.symm, B2.out⟩
        · have HX : Hid (fitK [r0, r1, r2, r3, r4, r5, r6, r7, r8, r9, r10, r11, r12, r13, r14] routeFits_anyL 6 = true) := hide (by rw [HS.out, H.out]; rfl)
          clear HS HN
          go_wp2_with fail
          refine (HI.out _).mono ?_
          rintro e w' ⟨rfl, bb⟩
          have B2 := hide (HB.out.trans (bb.mono HB.out.size))
          clear bb
          go_wp2
          exact ⟨⟨6, by omega, by go_num, HX, B2⟩, by simp [intOf]⟩
      · obtain ⟨q0, q1⟩ := (HR.out.below HB.out).at 6 1 100 rfl
        have ix : (Instr.index 108 (.agg #[.int .i64 r0, .int .i64 r1, .int .i64 r2, .int .i64 r3, .int .i64 r4, .int .i64 r5, .int .i64 r6, .int .i64 r7, .int .i64 r8, .int .i64 r9, .int .i64 r10, .int .i64 r11, .int .i64 r12, .int .i64 r13, .int .i64 r14]) (.int .i64 6)).run Tryz.prog wr = .ok (.int .i64 r6) wr := by kernel_rfl
        have HI := hide (fun W => hold_any W 1 100 r6)
        have HS := hide (fit_next (N := [r0, r1, r2, r3, r4, r5, r6, r7, r8, r9, r10, r11, r12, r13, r14]) (L := routeFits_anyL) (k := 6) (n := r6) (a := 1) (b := 100) rfl)
        have HN := hide (fit_no (N := [r0, r1, r2, r3, r4, r5, r6, r7, r8, r9, r10, r11, r12, r13, r14]) (L := routeFits_anyL) (k := 6) (m := 15) (n := r6) (a := 1) (b := 100) rfl (by decide))
        generalize inB r6 1 100 = bq at HI HS HN
        cases bq
        · have HX := hide (HN.out rfl)
          clear HS HN
          go_wp2_with fail
          refine (HI.out _).mono ?_
          rintro e w' ⟨rfl, bb⟩
          have B2 := hide (HB.out.trans (bb.mono HB.out.size))
          clear bb
          go_wp2
          go_ret
          exact ⟨ret_bool HX.out.symm, B2.out⟩
        · have HX : Hid (fitK [r0, r1, r2, r3, r4, r5, r6, r7, r8, r9, r10, r11, r12, r13, r14] routeFits_anyL 7 = true) := hide (by rw [HS.out, H.out]; rfl)
          clear HS HN
          go_wp2_with fail
          refine (HI.out _).mono ?_
          rintro e w' ⟨rfl, bb⟩
          have B2 := hide (HB.out.trans (bb.mono HB.out.size))
          clear bb
          go_wp2
          exact ⟨⟨7, by omega, by go_num, HX, B2⟩, by simp [intOf]⟩
      · obtain ⟨q0, q1⟩ := (HR.out.below HB.out).at 7 0 100 rfl
        have ix : (Instr.index 108 (.agg #[.int .i64 r0, .int .i64 r1, .int .i64 r2, .int .i64 r3, .int .i64 r4, .int .i64 r5, .int .i64 r6, .int .i64 r7, .int .i64 r8, .int .i64 r9, .int .i64 r10, .int .i64 r11, .int .i64 r12, .int .i64 r13, .int .i64 r14]) (.int .i64 7)).run Tryz.prog wr = .ok (.int .i64 r7) wr := by kernel_rfl
        have HI := hide (fun W => hold_any W 0 100 r7)
        have HS := hide (fit_next (N := [r0, r1, r2, r3, r4, r5, r6, r7, r8, r9, r10, r11, r12, r13, r14]) (L := routeFits_anyL) (k := 7) (n := r7) (a := 0) (b := 100) rfl)
        have HN := hide (fit_no (N := [r0, r1, r2, r3, r4, r5, r6, r7, r8, r9, r10, r11, r12, r13, r14]) (L := routeFits_anyL) (k := 7) (m := 15) (n := r7) (a := 0) (b := 100) rfl (by decide))
        generalize inB r7 0 100 = bq at HI HS HN
        cases bq
        · have HX := hide (HN.out rfl)
          clear HS HN
          go_wp2_with fail
          refine (HI.out _).mono ?_
          rintro e w' ⟨rfl, bb⟩
          have B2 := hide (HB.out.trans (bb.mono HB.out.size))
          clear bb
          go_wp2
          go_ret
          exact ⟨ret_bool HX.out.symm, B2.out⟩
        · have HX : Hid (fitK [r0, r1, r2, r3, r4, r5, r6, r7, r8, r9, r10, r11, r12, r13, r14] routeFits_anyL 8 = true) := hide (by rw [HS.out, H.out]; rfl)
          clear HS HN
          go_wp2_with fail
          refine (HI.out _).mono ?_
          rintro e w' ⟨rfl, bb⟩
          have B2 := hide (HB.out.trans (bb.mono HB.out.size))
          clear bb
          go_wp2
          exact ⟨⟨8, by omega, by go_num, HX, B2⟩, by simp [intOf]⟩
      · obtain ⟨q0, q1⟩ := (HR.out.below HB.out).at 8 0 1000 rfl
        have ix : (Instr.index 108 (.agg #[.int .i64 r0, .int .i64 r1, .int .i64 r2, .int .i64 r3, .int .i64 r4, .int .i64 r5, .int .i64 r6, .int .i64 r7, .int .i64 r8, .int .i64 r9, .int .i64 r10, .int .i64 r11, .int .i64 r12, .int .i64 r13, .int .i64 r14]) (.int .i64 8)).run Tryz.prog wr = .ok (.int .i64 r8) wr := by kernel_rfl
        have HI := hide (fun W => hold_any W 0 1000 r8)
        have HS := hide (fit_next (N := [r0, r1, r2, r3, r4, r5, r6, r7, r8, r9, r10, r11, r12, r13, r14]) (L := routeFits_anyL) (k := 8) (n := r8) (a := 0) (b := 1000) rfl)
        have HN := hide (fit_no (N := [r0, r1, r2, r3, r4, r5, r6, r7, r8, r9, r10, r11, r12, r13, r14]) (L := routeFits_anyL) (k := 8) (m := 15) (n := r8) (a := 0) (b := 1000) rfl (by decide))
        generalize inB r8 0 1000 = bq at HI HS HN
        cases bq
        · have HX := hide (HN.out rfl)
          clear HS HN
          go_wp2_with fail
          refine (HI.out _).mono ?_
          rintro e w' ⟨rfl, bb⟩
          have B2 := hide (HB.out.trans (bb.mono HB.out.size))
          clear bb
          go_wp2
          go_ret
          exact ⟨ret_bool HX.out.symm, B2.out⟩
        · have HX : Hid (fitK [r0, r1, r2, r3, r4, r5, r6, r7, r8, r9, r10, r11, r12, r13, r14] routeFits_anyL 9 = true) := hide (by rw [HS.out, H.out]; rfl)
          clear HS HN
          go_wp2_with fail
          refine (HI.out _).mono ?_
          rintro e w' ⟨rfl, bb⟩
          have B2 := hide (HB.out.trans (bb.mono HB.out.size))
          clear bb
          go_wp2
          exact ⟨⟨9, by omega, by go_num, HX, B2⟩, by simp [intOf]⟩
      · obtain ⟨q0, q1⟩ := (HR.out.below HB.out).at 9 1 1000000 rfl
        have ix : (Instr.index 108 (.agg #[.int .i64 r0, .int .i64 r1, .int .i64 r2, .int .i64 r3, .int .i64 r4, .int .i64 r5, .int .i64 r6, .int .i64 r7, .int .i64 r8, .int .i64 r9, .int .i64 r10, .int .i64 r11, .int .i64 r12, .int .i64 r13, .int .i64 r14]) (.int .i64 9)).run Tryz.prog wr = .ok (.int .i64 r9) wr := by kernel_rfl
        have HI := hide (fun W => hold_any W 1 1000000 r9)
        have HS := hide (fit_next (N := [r0, r1, r2, r3, r4, r5, r6, r7, r8, r9, r10, r11, r12, r13, r14]) (L := routeFits_anyL) (k := 9) (n := r9) (a := 1) (b := 1000000) rfl)
        have HN := hide (fit_no (N := [r0, r1, r2, r3, r4, r5, r6, r7, r8, r9, r10, r11, r12, r13, r14]) (L := routeFits_anyL) (k := 9) (m := 15) (n := r9) (a := 1) (b := 1000000) rfl (by decide))
        generalize inB r9 1 1000000 = bq at HI HS HN
        cases bq
        · have HX := hide (HN.out rfl)
          clear HS HN
          go_wp2_with fail
          refine (HI.out _).mono ?_
          rintro e w' ⟨rfl, bb⟩
          have B2 := hide (HB.out.trans (bb.mono HB.out.size))
          clear bb
          go_wp2
          go_ret
          exact ⟨ret_bool HX.out.symm, B2.out⟩
        · have HX : Hid (fitK [r0, r1, r2, r3, r4, r5, r6, r7, r8, r9, r10, r11, r12, r13, r14] routeFits_anyL 10 = true) := hide (by rw [HS.out, H.out]; rfl)
          clear HS HN
          go_wp2_with fail
          refine (HI.out _).mono ?_
          rintro e w' ⟨rfl, bb⟩
          have B2 := hide (HB.out.trans (bb.mono HB.out.size))
          clear bb
          go_wp2
          exact ⟨⟨10, by omega, by go_num, HX, B2⟩, by simp [intOf]⟩
      · obtain ⟨q0, q1⟩ := (HR.out.below HB.out).at 10 0 5 rfl
        have ix : (Instr.index 108 (.agg #[.int .i64 r0, .int .i64 r1, .int .i64 r2, .int .i64 r3, .int .i64 r4, .int .i64 r5, .int .i64 r6, .int .i64 r7, .int .i64 r8, .int .i64 r9, .int .i64 r10, .int .i64 r11, .int .i64 r12, .int .i64 r13, .int .i64 r14]) (.int .i64 10)).run Tryz.prog wr = .ok (.int .i64 r10) wr := by kernel_rfl
        have HI := hide (fun W => hold_any W 0 5 r10)
        have HS := hide (fit_next (N := [r0, r1, r2, r3, r4, r5, r6, r7, r8, r9, r10, r11, r12, r13, r14]) (L := routeFits_anyL) (k := 10) (n := r10) (a := 0) (b := 5) rfl)
        have HN := hide (fit_no (N := [r0, r1, r2, r3, r4, r5, r6, r7, r8, r9, r10, r11, r12, r13, r14]) (L := routeFits_anyL) (k := 10) (m := 15) (n := r10) (a := 0) (b := 5) rfl (by decide))
        generalize inB r10 0 5 = bq at HI HS HN
        cases bq
        · have HX := hide (HN.out rfl)
          clear HS HN
          go_wp2_with fail
          refine (HI.out _).mono ?_
          rintro e w' ⟨rfl, bb⟩
          have B2 := hide (HB.out.trans (bb.mono HB.out.size))
          clear bb
          go_wp2
          go_ret
          exact ⟨ret_bool HX.out.symm, B2.out⟩
        · have HX : Hid (fitK [r0, r1, r2, r3, r4, r5, r6, r7, r8, r9, r10, r11, r12, r13, r14] routeFits_anyL 11 = true) := hide (by rw [HS.out, H.out]; rfl)
          clear HS HN
          go_wp2_with fail
          refine (HI.out _).mono ?_
          rintro e w' ⟨rfl, bb⟩
          have B2 := hide (HB.out.trans (bb.mono HB.out.size))
          clear bb
          go_wp2
          exact ⟨⟨11, by omega, by go_num, HX, B2⟩, by simp [intOf]⟩
      · obtain ⟨q0, q1⟩ := (HR.out.below HB.out).at 11 0 3 rfl
        have ix : (Instr.index 108 (.agg #[.int .i64 r0, .int .i64 r1, .int .i64 r2, .int .i64 r3, .int .i64 r4, .int .i64 r5, .int .i64 r6, .int .i64 r7, .int .i64 r8, .int .i64 r9, .int .i64 r10, .int .i64 r11, .int .i64 r12, .int .i64 r13, .int .i64 r14]) (.int .i64 11)).run Tryz.prog wr = .ok (.int .i64 r11) wr := by kernel_rfl
        have HI := hide (fun W => hold_any W 0 3 r11)
        have HS := hide (fit_next (N := [r0, r1, r2, r3, r4, r5, r6, r7, r8, r9, r10, r11, r12, r13, r14]) (L := routeFits_anyL) (k := 11) (n := r11) (a := 0) (b := 3) rfl)
        have HN := hide (fit_no (N := [r0, r1, r2, r3, r4, r5, r6, r7, r8, r9, r10, r11, r12, r13, r14]) (L := routeFits_anyL) (k := 11) (m := 15) (n := r11) (a := 0) (b := 3) rfl (by decide))
        generalize inB r11 0 3 = bq at HI HS HN
        cases bq
        · have HX := hide (HN.out rfl)
          clear HS HN
          go_wp2_with fail
          refine (HI.out _).mono ?_
          rintro e w' ⟨rfl, bb⟩
          have B2 := hide (HB.out.trans (bb.mono HB.out.size))
          clear bb
          go_wp2
          go_ret
          exact ⟨ret_bool HX.out.symm, B2.out⟩
        · have HX : Hid (fitK [r0, r1, r2, r3, r4, r5, r6, r7, r8, r9, r10, r11, r12, r13, r14] routeFits_anyL 12 = true) := hide (by rw [HS.out, H.out]; rfl)
          clear HS HN
          go_wp2_with fail
          refine (HI.out _).mono ?_
          rintro e w' ⟨rfl, bb⟩
          have B2 := hide (HB.out.trans (bb.mono HB.out.size))
          clear bb
          go_wp2
          exact ⟨⟨12, by omega, by go_num, HX, B2⟩, by simp [intOf]⟩
      · obtain ⟨q0, q1⟩ := (HR.out.below HB.out).at 12 1 1000000 rfl
        have ix : (Instr.index 108 (.agg #[.int .i64 r0, .int .i64 r1, .int .i64 r2, .int .i64 r3, .int .i64 r4, .int .i64 r5, .int .i64 r6, .int .i64 r7, .int .i64 r8, .int .i64 r9, .int .i64 r10, .int .i64 r11, .int .i64 r12, .int .i64 r13, .int .i64 r14]) (.int .i64 12)).run Tryz.prog wr = .ok (.int .i64 r12) wr := by kernel_rfl
        have HI := hide (fun W => hold_any W 1 1000000 r12)
        have HS := hide (fit_next (N := [r0, r1, r2, r3, r4, r5, r6, r7, r8, r9, r10, r11, r12, r13, r14]) (L := routeFits_anyL) (k := 12) (n := r12) (a := 1) (b := 1000000) rfl)
        have HN := hide (fit_no (N := [r0, r1, r2, r3, r4, r5, r6, r7, r8, r9, r10, r11, r12, r13, r14]) (L := routeFits_anyL) (k := 12) (m := 15) (n := r12) (a := 1) (b := 1000000) rfl (by decide))
        generalize inB r12 1 1000000 = bq at HI HS HN
        cases bq
        · have HX := hide (HN.out rfl)
          clear HS HN
          go_wp2_with fail
          refine (HI.out _).mono ?_
          rintro e w' ⟨rfl, bb⟩
          have B2 := hide (HB.out.trans (bb.mono HB.out.size))
          clear bb
          go_wp2
          go_ret
          exact ⟨ret_bool HX.out.symm, B2.out⟩
        · have HX : Hid (fitK [r0, r1, r2, r3, r4, r5, r6, r7, r8, r9, r10, r11, r12, r13, r14] routeFits_anyL 13 = true) := hide (by rw [HS.out, H.out]; rfl)
          clear HS HN
          go_wp2_with fail
          refine (HI.out _).mono ?_
          rintro e w' ⟨rfl, bb⟩
          have B2 := hide (HB.out.trans (bb.mono HB.out.size))
          clear bb
          go_wp2
          exact ⟨⟨13, by omega, by go_num, HX, B2⟩, by simp [intOf]⟩
      · obtain ⟨q0, q1⟩ := (HR.out.below HB.out).at 13 1 1000000 rfl
        have ix : (Instr.index 108 (.agg #[.int .i64 r0, .int .i64 r1, .int .i64 r2, .int .i64 r3, .int .i64 r4, .int .i64 r5, .int .i64 r6, .int .i64 r7, .int .i64 r8, .int .i64 r9, .int .i64 r10, .int .i64 r11, .int .i64 r12, .int .i64 r13, .int .i64 r14]) (.int .i64 13)).run Tryz.prog wr = .ok (.int .i64 r13) wr := by kernel_rfl
        have HI := hide (fun W => hold_any W 1 1000000 r13)
        have HS := hide (fit_next (N := [r0, r1, r2, r3, r4, r5, r6, r7, r8, r9, r10, r11, r12, r13, r14]) (L := routeFits_anyL) (k := 13) (n := r13) (a := 1) (b := 1000000) rfl)
        have HN := hide (fit_no (N := [r0, r1, r2, r3, r4, r5, r6, r7, r8, r9, r10, r11, r12, r13, r14]) (L := routeFits_anyL) (k := 13) (m := 15) (n := r13) (a := 1) (b := 1000000) rfl (by decide))
        generalize inB r13 1 1000000 = bq at HI HS HN
        cases bq
        · have HX := hide (HN.out rfl)
          clear HS HN
          go_wp2_with fail
          refine (HI.out _).mono ?_
          rintro e w' ⟨rfl, bb⟩
          have B2 := hide (HB.out.trans (bb.mono HB.out.size))
          clear bb
          go_wp2
          go_ret
          exact ⟨ret_bool HX.out.symm, B2.out⟩
        · have HX : Hid (fitK [r0, r1, r2, r3, r4, r5, r6, r7, r8, r9, r10, r11, r12, r13, r14] routeFits_anyL 14 = true) := hide (by rw [HS.out, H.out]; rfl)
          clear HS HN
          go_wp2_with fail
          refine (HI.out _).mono ?_
          rintro e w' ⟨rfl, bb⟩
          have B2 := hide (HB.out.trans (bb.mono HB.out.size))
          clear bb
          go_wp2
          exact ⟨⟨14, by omega, by go_num, HX, B2⟩, by simp [intOf]⟩
      · obtain ⟨q0, q1⟩ := (HR.out.below HB.out).at 14 1 1000000 rfl
        have ix : (Instr.index 108 (.agg #[.int .i64 r0, .int .i64 r1, .int .i64 r2, .int .i64 r3, .int .i64 r4, .int .i64 r5, .int .i64 r6, .int .i64 r7, .int .i64 r8, .int .i64 r9, .int .i64 r10, .int .i64 r11, .int .i64 r12, .int .i64 r13, .int .i64 r14]) (.int .i64 14)).run Tryz.prog wr = .ok (.int .i64 r14) wr := by kernel_rfl
        have HI := hide (fun W => hold_any W 1 1000000 r14)
        have HS := hide (fit_next (N := [r0, r1, r2, r3, r4, r5, r6, r7, r8, r9, r10, r11, r12, r13, r14]) (L := routeFits_anyL) (k := 14) (n := r14) (a := 1) (b := 1000000) rfl)
        have HN := hide (fit_no (N := [r0, r1, r2, r3, r4, r5, r6, r7, r8, r9, r10, r11, r12, r13, r14]) (L := routeFits_anyL) (k := 14) (m := 15) (n := r14) (a := 1) (b := 1000000) rfl (by decide))
        generalize inB r14 1 1000000 = bq at HI HS HN
        cases bq
        · have HX := hide (HN.out rfl)
          clear HS HN
          go_wp2_with fail
          refine (HI.out _).mono ?_
          rintro e w' ⟨rfl, bb⟩
          have B2 := hide (HB.out.trans (bb.mono HB.out.size))
          clear bb
          go_wp2
          go_ret
          exact ⟨ret_bool HX.out.symm, B2.out⟩
        · have HX : Hid (fitK [r0, r1, r2, r3, r4, r5, r6, r7, r8, r9, r10, r11, r12, r13, r14] routeFits_anyL 15 = true) := hide (by rw [HS.out, H.out]; rfl)
          clear HS HN
          go_wp2_with fail
          refine (HI.out _).mono ?_
          rintro e w' ⟨rfl, bb⟩
          have B2 := hide (HB.out.trans (bb.mono HB.out.size))
          clear bb
          go_wp2
          exact ⟨⟨15, by omega, by go_num, HX, B2⟩, by simp [intOf]⟩
    · have HX : Hid (fitK [r0, r1, r2, r3, r4, r5, r6, r7, r8, r9, r10, r11, r12, r13, r14] routeFits_anyL 15 = true) := hide (by rw [← H.out]; congr 1; omega)
      go_wp2
      go_ret
      exact ⟨ret_bool HX.out.symm, HB.out⟩
end Go.Proofs.YtacnnomkacfdbaaGreatDoor
/- Rows of routes; whether a configuration may have these routes: the program's. -/
namespace Go.Proofs.YtacnnomkacfdbaaGreatDoor
open Go.ChangeShapes Go.WideShapes Go.ChangeAt Go.RowKit
set_option linter.unusedVariables false

/-- A struct that was loaded goes into the block that was made for it. -/
theorem wpList_store_new {P : Program} {ops : Array Oper} {rest : List Oper} {op : Oper} {a : Act} {w : World} {Q : Exit → Act → World → Prop} (hgd : op.guard = none) (ty : TypeId) (x y : Operand) (ho : op.op = .store ty x y)
    (c cells : Array Value) (hx : a.eval x = .pointer (some ⟨w.heap.size, 0, none⟩)) (hy : a.eval y = .agg cells) (hi : (P.info? ty).map (·.size) = some cells.size) (hc : c.size = cells.size) (h1 : cells.all (·.oneCell') = true)
    (h : wpList P ops Q rest (a.put op.dst undef) (w.alloc (.cells cells ty))) : wpList P ops Q (op :: rest) a (w.alloc (.cells c ty)) := by
  refine wpList_plain hgd fun K hK => ?_
  unfold Oper.wp execOp
  simp only [ho, hx, hy, Sem.run_bind, run_storeAt_new w ty c cells hi hc h1, Sem.run_pure, Result.andThen_ok]
  exact hK _ _ h
/-- An operation that is wanted, behind whatever guard. -/
theorem wpList_want {P : Program} {ops : Array Oper} {rest : List Oper} {o : Oper} {a : Act} {w : World} {Q : Exit → Act → World → Prop} (hw : Region.wanted o (yielded ops a.tmps) = true)
    (h : ∀ K : Act → World → Prop, (∀ a w, wpList P ops Q rest a w → K a w) → o.wp P a w K Q) : wpList P ops Q (o :: rest) a w := by
  unfold wpList
  rw [if_pos hw]
  exact .inl (h _ (fun _ _ x => x))
/-- A route. -/
structure Rt where
  ho : ByteArray
  pf : ByteArray
  M : List ByteArray
  hd : ByteArray
  va : ByteArray
  H : List Int
  r0 : Int
  r1 : Int
  r2 : Int
  r3 : Int
  r4 : Int
  r5 : Int
  r6 : Int
  r7 : Int
  r8 : Int
  r9 : Int
  r10 : Int
  r11 : Int
  r12 : Int
  r13 : Int
  r14 : Int

/-- The texts of a route are not too long. -/
structure Rt.Sz (r : Rt) : Prop where
  ho : r.ho.size ≤ 1048576
  hd : r.hd.size ≤ 1048576
  va : r.va.size ≤ 1048576
  M : ∀ x ∈ r.M, x.size ≤ 1048576
def capOk (v : Value) : Prop := ∀ a n c, v = .slice a n c → n ≤ c ∧ c ≤ maxLen
/-- The slice v reads as the routes L, wherever it begins. -/
def RRow (W : World) (v : Value) (L : List Rt) : Prop := ∃ (a : Option Addr) (c : Nat), v = .slice a L.length c ∧ ∀ j (h : j < L.length), ∃ g o m q, a = some ⟨g, o, none⟩ ∧ g < W.heap.size ∧ SRow W m L[j].M ∧ IRow W q L[j].H ∧ capOk q ∧ W.cell? ⟨g, o + j * 21, none⟩ = some (.string L[j].ho) ∧ W.cell? ⟨g, o + j * 21 + 1, none⟩ = some (.string L[j].pf) ∧ W.cell? ⟨g, o + j * 21 + 2, none⟩ = some (m) ∧ W.cell? ⟨g, o + j * 21 + 3, none⟩ = some (.string L[j].hd) ∧ W.cell? ⟨g, o + j * 21 + 4, none⟩ = some (.string L[j].va) ∧ W.cell? ⟨g, o + j * 21 + 5, none⟩ = some (q) ∧ W.cell? ⟨g, o + j * 21 + 6, none⟩ = some (.int .i64 L[j].r0) ∧ W.cell? ⟨g, o + j * 21 + 7, none⟩ = some (.int .i64 L[j].r1) ∧ W.cell? ⟨g, o + j * 21 + 8, none⟩ = some (.int .i64 L[j].r2) ∧ W.cell? ⟨g, o + j * 21 + 9, none⟩ = some (.int .i64 L[j].r3) ∧ W.cell? ⟨g, o + j * 21 + 10, none⟩ = some (.int .i64 L[j].r4) ∧ W.cell? ⟨g, o + j * 21 + 11, none⟩ = some (.int .i64 L[j].r5) ∧ W.cell? ⟨g, o + j * 21 + 12, none⟩ = some (.int .i64 L[j].r6) ∧ W.cell? ⟨g, o + j * 21 + 13, none⟩ = some (.int .i64 L[j].r7) ∧ W.cell? ⟨g, o + j * 21 + 14, none⟩ = some (.int .i64 L[j].r8) ∧ W.cell? ⟨g, o + j * 21 + 15, none⟩ = some (.int .i64 L[j].r9) ∧ W.cell? ⟨g, o + j * 21 + 16, none⟩ = some (.int .i64 L[j].r10) ∧ W.cell? ⟨g, o + j * 21 + 17, none⟩ = some (.int .i64 L[j].r11) ∧ W.cell? ⟨g, o + j * 21 + 18, none⟩ = some (.int .i64 L[j].r12) ∧ W.cell? ⟨g, o + j * 21 + 19, none⟩ = some (.int .i64 L[j].r13) ∧ W.cell? ⟨g, o + j * 21 + 20, none⟩ = some (.int .i64 L[j].r14)
theorem RRow.below {W W' : World} {v : Value} {L : List Rt} (h : RRow W v L) (hb : Below W.heap.size W W') : RRow W' v L := by
  obtain ⟨a, c, rfl, hc⟩ := h
  refine ⟨a, c, rfl, fun j hj => ?_⟩
  obtain ⟨g, o, m, q, h1, h2, hm, hq, hcq, k0, k1, k2, k3, k4, k5, k6, k7, k8, k9, k10, k11, k12, k13, k14, k15, k16, k17, k18, k19, k20⟩ := hc j hj
  exact ⟨g, o, m, q, h1, Nat.lt_of_lt_of_le h2 hb.size, hm.below hb, hq.below hb, hcq, (hb.cell (p := ⟨g, o + j * 21, none⟩) h2).trans k0, (hb.cell (p := ⟨g, o + j * 21 + 1, none⟩) h2).trans k1, (hb.cell (p := ⟨g, o + j * 21 + 2, none⟩) h2).trans k2, (hb.cell (p := ⟨g, o + j * 21 + 3, none⟩) h2).trans k3, (hb.cell (p := ⟨g, o + j * 21 + 4, none⟩) h2).trans k4, (hb.cell (p := ⟨g, o + j * 21 + 5, none⟩) h2).trans k5, (hb.cell (p := ⟨g, o + j * 21 + 6, none⟩) h2).trans k6, (hb.cell (p := ⟨g, o + j * 21 + 7, none⟩) h2).trans k7, (hb.cell (p := ⟨g, o + j * 21 + 8, none⟩) h2).trans k8, (hb.cell (p := ⟨g, o + j * 21 + 9, none⟩) h2).trans k9, (hb.cell (p := ⟨g, o + j * 21 + 10, none⟩) h2).trans k10, (hb.cell (p := ⟨g, o + j * 21 + 11, none⟩) h2).trans k11, (hb.cell (p := ⟨g, o + j * 21 + 12, none⟩) h2).trans k12, (hb.cell (p := ⟨g, o + j * 21 + 13, none⟩) h2).trans k13, (hb.cell (p := ⟨g, o + j * 21 + 14, none⟩) h2).trans k14, (hb.cell (p := ⟨g, o + j * 21 + 15, none⟩) h2).trans k15, (hb.cell (p := ⟨g, o + j * 21 + 16, none⟩) h2).trans k16, (hb.cell (p := ⟨g, o + j * 21 + 17, none⟩) h2).trans k17, (hb.cell (p := ⟨g, o + j * 21 + 18, none⟩) h2).trans k18, (hb.cell (p := ⟨g, o + j * 21 + 19, none⟩) h2).trans k19, (hb.cell (p := ⟨g, o + j * 21 + 20, none⟩) h2).trans k20⟩
def numsR (r : Rt) : List Int := [r.r0, r.r1, r.r2, r.r3, r.r4, r.r5, r.r6, r.r7, r.r8, r.r9, r.r10, r.r11, r.r12, r.r13, r.r14]
def okR (n : Int) (r : Rt) : Bool := matB r.ho r.pf r.M r.hd r.va && (numsB r.H n && fitK (numsR r) routeFits_anyL 15)
def routesB (L : List Rt) (n : Int) : Bool := decide (1 ≤ L.length ∧ L.length ≤ 16) && L.all (okR n)
theorem allR_snoc {L : List Rt} {n : Int} {k : Nat} (h : k < L.length) : (L.take (k + 1)).all (okR n) = ((L.take k).all (okR n) && okR n L[k]) := by
  rw [List.take_succ_eq_append_getElem h, List.all_append]; simp
theorem allR_no {L : List Rt} {n : Int} {k : Nat} (h : k < L.length) (hp : okR n L[k] = false) : L.all (okR n) = false := by
  rw [List.all_eq_false]
  exact ⟨L[k], List.getElem_mem h, by rw [hp]; decide⟩
set_option maxHeartbeats 4000000 in
set_option maxRecDepth 100000 in
theorem routes_any (w : World) (v : Value) (L : List Rt) (hn : Int) (h : RRow w v L) (hs : ∀ x ∈ L, x.Sz) (hR : RG w 1 routeFits_anyL) (hm : MX w) :
    Calls Tryz.prog 26 #[v, .int .i64 hn] w fun e w' => e = .returned (.bool (routesB L hn)) ∧ Below w.heap.size w w' := by
  have H0 := hide h
  have HRG := hide hR
  have HS0 := hide hs
  have HM := hide hm
  obtain ⟨a, c, rfl, _⟩ := h
  obtain ⟨R, HV⟩ : ∃ R, Hid (routesB L hn = R) := ⟨_, hide rfl⟩
  rw [HV.out]
  unfold routesB at HV
  clear hR hs hm
  obtain ⟨n, Hn⟩ : ∃ n, Hid (L.length = n) := ⟨_, hide rfl⟩
  rw [Hn.out] at HV ⊢
  by_cases h1 : n < 1
  · have HD := hide (decide_eq_false (p := 1 ≤ n ∧ n ≤ 16) (by omega))
    go_enter Tryz.func26, Tryz.ntmps26
    go_wp2
    go_ret
    exact ⟨ret_bool (by rw [← HV.out, HD.out]; rfl), Below.refl _ _⟩
  · by_cases h2 : 16 < n
    · have HD := hide (decide_eq_false (p := 1 ≤ n ∧ n ≤ 16) (by omega))
      go_enter Tryz.func26, Tryz.ntmps26
      go_wp2
      go_ret
      exact ⟨ret_bool (by rw [← HV.out, HD.out]; rfl), Below.refl _ _⟩
    · have HD := hide (decide_eq_true (p := 1 ≤ n ∧ n ≤ 16) (by omega))
      rw [HD.out, Bool.true_and] at HV
      clear HD
      go_enter Tryz.func26, Tryz.ntmps26
      go_wp2
      go_loopw [17] (fun i wr => ∃ k : Nat, k ≤ n ∧ i = .int .i64 k ∧ Hid ((L.take k).all (okR hn) = true) ∧ Hid (Below w.heap.size w wr)) (fun i _ => n - (intOf i).toNat)
      case atStart => exact ⟨0, Nat.zero_le _, rfl, hide rfl, hide (Below.refl _ _)⟩
      case round =>
        obtain ⟨k, hk, rfl, H, HB⟩ := hrel
        by_cases hlt : k < n
        · obtain ⟨a9, c9, he2, hcv⟩ := H0.out.below HB.out
          rw [Hn.out] at he2
          simp only [Value.slice.injEq, true_and] at he2
          obtain ⟨rfl, rfl⟩ := he2
          have hlL : k < L.length := by rw [Hn.out]; exact hlt
          obtain ⟨g, o, m, q, rfl, hg, SM, SQ, cq, k0, k1, k2, k3, k4, k5, k6, k7, k8, k9, k10, k11, k12, k13, k14, k15, k16, k17, k18, k19, k20⟩ := hcv k hlL
          have HS := hide (allR_snoc (n := hn) hlL)
          have HNO := hide (allR_no (n := hn) hlL)
          have hsz := HS0.out L[k] (List.getElem_mem hlL)
          generalize L[k] = y at *
          obtain ⟨ho, pf, M, hd, va, HL, r0, r1, r2, r3, r4, r5, r6, r7, r8, r9, r10, r11, r12, r13, r14⟩ := y
          simp only at SM SQ k0 k1 k2 k3 k4 k5 k6 k7 k8 k9 k10 k11 k12 k13 k14 k15 k16 k17 k18 k19 k20
          have HSM := hide SM
          have HSQ := hide SQ
          have Hcq := hide cq
          have HSZ := hide hsz
          have ho9 : okR hn ⟨ho, pf, M, hd, va, HL, r0, r1, r2, r3, r4, r5, r6, r7, r8, r9, r10, r11, r12, r13, r14⟩ = (matB ho pf M hd va && (numsB HL hn && fitK [r0, r1, r2, r3, r4, r5, r6, r7, r8, r9, r10, r11, r12, r13, r14] routeFits_anyL 15)) := rfl
          rw [ho9] at HS HNO
          obtain ⟨a1, c1, rfl, -⟩ := SM
          obtain ⟨a2, c2, rfl, -⟩ := SQ
          have HMA := hide (fun W h h2 => match_any W ho pf (.slice a1 M.length c1) M hd va h HSZ.out.M HSZ.out.ho HSZ.out.hd HSZ.out.va h2)
          have HNU := hide (fun W h => nums_any W (.slice a2 HL.length c2) HL hn h Hcq.out)
          obtain ⟨n1, Hn1⟩ : ∃ n1, Hid (M.length = n1) := ⟨_, hide rfl⟩
          obtain ⟨n2, Hn2⟩ : ∃ n2, Hid (HL.length = n2) := ⟨_, hide rfl⟩
          rw [Hn1.out] at k2 HMA HSM
          rw [Hn2.out] at k5 HNU HSQ
          have HFI := hide (fun W h => routeFits_any W ho pf a1 n1 c1 hd va a2 n2 c2 r0 r1 r2 r3 r4 r5 r6 r7 r8 r9 r10 r11 r12 r13 r14 h)
          generalize matB ho pf M hd va = b1 at HMA HS HNO
          generalize numsB HL hn = b2 at HNU HS HNO
          generalize fitK [r0, r1, r2, r3, r4, r5, r6, r7, r8, r9, r10, r11, r12, r13, r14] routeFits_anyL 15 = b3 at HFI HS HNO
          clear hcv hg ho9 hsz hlL cq Hcq HSZ
          have HRA : Hid (wr.rangeAt g (o + k * 21) ([.string ho, .string pf, .slice a1 n1 c1, .string hd, .string va, .slice a2 n2 c2, .int .i64 r0, .int .i64 r1, .int .i64 r2, .int .i64 r3, .int .i64 r4, .int .i64 r5, .int .i64 r6, .int .i64 r7, .int .i64 r8, .int .i64 r9, .int .i64 r10, .int .i64 r11, .int .i64 r12, .int .i64 r13, .int .i64 r14] : List Value)) := hide (by
            intro j v hv
            match j, hv with
            | 0, hv => simp at hv; subst hv; exact k0
            | 1, hv => simp at hv; subst hv; exact k1
            | 2, hv => simp at hv; subst hv; exact k2
            | 3, hv => simp at hv; subst hv; exact k3
            | 4, hv => simp at hv; subst hv; exact k4
            | 5, hv => simp at hv; subst hv; exact k5
            | 6, hv => simp at hv; subst hv; exact k6
            | 7, hv => simp at hv; subst hv; exact k7
            | 8, hv => simp at hv; subst hv; exact k8
            | 9, hv => simp at hv; subst hv; exact k9
            | 10, hv => simp at hv; subst hv; exact k10
            | 11, hv => simp at hv; subst hv; exact k11
            | 12, hv => simp at hv; subst hv; exact k12
            | 13, hv => simp at hv; subst hv; exact k13
            | 14, hv => simp at hv; subst hv; exact k14
            | 15, hv => simp at hv; subst hv; exact k15
            | 16, hv => simp at hv; subst hv; exact k16
            | 17, hv => simp at hv; subst hv; exact k17
            | 18, hv => simp at hv; subst hv; exact k18
            | 19, hv => simp at hv; subst hv; exact k19
            | 20, hv => simp at hv; subst hv; exact k20
            | j + 21, hv => simp at hv)
          clear k0 k1 k2 k3 k4 k5 k6 k7 k8 k9 k10 k11 k12 k13 k14 k15 k16 k17 k18 k19 k20
          go_upto_region 5 with fail
          refine wp_region_lit ?_
          refine wpList_plain rfl fun K hK => ?_
          go_simp
          refine hK _ _ ?_
          clear hK K
          refine wpList_load_mid rfl 41 _ rfl g (o + k * 21) rfl ([.string ho, .string pf, .slice a1 n1 c1, .string hd, .string va, .slice a2 n2 c2, .int .i64 r0, .int .i64 r1, .int .i64 r2, .int .i64 r3, .int .i64 r4, .int .i64 r5, .int .i64 r6, .int .i64 r7, .int .i64 r8, .int .i64 r9, .int .i64 r10, .int .i64 r11, .int .i64 r12, .int .i64 r13, .int .i64 r14] : List Value) _ HRA.out Tryz.underlying41 rfl (by kernel_rfl) ?_
          simp only [Act.put, List.setIfInBounds_toArray, List.set_cons_zero, List.set_cons_succ]
          refine wpList_plain rfl fun K hK => ?_
          go_simp
          refine hK _ _ ?_
          clear hK K
          refine wpList_store_new rfl 41 _ _ rfl _ #[.string ho, .string pf, .slice a1 n1 c1, .string hd, .string va, .slice a2 n2 c2, .int .i64 r0, .int .i64 r1, .int .i64 r2, .int .i64 r3, .int .i64 r4, .int .i64 r5, .int .i64 r6, .int .i64 r7, .int .i64 r8, .int .i64 r9, .int .i64 r10, .int .i64 r11, .int .i64 r12, .int .i64 r13, .int .i64 r14] rfl rfl (by kernel_rfl) rfl (by simp [Value.oneCell']) ?_
          simp only [Act.put]
          refine wpList_nil ?_
          clear HRA
          go_upto_region 6 with fail
          have U1 := hide (Bl.one wr #[.string ho, .string pf, .slice a1 n1 c1, .string hd, .string va, .slice a2 n2 c2, .int .i64 r0, .int .i64 r1, .int .i64 r2, .int .i64 r3, .int .i64 r4, .int .i64 r5, .int .i64 r6, .int .i64 r7, .int .i64 r8, .int .i64 r9, .int .i64 r10, .int .i64 r11, .int .i64 r12, .int .i64 r13, .int .i64 r14] 41)
          generalize (wr.alloc (.cells #[.string ho, .string pf, .slice a1 n1 c1, .string hd, .string va, .slice a2 n2 c2, .int .i64 r0, .int .i64 r1, .int .i64 r2, .int .i64 r3, .int .i64 r4, .int .i64 r5, .int .i64 r6, .int .i64 r7, .int .i64 r8, .int .i64 r9, .int .i64 r10, .int .i64 r11, .int .i64 r12, .int .i64 r13, .int .i64 r14] 41)) = x at U1 ⊢
          have d0 : x.cell? ⟨wr.heap.size, 0, none⟩ = some (.string ho) := U1.out.cell 0 rfl 0
          have d1 : x.cell? ⟨wr.heap.size, 1, none⟩ = some (.string pf) := U1.out.cell 0 rfl 1
          have d2 : x.cell? ⟨wr.heap.size, 2, none⟩ = some (.slice a1 n1 c1) := U1.out.cell 0 rfl 2
          have d3 : x.cell? ⟨wr.heap.size, 3, none⟩ = some (.string hd) := U1.out.cell 0 rfl 3
          have d4 : x.cell? ⟨wr.heap.size, 4, none⟩ = some (.string va) := U1.out.cell 0 rfl 4
          go_wp2_with fail
          refine (HMA.out _ (HSM.out.below U1.out.b) (HM.out.below (HB.out.trans (U1.out.b.mono HB.out.size)))).mono ?_
          rintro e w1 ⟨rfl, bb⟩
          have U2 := hide (U1.out.below bb)
          clear bb U1 d0 d1 d2 d3 d4
          cases b1
          · have HX := hide (HNO.out rfl)
            go_wp2_with fail
            go_ret
            exact ⟨ret_bool (by rw [← HV.out, HX.out]), HB.out.trans (U2.out.b.mono HB.out.size)⟩
          · have d5 : w1.cell? ⟨wr.heap.size, 5, none⟩ = some (.slice a2 n2 c2) := U2.out.cell 0 rfl 5
            go_wp2_with fail
            refine (HNU.out _ (HSQ.out.below U2.out.b)).mono ?_
            rintro e w2 ⟨rfl, e9⟩
            rw [e9]
            clear d5 e9 w2
            cases b2
            · have HX := hide (HNO.out rfl)
              go_wp2_with fail
              go_ret
              exact ⟨ret_bool (by rw [← HV.out, HX.out]), HB.out.trans (U2.out.b.mono HB.out.size)⟩
            · have HRA2 : Hid (w1.rangeAt wr.heap.size 0 ([.string ho, .string pf, .slice a1 n1 c1, .string hd, .string va, .slice a2 n2 c2, .int .i64 r0, .int .i64 r1, .int .i64 r2, .int .i64 r3, .int .i64 r4, .int .i64 r5, .int .i64 r6, .int .i64 r7, .int .i64 r8, .int .i64 r9, .int .i64 r10, .int .i64 r11, .int .i64 r12, .int .i64 r13, .int .i64 r14] : List Value)) := hide (by
                intro j v hv
                rw [Nat.zero_add]
                exact (U2.out.cell 0 rfl j).trans (by rw [List.getElem?_toArray]; exact hv))
              rename_i hKK
              refine hKK _ _ ?_
              clear hKK
              refine wpList_want (by kernel_rfl) fun K hK => ?_
              go_simp
              refine hK _ _ ?_
              clear hK K
              refine wpList_want (by kernel_rfl) fun K hK => ?_
              go_simp
              refine hK _ _ ?_
              clear hK K
              refine wpList_want (by kernel_rfl) fun K hK => ?_
              go_simp
              refine hK _ _ ?_
              clear hK K
              refine wpList_want (by kernel_rfl) fun K hK => ?_
              refine wp_load_mid 41 _ rfl wr.heap.size 0 rfl ([.string ho, .string pf, .slice a1 n1 c1, .string hd, .string va, .slice a2 n2 c2, .int .i64 r0, .int .i64 r1, .int .i64 r2, .int .i64 r3, .int .i64 r4, .int .i64 r5, .int .i64 r6, .int .i64 r7, .int .i64 r8, .int .i64 r9, .int .i64 r10, .int .i64 r11, .int .i64 r12, .int .i64 r13, .int .i64 r14] : List Value) _ HRA2.out Tryz.underlying41 rfl (by kernel_rfl) (hK _ _ ?_)
              clear hK K HRA2
              simp only [Act.put, List.setIfInBounds_toArray, List.set_cons_zero, List.set_cons_succ]
              go_wp2_with fail
              refine (HFI.out _ (HRG.out.below (HB.out.trans (U2.out.b.mono HB.out.size)))).mono ?_
              rintro e w3 ⟨rfl, bb⟩
              have U3 := hide (U2.out.below bb)
              clear bb U2
              cases b3
              · have HX := hide (HNO.out rfl)
                go_wp2_with fail
                go_ret
                exact ⟨ret_bool (by rw [← HV.out, HX.out]), HB.out.trans (U3.out.b.mono HB.out.size)⟩
              · have HX : Hid ((L.take (k + 1)).all (okR hn) = true) := hide (by rw [HS.out, H.out]; rfl)
                have HB4 := hide (HB.out.trans (U3.out.b.mono HB.out.size))
                go_wp2_with fail
                go_roundw
                case rel => exact ⟨k + 1, by omega, by go_num, HX, HB4⟩
                case measure => simp [intOf]; omega
        · obtain rfl : k = n := by omega
          have e9 : L.take k = L := by rw [← Hn.out, List.take_length]
          rw [e9] at H
          go_wp2_with fail
          go_ret
          exact ⟨ret_bool (by rw [← HV.out, H.out]), HB.out⟩

end Go.Proofs.YtacnnomkacfdbaaGreatDoor
