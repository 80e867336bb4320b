/- A match's methods, a match's field: the program's. -/
import Derived.Test.YthbhkgdijoiceaaDoorRKind
import Derived.Test.YthbhkgdijoiceaaDoorRCov2
import Derived.Test.YthbhkgdijoiceaaDoorBlk
namespace Go.Proofs.YthbhkgdijoiceaaDoor
open Go.ChangeShapes Go.WideShapes Go.ChangeAt Go.RowKit

/-- The slice v reads as the texts A, wherever it begins. -/
def SRow (W : World) (v : Value) (A : List ByteArray) : Prop := ∃ (a : Option Addr) (c : Nat), v = .slice a A.length c ∧ ∀ j (h : j < A.length), ∃ g o, a = some ⟨g, o, none⟩ ∧ g < W.heap.size ∧ W.cell? ⟨g, o + j, none⟩ = some (.string A[j])
theorem SRow.below {W W' : World} {v : Value} {A : List ByteArray} (h : SRow W v A) (hb : Below W.heap.size W W') : SRow W' v A := by
  obtain ⟨a, c, rfl, hc⟩ := h
  refine ⟨a, c, rfl, fun j hj => ?_⟩
  obtain ⟨g, o, h1, h2, h3⟩ := hc j hj
  exact ⟨g, o, h1, Nat.lt_of_lt_of_le h2 hb.size, (hb.cell (p := ⟨g, o + j, none⟩) h2).trans h3⟩
def memB (A : List ByteArray) (n : ByteArray) : Bool := A.any fun x => decide (n = x)
theorem memB_snoc {A : List ByteArray} {n : ByteArray} {k : Nat} (h : k < A.length) : memB (A.take (k + 1)) n = (memB (A.take k) n || decide (n = A[k])) := by
  unfold memB
  rw [take_snocA A k h, List.any_append]; simp
theorem memB_all {A : List ByteArray} {n : ByteArray} {k : Nat} (h : A.length ≤ k) : memB (A.take k) n = memB A n := by rw [List.take_of_length_le h]
theorem memB_at {A : List ByteArray} {n : ByteArray} {k : Nat} (h : k < A.length) (he : n = A[k]) : memB A n = true := by
  unfold memB
  rw [List.any_eq_true]
  exact ⟨A[k], List.getElem_mem h, decide_eq_true he⟩
set_option maxHeartbeats 1000000 in
theorem index_any (w : World) (v : Value) (A : List ByteArray) (n : ByteArray) (h : SRow w v A) (hA : A.length ≤ 1099511627776) :
    Calls Tryd.prog 60 #[v, .string n] w fun e w' => (∃ r : Int, e = .returned (.int .i64 r) ∧ decide (0 ≤ r) = memB A n) ∧ w' = w := by
  obtain ⟨a, c, rfl, hc⟩ := h
  have HC := hide hc
  clear hc
  go_enter Tryd.func60, Tryd.ntmps60
  go_wp2
  go_loop [8] (fun i => ∃ k : Nat, k ≤ A.length ∧ i = .int .i64 k ∧ Hid (memB (A.take k) n = false)) (fun i => A.length - (intOf i).toNat)
  case atStart => exact ⟨0, Nat.zero_le _, rfl, hide rfl⟩
  case round =>
    obtain ⟨k, hk, rfl, H⟩ := hrel
    by_cases hlt : k < A.length
    · obtain ⟨g, o, rfl, hg, r1⟩ := HC.out k hlt
      have hbe := bytes_eq n A[k]
      have HM := hide (memB_snoc (A := A) (n := n) hlt)
      by_cases he : n = A[k]
      · have HY : Hid (memB A n = true) := hide (memB_at hlt he)
        rw [decide_eq_true he] at hbe
        generalize A[k] = x at r1 hbe
        clear he hg HM
        go_wp2
        go_ret
        exact ⟨⟨k, rfl, by rw [HY.out]; exact decide_eq_true (by omega)⟩, rfl⟩
      · have HN : Hid (memB (A.take (k + 1)) n = false) := hide (by rw [HM.out, H.out, decide_eq_false he]; rfl)
        rw [decide_eq_false he] at hbe
        generalize A[k] = x at r1 hbe
        clear he hg HM
        go_wp2
        exact ⟨⟨k + 1, by omega, by go_num, HN⟩, by simp [intOf]; omega⟩
    · have HN := hide ((memB_all (Nat.le_of_not_lt hlt)).symm.trans H.out)
      go_wp2
      go_ret
      exact ⟨⟨-1, rfl, by rw [HN.out]; rfl⟩, rfl⟩
theorem contains_any (w : World) (v : Value) (A : List ByteArray) (n : ByteArray) (h : SRow w v A) (hA : A.length ≤ 1099511627776) :
    Calls Tryd.prog 38 #[v, .string n] w fun e w' => e = .returned (.bool (memB A n)) ∧ w' = w := by
  have HI := hide (index_any w v A n h hA)
  obtain ⟨a, c, rfl, hc⟩ := h
  clear hc
  go_enter Tryd.func38, Tryd.ntmps38
  go_wp2_with fail
  refine HI.out.mono ?_
  rintro e w' ⟨⟨r, rfl, hr⟩, rfl⟩
  have HR := hide hr
  clear hr HI
  go_wp2
  go_ret
  exact ⟨ret_bool HR.out, rfl⟩
def methB (M : List ByteArray) (n : ByteArray) : Bool := decide (M.length = 0) || memB M n
theorem tmeth_any (w : World) (v : Value) (A : List ByteArray) (n : ByteArray) (h : SRow w v A) (hA : A.length ≤ 1099511627776) :
    Calls Tryd.prog 20 #[v, .string n] w fun e w' => e = .returned (.bool (methB A n)) ∧ w' = w := by
  have HI := hide (contains_any w v A n h hA)
  obtain ⟨a, c, rfl, hc⟩ := h
  clear hc
  unfold methB
  by_cases h0 : A.length = 0
  · have H0 := hide h0
    have t0 : ((A.length : Int) == 0) = true := beq_iff_eq.2 (by omega)
    clear h0
    go_enter Tryd.func20, Tryd.ntmps20
    go_wp2
    go_ret
    exact ⟨ret_bool (by rw [decide_eq_true H0.out]; rfl), rfl⟩
  · have H0 := hide h0
    have t0 : ((A.length : Int) == 0) = false := beq_eq_false_iff_ne.2 (by omega)
    clear h0
    generalize memB A n = y at HI ⊢
    go_enter Tryd.func20, Tryd.ntmps20
    go_wp2_with fail
    refine HI.out.mono ?_
    rintro e w' ⟨rfl, rfl⟩
    go_wp2
    go_ret
    exact ⟨ret_bool (by rw [decide_eq_false H0.out]; rfl), rfl⟩
def mtC (ho pf : ByteArray) (ml : Value) (hd va : ByteArray) : Array Value := #[.string ho, .string pf, ml, .string hd, .string va]
def fldB (A : List (ByteArray × ByteArray)) (hd va : ByteArray) : Bool := decide (hd.size = 0) || (decide (0 < (allS A hd).length) && decide (getS (allS A hd) = va))
theorem tflds_any (w : World) (ho pf : ByteArray) (a : Option Addr) (n c : Nat) (hd va : ByteArray) (l : Value) (A : List (ByteArray × ByteArray)) (hA : Flds w l A) (hs : Sm A) (hn : hd.size ≤ 1048576) :
    Calls Tryd.prog 21 #[.agg (mtC ho pf (.slice a n c) hd va), l] w fun e w' => e = .returned (.bool (fldB A hd va)) ∧ Below w.heap.size w w' := by
  have HG := hide (fun W h => get_any W l A hd h hs hn)
  have F0 := hide hA
  obtain ⟨a0, c0, rfl, _, _⟩ := hA
  unfold fldB mtC
  generalize getS (allS A hd) = gv at HG ⊢
  generalize decide (0 < (allS A hd).length) = b at HG ⊢
  clear hs hn
  by_cases h0 : hd.size = 0
  · have he : hd.toList.isEmpty = true := by rw [Lib.toList_data, isEmpty_size]; exact decide_eq_true h0
    have H0 := hide h0
    clear h0
    go_enter Tryd.func21, Tryd.ntmps21
    go_wp2
    go_ret
    exact ⟨ret_bool (by rw [decide_eq_true H0.out]; rfl), (Bl.one w _ _).b⟩
  · have he : hd.toList.isEmpty = false := by rw [Lib.toList_data, isEmpty_size]; exact decide_eq_false h0
    have hbe := bytes_eq gv va
    have H0 := hide h0
    clear h0
    go_enter Tryd.func21, Tryd.ntmps21
    go_wp2_with fail
    have T0 := hide (Bl.one w #[.string ho, .string pf, .slice a n c, .string hd, .string va] 34)
    generalize (w.alloc (.cells #[.string ho, .string pf, .slice a n c, .string hd, .string va] 34)) = x at T0 ⊢
    refine (HG.out _ (F0.out.below T0.out.b)).mono ?_
    rintro e w1 ⟨rfl, bb⟩
    have T1 := hide (T0.out.below bb)
    have r4 : w1.cell? ⟨w.heap.size, 4, none⟩ = some (.string va) := T1.out.cell 0 rfl 4
    clear bb T0 HG
    cases b
    · go_wp2
      go_ret
      exact ⟨ret_bool (by rw [decide_eq_false H0.out]; rfl), T1.out.b⟩
    · go_wp2
      go_ret
      exact ⟨ret_bool (by rw [decide_eq_false H0.out]; simp), T1.out.b⟩
end Go.Proofs.YthbhkgdijoiceaaDoor
