/- Rows of texts; two of them held against one another. -/
import Derived.Test.YtgdaogpgjdefoaaDoorApp
import Derived.Deep.QuietTactic
import Derived.BigQuiet
namespace Go.Proofs.YtgdaogpgjdefoaaDoor
open Go.ChangeShapes Go.WideShapes Go.ChangeAt Go.RowKit

/-- The slice v reads as the texts A. -/
def Strs (W : World) (v : Value) (A : List ByteArray) : Prop := ∃ (a : Option Addr) (c : Nat), v = .slice a A.length c ∧ ∀ j (h : j < A.length), ∃ g, a = some ⟨g, 0, none⟩ ∧ g < W.heap.size ∧ W.cell? ⟨g, j, none⟩ = some (.string A[j])
def sc (A : List ByteArray) : List Value := A.map Value.string
theorem sc_len (A : List ByteArray) : (sc A).length = A.length := by simp [sc]
theorem sc_snoc (A : List ByteArray) (x : ByteArray) : sc (A ++ [x]) = sc A ++ [.string x] := by simp [sc]
theorem Strs.of_row {W : World} {base : Nat} {v : Value} {A : List ByteArray} (h : Row W base 9 v (sc A)) : Strs W v A := by
  obtain ⟨a, c, rfl, _, _⟩ := h.shape
  rw [sc_len] at h
  refine ⟨a, c, by rw [sc_len], fun j hj => ?_⟩
  obtain ⟨g, rfl, hc⟩ := h.cell (j := j) (by rw [sc_len]; exact hj)
  refine ⟨g, rfl, (h.lt rfl).2, ?_⟩
  rw [hc]
  simp [sc, hj]
theorem Strs.below {W W' : World} {v : Value} {A : List ByteArray} (h : Strs W v A) (hb : Below W.heap.size W W') : Strs W' v A := by
  obtain ⟨a, c, rfl, hc⟩ := h
  refine ⟨a, c, rfl, fun j hj => ?_⟩
  obtain ⟨g, h1, h2, h3⟩ := hc j hj
  exact ⟨g, h1, Nat.lt_of_lt_of_le h2 hb.size, (hb.cell (p := ⟨g, j, none⟩) h2).trans h3⟩
theorem below_drewN (w : World) (n : Nat) : Below w.heap.size w (w.drewN n) := ⟨rfl, rfl, rfl, Nat.le_refl _, fun _ _ => rfl⟩

theorem bytes_eq (a b : ByteArray) : (a.toList == b.toList) = decide (a = b) := by
  rw [Lib.toList_data, Lib.toList_data, beq_list, Bool.eq_iff_iff]
  simp only [decide_eq_true_eq]
  constructor
  · intro h
    cases a; cases b
    simp only [ByteArray.mk.injEq]
    exact Array.toList_inj.1 h
  · rintro rfl; rfl
theorem take_snocA (A : List ByteArray) (k : Nat) (h : k < A.length) : A.take (k + 1) = A.take k ++ [A[k]] := List.take_succ_eq_append_getElem h

set_option maxHeartbeats 1000000 in
theorem texts_any (w : World) (a b : Value) (A B : List ByteArray) (hA : Strs w a A) (hB : Strs w b B) (hl : A.length ≤ 1099511627776) (hl2 : B.length ≤ 1099511627776) :
    Calls Tryd.prog 12 #[a, b] w fun e w' => e = .returned (.bool (decide (A = B))) ∧ Below w.heap.size w w' := by
  obtain ⟨a0, c0, rfl, hca⟩ := hA
  obtain ⟨b0, d0, rfl, hcb⟩ := hB
  have HA := hide hca
  have HB := hide hcb
  clear hca hcb
  by_cases hn : A.length = B.length
  · have t : ((A.length : Int) != (B.length : Int)) = false := by rw [bne_eq_false_iff_eq]; omega
    have HL := hide hn
    have hl3 : B.length ≤ A.length := by omega
    have hl4 : A.length ≤ B.length := by omega
    clear hn
    go_enter Tryd.func12, Tryd.ntmps12
    go_wp2
    go_loopw [13] (fun i wr => ∃ k : Nat, k ≤ A.length ∧ i = .int .i64 k ∧ Hid (A.take k = B.take k) ∧ Hid (∃ n, wr = w.drewN n)) (fun i _ => A.length - (intOf i).toNat)
    case atStart => exact ⟨0, Nat.zero_le _, rfl, hide rfl, hide ⟨0, rfl⟩⟩
    case round =>
      obtain ⟨k, hk, rfl, H, HW⟩ := hrel
      by_cases hlt : k < A.length
      · have hlb : k < B.length := by omega
        obtain ⟨g, rfl, _, h1⟩ := HA.out k hlt
        obtain ⟨g2, rfl, _, h2⟩ := HB.out k hlb
        obtain ⟨n, hwn⟩ := HW.out
        subst hwn
        have hsa := hide (take_snocA A k hlt)
        have hsb := hide (take_snocA B k hlb)
        have hbe := bytes_eq A[k] B[k]
        obtain ⟨x, hx⟩ : ∃ x, A[k] = x := ⟨_, rfl⟩
        obtain ⟨y, hy⟩ : ∃ y, B[k] = y := ⟨_, rfl⟩
        rw [hx] at h1 hbe
        rw [hy] at h2 hbe
        have HX := hide hx
        have HY := hide hy
        clear hx hy
        by_cases he : x = y
        · have t2 : (x.toList == y.toList) = true := by rw [hbe, decide_eq_true he]
          have HE := hide he
          have HT : Hid (A.take (k + 1) = B.take (k + 1)) := hide (by rw [hsa.out, hsb.out, H.out, HX.out, HY.out, he])
          clear hbe he
          go_wp2
          go_quiet (fail)
          go_wp2
          exact ⟨⟨k + 1, by omega, by go_num, HT, hide ⟨n + nq, rfl⟩⟩, by simp [intOf]; omega⟩
        · have t2 : (x.toList == y.toList) = false := by rw [hbe, decide_eq_false he]
          have HE : Hid (A ≠ B) := hide (by rintro rfl; exact he (HX.out.symm.trans HY.out))
          clear hbe he
          go_wp2
          go_quiet (fail)
          go_wp2
          go_ret
          exact ⟨ret_bool (decide_eq_false HE.out).symm, by rw [World.drewN_drewN]; exact below_drewN w _⟩
      · have HE : Hid (A = B) := hide (by
          have := H.out
          rw [List.take_of_length_le (by omega), List.take_of_length_le (by omega)] at this
          exact this)
        obtain ⟨n, hwn⟩ := HW.out
        subst hwn
        go_wp2
        go_ret
        exact ⟨ret_bool (decide_eq_true HE.out).symm, below_drewN w _⟩
  · have t : ((A.length : Int) != (B.length : Int)) = true := by rw [bne_iff_ne]; omega
    have HE : Hid (A ≠ B) := hide (by rintro rfl; exact hn rfl)
    go_enter Tryd.func12, Tryd.ntmps12
    go_wp2
    go_ret
    exact ⟨ret_bool (decide_eq_false HE.out).symm, Below.refl _ _⟩
end Go.Proofs.YtgdaogpgjdefoaaDoor
