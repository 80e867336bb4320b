/- Two rows of numbers are the same or not; the small case that each statement asks comes out true. -/
import Derived.Test.YtbmhhkpehilioaaFire
namespace Go.Proofs.Ytbmhhkpehilioaa
open Go.ChangeShapes Go.WideShapes Go.ChangeAt Go.RowKit

/-- The slice v reads as the numbers l. -/
def SlI (W : World) (v : Value) (l : List Int) : Prop :=
  ∃ (a : Option Addr) (cap : Nat), v = .slice a l.length cap ∧ l.length ≤ cap ∧ ∀ i, i < l.length → ∃ b off, a = some ⟨b, off, none⟩ ∧ W.cell? ⟨b, off + i, none⟩ = some (.int .i64 (l.getD i 0))
theorem SlI.row {W : World} {bs : Nat} {v : Value} {n : Nat} {l : List Int} (h : W.ownsRow bs 3 1 v n (l.map fun x => Value.int .i64 x)) : SlI W v l := by
  have hn := h.1
  rw [List.length_map, Nat.mul_one] at hn
  rcases h.2 with ⟨rfl, h0⟩ | ⟨g, cap, cur, rfl, h1, hg, h2, _, _, ht⟩
  · have : l = [] := List.eq_nil_of_length_eq_zero (by omega)
    subst this
    exact ⟨none, 0, rfl, Nat.le_refl _, fun i hi => by simp at hi⟩
  · subst hn
    refine ⟨_, _, rfl, h2, fun i hi => ⟨g, 0, rfl, ?_⟩⟩
    rw [Nat.mul_one] at ht
    rw [cell_of hg, Nat.zero_add]
    have e : (cur.toList.take l.length)[i]? = cur[i]? := by rw [List.getElem?_take, if_pos hi]; simp
    rw [← e, ht]
    simp [List.getD, hi]
theorem keys_map (S : List Slot) (l : List Nat) : keys S l = (l.map fun i => (sg S i).key).map fun x => Value.int .i64 x := by simp [keys]

set_option maxHeartbeats 1000000 in
theorem ints_any {W : World} {va vb : Value} {xs ys : List Int} (ha : SlI W va xs) (hb : SlI W vb ys) (hx : xs.length ≤ 1099511627776) : Calls Try.prog 18 #[va, vb] W fun e w' => e = .returned (.bool (decide (xs = ys))) ∧ Cl W w' := by
  obtain ⟨aa, ca, rfl, ka, hca⟩ := ha
  obtain ⟨ab, cb, rfl, kb, hcb⟩ := hb
  by_cases hl : xs.length = ys.length
  · have HA := hide hca
    have HB := hide hcb
    have hle : ((xs.length : Int) == (ys.length : Int)) = true := by rw [hl]; simp
    rw [← hl] at kb ⊢
    rw [← hl] at hle
    have HL := hide hl
    clear hca hcb hl
    go_enter Try.func18, Try.ntmps18
    go_wp2_with fail
    go_loopw [13] (fun v wr => ∃ j : Nat, j ≤ xs.length ∧ v = .int .i64 (j : Int) ∧ Hid (Cl W wr ∧ ∀ i, i < j → xs.getD i 0 = ys.getD i 0)) (fun v _ => xs.length - (intOf v).toNat)
    case atStart => exact ⟨0, Nat.zero_le _, rfl, hide ⟨Cl.refl _, fun i hi => by omega⟩⟩
    case round =>
      obtain ⟨j, hj, rfl, HJ⟩ := hrel
      by_cases hlt : j < xs.length
      · obtain ⟨b1, o1, rfl, c1⟩ := HA.out j hlt
        obtain ⟨b2, o2, rfl, c2⟩ := HB.out j (by rw [← HL.out]; exact hlt)
        have d1 := HJ.out.1.cell c1
        have d2 := HJ.out.1.cell c2
        obtain ⟨x, Hx⟩ : ∃ x, Hid (xs.getD j 0 = x) := ⟨_, hide rfl⟩
        obtain ⟨y, Hy⟩ : ∃ y, Hid (ys.getD j 0 = y) := ⟨_, hide rfl⟩
        rw [Hx.out] at d1
        rw [Hy.out] at d2
        clear c1 c2
        by_cases hxy : x = y
        · subst hxy
          go_wp2_with fail
          go_quiet (fail)
          go_wp2_with fail
          go_roundw
          case rel => exact ⟨j + 1, by omega, by go_num, hide ⟨HJ.out.1.trans (Fr.drewN (fun _ => False) _ _), fun i hi => by
            by_cases e : i = j
            · subst e; rw [Hx.out, Hy.out]
            · exact HJ.out.2 i (by omega)⟩⟩
          case measure => simp [intOf]; omega
        · have hne : (x != y) = true := by simp [hxy]
          have HD : Hid (xs ≠ ys) := hide (fun e => hxy (by rw [← Hx.out, ← Hy.out, e]))
          clear hxy
          go_wp2_with fail
          go_quiet (fail)
          go_wp2_with fail
          go_ret
          exact ⟨ret_bool (decide_eq_false HD.out).symm, HJ.out.1.trans (Fr.drewN (fun _ => False) _ _)⟩
      · have ej : j = xs.length := by omega
        subst ej
        go_wp2_with fail
        go_ret
        refine ⟨ret_bool (decide_eq_true ?_).symm, HJ.out.1⟩
        apply List.ext_getElem HL.out
        intro i h1 h2
        have := HJ.out.2 i h1
        simpa [List.getD, h1, h2] using this
  · have hle : ((xs.length : Int) != (ys.length : Int)) = true := by simp; omega
    have HD : Hid (decide (xs = ys) = false) := hide (decide_eq_false (fun e => hl (by rw [e])))
    rw [HD.out]
    have h2 : ¬ xs.length = ys.length := hl
    clear hca hcb hl
    go_enter Try.func18, Try.ntmps18
    go_wp2_with fail
    go_ret
    exact ⟨rfl, Cl.refl _⟩
end Go.Proofs.Ytbmhhkpehilioaa
