/- Timers in memory: slots, a heap of those that have a timer, and a heap of those that have none. -/
import Derived.Test.YtbmhhkpehilioaaHeaps
namespace Go.Proofs.Ytbmhhkpehilioaa
open Go.ChangeShapes Go.WideShapes Go.ChangeAt Go.RowKit

structure Slot where
  when : Int
  key : Int
  turn : Int
  gen : Int
instance : Inhabited Slot := ⟨⟨0, 0, 0, 0⟩⟩
def sc (s : Slot) : List Value := [.int .i64 s.when, .int .i64 s.key, .int .i64 s.turn, .int .i64 s.gen]
def scs (S : List Slot) : List Value := S.flatMap sc
abbrev sg (S : List Slot) (i : Nat) : Slot := S.getD i ⟨0, 0, 0, 0⟩
theorem scs_length (S : List Slot) : (scs S).length = S.length * 4 := by
  unfold scs
  induction S with
  | nil => rfl
  | cons s S ih => simp only [List.flatMap_cons, List.length_append, ih, List.length_cons, sc, List.length_nil]; omega
theorem scs_at (S : List Slot) (i : Nat) (h : i < S.length) (j : Nat) (hj : j < 4) : (scs S)[i * 4 + j]? = (sc (sg S i))[j]? := by
  unfold scs
  induction S generalizing i with
  | nil => simp at h
  | cons s S ih =>
    cases i with
    | zero => rw [List.flatMap_cons, List.getElem?_append_left (by simp [sc]; omega)]; simp [sg]
    | succ i =>
      rw [List.flatMap_cons, List.getElem?_append_right (by simp [sc]; omega)]
      have := ih i (by simpa using h)
      have e : (i + 1) * 4 + j - (sc s).length = i * 4 + j := by simp [sc]; omega
      rw [e, this]
      simp [sg]
theorem scs_set (S : List Slot) (i : Nat) (h : i < S.length) (s : Slot) : scs (S.set i s) = ((((scs S).set (i * 4) (.int .i64 s.when)).set (i * 4 + 1) (.int .i64 s.key)).set (i * 4 + 2) (.int .i64 s.turn)).set (i * 4 + 3) (.int .i64 s.gen) := by
  unfold scs
  induction S generalizing i with
  | nil => simp at h
  | cons t S ih =>
    cases i with
    | zero => simp [sc]
    | succ i =>
      have := ih i (by simpa using h)
      have e0 : (i + 1) * 4 = i * 4 + 4 := by omega
      simp only [List.set_cons_succ, List.flatMap_cons, this, e0]
      simp [sc]
/-- The slots' row. -/
structure SRow (W : World) (base : Nat) (v : Value) (S : List Slot) : Prop where
  own : W.ownsRow base 75 4 v S.length (scs S)
theorem SRow.row {W : World} {base : Nat} {v : Value} {S : List Slot} (h : SRow W base v S) (h0 : 0 < S.length) : ∃ g cap rest, v = .slice (some ⟨g, 0, none⟩) S.length cap ∧ base ≤ g ∧ S.length ≤ cap ∧ cap ≤ maxLen ∧ (scs S ++ rest).length = cap * 4 ∧ W.heap[g]? = some (.cells (scs S ++ rest).toArray 75 (0, 0)) := by
  rcases h.own.2 with ⟨_, h1⟩ | ⟨g, cap, cur, rfl, h1, h2, h3, h4, h5, h6⟩
  · omega
  · have e : scs S ++ cur.toList.drop (S.length * 4) = cur.toList := by rw [← h6, List.take_append_drop]
    refine ⟨g, cap, cur.toList.drop (S.length * 4), rfl, h1, h3, h4, ?_, ?_⟩
    · rw [e]; simpa using h5
    · rw [e, h2]
theorem SRow.of {W : World} {base g cap : Nat} {S : List Slot} {rest : List Value} (hb : base ≤ g) (h : W.heap[g]? = some (.cells (scs S ++ rest).toArray 75 (0, 0))) (h1 : S.length ≤ cap) (hc : (scs S ++ rest).length = cap * 4) (hm : cap ≤ maxLen) : SRow W base (.slice (some ⟨g, 0, none⟩) S.length cap) S :=
  ⟨scs_length S, .inr ⟨g, cap, _, rfl, hb, h, h1, hm, by simpa using hc, by rw [← scs_length S]; simp⟩⟩
theorem row_cell {W : World} {g : Nat} {S : List Slot} {rest : List Value} (h : W.heap[g]? = some (.cells (scs S ++ rest).toArray 75 (0, 0))) (i : Nat) (hi : i < S.length) (j : Nat) (hj : j < 4) : W.cell? ⟨g, i * 4 + j, none⟩ = (sc (sg S i))[j]? := by
  rw [cell_of h, List.getElem?_toArray, List.getElem?_append_left (by rw [scs_length]; omega), scs_at S i hi j hj]
theorem SRow.frame {W W' : World} {base : Nat} {v : Value} {S : List Slot} (h : SRow W base v S) (hb : ∀ g, v.ownBlock = some g → W'.heap[g]? = W.heap[g]?) : SRow W' base v S := by
  refine ⟨h.own.1, ?_⟩
  rcases h.own.2 with x | ⟨g, cap, cur, rfl, h1, hg, hc, hm, hs, ht⟩
  · exact .inl x
  · exact .inr ⟨g, cap, cur, rfl, h1, (hb g rfl).trans hg, hc, hm, hs, ht⟩
theorem SRow.block {W : World} {base : Nat} {v : Value} {S : List Slot} (h : SRow W base v S) {g : Nat} (hg : v.ownBlock = some g) : base ≤ g ∧ g < W.heap.size := by
  rcases h.own.2 with ⟨rfl, _⟩ | ⟨g', cap, cur, rfl, h1, hh, _⟩
  · simp [Value.ownBlock] at hg
  · simp only [Value.ownBlock, Option.some.injEq] at hg
    subst hg
    exact ⟨h1, hp_lt hh⟩
theorem SRow.shape {W : World} {base : Nat} {v : Value} {S : List Slot} (h : SRow W base v S) : ∃ a cap, v = .slice a S.length cap ∧ S.length ≤ cap := by
  rcases h.own.2 with ⟨rfl, h0⟩ | ⟨g', cap, cur, rfl, h1, hh, h3, _⟩
  · exact ⟨none, 0, by rw [h0], by omega⟩
  · exact ⟨_, _, rfl, h3⟩

/-- The order of timers as one number. -/
def rk (S : List Slot) (i : Nat) : Int := (sg S i).when * 18446744073709551616 + (sg S i).turn
def Hd (W : World) (b : Nat) (most turns : Int) (vs vd vf : Value) : Prop := W.heap[b]? = some (.cells #[.int .i64 most, .int .i64 turns, vs, vd, vf] 72 (0, 0))

set_option maxHeartbeats 1000000 in
theorem ahead_any {W : World} {b : Nat} {base : Nat} {most turns : Int} {vs vd vf : Value} {S : List Slot} (hd : Hd W b most turns vs vd vf) (hs : SRow W base vs S) (hS : S.length ≤ 4096) (ht : ∀ i, i < S.length → 0 ≤ (sg S i).turn ∧ (sg S i).turn < 1152921504606846976) (x y : Nat) (hx : x < S.length) (hy : y < S.length) :
    Calls Try.prog 37 #[.pointer (some ⟨b, 0, none⟩), .int .i64 (x : Int), .int .i64 (y : Int)] W fun e W' => e = .returned (.bool (decide (rk S x < rk S y))) ∧ Cl W W' := by
  obtain ⟨g, cap, rest, rfl, -, h1, h2, h3, h4⟩ := hs.row (by omega)
  have c2 : W.cell? ⟨b, 2, none⟩ = some (.slice (some ⟨g, 0, none⟩) S.length cap) := by rw [cell_of hd]; rfl
  have a0 : W.cell? ⟨g, x * 4, none⟩ = some (.int .i64 (sg S x).when) := row_cell h4 x hx 0 (by omega)
  have a1 : W.cell? ⟨g, x * 4 + 1, none⟩ = some (.int .i64 (sg S x).key) := row_cell h4 x hx 1 (by omega)
  have a2 : W.cell? ⟨g, x * 4 + 2, none⟩ = some (.int .i64 (sg S x).turn) := row_cell h4 x hx 2 (by omega)
  have a3 : W.cell? ⟨g, x * 4 + 3, none⟩ = some (.int .i64 (sg S x).gen) := row_cell h4 x hx 3 (by omega)
  have b0 : W.cell? ⟨g, y * 4, none⟩ = some (.int .i64 (sg S y).when) := row_cell h4 y hy 0 (by omega)
  have b1 : W.cell? ⟨g, y * 4 + 1, none⟩ = some (.int .i64 (sg S y).key) := row_cell h4 y hy 1 (by omega)
  have b2 : W.cell? ⟨g, y * 4 + 2, none⟩ = some (.int .i64 (sg S y).turn) := row_cell h4 y hy 2 (by omega)
  have b3 : W.cell? ⟨g, y * 4 + 3, none⟩ = some (.int .i64 (sg S y).gen) := row_cell h4 y hy 3 (by omega)
  have hbl : b < W.heap.size := hp_lt hd
  have hgl : g < W.heap.size := hp_lt h4
  have T1 := hide (ht x hx)
  have T2 := hide (ht y hy)
  have HR : Hid (decide (rk S x < rk S y) = decide ((sg S x).when * 18446744073709551616 + (sg S x).turn < (sg S y).when * 18446744073709551616 + (sg S y).turn)) := hide rfl
  rw [HR.out]
  clear hd hs h4 h3 ht HR
  generalize sg S x = sx at a0 a1 a2 a3 T1 ⊢
  generalize sg S y = sy at b0 b1 b2 b3 T2 ⊢
  obtain ⟨wx, kx, tx, gx⟩ := sx
  obtain ⟨wy, ky, ty, gy⟩ := sy
  dsimp only at a0 a1 a2 a3 b0 b1 b2 b3 T1 T2 ⊢
  by_cases hw : wx = wy
  case' pos => subst hw
  case' neg => have hbne : (wx == wy) = false := beq_eq_false_iff_ne.2 hw
  all_goals
    go_enter Try.func37, Try.ntmps37
    go_wp2_with fail
    go_region
    all_goals
      go_wp2
      go_ret
      refine ⟨ret_bool ?_, ?_⟩
      · have t1 := T1.out
        have t2 := T2.out
        rw [decide_eq_decide]
        omega
      · exact (Fr.alloc _ _ _).trans ((Fr.alloc _ _ _).trans (Fr.drewN (fun _ => False) _ 1) (fun _ _ x => x)) (fun _ _ x => x)
theorem lower_any (W : World) (x y : Nat) : Calls Try.prog 69 #[.int .i64 (x : Int), .int .i64 (y : Int)] W fun e W' => e = .returned (.bool (decide ((x : Int) < (y : Int)))) ∧ Cl W W' := by
  go_enter Try.func69, Try.ntmps69
  go_wp2
  go_ret
  exact ⟨by simp, Cl.refl _⟩
end Go.Proofs.Ytbmhhkpehilioaa
