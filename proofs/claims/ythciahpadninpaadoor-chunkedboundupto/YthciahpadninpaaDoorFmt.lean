/- A number's hex digits, by the library's formatting. -/
import Derived.Test.YthciahpadninpaaDoorApp
import Derived.Test.YthciahpadninpaaDoorLib
namespace Go.Proofs.YthciahpadninpaaDoor
open Go.ChangeShapes Go.WideShapes Go.ChangeAt Go.RowKit

/-- The library's table from which the trailing noughts are read. -/
def DB (w : World) : Prop := TabAt (Tryd.lays27_ren.g 1) Lib.deBruijn64tab w
theorem DB.below {w w' : World} (h : DB w) (hb : Below w.heap.size w w') : DB w' := by
  intro j hj
  have := h j hj
  rw [← this]
  refine hb.cell ?_
  rcases Nat.lt_or_ge (Tryd.lays27_ren.g 1) w.heap.size with h' | h'
  · exact h'
  · simp [World.cell?, Array.getElem?_eq_none h'] at this
theorem ctz16 : Lib.ctz 64 16 = 4 := by decide
theorem tz16 (w : World) (h : DB w) : Calls Tryd.prog 82 #[.int .u64 16] w fun e w' => e = .returned (.int .i64 4) ∧ w = w' := by
  refine (Any7.bits_TrailingZeros Tryd.lays27 16 (by omega) w (fun _ => h)).mono ?_
  rintro e w' ⟨rfl, rfl⟩
  rw [ctz16]
  exact ⟨rfl, rfl⟩
theorem pow16 (w : World) : Calls Tryd.prog 81 #[.int .i64 16] w fun e w' => e = .returned (.bool true) ∧ w = w' := by
  go_enter Tryd.func81, Tryd.ntmps81
  go_wp2
  go_ret
  exact ⟨rfl, rfl⟩

theorem hexD_len (u : Nat) : ∀ k, u < 16 ^ (k + 1) → (hexD u).length ≤ k + 1 := by
  induction u using Nat.strongRecOn with
  | ind u ih =>
    intro k hk
    rw [hexD]
    by_cases h : u < 16
    · rw [dif_pos h]; simp
    · rw [dif_neg h, List.length_append, List.length_singleton]
      match k, hk with
      | 0, hk => simp at hk; omega
      | k + 1, hk =>
        have := ih (u / 16) (by omega) k (by rw [Nat.pow_succ] at hk; omega)
        omega
theorem hexD_len14 {n : Nat} (h : n ≤ 9007199254740992) : (hexD n).length ≤ 14 := hexD_len n 13 (by omega)
theorem hexD_pos (u : Nat) : 0 < (hexD u).length := List.length_pos_iff.2 (hexD_ne u)
theorem hexD_step {x : Nat} (h : ¬ x < 16) : hexD x = hexD (x / 16) ++ [hexc (x % 16)] := by rw [hexD, dif_neg h]
theorem hexD_last {x : Nat} (h : x < 16) : hexD x = [hexc x] := by rw [hexD, dif_pos h]

/-- Behind some rounds: D is written at the row's end, x is still to be written. -/
structure Fm (w wr : World) (n x : Nat) (D : List UInt8) : Prop where
  blk : ∃ C, wr.heap[w.heap.size]? = some (.cells C 110 (0, 0)) ∧ C.size = 65 ∧ ∀ j (h : j < D.length), C[65 - D.length + j]? = some (.int .u8 (D[j].toNat : Int))
  dig : hexD n = hexD x ++ D
  below : Below w.heap.size w wr
theorem Fm.len {w wr : World} {n x : Nat} {D : List UInt8} (h : Fm w wr n x D) (hn : n ≤ 9007199254740992) : D.length ≤ 13 := by
  have h1 := hexD_len14 hn
  have h2 := hexD_pos x
  rw [h.dig, List.length_append] at h1
  omega
theorem Fm.cell {w wr : World} {n x : Nat} {D : List UInt8} (h : Fm w wr n x D) (i : Nat) (hi : i < 65) : ∃ v, wr.cell? ⟨w.heap.size, i, none⟩ = some v := by
  obtain ⟨C, h1, h2, _⟩ := h.blk
  rw [cell_at h1, Array.getElem?_eq_getElem (by omega)]
  exact ⟨_, rfl⟩
theorem Fm.frozen {w wr : World} {n x : Nat} {D : List UInt8} (h : Fm w wr n x D) (i : Nat) : wr.frozen? ⟨w.heap.size, i, none⟩ = false := by
  obtain ⟨C, h1, _⟩ := h.blk
  rw [frozen_at h1]
  simp
theorem put_cells {C : Array Value} {D : List UInt8} (hC : C.size = 65) (hD : D.length < 65) (h : ∀ j (h : j < D.length), C[65 - D.length + j]? = some (.int .u8 (D[j].toNat : Int))) (d : UInt8) :
    ∀ j (h : j < (d :: D).length), (C.setIfInBounds (65 - D.length - 1) (.int .u8 (d.toNat : Int)))[65 - (d :: D).length + j]? = some (.int .u8 ((d :: D)[j].toNat : Int)) := by
  intro j hj
  rw [Array.getElem?_setIfInBounds, List.length_cons]
  simp only [List.length_cons] at hj
  by_cases e : j = 0
  · subst e
    rw [if_pos (by omega), if_pos (by omega)]
    rfl
  · rw [if_neg (by omega)]
    have := h (j - 1) (by omega)
    rw [show 65 - (D.length + 1) + j = 65 - D.length + (j - 1) by omega, this]
    congr 3
    have : j = j - 1 + 1 := by omega
    rw [List.getElem_cons]
    rw [dif_neg e]
theorem Fm.put {w wr : World} {n x y : Nat} {D : List UInt8} (h : Fm w wr n x D) (hD : D.length ≤ 13) {d : UInt8} {i : Nat} {c : Int} (hi : i = 65 - D.length - 1) (hc : c = (d.toNat : Int)) (hg : hexD n = hexD y ++ d :: D) :
    Fm w (wr.setCell ⟨w.heap.size, i, none⟩ (.int .u8 c)) n y (d :: D) := by
  obtain ⟨C, h1, h2, h3⟩ := h.blk
  subst hi hc
  exact ⟨⟨_, hp_set h1 _ _, by simpa using h2, put_cells h2 (by omega) h3 d⟩, hg, h.below.setCell (Nat.le_refl _) _⟩

theorem addr_add (N i j : Nat) : (⟨N, i, none⟩ : Addr).add j = ⟨N, i + j, none⟩ := by unfold Addr.add; split <;> simp_all
theorem Fm.last {w wr : World} {n x : Nat} {D : List UInt8} (h : Fm w wr n x D) (hD : D.length ≤ 13) (hx : x < 16) {i : Nat} {c : Int} (hi : i = 65 - D.length - 1) (hc : c = ((hexc x).toNat : Int)) :
    (convert 29 9 (.slice (some ⟨w.heap.size, i, none⟩) (D.length + 1) (D.length + 1))).run Tryd.prog (wr.setCell ⟨w.heap.size, i, none⟩ (.int .u8 c)) = .ok (.string ⟨(hexD n).toArray⟩) (wr.setCell ⟨w.heap.size, i, none⟩ (.int .u8 c)) := by
  obtain ⟨C, h1, h2, h3⟩ := h.blk
  subst hi hc
  have hd : hexD n = hexc x :: D := by rw [h.dig, hexD_last hx]; rfl
  have hp := put_cells h2 (by omega) h3 (hexc x)
  have hh := hp_set h1 (65 - D.length - 1) (.int .u8 ((hexc x).toNat : Int))
  have hl : D.length + 1 = (hexc x :: D).length := by simp
  rw [hd, hl]
  refine run_convert_bytes_back _ 29 9 5 ⟨w.heap.size, 65 - D.length - 1, none⟩ _ (hexc x :: D) Tryd.underlying29 Tryd.underlying5 Tryd.underlying9 (fun j hj => ?_)
  rw [addr_add, cell_at hh]
  have := hp j hj
  rw [List.length_cons] at this
  rw [show 65 - D.length - 1 + j = 65 - (D.length + 1) + j by omega, this]
theorem slice65 (N : Nat) (b : Int) (m : Nat) (h0 : 0 ≤ b) (h1 : b < 65) (hm : (m : Int) = 65 - b) (W : World) : (Instr.sliceAt 110 (.pointer (some ⟨N, 0, none⟩)) (some (.int .i64 b)) none none).run Tryd.prog W = .ok (.slice (some ⟨N, b.toNat, none⟩) m m) W := by
  have hal : Tryd.prog.arrayLen 110 = 65 := by simp [Program.arrayLen, Tryd.underlying110]
  rw [run_sliceAt_array_l W 110 ⟨N, 0, none⟩ (by simp [Program.arrayLen, Program.elem, Tryd.underlying110]) .i64 b h0 (by rw [hal]; omega)]
  rw [hal]
  go_simp
  omega
theorem and15 (x : Nat) (h : x < 18446744073709551616) : bits BinOp.and IntKind.u64 (x : Int) 15 = ((x % 16 : Nat) : Int) := by
  have := bits_and_u64_nat x 15 h (by omega)
  have e : x &&& 15 = x % 16 := Nat.and_two_pow_sub_one_eq_mod x 4
  rw [e] at this
  exact this
theorem dig36 : ∀ k : Fin 16, (#[48, 49, 50, 51, 52, 53, 54, 55, 56, 57, 97, 98, 99, 100, 101, 102, 103, 104, 105, 106, 107, 108, 109, 110, 111, 112, 113, 114, 115, 116, 117, 118, 119, 120, 121, 122] : Array UInt8)[k.val]'(by have := k.isLt; simp; omega) = hexc k.val := by decide
theorem digAt (d : Int) (h0 : 0 ≤ d) (h1 : d < 16) (h : d.toNat < (⟨#[48, 49, 50, 51, 52, 53, 54, 55, 56, 57, 97, 98, 99, 100, 101, 102, 103, 104, 105, 106, 107, 108, 109, 110, 111, 112, 113, 114, 115, 116, 117, 118, 119, 120, 121, 122]⟩ : ByteArray).size) : (⟨#[48, 49, 50, 51, 52, 53, 54, 55, 56, 57, 97, 98, 99, 100, 101, 102, 103, 104, 105, 106, 107, 108, 109, 110, 111, 112, 113, 114, 115, 116, 117, 118, 119, 120, 121, 122]⟩ : ByteArray)[d.toNat] = hexc d.toNat := dig36 ⟨d.toNat, by omega⟩

set_option maxHeartbeats 1000000 in
theorem bits_any (n : Nat) (hn : n ≤ 9007199254740992) (w : World) (hdb : DB w) :
    Calls Tryd.prog 67 #[.slice none 0 0, .int .u64 n, .int .i64 16, .bool false, .bool false] w fun e w' => e = .returned (.tuple #[.slice none 0 0, .string ⟨(hexD n).toArray⟩]) ∧ Below w.heap.size w w' := by
  have HD := hide hdb
  clear hdb
  go_enter Tryd.func67, Tryd.ntmps67
  go_wp2_with (first | (go_at_call 81; refine (pow16 _).mono ?_; rintro e w' ⟨rfl, rfl⟩) | (go_at_call 82; refine (tz16 _ (HD.out.below ((Below.refl _ _).alloc (Nat.le_refl _) _))).mono ?_; rintro e w' ⟨rfl, rfl⟩))
  go_loopw [1, 13] (fun u i wr => ∃ (x : Nat) (D : List UInt8) (a b : Int), u = .int .u64 a ∧ i = .int .i64 b ∧ 0 ≤ a ∧ a ≤ 9007199254740992 ∧ 52 ≤ b ∧ b ≤ 65 ∧ Hid (a = (x : Int)) ∧ Hid (b = 65 - (D.length : Int)) ∧ Hid (Fm w wr n x D)) (fun u _ _ => (intOf u).toNat)
  case atStart => exact ⟨n, [], n, 65, rfl, rfl, by omega, by omega, by omega, by omega, hide rfl, hide (by simp), hide ⟨⟨_, hp_new w _, by simp, fun j h => by simp at h⟩, by simp, (Below.refl _ _).alloc (Nat.le_refl _) _⟩⟩
  case round =>
    obtain ⟨x, D, a, b, rfl, rfl, ha0, ha1, hb0, hb1, HA, HBB, HF⟩ := hrel
    have hl := HF.out.len hn
    by_cases hge : 16 ≤ a
    · obtain ⟨cv, hcv⟩ := HF.out.cell (b.toNat - 1) (by omega)
      have hfz := HF.out.frozen (b.toNat - 1)
      obtain ⟨d, hand, HDD, hd0, hd1⟩ : ∃ d : Int, bits BinOp.and IntKind.u64 a 15 = d ∧ Hid (d = ((x % 16 : Nat) : Int)) ∧ 0 ≤ d ∧ d < 16 := by
        have e := HA.out
        refine ⟨((x % 16 : Nat) : Int), ?_, rfl, by omega, by omega⟩
        rw [e]
        exact and15 x (by omega)
      have hx16 : ¬ x < 16 := by have := HA.out; omega
      have HG : Hid (hexD n = hexD (x / 16) ++ hexc (x % 16) :: D) := by
        show _ = _
        rw [HF.out.dig, hexD_step hx16]
        simp
      have hl2 : D.length ≤ 12 := by
        have h1 := hexD_len14 hn
        have h2 := hexD_pos (x / 16)
        rw [HG.out, List.length_append, List.length_cons] at h1
        omega
      go_wp2
      refine ⟨⟨x / 16, hexc (x % 16) :: D, a / 16, b - 1, rfl, rfl, by omega, by omega, by have := HBB.out; omega, by omega, hide (by have := HA.out; omega), hide (by have := HBB.out; simp only [List.length_cons]; omega), hide (HF.out.put hl (by have := HBB.out; omega) ?_ HG.out)⟩, by simp only [intOf]; omega⟩
      rw [digAt d hd0 hd1]
      congr 3
      have := HDD.out
      omega
    · obtain ⟨cv, hcv⟩ := HF.out.cell (b.toNat - 1) (by omega)
      have hfz := HF.out.frozen (b.toNat - 1)
      have hx16 : x < 16 := by have := HA.out; omega
      have hsl := slice65 w.heap.size (b - 1) (D.length + 1) (by omega) (by omega) (by have := HBB.out; omega)
      have hbn : (b - 1).toNat = b.toNat - 1 := by omega
      rw [hbn] at hsl
      have hdg := digAt a ha0 (by omega)
      have hax : a.toNat = x := by have := HA.out; omega
      rw [hax] at hdg
      have hcv2 := HF.out.last hl hx16 (i := b.toNat - 1) (c := ((hexc x).toNat : Int)) (by have := HBB.out; omega) rfl
      have HW := hide (HF.out.below.setCell (p := ⟨w.heap.size, b.toNat - 1, none⟩) (Nat.le_refl _) (.int .u8 ((hexc x).toNat : Int)))
      go_wp2
      go_ret2
      exact ⟨rfl, HW.out⟩

set_option maxHeartbeats 400000 in
theorem ifmt_any (n : Nat) (hn : n ≤ 9007199254740992) (w : World) (hdb : DB w) :
    Calls Tryd.prog 54 #[.int .i64 n, .int .i64 16] w fun e w' => e = .returned (.string ⟨(hexD n).toArray⟩) ∧ Below w.heap.size w w' := by
  have HD := hide hdb
  clear hdb
  have hc : ∀ w, DB w → Calls Tryd.prog 67 #[.slice none 0 0, .int .u64 n, .int .i64 16, .bool false, .bool false] w fun e w' => e = .returned (.tuple #[.slice none 0 0, .string ⟨(hexD n).toArray⟩]) ∧ Below w.heap.size w w' := bits_any n hn
  generalize (⟨(hexD n).toArray⟩ : ByteArray) = r at hc ⊢
  have HC := hide hc
  clear hc
  go_enter Tryd.func54, Tryd.ntmps54
  go_wp2_with (go_at_call 67; refine (HC.out _ HD.out).mono ?_; rintro e w' ⟨rfl, hb⟩)
  go_ret
  exact ⟨rfl, hb⟩
theorem fmt_any (n : Nat) (hn : n ≤ 9007199254740992) (w : World) (hdb : DB w) :
    Calls Tryd.prog 40 #[.int .i64 n, .int .i64 16] w fun e w' => e = .returned (.string ⟨(hexD n).toArray⟩) ∧ Below w.heap.size w w' := by
  have HD := hide hdb
  clear hdb
  have hc := ifmt_any n hn
  generalize (⟨(hexD n).toArray⟩ : ByteArray) = r at hc ⊢
  have HC := hide hc
  clear hc
  go_enter Tryd.func40, Tryd.ntmps40
  go_wp2_with (go_at_call 54; refine (HC.out _ HD.out).mono ?_; rintro e w' ⟨rfl, hb⟩)
  go_ret
  exact ⟨rfl, hb⟩

def hexS (n : Int) : ByteArray := ⟨(hexV n).toArray⟩
theorem hexS_yes {n : Nat} (h : n ≤ 9007199254740992) : hexS n = ⟨(hexD n).toArray⟩ ∧ hexE n = 0 := by
  unfold hexS hexV hexE
  rw [if_pos (by omega), if_pos (by omega)]
  exact ⟨rfl, rfl⟩
theorem hexS_no {n : Int} (h : n < 0 ∨ 9007199254740992 < n) : hexS n = ⟨#[]⟩ ∧ hexE n = 1 := by
  unfold hexS hexV hexE
  rw [if_neg (by omega), if_neg (by omega)]
  exact ⟨rfl, rfl⟩
theorem ret2s {a c : ByteArray} {b : Int} {n : Nat} (h : c = a ∧ n = b) : Ending.returned (.tuple #[.string a, .int .i64 b]) = .returned (.tuple #[.string c, .int .i64 (n : Int)]) := by
  rw [h.1, ← h.2]
set_option maxHeartbeats 400000 in
theorem hext_any (n : Int) (w : World) (hdb : DB w) :
    Calls Tryd.prog 29 #[.int .i64 n] w fun e w' => e = .returned (.tuple #[.string (hexS n), .int .i64 (hexE n)]) ∧ Below w.heap.size w w' := by
  have HD := hide hdb
  clear hdb
  by_cases h0 : 0 ≤ n
  · by_cases h1 : n ≤ 9007199254740992
    · obtain ⟨m, rfl⟩ := Int.eq_ofNat_of_zero_le h0
      have HY := hide (hexS_yes (n := m) (by omega))
      have hc := fmt_any m (by omega)
      generalize (⟨(hexD m).toArray⟩ : ByteArray) = r at hc HY
      have HC := hide hc
      clear hc
      go_enter Tryd.func29, Tryd.ntmps29
      go_wp2_with (go_at_call 40; refine (HC.out _ HD.out).mono ?_; rintro e w' ⟨rfl, hb⟩)
      go_ret2
      exact ⟨ret2s ⟨HY.out.1, by rw [HY.out.2]; rfl⟩, hb⟩
    · have HN := hide (hexS_no (n := n) (.inr (by omega)))
      go_enter Tryd.func29, Tryd.ntmps29
      go_wp2
      go_ret2
      exact ⟨ret2s ⟨HN.out.1, by rw [HN.out.2]; rfl⟩, Below.refl _ _⟩
  · have HN := hide (hexS_no (n := n) (.inl (by omega)))
    go_enter Tryd.func29, Tryd.ntmps29
    go_wp2
    go_ret2
    exact ⟨ret2s ⟨HN.out.1, by rw [HN.out.2]; rfl⟩, Below.refl _ _⟩
end Go.Proofs.YthciahpadninpaaDoor
