/- QE: Fmt RHex CGrow CChk CNil CSays. -/
import Derived.Test.YthciahpadninpaaDoorQA
import Derived.Test.YthciahpadninpaaDoorLib
import Derived.Test.YthciahpadninpaaDoorQC
import Derived.Lib.AppendZeros
import Derived.Lib.SmallJoins
import Derived.Lib.SlBytesConst
import Derived.Test.YthciahpadninpaaDoorQD
/- A number's hex digits, by the library's formatting. -/
namespace Go.Proofs.YthciahpadninpaaDoor
open Go.ChangeShapes Go.WideShapes Go.ChangeAt Go.RowKit

/-- The library's table from which the trailing noughts are read. -/
def DB (w : World) : Prop := TabAt (Tryd.lays27_ren.g 1) Lib.deBruijn64tab w
theorem DB.below {w w' : World} (h : DB w) (hb : Below w.heap.size w w') : DB w' := by
  intro j hj
  have := h j hj
  rw [← this]
  refine hb.cell ?_
  rcases Nat.lt_or_ge (Tryd.lays27_ren.g 1) w.heap.size with h' | h'
  · exact h'
  · simp [World.cell?, Array.getElem?_eq_none h'] at this
theorem ctz16 : Lib.ctz 64 16 = 4 := by decide
theorem tz16 (w : World) (h : DB w) : Calls Tryd.prog 82 #[.int .u64 16] w fun e w' => e = .returned (.int .i64 4) ∧ w = w' := by
  refine (Any7.bits_TrailingZeros Tryd.lays27 16 (by omega) w (fun _ => h)).mono ?_
  rintro e w' ⟨rfl, rfl⟩
  rw [ctz16]
  exact ⟨rfl, rfl⟩
theorem pow16 (w : World) : Calls Tryd.prog 81 #[.int .i64 16] w fun e w' => e = .returned (.bool true) ∧ w = w' := by
  go_enter Tryd.func81, Tryd.ntmps81
  go_wp2
  go_ret
  exact ⟨rfl, rfl⟩

theorem hexD_len (u : Nat) : ∀ k, u < 16 ^ (k + 1) → (hexD u).length ≤ k + 1 := by
  induction u using Nat.strongRecOn with
  | ind u ih =>
    intro k hk
    rw [hexD]
    by_cases h : u < 16
    · rw [dif_pos h]; simp
    · rw [dif_neg h, List.length_append, List.length_singleton]
      match k, hk with
      | 0, hk => simp at hk; omega
      | k + 1, hk =>
        have := ih (u / 16) (by omega) k (by rw [Nat.pow_succ] at hk; omega)
        omega
theorem hexD_len14 {n : Nat} (h : n ≤ 9007199254740992) : (hexD n).length ≤ 14 := hexD_len n 13 (by omega)
theorem hexD_pos (u : Nat) : 0 < (hexD u).length := List.length_pos_iff.2 (hexD_ne u)
theorem hexD_step {x : Nat} (h : ¬ x < 16) : hexD x = hexD (x / 16) ++ [hexc (x % 16)] := by rw [hexD, dif_neg h]
theorem hexD_last {x : Nat} (h : x < 16) : hexD x = [hexc x] := by rw [hexD, dif_pos h]

/-- Behind some rounds: D is written at the row's end, x is still to be written. -/
structure Fm (w wr : World) (n x : Nat) (D : List UInt8) : Prop where
  blk : ∃ C, wr.heap[w.heap.size]? = some (.cells C 110 (0, 0)) ∧ C.size = 65 ∧ ∀ j (h : j < D.length), C[65 - D.length + j]? = some (.int .u8 (D[j].toNat : Int))
  dig : hexD n = hexD x ++ D
  below : Below w.heap.size w wr
theorem Fm.len {w wr : World} {n x : Nat} {D : List UInt8} (h : Fm w wr n x D) (hn : n ≤ 9007199254740992) : D.length ≤ 13 := by
  have h1 := hexD_len14 hn
  have h2 := hexD_pos x
  rw [h.dig, List.length_append] at h1
  omega
theorem Fm.cell {w wr : World} {n x : Nat} {D : List UInt8} (h : Fm w wr n x D) (i : Nat) (hi : i < 65) : ∃ v, wr.cell? ⟨w.heap.size, i, none⟩ = some v := by
  obtain ⟨C, h1, h2, _⟩ := h.blk
  rw [cell_at h1, Array.getElem?_eq_getElem (by omega)]
  exact ⟨_, rfl⟩
theorem Fm.frozen {w wr : World} {n x : Nat} {D : List UInt8} (h : Fm w wr n x D) (i : Nat) : wr.frozen? ⟨w.heap.size, i, none⟩ = false := by
  obtain ⟨C, h1, _⟩ := h.blk
  rw [frozen_at h1]
  simp
theorem put_cells {C : Array Value} {D : List UInt8} (hC : C.size = 65) (hD : D.length < 65) (h : ∀ j (h : j < D.length), C[65 - D.length + j]? = some (.int .u8 (D[j].toNat : Int))) (d : UInt8) :
    ∀ j (h : j < (d :: D).length), (C.setIfInBounds (65 - D.length - 1) (.int .u8 (d.toNat : Int)))[65 - (d :: D).length + j]? = some (.int .u8 ((d :: D)[j].toNat : Int)) := by
  intro j hj
  rw [Array.getElem?_setIfInBounds, List.length_cons]
  simp only [List.length_cons] at hj
  by_cases e : j = 0
  · subst e
    rw [if_pos (by omega), if_pos (by omega)]
    rfl
  · rw [if_neg (by omega)]
    have := h (j - 1) (by omega)
    rw [show 65 - (D.length + 1) + j = 65 - D.length + (j - 1) by omega, this]
    congr 3
    have : j = j - 1 + 1 := by omega
    rw [List.getElem_cons]
    rw [dif_neg e]
theorem Fm.put {w wr : World} {n x y : Nat} {D : List UInt8} (h : Fm w wr n x D) (hD : D.length ≤ 13) {d : UInt8} {i : Nat} {c : Int} (hi : i = 65 - D.length - 1) (hc : c = (d.toNat : Int)) (hg : hexD n = hexD y ++ d :: D) :
    Fm w (wr.setCell ⟨w.heap.size, i, none⟩ (.int .u8 c)) n y (d :: D) := by
  obtain ⟨C, h1, h2, h3⟩ := h.blk
  subst hi hc
  exact ⟨⟨_, hp_set h1 _ _, by simpa using h2, put_cells h2 (by omega) h3 d⟩, hg, h.below.setCell (Nat.le_refl _) _⟩

theorem addr_add (N i j : Nat) : (⟨N, i, none⟩ : Addr).add j = ⟨N, i + j, none⟩ := by unfold Addr.add; split <;> simp_all
theorem Fm.last {w wr : World} {n x : Nat} {D : List UInt8} (h : Fm w wr n x D) (hD : D.length ≤ 13) (hx : x < 16) {i : Nat} {c : Int} (hi : i = 65 - D.length - 1) (hc : c = ((hexc x).toNat : Int)) :
    (convert 29 9 (.slice (some ⟨w.heap.size, i, none⟩) (D.length + 1) (D.length + 1))).run Tryd.prog (wr.setCell ⟨w.heap.size, i, none⟩ (.int .u8 c)) = .ok (.string ⟨(hexD n).toArray⟩) (wr.setCell ⟨w.heap.size, i, none⟩ (.int .u8 c)) := by
  obtain ⟨C, h1, h2, h3⟩ := h.blk
  subst hi hc
  have hd : hexD n = hexc x :: D := by rw [h.dig, hexD_last hx]; rfl
  have hp := put_cells h2 (by omega) h3 (hexc x)
  have hh := hp_set h1 (65 - D.length - 1) (.int .u8 ((hexc x).toNat : Int))
  have hl : D.length + 1 = (hexc x :: D).length := by simp
  rw [hd, hl]
  refine run_convert_bytes_back _ 29 9 5 ⟨w.heap.size, 65 - D.length - 1, none⟩ _ (hexc x :: D) Tryd.underlying29 Tryd.underlying5 Tryd.underlying9 (fun j hj => ?_)
  rw [addr_add, cell_at hh]
  have := hp j hj
  rw [List.length_cons] at this
  rw [show 65 - D.length - 1 + j = 65 - (D.length + 1) + j by omega, this]
theorem slice65 (N : Nat) (b : Int) (m : Nat) (h0 : 0 ≤ b) (h1 : b < 65) (hm : (m : Int) = 65 - b) (W : World) : (Instr.sliceAt 110 (.pointer (some ⟨N, 0, none⟩)) (some (.int .i64 b)) none none).run Tryd.prog W = .ok (.slice (some ⟨N, b.toNat, none⟩) m m) W := by
  have hal : Tryd.prog.arrayLen 110 = 65 := by simp [Program.arrayLen, Tryd.underlying110]
  rw [run_sliceAt_array_l W 110 ⟨N, 0, none⟩ (by simp [Program.arrayLen, Program.elem, Tryd.underlying110]) .i64 b h0 (by rw [hal]; omega)]
  rw [hal]
  go_simp
  omega
theorem and15 (x : Nat) (h : x < 18446744073709551616) : bits BinOp.and IntKind.u64 (x : Int) 15 = ((x % 16 : Nat) : Int) := by
  have := bits_and_u64_nat x 15 h (by omega)
  have e : x &&& 15 = x % 16 := Nat.and_two_pow_sub_one_eq_mod x 4
  rw [e] at this
  exact this
theorem dig36 : ∀ k : Fin 16, (#[48, 49, 50, 51, 52, 53, 54, 55, 56, 57, 97, 98, 99, 100, 101, 102, 103, 104, 105, 106, 107, 108, 109, 110, 111, 112, 113, 114, 115, 116, 117, 118, 119, 120, 121, 122] : Array UInt8)[k.val]'(by have := k.isLt; simp; omega) = hexc k.val := by decide
theorem digAt (d : Int) (h0 : 0 ≤ d) (h1 : d < 16) (h : d.toNat < (⟨#[48, 49, 50, 51, 52, 53, 54, 55, 56, 57, 97, 98, 99, 100, 101, 102, 103, 104, 105, 106, 107, 108, 109, 110, 111, 112, 113, 114, 115, 116, 117, 118, 119, 120, 121, 122]⟩ : ByteArray).size) : (⟨#[48, 49, 50, 51, 52, 53, 54, 55, 56, 57, 97, 98, 99, 100, 101, 102, 103, 104, 105, 106, 107, 108, 109, 110, 111, 112, 113, 114, 115, 116, 117, 118, 119, 120, 121, 122]⟩ : ByteArray)[d.toNat] = hexc d.toNat := dig36 ⟨d.toNat, by omega⟩

set_option maxHeartbeats 1000000 in
theorem bits_any (n : Nat) (hn : n ≤ 9007199254740992) (w : World) (hdb : DB w) :
    Calls Tryd.prog 67 #[.slice none 0 0, .int .u64 n, .int .i64 16, .bool false, .bool false] w fun e w' => e = .returned (.tuple #[.slice none 0 0, .string ⟨(hexD n).toArray⟩]) ∧ Below w.heap.size w w' := by
  have HD := hide hdb
  clear hdb
  go_enter Tryd.func67, Tryd.ntmps67
  go_wp2_with (first | (go_at_call 81; refine (pow16 _).mono ?_; rintro e w' ⟨rfl, rfl⟩) | (go_at_call 82; refine (tz16 _ (HD.out.below ((Below.refl _ _).alloc (Nat.le_refl _) _))).mono ?_; rintro e w' ⟨rfl, rfl⟩))
  go_loopw [1, 13] (fun u i wr => ∃ (x : Nat) (D : List UInt8) (a b : Int), u = .int .u64 a ∧ i = .int .i64 b ∧ 0 ≤ a ∧ a ≤ 9007199254740992 ∧ 52 ≤ b ∧ b ≤ 65 ∧ Hid (a = (x : Int)) ∧ Hid (b = 65 - (D.length : Int)) ∧ Hid (Fm w wr n x D)) (fun u _ _ => (intOf u).toNat)
  case atStart => exact ⟨n, [], n, 65, rfl, rfl, by omega, by omega, by omega, by omega, hide rfl, hide (by simp), hide ⟨⟨_, hp_new w _, by simp, fun j h => by simp at h⟩, by simp, (Below.refl _ _).alloc (Nat.le_refl _) _⟩⟩
  case round =>
    obtain ⟨x, D, a, b, rfl, rfl, ha0, ha1, hb0, hb1, HA, HBB, HF⟩ := hrel
    have hl := HF.out.len hn
    by_cases hge : 16 ≤ a
    · obtain ⟨cv, hcv⟩ := HF.out.cell (b.toNat - 1) (by omega)
      have hfz := HF.out.frozen (b.toNat - 1)
      obtain ⟨d, hand, HDD, hd0, hd1⟩ : ∃ d : Int, bits BinOp.and IntKind.u64 a 15 = d ∧ Hid (d = ((x % 16 : Nat) : Int)) ∧ 0 ≤ d ∧ d < 16 := by
        have e := HA.out
        refine ⟨((x % 16 : Nat) : Int), ?_, rfl, by omega, by omega⟩
        rw [e]
        exact and15 x (by omega)
      have hx16 : ¬ x < 16 := by have := HA.out; omega
      have HG : Hid (hexD n = hexD (x / 16) ++ hexc (x % 16) :: D) := by
        show _ = _
        rw [HF.out.dig, hexD_step hx16]
        simp
      have hl2 : D.length ≤ 12 := by
        have h1 := hexD_len14 hn
        have h2 := hexD_pos (x / 16)
        rw [HG.out, List.length_append, List.length_cons] at h1
        omega
      go_wp2
      refine ⟨⟨x / 16, hexc (x % 16) :: D, a / 16, b - 1, rfl, rfl, by omega, by omega, by have := HBB.out; omega, by omega, hide (by have := HA.out; omega), hide (by have := HBB.out; simp only [List.length_cons]; omega), hide (HF.out.put hl (by have := HBB.out; omega) ?_ HG.out)⟩, by simp only [intOf]; omega⟩
      rw [digAt d hd0 hd1]
      congr 3
      have := HDD.out
      omega
    · obtain ⟨cv, hcv⟩ := HF.out.cell (b.toNat - 1) (by omega)
      have hfz := HF.out.frozen (b.toNat - 1)
      have hx16 : x < 16 := by have := HA.out; omega
      have hsl := slice65 w.heap.size (b - 1) (D.length + 1) (by omega) (by omega) (by have := HBB.out; omega)
      have hbn : (b - 1).toNat = b.toNat - 1 := by omega
      rw [hbn] at hsl
      have hdg := digAt a ha0 (by omega)
      have hax : a.toNat = x := by have := HA.out; omega
      rw [hax] at hdg
      have hcv2 := HF.out.last hl hx16 (i := b.toNat - 1) (c := ((hexc x).toNat : Int)) (by have := HBB.out; omega) rfl
      have HW := hide (HF.out.below.setCell (p := ⟨w.heap.size, b.toNat - 1, none⟩) (Nat.le_refl _) (.int .u8 ((hexc x).toNat : Int)))
      go_wp2
      go_ret2
      exact ⟨rfl, HW.out⟩

set_option maxHeartbeats 400000 in
theorem ifmt_any (n : Nat) (hn : n ≤ 9007199254740992) (w : World) (hdb : DB w) :
    Calls Tryd.prog 54 #[.int .i64 n, .int .i64 16] w fun e w' => e = .returned (.string ⟨(hexD n).toArray⟩) ∧ Below w.heap.size w w' := by
  have HD := hide hdb
  clear hdb
  have hc : ∀ w, DB w → Calls Tryd.prog 67 #[.slice none 0 0, .int .u64 n, .int .i64 16, .bool false, .bool false] w fun e w' => e = .returned (.tuple #[.slice none 0 0, .string ⟨(hexD n).toArray⟩]) ∧ Below w.heap.size w w' := bits_any n hn
  generalize (⟨(hexD n).toArray⟩ : ByteArray) = r at hc ⊢
  have HC := hide hc
  clear hc
  go_enter Tryd.func54, Tryd.ntmps54
  go_wp2_with (go_at_call 67; refine (HC.out _ HD.out).mono ?_; rintro e w' ⟨rfl, hb⟩)
  go_ret
  exact ⟨rfl, hb⟩
theorem fmt_any (n : Nat) (hn : n ≤ 9007199254740992) (w : World) (hdb : DB w) :
    Calls Tryd.prog 40 #[.int .i64 n, .int .i64 16] w fun e w' => e = .returned (.string ⟨(hexD n).toArray⟩) ∧ Below w.heap.size w w' := by
  have HD := hide hdb
  clear hdb
  have hc := ifmt_any n hn
  generalize (⟨(hexD n).toArray⟩ : ByteArray) = r at hc ⊢
  have HC := hide hc
  clear hc
  go_enter Tryd.func40, Tryd.ntmps40
  go_wp2_with (go_at_call 54; refine (HC.out _ HD.out).mono ?_; rintro e w' ⟨rfl, hb⟩)
  go_ret
  exact ⟨rfl, hb⟩

def hexS (n : Int) : ByteArray := ⟨(hexV n).toArray⟩
theorem hexS_yes {n : Nat} (h : n ≤ 9007199254740992) : hexS n = ⟨(hexD n).toArray⟩ ∧ hexE n = 0 := by
  unfold hexS hexV hexE
  rw [if_pos (by omega), if_pos (by omega)]
  exact ⟨rfl, rfl⟩
theorem hexS_no {n : Int} (h : n < 0 ∨ 9007199254740992 < n) : hexS n = ⟨#[]⟩ ∧ hexE n = 1 := by
  unfold hexS hexV hexE
  rw [if_neg (by omega), if_neg (by omega)]
  exact ⟨rfl, rfl⟩
theorem ret2s {a c : ByteArray} {b : Int} {n : Nat} (h : c = a ∧ n = b) : Ending.returned (.tuple #[.string a, .int .i64 b]) = .returned (.tuple #[.string c, .int .i64 (n : Int)]) := by
  rw [h.1, ← h.2]
set_option maxHeartbeats 400000 in
theorem hext_any (n : Int) (w : World) (hdb : DB w) :
    Calls Tryd.prog 29 #[.int .i64 n] w fun e w' => e = .returned (.tuple #[.string (hexS n), .int .i64 (hexE n)]) ∧ Below w.heap.size w w' := by
  have HD := hide hdb
  clear hdb
  by_cases h0 : 0 ≤ n
  · by_cases h1 : n ≤ 9007199254740992
    · obtain ⟨m, rfl⟩ := Int.eq_ofNat_of_zero_le h0
      have HY := hide (hexS_yes (n := m) (by omega))
      have hc := fmt_any m (by omega)
      generalize (⟨(hexD m).toArray⟩ : ByteArray) = r at hc HY
      have HC := hide hc
      clear hc
      go_enter Tryd.func29, Tryd.ntmps29
      go_wp2_with (go_at_call 40; refine (HC.out _ HD.out).mono ?_; rintro e w' ⟨rfl, hb⟩)
      go_ret2
      exact ⟨ret2s ⟨HY.out.1, by rw [HY.out.2]; rfl⟩, hb⟩
    · have HN := hide (hexS_no (n := n) (.inr (by omega)))
      go_enter Tryd.func29, Tryd.ntmps29
      go_wp2
      go_ret2
      exact ⟨ret2s ⟨HN.out.1, by rw [HN.out.2]; rfl⟩, Below.refl _ _⟩
  · have HN := hide (hexS_no (n := n) (.inl (by omega)))
    go_enter Tryd.func29, Tryd.ntmps29
    go_wp2
    go_ret2
    exact ⟨ret2s ⟨HN.out.1, by rw [HN.out.2]; rfl⟩, Below.refl _ _⟩
end Go.Proofs.YthciahpadninpaaDoor
/- The document's hex digits. -/
namespace Go.Proofs.YthciahpadninpaaDoor
open Go.ChangeShapes Go.WideShapes Go.ChangeAt Go.RowKit

/-- What is still to be written ahead of t. -/
def Hx (n a : Nat) (t : List UInt8) : Prop := (t = [] ∧ a = n) ∨ (t ≠ [] ∧ 0 < a ∧ hexD n = hexD a ++ t) ∨ (t ≠ [] ∧ a = 0 ∧ hexD n = t)
theorem Hx.next {n a : Nat} {t : List UInt8} (h : Hx n a t) (hg : 0 < a ∨ t = []) : Hx n (a / 16) (hexc (a % 16) :: t) := by
  have e : hexD n = hexD a ++ t := by
    rcases h with ⟨h1, h2⟩ | ⟨_, _, h3⟩ | ⟨h1, h2, _⟩
    · rw [h1, h2]; simp
    · exact h3
    · rcases hg with hg | hg
      · omega
      · exact absurd hg h1
  by_cases h16 : a < 16
  · right; right
    refine ⟨by simp, by omega, ?_⟩
    rw [e, hexD_last h16, Nat.mod_eq_of_lt h16]
    rfl
  · right; left
    refine ⟨by simp, by omega, ?_⟩
    rw [e, hexD_step h16]
    simp
theorem Hx.len {n a : Nat} {t : List UInt8} (h : Hx n a t) (hn : n ≤ 9007199254740992) : t.length ≤ 14 := by
  have := hexD_len14 hn
  rcases h with ⟨h1, _⟩ | ⟨_, _, h3⟩ | ⟨_, _, h3⟩
  · rw [h1]; simp
  · rw [h3, List.length_append] at this; omega
  · rw [h3] at this; exact this
theorem Hx.done {n a : Nat} {t : List UInt8} (h : Hx n a t) (h0 : ¬ 0 < a) (h1 : t ≠ []) : hexD n = t := by
  rcases h with ⟨h2, _⟩ | ⟨_, h2, _⟩ | ⟨_, _, h3⟩
  · exact absurd h2 h1
  · exact absurd h2 h0
  · exact h3

theorem hex16 : ∀ k : Fin 16, (⟨#[48, 49, 50, 51, 52, 53, 54, 55, 56, 57, 97, 98, 99, 100, 101, 102]⟩ : ByteArray).extract k.val (k.val + 1) = ⟨#[hexc k.val]⟩ := by decide
theorem slice16 (a : Int) (h0 : 0 ≤ a) (w : World) : (Instr.slice 9 (.string ⟨#[48, 49, 50, 51, 52, 53, 54, 55, 56, 57, 97, 98, 99, 100, 101, 102]⟩) (some (.int .i64 (a % 16))) (some (.int .i64 (a % 16 + 1))) none).run Tryd.prog w = .ok (.string ⟨#[hexc (a.toNat % 16)]⟩) w := by
  have h1 : 0 ≤ a % 16 := by omega
  have h2 : a % 16 + 1 ≤ 16 := by omega
  rw [run_slice_string (P := Tryd.prog) w 9 ⟨#[48, 49, 50, 51, 52, 53, 54, 55, 56, 57, 97, 98, 99, 100, 101, 102]⟩ .i64 .i64 (a % 16) (a % 16 + 1) Tryd.underlying9 h1 (by omega) h2]
  have := hex16 ⟨a.toNat % 16, Nat.mod_lt _ (by decide)⟩
  rw [show (a % 16).toNat = a.toNat % 16 by omega, show (a % 16 + 1).toNat = a.toNat % 16 + 1 by omega, this]

set_option maxHeartbeats 1000000 in
theorem rhex_yes (n : Nat) (hn : n ≤ 9007199254740992) (w : World) :
    Calls Tryd.prog 31 #[.int .i64 n] w fun e w' => e = .returned (.tuple #[.string ⟨(hexD n).toArray⟩, .int .i64 0]) ∧ w = w' := by
  go_enter Tryd.func31, Tryd.ntmps31
  go_wp2
  go_loop [4, 5] (fun s m => ∃ (t : ByteArray) (a : Int), s = .string t ∧ m = .int .i64 a ∧ 0 ≤ a ∧ a ≤ 9007199254740992 ∧ Hid (Hx n a.toNat t.data.toList)) (fun s m => 2 * (intOf m).toNat + (1 - strLen s))
  case atStart => exact ⟨⟨#[]⟩, n, rfl, rfl, by omega, by omega, hide (.inl ⟨rfl, by simp⟩)⟩
  case round =>
    obtain ⟨t, a, rfl, rfl, ha0, ha1, H⟩ := hrel
    have hz : t.size ≤ 14 := by rw [← size_len]; exact H.out.len hn
    have hsl := slice16 a ha0
    have hds : (⟨#[hexc (a.toNat % 16)]⟩ : ByteArray).size = 1 := rfl
    have hdl : (⟨#[hexc (a.toNat % 16)]⟩ : ByteArray).data.toList = [hexc (a.toNat % 16)] := rfl
    have HT : (0 < a ∨ t.data.toList = []) → Hx n (a / 16).toNat ((⟨#[hexc (a.toNat % 16)]⟩ : ByteArray) ++ t).data.toList := by
      intro hg
      rw [app_list, hdl, show (a / 16).toNat = a.toNat / 16 by omega]
      exact H.out.next (by rcases hg with hg | hg; · left; omega
                           · exact .inr hg)
    have HT2 := hide HT
    clear HT hdl
    generalize (⟨#[hexc (a.toNat % 16)]⟩ : ByteArray) = d at hsl hds HT2
    have HM := hide (app_size d t)
    by_cases hg : 0 < a
    · have HT3 := hide (HT2.out (.inl hg))
      go_wp2
      refine ⟨⟨_, _, rfl, rfl, by omega, by omega, HT3⟩, ?_⟩
      simp only [intOf, strLen]
      rw [HM.out]
      omega
    · by_cases ht : t.size = 0
      · have he : t.toList.isEmpty = true := by rw [Lib.toList_data, isEmpty_size]; exact decide_eq_true ht
        have HT3 := hide (HT2.out (.inr (nil_list t (by omega))))
        have ha : a = 0 := by omega
        have H0 := hide ha
        clear ha
        go_wp2
        refine ⟨⟨_, _, rfl, rfl, by omega, by omega, HT3⟩, ?_⟩
        simp only [intOf, strLen]
        have := H0.out
        rw [HM.out]
        omega
      · have he : t.toList.isEmpty = false := by rw [Lib.toList_data, isEmpty_size]; exact decide_eq_false ht
        have HD := hide (H.out.done (by omega) (fun e => by have := size_len t; rw [e] at this; simp at this; omega))
        clear hsl
        go_wp2
        go_ret2
        exact ⟨ret2s (n := 0) ⟨by rw [HD.out], rfl⟩, rfl⟩

set_option maxHeartbeats 400000 in
theorem rhex_any (n : Int) (w : World) :
    Calls Tryd.prog 31 #[.int .i64 n] w fun e w' => e = .returned (.tuple #[.string (hexS n), .int .i64 (hexE n)]) ∧ w = w' := by
  by_cases h0 : 0 ≤ n
  · by_cases h1 : n ≤ 9007199254740992
    · obtain ⟨m, rfl⟩ := Int.eq_ofNat_of_zero_le h0
      obtain ⟨e1, e2⟩ := hexS_yes (n := m) (by omega)
      rw [e1, e2]
      exact rhex_yes m (by omega) w
    · have HN := hide (hexS_no (n := n) (.inr (by omega)))
      go_enter Tryd.func31, Tryd.ntmps31
      go_wp2
      go_ret2
      exact ⟨ret2s ⟨HN.out.1, by rw [HN.out.2]; rfl⟩, rfl⟩
  · have HN := hide (hexS_no (n := n) (.inl (by omega)))
    go_enter Tryd.func31, Tryd.ntmps31
    go_wp2
    go_ret2
    exact ⟨ret2s ⟨HN.out.1, by rw [HN.out.2]; rfl⟩, rfl⟩
end Go.Proofs.YthciahpadninpaaDoor
/- The library's Grow of nothing, and Concat of three. -/
namespace Go.Proofs.YthciahpadninpaaDoor
open Go.ChangeShapes Go.WideShapes Go.ChangeAt Go.RowKit

theorem zeroCells_size (z : Value) (hz : z.cells = #[z]) (n : Nat) : (Builtin.zeroCells z.cells n).size = n := by
  rw [hz]
  simp [Builtin.zeroCells]
theorem row_empty {W : World} {g : Nat} {cur : Array Value} {cap : Nat} (h : W.heap[g]? = some (.cells cur 5 (0, 0))) (hs : cur.size = cap) (hc : cap ≤ maxLen) {base : Nat} (hb : base ≤ g) : Row W base 5 (.slice (some ⟨g, 0, none⟩) 0 cap) [] := by
  refine ⟨rfl, .inr ⟨g, cap, cur, rfl, hb, h, Nat.zero_le _, hc, by simpa using hs, by simp⟩⟩
set_option maxHeartbeats 2000000 in
theorem grow_any (n : Nat) (w : World) (h0 : 0 < n) (hn : n ≤ 140737488355328) :
    Calls Tryd.prog 41 #[.slice none 0 0, .int .i64 (n : Int)] w fun e w' => ∃ g c, e = .returned (.slice (some ⟨g, 0, none⟩) 0 c) ∧ Row w' w.heap.size 5 (.slice (some ⟨g, 0, none⟩) 0 c) (bc []) ∧ Below w.heap.size w w' := by
  have t1 : ¬ (n : Int) < 0 := by omega
  have t2 : (0 : Int) < (n : Int) := by omega
  obtain ⟨i, hi, hz, hs1, hb1⟩ := infoB
  have hrun := Lib.run_append_nil_zeros (P := Tryd.prog) w 29 3 29 5 i (.int .u8 0) .i64 .i64 Tryd.underlying29 Tryd.underlying3 hi hz n h0 (by omega) (by omega) (by rw [hb1]; omega)
  have hge := grownCap_ge w n 0 5
  have hle := grownCap_le_maxLen w n 0 5 (by unfold maxLen; omega)
  generalize grownCap w n 0 5 = cap at hrun hge hle
  have HR := hide hrun
  clear hrun
  go_enter Tryd.func41, Tryd.ntmps41
  go_wp2_with (at_builtin; apply Hid.out)
  unfold Hid
  refine Lib.wpList_append_run w rfl _ _ 29 3 rfl (.slice none 0 0) (.int .i64 (n : Int)) rfl rfl _ _ HR.out ?_
  have HB := hide (((Below.refl w.heap.size w).drew).alloc (Nat.le_refl _) (.cells (Builtin.zeroCells (Value.int .u8 0).cells n ++ Builtin.zeroCells (Value.int .u8 0).cells (cap - n)) 5))
  have HH := hide (hp_new w.drew (.cells (Builtin.zeroCells (Value.int .u8 0).cells n ++ Builtin.zeroCells (Value.int .u8 0).cells (cap - n)) 5))
  have HZ : Hid ((Builtin.zeroCells (Value.int .u8 0).cells n ++ Builtin.zeroCells (Value.int .u8 0).cells (cap - n)).size = cap) := hide (by
    rw [Array.size_append, zeroCells_size _ rfl, zeroCells_size _ rfl]; omega)
  generalize (Builtin.zeroCells (Value.int .u8 0).cells n ++ Builtin.zeroCells (Value.int .u8 0).cells (cap - n)) = C at HB HH HZ ⊢
  generalize (w.drew.alloc (.cells C 5)) = w2 at HB HH ⊢
  go_wp2_with fail
  go_ret
  exact ⟨_, _, rfl, row_empty HH.out HZ.out hle (Nat.le_refl _), HB.out⟩
/-! ### Pieces -/
def Pcs (W : World) (v : Value) (L : List (List UInt8)) : Prop :=
  ∃ (a : Option Addr) (c : Nat), v = .slice a L.length c ∧ L.length ≤ c ∧ ∀ j (h : j < L.length), ∃ g o ba bc, a = some ⟨g, o, none⟩ ∧ g < W.heap.size ∧ W.cell? ⟨g, o + j, none⟩ = some (.slice ba L[j].length bc) ∧ Bs W W.heap.size (.slice ba L[j].length bc) L[j] ∧ Shp (.slice ba L[j].length bc)
theorem flat_take {L : List (List UInt8)} {k : Nat} (h : k < L.length) : (L.take (k + 1)).flatten = (L.take k).flatten ++ L[k] := by
  rw [List.take_succ_eq_append_getElem h, List.flatten_append, List.flatten_cons, List.flatten_nil, List.append_nil]
theorem flat_le (L : List (List UInt8)) (k : Nat) : ((L.take k).flatten).length ≤ L.flatten.length := by
  conv => rhs; rw [← List.take_append_drop k L]
  rw [List.flatten_append, List.length_append]
  omega
theorem wpList_append_bs_k {ops : Array Oper} {rest : List Oper} {o : Oper} {a : Act} {Q : Exit → Act → World → Prop} (hgd : o.guard = none) (s x : Operand)
    (ho : o.op = .call { callee := .builtin .append, args := #[s, x], argTypes := #[29, 29] }) (W : World) (base nb : Nat) (v u : Value) (O l : List UInt8) (hs : a.eval s = v) (hx : a.eval x = u)
    (hown : Row W base 5 v (bc O)) (hB : Bs W nb u l) (hS : Shp u) (hn : O.length + l.length ≤ 140737488355328) (hbase : base ≤ W.heap.size)
    (h : ∀ v' W', Row W' base 5 v' (bc (O ++ l)) → Below base W W' → Kept W W' v v' → wpList Tryd.prog ops Q rest (a.put o.dst v') W') : wpList Tryd.prog ops Q (o :: rest) a W := by
  refine wpList_plain hgd fun K hK => ?_
  obtain ⟨v', W', hr, h2, h3, h4⟩ := append_bs_k W base nb o.type v u O l hown hB hS hn hbase
  unfold Oper.wp execOp
  simp only [ho, resolve, invoke, builtin, Sem.run_bind, Sem.run_pure, Result.andThen_ok, List.map_toArray, List.map_cons, List.map_nil, hs, hx, hr]
  exact hK _ _ (h v' W' h2 h3 h4)
set_option maxHeartbeats 4000000 in
theorem concat_any (v : Value) (L : List (List UInt8)) (w : World) (hP : Pcs w v L) (hfl : L.flatten.length ≤ 70368744177664) (h0 : 0 < L.flatten.length) (hn : L.length ≤ 1099511627776) :
    Calls Tryd.prog 30 #[v] w fun e w' => ∃ u, e = .returned u ∧ Row w' w.heap.size 5 u (bc L.flatten) ∧ Below w.heap.size w w' := by
  obtain ⟨pa, pc, rfl, hpc, hcells⟩ := hP
  have HPC := hide hcells
  clear hcells
  go_enter Tryd.func30, Tryd.ntmps30
  go_wp2_with fail
  go_loop [3, 11] (fun sv i => ∃ k : Nat, k ≤ L.length ∧ sv = .int .i64 (((L.take k).flatten.length : Nat) : Int) ∧ i = .int .i64 k) (fun _ i => L.length - (intOf i).toNat)
  case atStart => exact ⟨0, Nat.zero_le _, rfl, rfl⟩
  case round =>
    obtain ⟨k, hk, rfl, rfl⟩ := hrel
    by_cases hlt : k < L.length
    · obtain ⟨g1, o1, ba, bcp, rfl, hg1, q1, hbs, hsh⟩ := HPC.out k hlt
      have hft := congrArg List.length (flat_take hlt)
      have hle := flat_le L (k + 1)
      rw [List.length_append] at hft
      rw [hft] at hle
      generalize hN : (L.take (k + 1)).flatten.length = N1 at hft
      generalize (L.take k).flatten.length = N at hft hle ⊢
      generalize L[k].length = m at hft hle q1
      have hx : (N : Int) + (m : Int) = ((N1 : Nat) : Int) := by omega
      have ht : ¬ ((N1 : Nat) : Int) < 0 := by omega
      have HN := hide hN
      clear hft hN hbs hsh
      have hb1 : N1 ≤ 70368744177664 := by omega
      go_wp2_with fail
      exact ⟨⟨k + 1, by omega, by rw [HN.out], by go_num⟩, by simp [intOf]; omega⟩
    · obtain rfl : k = L.length := by omega
      rw [List.take_of_length_le (Nat.le_refl _)]
      have HFL := hide hfl
      generalize L.flatten.length = N at h0 hfl ⊢
      clear hlt hk
      go_wp2_with fail
      refine (grow_any N w h0 (by omega)).mono ?_
      rintro e w1 ⟨g, c, rfl, hr, b1⟩
      have R1 := hide hr
      have B1 := hide b1
      clear hr b1
      go_wp2_with fail
      go_loopw [6, 27] (fun av i wr => ∃ (k : Nat) (aa : Option Addr) (an ac : Nat), k ≤ L.length ∧ av = .slice aa an ac ∧ i = .int .i64 k ∧ Hid (Row wr w.heap.size 5 (.slice aa an ac) (bc (L.take k).flatten)) ∧ Hid (Below w.heap.size w wr)) (fun _ i _ => L.length - (intOf i).toNat)
      case atStart => exact ⟨0, _, _, _, Nat.zero_le _, rfl, rfl, R1, B1⟩
      case round =>
        obtain ⟨k, aa, an, ac, hk, rfl, rfl, HR, HB⟩ := hrel
        by_cases hlt : k < L.length
        · obtain ⟨g1, o1, ba, bcp, rfl, hg1, q1, hbs, hsh⟩ := HPC.out k hlt
          have hft := flat_take hlt
          have hle := Nat.le_trans (flat_le L (k + 1)) HFL.out
          rw [hft, List.length_append] at hle
          have HFT := hide hft
          have HBS := hide hbs
          have HSH := hide hsh
          have r1 : wr.cell? ⟨g1, o1 + k, none⟩ = some (.slice ba L[k].length bcp) := (HB.out.cell (p := ⟨g1, o1 + k, none⟩) hg1).trans q1
          generalize L[k] = b at HFT hle HBS HSH r1
          clear hft q1 hbs hsh
          go_wp2_with (at_builtin; apply Hid.out)
          unfold Hid
          refine wpList_append_bs_k rfl _ _ rfl wr w.heap.size w.heap.size (.slice aa an ac) (.slice ba b.length bcp) (L.take k).flatten b rfl rfl HR.out (HBS.out.below (Nat.le_refl _) HB.out) HSH.out (by omega) HB.out.size ?_
          intro v' W1 O' B' K'
          obtain ⟨na, nn, nc, rfl⟩ : ∃ a n c, v' = .slice a n c := by
            obtain ⟨a, c, h, _⟩ := O'.shape
            exact ⟨a, _, c, h⟩
          have R2 := hide O'
          have B2 := hide (HB.out.trans B')
          clear O' B' K' r1
          go_wp2_with fail
          exact ⟨⟨k + 1, na, nn, nc, by omega, rfl, by go_num, hide (by rw [HFT.out]; exact R2.out), B2⟩, by simp [intOf]; omega⟩
        · obtain rfl : k = L.length := by omega
          have hr := HR.out
          rw [List.take_of_length_le (Nat.le_refl _)] at hr
          have R3 := hide hr
          clear hr hlt hk HR
          go_wp2_with fail
          go_ret
          exact ⟨_, rfl, R3.out, HB.out⟩
end Go.Proofs.YthciahpadninpaaDoor
/- Chunk. -/
namespace Go.Proofs.YthciahpadninpaaDoor
open Go.ChangeShapes Go.WideShapes Go.ChangeAt Go.RowKit

def chunkL (b : List UInt8) : List UInt8 := if b = [] then [] else hexD b.length ++ ([13, 10] ++ (b ++ [13, 10]))
theorem conv_bs (w : World) (s : ByteArray) : ∃ cap W, (convert 9 29 (.string s)).run Tryd.prog w = .ok (.slice (some ⟨w.heap.size, 0, none⟩) s.size cap) W ∧ Bs W W.heap.size (.slice (some ⟨w.heap.size, 0, none⟩) s.size cap) s.data.toList ∧ Below w.heap.size w W := by
  have hconv := run_bytes_of_string (P := Tryd.prog) w 9 29 5 s Tryd.underlying9 Tryd.underlying29 Tryd.underlying5
  have hge := grownCap_ge w s.size 0 5
  generalize grownCap w s.size 0 5 = cap at hconv hge
  refine ⟨cap, _, hconv, ⟨some ⟨w.heap.size, 0, none⟩, cap, by rw [size_len], by rw [size_len]; exact hge, fun j hj => ?_⟩, ((Below.refl _ w).drew).alloc (Nat.le_refl _) _⟩
  have hb := hp_new w.drew (.cells (bytesRow s cap) 5 ((bytesRow s cap).size, (bytesRow s cap).size + 1))
  refine ⟨w.heap.size, 0, rfl, lt_heap hb, lt_heap hb, ?_⟩
  have hj2 : j < s.data.size := by simpa using hj
  have hc := cell_at (w := w.drew.alloc (.cells (bytesRow s cap) 5 ((bytesRow s cap).size, (bytesRow s cap).size + 1))) (b := w.heap.size) hb (0 + j)
  rw [hc, Nat.zero_add, bytesRow_at s cap j hj2]
  simp
theorem bs_lit (w : World) (l : List UInt8) (c : Array Value) (fr : Nat × Nat) (hc : c.toList = l.map fun x => Value.int .u8 (x.toNat : Int)) : Bs (w.alloc (.cells c 5 fr)) (w.alloc (.cells c 5 fr)).heap.size (.slice (some ⟨w.heap.size, 0, none⟩) l.length l.length) l := by
  refine ⟨some ⟨w.heap.size, 0, none⟩, l.length, rfl, Nat.le_refl _, fun j hj => ?_⟩
  have hb := hp_new w (.cells c 5 fr)
  refine ⟨w.heap.size, 0, rfl, lt_heap hb, lt_heap hb, ?_⟩
  rw [cell_at hb, ← Array.getElem?_toList, hc, Nat.zero_add, List.getElem?_map, List.getElem?_eq_getElem hj]
  rfl
theorem pcs3 {W : World} {a1 a2 a3 : Option Addr} {c1 c2 c3 : Nat} {l1 l2 l3 : List UInt8} {n1 n2 n3 : Nat} (e1 : n1 = l1.length) (e2 : n2 = l2.length) (e3 : n3 = l3.length) {fr : Nat × Nat} (h1 : Bs W W.heap.size (.slice a1 n1 c1) l1) (s1 : Shp (.slice a1 n1 c1)) (h2 : Bs W W.heap.size (.slice a2 n2 c2) l2) (s2 : Shp (.slice a2 n2 c2)) (h3 : Bs W W.heap.size (.slice a3 n3 c3) l3) (s3 : Shp (.slice a3 n3 c3)) (t : TypeId) :
    Pcs (W.alloc (.cells #[.slice a1 n1 c1, .slice a2 n2 c2, .slice a3 n3 c3] t fr)) (.slice (some ⟨W.heap.size, 0, none⟩) 3 3) [l1, l2, l3] := by
  subst e1 e2 e3
  have hb := hp_new W (.cells #[.slice a1 l1.length c1, .slice a2 l2.length c2, .slice a3 l3.length c3] t fr)
  have bl := (Below.refl W.heap.size W).alloc (Nat.le_refl _) (.cells #[.slice a1 l1.length c1, .slice a2 l2.length c2, .slice a3 l3.length c3] t fr)
  have hsz : W.heap.size ≤ (W.alloc (.cells #[.slice a1 l1.length c1, .slice a2 l2.length c2, .slice a3 l3.length c3] t fr)).heap.size := bl.size
  refine ⟨_, 3, rfl, Nat.le_refl _, fun j hj => ?_⟩
  match j, hj with
  | 0, _ => exact ⟨W.heap.size, 0, a1, c1, rfl, lt_heap hb, cell_at hb 0, h1.below hsz bl, s1⟩
  | 1, _ => exact ⟨W.heap.size, 0, a2, c2, rfl, lt_heap hb, cell_at hb 1, h2.below hsz bl, s2⟩
  | 2, _ => exact ⟨W.heap.size, 0, a3, c3, rfl, lt_heap hb, cell_at hb 2, h3.below hsz bl, s3⟩
theorem Row.low {W : World} {base base2 : Nat} {e : TypeId} {v : Value} {xs : List Value} (h : Row W base e v xs) (hb : base2 ≤ base) : Row W base2 e v xs := by
  refine ⟨h.1, ?_⟩
  rcases h.2 with x | ⟨g, cap, cur, rfl, h1, hg, hc, hmx, hs, ht⟩
  · exact .inl x
  · exact .inr ⟨g, cap, cur, rfl, Nat.le_trans hb h1, hg, hc, hmx, hs, ht⟩
set_option maxHeartbeats 4000000 in
set_option maxRecDepth 100000 in
theorem chunk_any (v : Value) (b : List UInt8) (w : World) (hB : Bs w w.heap.size v b) (hS : Shp v) (hl : b.length ≤ 35184372088832) (hdb : DB w) :
    Calls Tryd.prog 18 #[v] w fun e w' => ∃ u, e = .returned u ∧ Row w' w.heap.size 5 u (bc (chunkL b)) ∧ Below w.heap.size w w' := by
  have HB := hide hB
  have HS := hide hS
  have HDB := hide hdb
  obtain ⟨va, vc, rfl, _, _⟩ := hB
  clear hS hdb
  by_cases h0 : b = []
  · subst h0
    go_enter Tryd.func18, Tryd.ntmps18
    go_wp2_with fail
    go_ret
    exact ⟨_, rfl, Row.nil _ _ _, Below.refl _ _⟩
  · have hpos : 0 < b.length := List.length_pos_iff.2 h0
    have t0 : ((b.length : Int) == 0) = false := by rw [beq_eq_false_iff_ne]; omega
    have HX := hide (hext_any (b.length : Int) w HDB.out)
    have hy := hexS_yes (n := b.length) (by omega)
    rw [hy.1, hy.2] at HX
    have h14 := hexD_len14 (n := b.length) (by omega)
    have HCL : Hid (chunkL b = [hexD b.length ++ [13, 10], b, [13, 10]].flatten) := hide (by unfold chunkL; rw [if_neg h0]; simp)
    clear hy h0
    have hsz : (⟨(hexD b.length).toArray⟩ : ByteArray).size ≤ 14 := by
      rw [← size_len]; simpa using h14
    have HTL : Hid (((⟨(hexD b.length).toArray⟩ : ByteArray) ++ ⟨#[13, 10]⟩).data.toList = hexD b.length ++ [13, 10]) := hide (by rw [app_list])
    generalize hexD b.length = hx at HX h14 HCL hsz HTL
    generalize (⟨hx.toArray⟩ : ByteArray) = hs at HX hsz HTL
    go_enter Tryd.func18, Tryd.ntmps18
    go_wp2_with fail
    refine HX.out.mono ?_
    rintro e w1 ⟨rfl, bb⟩
    have B1 := hide bb
    clear bb HX
    go_upto_region 4 with fail
    have e2 : (⟨#[13, 10]⟩ : ByteArray).size = 2 := rfl
    have y1 : (hs ++ (⟨#[13, 10]⟩ : ByteArray)).size ≤ 16 := by rw [app_size]; omega
    obtain ⟨cap, W, hcv, hbs, hbw⟩ := conv_bs w1 (hs ++ (⟨#[13, 10]⟩ : ByteArray))
    have HBS := hide hbs
    have B2 := hide (B1.out.trans (hbw.mono B1.out.size))
    clear hbs hbw
    have hcc := Lib.run_convert_bytes_const (P := Tryd.prog) W 29 5 #[.int .u8 13, .int .u8 10] 2 2 Tryd.underlying29 Tryd.underlying5
    go_wp2_with fail
    have hs2 : hs.size + 2 = (hx ++ [13, 10]).length := by rw [← HTL.out, size_len, app_size]; rfl
    have hb1 := HBS.out
    rw [HTL.out, app_size, show (⟨#[13, 10]⟩ : ByteArray).size = 2 from rfl] at hb1
    have S3 := hide (bs_lit W [13, 10] #[.int .u8 13, .int .u8 10] (2, 3) rfl)
    have BL := hide ((Below.refl W.heap.size W).alloc (Nat.le_refl _) (.cells #[.int .u8 13, .int .u8 10] 5 (2, 3)))
    have hz : (W.alloc (.cells #[.int .u8 13, .int .u8 10] 5 (2, 3))).heap.size = W.heap.size + 1 := by simp
    have P3 := hide (pcs3 (fr := (0, 0)) hs2 rfl rfl (hb1.below BL.out.size BL.out) (.inr ⟨_, _, _, rfl⟩) (HB.out.below (Nat.le_trans B2.out.size BL.out.size) (B2.out.trans (BL.out.mono B2.out.size))) HS.out S3.out (.inr ⟨_, _, _, rfl⟩) 29)
    rw [hz] at P3
    have BM := hide ((Below.refl W.heap.size W).alloc (Nat.le_refl _) (.cells #[.int .u8 13, .int .u8 10] 5 (2, 3)) |>.alloc (by omega) (.cells #[.slice (some ⟨w1.heap.size, 0, none⟩) (hs.size + 2) cap, .slice va b.length vc, .slice (some ⟨W.heap.size, 0, none⟩) 2 2] 29))
    have hlf : [hx ++ [13, 10], b, [13, 10]].flatten.length = hx.length + 2 + (b.length + 2) := by simp; omega
    clear hb1 hz hcc hcv
    refine (concat_any _ _ _ P3.out (by rw [hlf]; omega) (by rw [hlf]; omega) (by simp)).mono ?_
    rintro e w5 ⟨u, rfl, hr, b5⟩
    have B3 := hide (B2.out.trans (BM.out.mono B2.out.size))
    have R5 := hide (hr.low B3.out.size)
    have B5 := hide (B3.out.trans (b5.mono B3.out.size))
    clear hr b5 hlf
    go_wp2_with fail
    go_ret
    exact ⟨_, rfl, by rw [HCL.out]; exact R5.out, B5.out⟩
end Go.Proofs.YthciahpadninpaaDoor
/- A nil decoder. -/
namespace Go.Proofs.YthciahpadninpaaDoor
open Go.ChangeShapes Go.WideShapes Go.ChangeAt Go.RowKit

theorem feed_nil (a : Option Addr) (n c : Nat) (w : World) : Calls Tryd.prog 13 #[.pointer none, .slice a n c] w fun e w' => e = .returned (.tuple #[.slice none 0 0, .int .i64 0, .bool false, .int .i64 7]) ∧ w = w' := by
  go_enter Tryd.func13, Tryd.ntmps13
  go_wp2
  (try simp only [Exit.inBlock, Exit.then])
  exact bodyPost_ret (v := .tuple #[.slice none 0 0, .int .i64 0, .bool false, .int .i64 7]) (by simp [results, Tryd.results13, go_sem]) rfl ⟨rfl, rfl⟩
theorem trailers_nil (w : World) : Calls Tryd.prog 15 #[.pointer none] w fun e w' => e = .returned (.slice none 0 0) ∧ w = w' := by
  go_enter Tryd.func15, Tryd.ntmps15
  go_wp2
  go_ret
  exact ⟨rfl, rfl⟩
/-! ### What the statements say first -/
def sp1 : List UInt8 := [51, 59, 120, 13, 10, 97, 98, 99, 13, 10, 48, 13, 10, 13, 10]
def sp2 : List UInt8 := [51, 13, 10, 97, 98, 99, 100]
theorem said1 : (dBytes (dNew 9) sp1).1 = 0 ∧ (dBytes (dNew 9) sp1).2.1 = 15 ∧ (dBytes (dNew 9) sp1).2.2.1 = [97, 98, 99] ∧ (dBytes (dNew 9) sp1).2.2.2.whole = true := by decide +kernel
theorem said2 : (dBytes (dNew 9) sp2).1 = 100 ∧ (dBytes (dNew 9) sp2).2.1 = 7 ∧ (dBytes (dNew 9) sp2).2.2.2.whole = false := by decide +kernel
theorem said3 : chunkL [97, 98] = [50, 13, 10, 97, 98, 13, 10] := by
  have : hexD 2 = [50] := by rw [hexD_last (by decide)]; rfl
  unfold chunkL
  rw [if_neg (by simp), show ([97, 98] : List UInt8).length = 2 from rfl, this]
  rfl
end Go.Proofs.YthciahpadninpaaDoor
/- speaks. -/
namespace Go.Proofs.YthciahpadninpaaDoor
open Go.ChangeShapes Go.WideShapes Go.ChangeAt Go.RowKit

def sp3 : List UInt8 := [97, 98]
theorem PK.low {w w' : World} {base g : Nat} {lv' tv' : Value} (h : PK w w' g (.slice none 0 0) (.slice none 0 0) lv' tv') (hb : base ≤ g) (hw : base ≤ w.heap.size) : Below base w w' :=
  ⟨h.os, h.tape, h.output, h.size, fun k hk => h.block k (Nat.lt_of_lt_of_le hk hw) (fun e => by omega) (by simp [Value.ownBlock]) (by simp [Value.ownBlock])⟩
theorem bf_lit (w : World) (l : List UInt8) (c : Array Value) (fr : Nat × Nat) (hc : c.toList = l.map fun x => Value.int .u8 (x.toNat : Int)) : Bf (w.alloc (.cells c 5 fr)) (fun k => k = w.heap.size) (.slice (some ⟨w.heap.size, 0, none⟩) l.length l.length) l := by
  refine ⟨some ⟨w.heap.size, 0, none⟩, l.length, rfl, Nat.le_refl _, fun j hj => ?_⟩
  have hb := hp_new w (.cells c 5 fr)
  refine ⟨w.heap.size, 0, rfl, rfl, lt_heap hb, ?_⟩
  rw [cell_at hb, ← Array.getElem?_toList, hc, Nat.zero_add, List.getElem?_map, List.getElem?_eq_getElem hj]
  rfl
/-- Feed of a new decoder at a text that was just written out. -/
theorem feed_lit {x : World} {B g : Nat} {n : Nat} (hD : Dec x B g (.slice none 0 0) (.slice none 0 0) (dNew n)) (hn : n ≤ 9007199254740992) (hb : 2 ≤ B) (l : List UInt8) (c : Array Value) (fr : Nat × Nat) (hc : c.toList = l.map fun x => Value.int .u8 (x.toNat : Int)) (hl : l.length ≤ 70368744177664) (hm : MX (x.alloc (.cells c 5 fr))) :
    Calls Tryd.prog 13 #[.pointer (some ⟨g, 0, none⟩), .slice (some ⟨x.heap.size, 0, none⟩) l.length l.length] (x.alloc (.cells c 5 fr)) fun e w' => ∃ bv lv' tv', e = .returned (.tuple #[bv, .int .i64 ((dBytes (dNew n) l).2.1 : Int), .bool (dBytes (dNew n) l).2.2.2.whole, .int .i64 ((dBytes (dNew n) l).1 : Int)]) ∧ Row w' (x.alloc (.cells c 5 fr)).heap.size 5 bv (bc (dBytes (dNew n) l).2.2.1) ∧ PK (x.alloc (.cells c 5 fr)) w' g (.slice none 0 0) (.slice none 0 0) lv' tv' := by
  have bl := (Below.refl x.heap.size x).alloc (Nat.le_refl _) (.cells c 5 fr)
  have hg := hD.lt
  refine (feed_on (A := fun k => k = x.heap.size) (hD.below bl) (fit_dnew n hn) rfl rfl hm hb _ l (bf_lit x l c fr hc) (.inr ⟨_, _, _, rfl⟩) (by omega) (fun k e => by simp [Value.ownBlock] at e) (fun k e => by simp [Value.ownBlock] at e) (fun k e => by rw [e]; simp) hl).mono ?_
  rintro e w' ⟨bv, lv', tv', rfl, hr, _, hk⟩
  exact ⟨bv, lv', tv', rfl, hr, hk⟩
set_option maxHeartbeats 4000000 in
set_option maxRecDepth 100000 in
theorem speaks_any (w : World) (hm : MX w) (hdb : DB w) : Calls Tryd.prog 11 #[] w fun e w' => e = .returned (.bool true) ∧ Below w.heap.size w w' := by
  have HM := hide hm
  have HDB := hide hdb
  have hw2 : 2 ≤ w.heap.size := hm.1
  clear hm hdb
  have HN := hide (new_any 9 w (by decide))
  change Hid (Calls _ _ #[.int .i64 9] _ _) at HN
  go_enter Tryd.func11, Tryd.ntmps11
  go_wp2_with fail
  refine HN.out.mono ?_
  rintro e w1 ⟨rfl, hd1, hb1⟩
  have HN2 := hide (new_any 9 w1 (by decide))
  change Hid (Calls _ _ #[.int .i64 9] _ _) at HN2
  have D1 := hide hd1
  have B1 := hide hb1
  have hg1 := hd1.lt
  have hs1 := hb1.size
  clear hd1 hb1 HN
  go_wp2_with fail
  refine HN2.out.mono ?_
  rintro e w2 ⟨rfl, hd2, hb2⟩
  have D1' := hide (D1.out.below hb2)
  have D2 := hide hd2
  have B2 := hide (B1.out.trans (hb2.mono B1.out.size))
  have hg2 := hd2.lt
  have hs2 := hb2.size
  clear hd2 hb2 HN2 D1 B1
  have hcv : (convert 29 29 (.slice (some ⟨w2.heap.size, 0, none⟩) 15 15)).run Tryd.prog (w2.alloc (.cells #[.int .u8 51, .int .u8 59, .int .u8 120, .int .u8 13, .int .u8 10, .int .u8 97, .int .u8 98, .int .u8 99, .int .u8 13, .int .u8 10, .int .u8 48, .int .u8 13, .int .u8 10, .int .u8 13, .int .u8 10] 5)) = .ok (.slice (some ⟨w2.heap.size, 0, none⟩) 15 15) (w2.alloc (.cells #[.int .u8 51, .int .u8 59, .int .u8 120, .int .u8 13, .int .u8 10, .int .u8 97, .int .u8 98, .int .u8 99, .int .u8 13, .int .u8 10, .int .u8 48, .int .u8 13, .int .u8 10, .int .u8 13, .int .u8 10] 5 (15, 16))) := Lib.run_convert_bytes_const w2 29 5 #[.int .u8 51, .int .u8 59, .int .u8 120, .int .u8 13, .int .u8 10, .int .u8 97, .int .u8 98, .int .u8 99, .int .u8 13, .int .u8 10, .int .u8 48, .int .u8 13, .int .u8 10, .int .u8 13, .int .u8 10] 15 15 Tryd.underlying29 Tryd.underlying5
  go_wp2_with fail
  have B3 := hide (B2.out.trans (((Below.refl _ w2).alloc (Nat.le_refl _) (.cells #[.int .u8 51, .int .u8 59, .int .u8 120, .int .u8 13, .int .u8 10, .int .u8 97, .int .u8 98, .int .u8 99, .int .u8 13, .int .u8 10, .int .u8 48, .int .u8 13, .int .u8 10, .int .u8 13, .int .u8 10] 5 (15, 16))).mono B2.out.size))
  have BX := hide ((Below.refl _ w2).alloc (Nat.le_refl _) (.cells #[.int .u8 51, .int .u8 59, .int .u8 120, .int .u8 13, .int .u8 10, .int .u8 97, .int .u8 98, .int .u8 99, .int .u8 13, .int .u8 10, .int .u8 48, .int .u8 13, .int .u8 10, .int .u8 13, .int .u8 10] 5 (15, 16)))
  have P0 := hide (feed_lit D1'.out (by decide) hw2 sp1 #[.int .u8 51, .int .u8 59, .int .u8 120, .int .u8 13, .int .u8 10, .int .u8 97, .int .u8 98, .int .u8 99, .int .u8 13, .int .u8 10, .int .u8 48, .int .u8 13, .int .u8 10, .int .u8 13, .int .u8 10] (15, 16) rfl (by decide) (HM.out.below B3.out))
  have D2' := hide (D2.out.below BX.out)
  have hz3 : (w2.alloc (.cells #[.int .u8 51, .int .u8 59, .int .u8 120, .int .u8 13, .int .u8 10, .int .u8 97, .int .u8 98, .int .u8 99, .int .u8 13, .int .u8 10, .int .u8 48, .int .u8 13, .int .u8 10, .int .u8 13, .int .u8 10] 5 (15, 16))).heap.size = w2.heap.size + 1 := by simp
  clear hcv D1' D2 BX
  generalize (w2.alloc (.cells #[.int .u8 51, .int .u8 59, .int .u8 120, .int .u8 13, .int .u8 10, .int .u8 97, .int .u8 98, .int .u8 99, .int .u8 13, .int .u8 10, .int .u8 48, .int .u8 13, .int .u8 10, .int .u8 13, .int .u8 10] 5 (15, 16))) = x at B3 P0 D2' hz3 ⊢
  rw [said1.1, said1.2.1, said1.2.2.1, said1.2.2.2] at P0
  refine P0.out.mono ?_
  rintro e w3 ⟨bv, lv', tv', rfl, hr, hk⟩
  have hs3 := hk.size
  have B4 := hide (B3.out.trans (hk.low (base := w.heap.size) (by omega) (by omega)))
  have D2 := hide (D2'.out.frame (w' := w3) fun k h => hk.block k (by rcases h with rfl | h | h <;> first | omega | simp [Value.ownBlock] at h) (by rcases h with rfl | h | h <;> first | omega | simp [Value.ownBlock] at h) (by simp [Value.ownBlock]) (by simp [Value.ownBlock]))
  have HR := hide hr
  obtain ⟨ba, bcp, rfl⟩ : ∃ a c, bv = .slice a 3 c := by
    obtain ⟨a, c, h, _⟩ := hr.shape
    exact ⟨a, c, h⟩
  clear hr hk P0 B3 D2'
  have hcv : (convert 29 29 (.slice (some ⟨w3.heap.size, 0, none⟩) 7 7)).run Tryd.prog (w3.alloc (.cells #[.int .u8 51, .int .u8 13, .int .u8 10, .int .u8 97, .int .u8 98, .int .u8 99, .int .u8 100] 5)) = .ok (.slice (some ⟨w3.heap.size, 0, none⟩) 7 7) (w3.alloc (.cells #[.int .u8 51, .int .u8 13, .int .u8 10, .int .u8 97, .int .u8 98, .int .u8 99, .int .u8 100] 5 (7, 8))) := Lib.run_convert_bytes_const w3 29 5 #[.int .u8 51, .int .u8 13, .int .u8 10, .int .u8 97, .int .u8 98, .int .u8 99, .int .u8 100] 7 7 Tryd.underlying29 Tryd.underlying5
  go_wp2_with fail
  have B5 := hide (B4.out.trans (((Below.refl _ w3).alloc (Nat.le_refl _) (.cells #[.int .u8 51, .int .u8 13, .int .u8 10, .int .u8 97, .int .u8 98, .int .u8 99, .int .u8 100] 5 (7, 8))).mono B4.out.size))
  have BX := hide ((Below.refl _ w3).alloc (Nat.le_refl _) (.cells #[.int .u8 51, .int .u8 13, .int .u8 10, .int .u8 97, .int .u8 98, .int .u8 99, .int .u8 100] 5 (7, 8)))
  have P1 := hide (feed_lit D2.out (by decide) (by omega) sp2 #[.int .u8 51, .int .u8 13, .int .u8 10, .int .u8 97, .int .u8 98, .int .u8 99, .int .u8 100] (7, 8) rfl (by decide) (HM.out.below B5.out))
  have HR' := hide (HR.out.below BX.out)
  have hz4 : (w3.alloc (.cells #[.int .u8 51, .int .u8 13, .int .u8 10, .int .u8 97, .int .u8 98, .int .u8 99, .int .u8 100] 5 (7, 8))).heap.size = w3.heap.size + 1 := by simp
  clear hcv D2 HR BX
  generalize (w3.alloc (.cells #[.int .u8 51, .int .u8 13, .int .u8 10, .int .u8 97, .int .u8 98, .int .u8 99, .int .u8 100] 5 (7, 8))) = y at B5 P1 HR' hz4 ⊢
  rw [said2.1, said2.2.1, said2.2.2] at P1
  refine P1.out.mono ?_
  rintro e w4 ⟨bv2, lv2, tv2, rfl, hr2, hk2⟩
  have hs4 := hk2.size
  have B6 := hide (B5.out.trans (hk2.low (base := w.heap.size) (by omega) (by omega)))
  have HR := hide (HR'.out.frame (W' := w4) fun k h => hk2.block k (by have := (HR'.out.lt h).2; omega) (by have := (HR'.out.lt h).1; omega) (by simp [Value.ownBlock]) (by simp [Value.ownBlock]))
  obtain ⟨ba2, bcp2, rfl, _, _⟩ := hr2.shape
  generalize (bc (dBytes (dNew 9) sp2).snd.snd.fst).length = bn2
  clear hr2 hk2 P1 B5 HR'
  have htx : (convert 29 9 (.slice ba 3 bcp)).run Tryd.prog w4 = .ok (.string ⟨#[97, 98, 99]⟩) w4 := HR.out.text
  have hcv : (convert 29 29 (.slice (some ⟨w4.heap.size, 0, none⟩) 2 2)).run Tryd.prog (w4.alloc (.cells #[.int .u8 97, .int .u8 98] 5)) = .ok (.slice (some ⟨w4.heap.size, 0, none⟩) 2 2) (w4.alloc (.cells #[.int .u8 97, .int .u8 98] 5 (2, 3))) := Lib.run_convert_bytes_const w4 29 5 #[.int .u8 97, .int .u8 98] 2 2 Tryd.underlying29 Tryd.underlying5
  go_wp2_with fail
  have B7 := hide (B6.out.trans (((Below.refl _ w4).alloc (Nat.le_refl _) (.cells #[.int .u8 97, .int .u8 98] 5 (2, 3))).mono B6.out.size))
  have P2 := hide (chunk_any _ sp3 _ (bs_lit w4 sp3 #[.int .u8 97, .int .u8 98] (2, 3) rfl) (.inr ⟨_, _, _, rfl⟩) (by decide) (HDB.out.below B7.out))
  rw [show chunkL sp3 = [50, 13, 10, 97, 98, 13, 10] from said3] at P2
  clear hcv htx HR
  generalize (w4.alloc (.cells #[.int .u8 97, .int .u8 98] 5 (2, 3))) = z at B7 P2 ⊢
  refine P2.out.mono ?_
  rintro e w5 ⟨u, rfl, hu, bb⟩
  have B8 := hide (B7.out.trans (bb.mono B7.out.size))
  obtain ⟨ua, uc, rfl⟩ : ∃ a c, u = .slice a 7 c := by
    obtain ⟨a, c, h, _⟩ := hu.shape
    exact ⟨a, c, h⟩
  have htx : (convert 29 9 (.slice ua 7 uc)).run Tryd.prog w5 = .ok (.string ⟨#[50, 13, 10, 97, 98, 13, 10]⟩) w5 := hu.text
  clear hu bb P2
  go_wp2
  go_ret
  exact ⟨rfl, B8.out⟩
end Go.Proofs.YthciahpadninpaaDoor
