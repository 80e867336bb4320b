/- Two rows of numbers are the same or not; the small case that each statement asks comes out true. -/
import Derived.Test.YtpgbpfdgbajhlaaDoes4
import Derived.Lib.SlBytesConst
namespace Go.Proofs.Ytpgbpfdgbajhlaa
open Go.ChangeShapes Go.WideShapes Go.ChangeAt Go.RowKit

theorem Fr.cell {W W' : World} (h : Fr (fun _ => False) W W') {a : Addr} {v : Value} (hc : W.cell? a = some v) : W'.cell? a = some v :=
  (World.cell?_of_block (h.block a.block (World.block_lt_of_cell? _ _ hc) (fun e => e))).trans hc

set_option maxHeartbeats 1000000 in
theorem ints_any {W : World} {va vb : Value} {xs ys : List Int} (ha : Sl W .i64 va xs) (hb : Sl W .i64 vb ys) (hx : xs.length ≤ 1099511627776) : Calls Try.prog 14 #[va, vb] W fun e w' => e = .returned (.bool (decide (xs = ys))) ∧ Fr (fun _ => False) W w' := by
  obtain ⟨aa, ca, rfl, ka, _, hca⟩ := ha
  obtain ⟨ab, cb, rfl, kb, _, hcb⟩ := hb
  by_cases hl : xs.length = ys.length
  · have HA := hide hca
    have HB := hide hcb
    have hle : ((xs.length : Int) == (ys.length : Int)) = true := by rw [hl]; simp
    rw [← hl] at kb ⊢
    rw [← hl] at hle
    have HL := hide hl
    clear hca hcb hl
    go_enter Try.func14, Try.ntmps14
    go_wp2_with fail
    go_loopw [13] (fun v wr => ∃ j : Nat, j ≤ xs.length ∧ v = .int .i64 (j : Int) ∧ Hid (Fr (fun _ => False) W wr ∧ ∀ i, i < j → xs.getD i 0 = ys.getD i 0)) (fun v _ => xs.length - (intOf v).toNat)
    case atStart => exact ⟨0, Nat.zero_le _, rfl, hide ⟨Fr.refl _ _, fun i hi => by omega⟩⟩
    case round =>
      obtain ⟨j, hj, rfl, HJ⟩ := hrel
      by_cases hlt : j < xs.length
      · obtain ⟨b1, o1, rfl, c1⟩ := HA.out j hlt
        obtain ⟨b2, o2, rfl, c2⟩ := HB.out j (by rw [← HL.out]; exact hlt)
        have d1 := HJ.out.1.cell c1
        have d2 := HJ.out.1.cell c2
        obtain ⟨x, Hx⟩ : ∃ x, Hid (xs.getD j 0 = x) := ⟨_, hide rfl⟩
        obtain ⟨y, Hy⟩ : ∃ y, Hid (ys.getD j 0 = y) := ⟨_, hide rfl⟩
        rw [Hx.out] at d1
        rw [Hy.out] at d2
        clear c1 c2
        by_cases hxy : x = y
        · subst hxy
          go_wp2_with fail
          go_quiet (fail)
          go_wp2_with fail
          go_roundw
          case rel => exact ⟨j + 1, by omega, by go_num, hide ⟨HJ.out.1.trans (Fr.drewN (fun _ => False) _ _) (fun _ _ e => e), fun i hi => by
            by_cases e : i = j
            · subst e; rw [Hx.out, Hy.out]
            · exact HJ.out.2 i (by omega)⟩⟩
          case measure => simp [intOf]; omega
        · have hne : (x != y) = true := by simp [hxy]
          have HD : Hid (xs ≠ ys) := hide (fun e => hxy (by rw [← Hx.out, ← Hy.out, e]))
          clear hxy
          go_wp2_with fail
          go_quiet (fail)
          go_wp2_with fail
          go_ret
          exact ⟨ret_bool (decide_eq_false HD.out).symm, HJ.out.1.trans (Fr.drewN (fun _ => False) _ _) (fun _ _ e => e)⟩
      · have ej : j = xs.length := by omega
        subst ej
        go_wp2_with fail
        go_ret
        refine ⟨ret_bool (decide_eq_true ?_).symm, HJ.out.1⟩
        apply List.ext_getElem HL.out
        intro i h1 h2
        have := HJ.out.2 i h1
        simpa [List.getD, h1, h2] using this
  · have hle : ((xs.length : Int) != (ys.length : Int)) = true := by simp; omega
    have HD : Hid (decide (xs = ys) = false) := hide (decide_eq_false (fun e => hl (by rw [e])))
    rw [HD.out]
    have h2 : ¬ xs.length = ys.length := hl
    clear hca hcb hl
    go_enter Try.func14, Try.ntmps14
    go_wp2_with fail
    go_ret
    exact ⟨rfl, Fr.refl _ _⟩

theorem cell_ofr {w : World} {b : Nat} {c : Array Value} {t : TypeId} {fr : Nat × Nat} (h : w.heap[b]? = some (.cells c t fr)) (i : Nat) : w.cell? ⟨b, i, none⟩ = c[i]? := by
  simp [World.cell?, h]
theorem Sl.lit (W : World) (C : Array Value) (l : List Int) (cap : Nat) (fr : Nat × Nat) (hc : l.length ≤ cap) (hC : ∀ i, i < l.length → C[i]? = some (.int .u8 (l.getD i 0))) : Sl (W.alloc (.cells C 5 fr)) .u8 (.slice (some ⟨W.heap.size, 0, none⟩) l.length cap) l := by
  refine ⟨_, _, rfl, hc, fun h => (by cases h), fun i hi => ⟨_, 0, rfl, ?_⟩⟩
  have hh : (W.alloc (.cells C 5 fr)).heap[W.heap.size]? = some (.cells C 5 fr) := (MapKept.heap_alloc W _).1
  rw [cell_ofr hh, Nat.zero_add]; exact hC i hi
theorem Sl.three (W : World) (x y z : Int) : Sl (W.alloc (.cells #[.int .u8 x, .int .u8 y, .int .u8 z] 5 (3, 4))) .u8 (.slice (some ⟨W.heap.size, 0, none⟩) 3 3) [x, y, z] :=
  Sl.lit W #[.int .u8 x, .int .u8 y, .int .u8 z] [x, y, z] 3 (3, 4) (Nat.le_refl _) (fun i hi => by
    match i, hi with
    | 0, _ => rfl
    | 1, _ => rfl
    | 2, _ => rfl)
theorem Sl.one (W : World) (x : Int) : Sl (W.alloc (.cells #[.int .i64 x] 3)) .i64 (.slice (some ⟨W.heap.size, 0, none⟩) 1 1) [x] :=
  (Row.ofNew W .i64 3 #[.int .i64 x] [x] 1 (Nat.le_refl _) (Nat.le_refl _) (fun i hi => by
    match i, hi with
    | 0, _ => rfl)).sl
/-- A row that is not the world's stays through its calls. -/
theorem Row.through {W W' : World} {q : IntKind} {v : Value} {l : List Int} {go : Option Nat} {own own' : Nat → Option Tag} (h : Row W q v l go) (hk : Kp own own' W W') (hn : ∀ g, go = some g → own g = none) : Row W' q v l go ∧ ∀ g, go = some g → own' g = none := by
  have hl : ∀ g, go = some g → g < W.heap.size := fun g e => by subst e; exact h.lt
  exact ⟨h.frame hk.fr.size (fun g e => hk.fr.block g (hl g e) (fun e2 => e2 (hn g e))), fun g e => hk.no g (hl g e) (hn g e)⟩

def cnA (w s : List Int) (e : Bool) (r : Int) : Cn := ⟨1, true, e, w, s, r⟩

set_option maxHeartbeats 4000000 in
set_option maxRecDepth 100000 in
theorem speaks_any (w : World) : Calls Try.prog 17 #[] w fun e w' => e = .returned (.bool true) ∧ Fr (fun _ => False) w w' := by
  have kc := fun (w : World) (C : Array Value) (n c : Nat) => Lib.run_convert_bytes_const (P := Try.prog) w 30 5 C n c Try.underlying30 Try.underlying5
  go_enter Try.func17, Try.ntmps17
  go_wp2_with fail
  refine (does_new w).mono ?_
  rintro e w1 ⟨rfl, rfl⟩
  have D1 := hide (Wd.begin w)
  have K1 := hide (Kp.begin w)
  obtain ⟨w1, hw1⟩ : ∃ w1, w1 = w.alloc (.cells #[.map none, .map none, .slice none 0 0] 61) := ⟨_, rfl⟩
  rw [← hw1] at D1 K1 ⊢
  have o1 := hide (does_open D1.out (k := 1) (by omega) (by omega) nofun (by simp) (by simp))
  clear hw1 D1
  unfold ptr at o1 ⊢
  go_wp2_with fail
  refine o1.out.mono ?_
  rintro e w2 ⟨rfl, own2, D2, K2⟩
  replace D2 : Hid (Wd w2 w.heap.size [cnA [] [] false 0] [] own2) := hide D2
  have K3 := hide (K1.out.trans K2)
  clear K1 K2 o1
  go_wp2_with fail
  obtain ⟨D3, K4⟩ := D2.out.apartF (Fr.alloc (fun _ => False) w2 (.cells #[.int .u8 97, .int .u8 98, .int .u8 99] 5 (3, 4)))
  refine (does_arrive D3 (i := 0) (x := cnA [] [] false 0) rfl rfl rfl (Sl.three w2 97 98 99) (by decide)).mono ?_
  rintro e w3 ⟨rfl, own3, D4, K5⟩
  replace D4 : Hid (Wd w3 w.heap.size [cnA [97, 98, 99] [] false 0] [] own3) := hide D4
  replace K3 := hide ((K3.out.trans K4).trans K5)
  clear D2 D3 K4 K5
  go_wp2_with fail
  refine (does_read D4.out (i := 0) (x := cnA [97, 98, 99] [] false 0) rfl rfl 2).mono ?_
  rintro e w4 ⟨v4, go4, own4, rfl, R4, G4, D5, K6⟩
  replace D5 : Hid (Wd w4 w.heap.size [cnA [99] [] false 0] [] own4) := hide D5
  replace R4 : Hid (Row w4 .u8 v4 [97, 98] go4 ∧ ∀ g, go4 = some g → own4 g = none) := hide ⟨R4, fun g e => (G4 g e).2⟩
  replace K3 := hide (K3.out.trans K6)
  clear D4 K6 G4
  go_wp2_with fail
  refine (does_end D5.out (i := 0) (x := cnA [99] [] false 0) rfl rfl).mono ?_
  rintro e w5 ⟨rfl, D6, K7⟩
  replace D6 : Hid (Wd w5 w.heap.size [cnA [99] [] true 0] [] own4) := hide D6
  replace R4 := hide (R4.out.1.through K7 R4.out.2)
  replace K3 := hide (K3.out.trans K7)
  clear D5 K7
  go_wp2_with fail
  refine (does_waits D6.out (i := 0) (x := cnA [99] [] true 0) rfl rfl).mono ?_
  rintro e w6 ⟨rfl, D7, K8⟩
  replace D7 := hide D7
  replace R4 := hide (R4.out.1.through K8 R4.out.2)
  replace K3 := hide (K3.out.trans K8)
  clear D6 K8
  have el : ([99] : List Int).length = 1 := rfl
  simp only [cnA, el]
  go_wp2_with fail
  refine (does_room D7.out (i := 0) (x := cnA [99] [] true 0) rfl rfl (n := 2) (by omega)).mono ?_
  rintro e w7 ⟨rfl, D8, K9⟩
  replace D8 : Hid (Wd w7 w.heap.size [cnA [99] [] true 2] [] own4) := hide D8
  replace R4 := hide (R4.out.1.through K9 R4.out.2)
  replace K3 := hide (K3.out.trans K9)
  clear D7 K9
  go_wp2_with fail
  obtain ⟨D9, K10⟩ := D8.out.apartF (Fr.alloc (fun _ => False) w7 (.cells #[.int .u8 120, .int .u8 121, .int .u8 122] 5 (3, 4)))
  refine (does_write D9 (i := 0) (x := cnA [99] [] true 2) rfl rfl (Sl.three w7 120 121 122) (by decide)).mono ?_
  rintro e w8 ⟨rfl, own8, D10, K11⟩
  replace D10 : Hid (Wd w8 w.heap.size [cnA [99] [120, 121] true 0] [] own8) := hide D10
  replace K10 := K10.trans K11
  replace R4 := hide (R4.out.1.through K10 R4.out.2)
  replace K3 := hide (K3.out.trans K10)
  clear D8 D9 K10 K11
  have em : min (([120, 121, 122] : List Int).length : Int) (cnA [99] [] true 2).room = 2 := by decide
  rw [em]
  clear em
  go_wp2_with fail
  refine (does_give D10.out (v := 7) (by omega) (by omega) (by decide)).mono ?_
  rintro e w9 ⟨rfl, own9, D11, K12⟩
  replace D11 : Hid (Wd w9 w.heap.size [cnA [99] [120, 121] true 0] [7] own9) := hide D11
  replace R4 := hide (R4.out.1.through K12 R4.out.2)
  replace K3 := hide (K3.out.trans K12)
  clear D10 K12
  go_wp2_with fail
  refine (does_draw D11.out (n := 3) (by omega)).mono ?_
  rintro e w10 ⟨rfl, D12, K13⟩
  replace D12 := hide D12
  replace R4 := hide (R4.out.1.through K13 R4.out.2)
  replace K3 := hide (K3.out.trans K13)
  clear D11 K13
  have e73 : (7 : Int) % 3 = 1 := by decide
  rw [e73]
  clear e73
  have t4 := R4.out.1.sl.text
  have es : strOfNums [97, 98] = ⟨#[97, 98]⟩ := by rfl
  rw [es] at t4
  clear es R4
  go_wp2_with fail
  refine (does_sent D12.out (i := 0) (x := cnA [99] [120, 121] true 0) rfl).mono ?_
  rintro e w11 ⟨v11, go11, rfl, R11, G11, D13, K14⟩
  replace D13 := hide D13
  have t11 := R11.sl.text
  have es : strOfNums [120, 121] = ⟨#[120, 121]⟩ := by rfl
  simp only [cnA] at t11
  rw [es] at t11
  replace K3 := hide (K3.out.trans K14)
  clear es R11 G11 D12 K14 t4
  go_wp2_with fail
  refine (does_all D13.out).mono ?_
  rintro e w12 ⟨v12, go12, rfl, R12, G12, D14, K15⟩
  have eo : sorted (opens [cnA [99] [120, 121] true 0]) = [1] := by simp [sorted, opens, cnA]
  rw [eo] at R12
  replace R12 : Hid (Row w12 .i64 v12 [1] go12) := hide R12
  clear eo
  replace K3 := hide (K3.out.trans K15)
  clear D13 D14 G12 K15 t11
  go_wp2_with fail
  have A := Fr.alloc (fun _ => False) w12 (.cells #[.int .i64 1] 3)
  refine (ints_any (xs := [1]) (ys := [1]) (R12.out.sl.keep (fun b hb _ => A.block b hb (fun e => e))) (Sl.one w12 1) (by decide)).mono ?_
  rintro e w13 ⟨rfl, F13⟩
  have F := hide ((K3.out.fr.trans A (fun _ _ e => e.elim)).trans F13 (fun _ _ e => e.elim))
  have ed : decide (([1] : List Int) = [1]) = true := by decide
  rw [ed]
  clear A F13 K3 R12 ed
  go_wp2_with fail
  go_ret
  exact ⟨rfl, F.out.mono (fun _ _ e => e rfl)⟩
end Go.Proofs.Ytpgbpfdgbajhlaa
