/- A schedule that is made. -/
import Derived.Test.YtlnckiknikaifaaQPr
import Derived.Laws.MakeOwn
namespace Go.Proofs.Ytlnckiknikaifaa
open Go.ChangeShapes Go.WideShapes Go.ChangeAt Go.RowKit
set_option linter.unusedVariables false

def zf : HR := ⟨false, false, 0, 0, 0⟩
/-- A host at first. -/
def zn (now : Int) : HR := ⟨true, false, now, 0, 0⟩
def mk (now : Int) (n i : Nat) : List HR := List.replicate i (zn now) ++ List.replicate (n - i) zf
theorem infoRow (R : TypeId) (z : Value) (h : (Try.prog.info? R).map (fun i => (i.zero, i.size, i.bytes)) = some (some z, 5, 32)) : ∃ i, Try.prog.info? R = some i ∧ i.zero = some z ∧ i.size = 5 ∧ i.bytes = 32 := by
  obtain ⟨i, hi, hz⟩ := Option.map_eq_some_iff.1 h
  simp only [Prod.mk.injEq] at hz
  exact ⟨i, hi, hz.1, hz.2.1, hz.2.2⟩
set_option maxRecDepth 100000 in
theorem made_flat : ∀ n, n ≤ 16 → madeCells #[.bool false, .bool false, .int .i64 0, .int .i64 0, .int .i64 0] (n * 5) = (flat false (List.replicate n zf)).toArray := fun n hn => match n, hn with
  | 0, _ => by kernel_rfl
  | 1, _ => by kernel_rfl
  | 2, _ => by kernel_rfl
  | 3, _ => by kernel_rfl
  | 4, _ => by kernel_rfl
  | 5, _ => by kernel_rfl
  | 6, _ => by kernel_rfl
  | 7, _ => by kernel_rfl
  | 8, _ => by kernel_rfl
  | 9, _ => by kernel_rfl
  | 10, _ => by kernel_rfl
  | 11, _ => by kernel_rfl
  | 12, _ => by kernel_rfl
  | 13, _ => by kernel_rfl
  | 14, _ => by kernel_rfl
  | 15, _ => by kernel_rfl
  | 16, _ => by kernel_rfl
  | k + 17, h => absurd h (by omega)
theorem make_rows (w : World) (n : Nat) (hn : n ≤ 16) : (Instr.makeSlice 44 (.int .i64 (n : Int)) (.int .i64 (n : Int))).run Try.prog w = .ok (.slice (some ⟨w.heap.size, 0, none⟩) n n) (w.alloc (.cells (flat false (List.replicate n zf)).toArray 48)) := by
  obtain ⟨i, hi, hz, hs, hb⟩ := infoRow 48 (.agg #[.bool false, .bool false, .int .i64 0, .int .i64 0, .int .i64 0]) (by kernel_rfl)
  have hr := run_makeSlice w 44 48 i _ Try.underlying44 hi hz .i64 .i64 (n : Int) (n : Int) (by omega) (by omega) (by rw [hs]; simp; omega) (by rw [hb]; omega) (by omega)
  rw [hr, hs]
  simp only [Int.toNat_natCast]
  rw [← made_flat n hn]
  rfl
theorem mk_at {now : Int} {n i : Nat} (h : i < n) : (mk now n i)[i]? = some zf := by
  unfold mk
  rw [List.getElem?_append_right (by simp), List.length_replicate, Nat.sub_self, List.getElem?_replicate, if_pos (by omega)]
theorem mk_set {now : Int} {n i : Nat} (h : i < n) : (mk now n i).set i (zn now) = mk now n (i + 1) := by
  unfold mk
  rw [List.set_append_right _ _ (by simp), List.length_replicate, Nat.sub_self, show n - i = (n - (i + 1)) + 1 by omega, List.replicate_succ, List.set_cons_zero, List.replicate_succ', List.append_assoc]
  rfl
theorem mk_len {now : Int} {n i : Nat} (h : i ≤ n) : (mk now n i).length = n := by unfold mk; simp; omega
theorem mk_zero (now : Int) (n : Nat) : mk now n 0 = List.replicate n zf := by unfold mk; simp
theorem mk_all (now : Int) (n : Nat) : mk now n n = List.replicate n (zn now) := by unfold mk; simp

set_option maxHeartbeats 1000000 in
set_option maxRecDepth 100000 in
theorem new_bad (w : World) (n ev ti up dn now : Int) (h : ¬ (1 ≤ n ∧ n ≤ 16 ∧ okA ev ti up dn = true)) :
    Calls Try.prog 7 #[.int .i64 n, .agg #[.int .i64 ev, .int .i64 ti, .int .i64 up, .int .i64 dn], .int .i64 now] w fun e w' => e = .returned (.tuple #[.pointer none, .int .i64 1]) ∧ Fr none' w w' := by
  have HR := hide (fun V => right_any V ev ti up dn)
  have HF := hide (Fr.alloc none' w (.cells #[.int .i64 ev, .int .i64 ti, .int .i64 up, .int .i64 dn] 23))
  have A0 : (w.alloc (.cells #[.int .i64 ev, .int .i64 ti, .int .i64 up, .int .i64 dn] 23)).heap[w.heap.size]? = some (.cells #[.int .i64 ev, .int .i64 ti, .int .i64 up, .int .i64 dn] 23 (0, 0)) := hp_new _ _
  by_cases q0 : n < 1
  · clear h A0
    go_enter Try.func7, Try.ntmps7
    go_wp2
    go_ret2
    exact ⟨rfl, HF.out⟩
  by_cases q1 : 16 < n
  · clear h A0
    go_enter Try.func7, Try.ntmps7
    go_wp2
    go_ret2
    exact ⟨rfl, HF.out⟩
  have q2 : okA ev ti up dn = false := by
    cases q : okA ev ti up dn with
    | false => rfl
    | true => exact absurd ⟨by omega, by omega, q⟩ h
  rw [q2] at HR
  clear h q2 A0
  go_enter Try.func7, Try.ntmps7
  go_wp2_with (go_at_call 15; refine (HR.out _).mono ?_; rintro e w2 ⟨rfl, F2⟩)
  go_ret2
  exact ⟨rfl, HF.out.trans F2 (fun _ _ x => x)⟩

set_option maxHeartbeats 2000000 in
set_option maxRecDepth 100000 in
theorem new_any (w : World) (n : Nat) (ev ti up dn now : Int) (n0 : 1 ≤ n) (n1 : n ≤ 16) (hA : okA ev ti up dn = true) (hm : mom now = true) :
    Calls Try.prog 7 #[.int .i64 (n : Int), .agg #[.int .i64 ev, .int .i64 ti, .int .i64 up, .int .i64 dn], .int .i64 now] w fun e w' => ∃ b g, e = .returned (.tuple #[.pointer (some ⟨b, 0, none⟩), .int .i64 0]) ∧ Does (Hs ev ti up dn 0 (List.replicate n (zn now)) b g) none' w w' := by
  have HR := hide (fun V => right_any V ev ti up dn)
  rw [hA] at HR
  have HU := hide (fun V => until_any 0 now V)
  rw [untE_eq (by omega) (by omega), show bE now = 0 by unfold bE; rw [hm]; rfl] at HU
  have n3 : n < 4611686018427387904 := by omega
  clear hA hm
  go_enter Try.func7, Try.ntmps7
  go_wp2_with fail
  have HF := hide (Fr.alloc none' w (.cells #[.int .i64 ev, .int .i64 ti, .int .i64 up, .int .i64 dn] 23))
  have A0 : (w.alloc (.cells #[.int .i64 ev, .int .i64 ti, .int .i64 up, .int .i64 dn] 23)).heap[w.heap.size]? = some (.cells #[.int .i64 ev, .int .i64 ti, .int .i64 up, .int .i64 dn] 23 (0, 0)) := hp_new _ _
  generalize w.alloc (.cells #[.int .i64 ev, .int .i64 ti, .int .i64 up, .int .i64 dn] 23) = W1 at *
  obtain ⟨sa, Has⟩ : ∃ sa, Hid (w.heap.size = sa) := ⟨_, hide rfl⟩
  rw [Has.out] at A0 ⊢
  have HA0 := hide A0
  clear A0
  refine (HR.out W1).mono ?_
  rintro e W2 ⟨rfl, F2⟩
  have HF2 := hide (HF.out.trans F2 (fun _ _ x => x))
  have A2 := F2.hd id HA0.out
  have A3 := (Fr.alloc none' W2 (.cells (flat false (List.replicate n zf)).toArray 48)).hd id A2
  have d0 : (W2.alloc (.cells (flat false (List.replicate n zf)).toArray 48)).cell? ⟨sa, 0, none⟩ = some (.int .i64 ev) := cell_of A3 0
  have d1 : (W2.alloc (.cells (flat false (List.replicate n zf)).toArray 48)).cell? ⟨sa, 1, none⟩ = some (.int .i64 ti) := cell_of A3 1
  have d2 : (W2.alloc (.cells (flat false (List.replicate n zf)).toArray 48)).cell? ⟨sa, 2, none⟩ = some (.int .i64 up) := cell_of A3 2
  have d3 : (W2.alloc (.cells (flat false (List.replicate n zf)).toArray 48)).cell? ⟨sa, 3, none⟩ = some (.int .i64 dn) := cell_of A3 3
  clear A3
  have c0 : W2.cell? ⟨sa, 0, none⟩ = some (.int .i64 ev) := cell_of A2 0
  have c1 : W2.cell? ⟨sa, 1, none⟩ = some (.int .i64 ti) := cell_of A2 1
  have c2 : W2.cell? ⟨sa, 2, none⟩ = some (.int .i64 up) := cell_of A2 2
  have c3 : W2.cell? ⟨sa, 3, none⟩ = some (.int .i64 dn) := cell_of A2 3
  clear F2 A2 HF HA0 HR
  go_wp2_with (go_at_call 16; refine (HU.out _).mono ?_; rintro e w' ⟨rfl, rfl⟩)
  have hmk := make_rows W2 n n1
  have hmk2 := make_rows W2.drew n n1
  go_region
  have T1 : Hid (Does (Hs ev ti up dn 0 (mk now n 0) (W2.heap.size + 1) W2.heap.size) none' w ((W2.alloc (.cells (flat false (List.replicate n zf)).toArray 48)).alloc (.cells #[.int .i64 ev, .int .i64 ti, .int .i64 up, .int .i64 dn, .int .i64 0, .slice (some ⟨W2.heap.size, 0, none⟩) n n] 46)).drew) := hide (by
    have e : W2.heap.size + 1 = (W2.alloc (.cells (flat false (List.replicate n zf)).toArray 48)).heap.size := by simp
    have hz := HF2.out.size
    refine Does.e (w1 := (W2.alloc (.cells (flat false (List.replicate n zf)).toArray 48)).alloc (.cells #[.int .i64 ev, .int .i64 ti, .int .i64 up, .int .i64 dn, .int .i64 0, .slice (some ⟨W2.heap.size, 0, none⟩) n n] 46)) ?_ (Fr.drew _ _)
    refine ⟨fun k => k = W2.heap.size + 1 ∨ k = W2.heap.size, ⟨⟨?_, ?_, by omega⟩, fun _ => Iff.rfl⟩, HF2.out.trans ((Fr.alloc none' _ _).trans (Fr.alloc none' _ _) (fun _ _ x => x)) (fun _ _ x => x), fun k hk => .inr (by omega)⟩
    · rw [mk_len (Nat.zero_le _), e]; exact hp_new _ _
    · rw [mk_zero]; exact (Fr.alloc none' _ _).hd id (hp_new _ _))
  clear hmk hmk2 d0 d1 d2 d3 c0 c1 c2 c3 HU HF2
  generalize ((W2.alloc (.cells (flat false (List.replicate n zf)).toArray 48)).alloc (.cells #[.int .i64 ev, .int .i64 ti, .int .i64 up, .int .i64 dn, .int .i64 0, .slice (some ⟨W2.heap.size, 0, none⟩) n n] 46)).drew = W3 at T1 ⊢
  generalize W2.heap.size = g at *
  obtain ⟨b, Hb⟩ : ∃ b, Hid (g + 1 = b) := ⟨_, hide rfl⟩
  rw [Hb.out] at T1 ⊢
  obtain ⟨_, y, -, -⟩ := T1.out
  obtain ⟨k0, k1, k2, k3, k4, k5, -⟩ := y.1.cB
  rw [mk_len (Nat.zero_le _)] at k5
  clear y
  go_wp2_with fail
  clear k0 k1 k2 k3 k4 k5
  go_loopw [41] (fun v wr => ∃ (i : Nat), i ≤ n ∧ v = .int .i64 (i : Int) ∧ Hid (Does (Hs ev ti up dn 0 (mk now n i) b g) none' w wr)) (fun v _ => n - (intOf v).toNat)
  case atStart => exact ⟨0, Nat.zero_le _, rfl, T1⟩
  case round =>
    clear T1
    obtain ⟨i, hi, rfl, HI⟩ := hrel
    by_cases hlt : i < n
    · obtain ⟨P, x1, x2, x3⟩ := HI.out
      obtain ⟨k0, k1, k2, k3, k4, k5, -⟩ := x1.1.cB
      obtain ⟨g0, g1, g2, g3, g4⟩ := x1.1.cG (mk_at hlt)
      have f0 := x1.1.fz (i * 5)
      have f1 := x1.1.fz (i * 5 + 1)
      have f2 := x1.1.fz (i * 5 + 2)
      have f3 := x1.1.fz (i * 5 + 3)
      have f4 := x1.1.fz (i * 5 + 4)
      rw [mk_len hi] at k5
      have HS : Hid (Does (Hs ev ti up dn 0 (mk now n (i + 1)) b g) none' w (((((wr.setCell ⟨g, i * 5, none⟩ (.bool true)).setCell ⟨g, i * 5 + 1, none⟩ (.bool false)).setCell ⟨g, i * 5 + 2, none⟩ (.int .i64 now)).setCell ⟨g, i * 5 + 3, none⟩ (.int .i64 0)).setCell ⟨g, i * 5 + 4, none⟩ (.int .i64 0))) := hide (by
        have hlen := mk_len (now := now) hi
        have y0 := HsT.set2 (j := 0) (r' := ⟨true, false, 0, 0, 0⟩) (v := .bool true) x1 (mk_at hlt) (by omega) rfl
        have s0 : ((mk now n i).set i ⟨true, false, 0, 0, 0⟩)[i]? = some ⟨true, false, 0, 0, 0⟩ := by rw [List.getElem?_set_self (by omega)]
        have y1 := y0.trans (fun _ y => HsT.set2 (j := 1) (r' := ⟨true, false, 0, 0, 0⟩) (v := .bool false) y s0 (by omega) rfl)
        rw [List.set_set] at y1
        have y2 := y1.trans (fun _ y => HsT.set2 (j := 2) (r' := zn now) (v := .int .i64 now) y s0 (by omega) rfl)
        rw [List.set_set] at y2
        have s2 : ((mk now n i).set i (zn now))[i]? = some (zn now) := by rw [List.getElem?_set_self (by omega)]
        have y3 := y2.trans (fun _ y => HsT.set2 (j := 3) (r' := zn now) (v := .int .i64 0) y s2 (by omega) rfl)
        rw [List.set_set] at y3
        have y4 := y3.trans (fun _ y => HsT.set2 (j := 4) (r' := zn now) (v := .int .i64 0) y s2 (by omega) rfl)
        rw [List.set_set, mk_set hlt] at y4
        exact Does.more x2 x3 y4)
      clear x1 x2 x3 HI
      go_wp2_with fail
      go_roundw
      case rel => exact ⟨i + 1, by omega, by go_num, HS⟩
      case measure => simp [intOf]; omega
    · obtain rfl : i = n := by omega
      go_wp2_with fail
      go_ret2
      rw [mk_all] at HI
      exact ⟨b, g, rfl, HI.out⟩
end Go.Proofs.Ytlnckiknikaifaa
