/- The document's set of hosts: made, counted, brought to a moment. -/
import Derived.Test.YtobkgkcemdocnaaOTot
namespace Go.Proofs.Ytobkgkcemdocnaa
open Go.ChangeShapes Go.WideShapes Go.ChangeAt Go.RowKit

/-- The document's set. -/
abbrev Rs (fl bs lo sh la : Int) (L : List HR) (b g : Nat) : Thing := HsT 57 63 true fl bs lo sh la L b g
abbrev Rp (fl bs lo sh la : Int) (L : List HR) (b g : Nat) (w : World) : Prop := HsB 57 63 true fl bs lo sh la L b g w
abbrev rwO (r : HR) : Obj := .cells #[.bool (!r.h), .bool r.e, .int .i64 r.u, .int .i64 r.f, .int .i64 r.t] 63 (0, 0)

set_option maxRecDepth 100000 in
theorem made_flat2 : ∀ n, n ≤ 16 → madeCells #[.bool false, .bool false, .int .i64 0, .int .i64 0, .int .i64 0] (n * 5) = (flat true (List.replicate n (z0 true))).toArray := fun n hn => match n, hn with
  | 0, _ => by kernel_rfl
  | 1, _ => by kernel_rfl
  | 2, _ => by kernel_rfl
  | 3, _ => by kernel_rfl
  | 4, _ => by kernel_rfl
  | 5, _ => by kernel_rfl
  | 6, _ => by kernel_rfl
  | 7, _ => by kernel_rfl
  | 8, _ => by kernel_rfl
  | 9, _ => by kernel_rfl
  | 10, _ => by kernel_rfl
  | 11, _ => by kernel_rfl
  | 12, _ => by kernel_rfl
  | 13, _ => by kernel_rfl
  | 14, _ => by kernel_rfl
  | 15, _ => by kernel_rfl
  | 16, _ => by kernel_rfl
  | k + 17, h => absurd h (by omega)
theorem make_rows2 (w : World) (n : Nat) (hn : n ≤ 16) : (Instr.makeSlice 55 (.int .i64 (n : Int)) (.int .i64 (n : Int))).run Try.prog w = .ok (.slice (some ⟨w.heap.size, 0, none⟩) n n) (w.alloc (.cells (flat true (List.replicate n (z0 true))).toArray 63)) := by
  obtain ⟨i, hi, hz, hs, hb⟩ := infoRow 63 (.agg #[.bool false, .bool false, .int .i64 0, .int .i64 0, .int .i64 0]) (by kernel_rfl)
  have hr := run_makeSlice w 55 63 i _ Try.underlying55 hi hz .i64 .i64 (n : Int) (n : Int) (by omega) (by omega) (by rw [hs]; simp; omega) (by rw [hb]; omega) (by omega)
  rw [hr, hs]
  simp only [Int.toNat_natCast]
  rw [← made_flat2 n hn]
  rfl
set_option maxHeartbeats 1000000 in
set_option maxRecDepth 100000 in
theorem rnew_any (w : World) (n : Nat) (fl bs lo sh : Int) (h : okN n fl bs lo sh) :
    Calls Try.prog 9 #[.int .i64 (n : Int), .int .i64 fl, .int .i64 bs, .int .i64 lo, .int .i64 sh] w fun e w' => e = .returned (.tuple #[.pointer (some ⟨w.heap.size + 1, 0, none⟩), .int .i64 0]) ∧ Does (Rs fl bs lo sh 0 (List.replicate n (z0 true)) (w.heap.size + 1) w.heap.size) none' w w' := by
  obtain ⟨⟨n0, n1⟩, ⟨a0, a1⟩, ⟨b0, b1⟩, ⟨c0, c1⟩, d0, d1⟩ := h
  have n2 : n ≤ 16 := by omega
  have n3 : n < 4611686018427387904 := by omega
  have hmk := make_rows2 w n n2
  have T1 : Hid (Does (Rs fl bs lo sh 0 (List.replicate n (z0 true)) (w.heap.size + 1) w.heap.size) none' w ((w.alloc (.cells (flat true (List.replicate n (z0 true))).toArray 63)).alloc (.cells #[.int .i64 fl, .int .i64 bs, .int .i64 lo, .int .i64 sh, .int .i64 0, .slice (some ⟨w.heap.size, 0, none⟩) n n] 57))) := hide (by
    have e : w.heap.size + 1 = (w.alloc (.cells (flat true (List.replicate n (z0 true))).toArray 63)).heap.size := by simp
    refine ⟨fun k => k = w.heap.size + 1 ∨ k = w.heap.size, ⟨⟨?_, ?_, by omega⟩, fun _ => Iff.rfl⟩, (Fr.alloc _ _ _).trans (Fr.alloc none' _ _) (fun _ _ x => x), fun k hk => .inr (by omega)⟩
    · rw [List.length_replicate, e]; exact hp_new _ _
    · exact (Fr.alloc none' _ _).hd id (hp_new _ _))
  go_enter Try.func9, Try.ntmps9
  go_wp2_with fail
  go_ret2
  exact ⟨rfl, T1.out⟩
theorem rnew_bad (w : World) (n fl bs lo sh : Int) (h : ¬ okN n fl bs lo sh) :
    Calls Try.prog 9 #[.int .i64 n, .int .i64 fl, .int .i64 bs, .int .i64 lo, .int .i64 sh] w fun e w' => e = .returned (.tuple #[.pointer none, .int .i64 1]) ∧ w = w' := by
  by_cases q0 : n < 1
  · clear h; go_enter Try.func9, Try.ntmps9
    go_wp2
    go_ret2
    exact ⟨rfl, rfl⟩
  by_cases q1 : 16 < n
  · clear h; go_enter Try.func9, Try.ntmps9
    go_wp2
    go_ret2
    exact ⟨rfl, rfl⟩
  by_cases q2 : fl < 0
  · clear h; go_enter Try.func9, Try.ntmps9
    go_wp2
    go_ret2
    exact ⟨rfl, rfl⟩
  by_cases q3 : 1000 < fl
  · clear h; go_enter Try.func9, Try.ntmps9
    go_wp2
    go_ret2
    exact ⟨rfl, rfl⟩
  by_cases q4 : bs < 1
  · clear h; go_enter Try.func9, Try.ntmps9
    go_wp2
    go_ret2
    exact ⟨rfl, rfl⟩
  by_cases q5 : 1000000 < bs
  · clear h; go_enter Try.func9, Try.ntmps9
    go_wp2
    go_ret2
    exact ⟨rfl, rfl⟩
  by_cases q6 : lo < bs
  · clear h; go_enter Try.func9, Try.ntmps9
    go_wp2
    go_ret2
    exact ⟨rfl, rfl⟩
  by_cases q7 : 1000000 < lo
  · clear h; go_enter Try.func9, Try.ntmps9
    go_wp2
    go_ret2
    exact ⟨rfl, rfl⟩
  by_cases q8 : sh < 0
  · clear h; go_enter Try.func9, Try.ntmps9
    go_wp2
    go_ret2
    exact ⟨rfl, rfl⟩
  have q9 : 100 < sh := by
    have : ¬ sh ≤ 100 := fun x => h ⟨⟨by omega, by omega⟩, ⟨by omega, by omega⟩, ⟨by omega, by omega⟩, ⟨by omega, by omega⟩, by omega, x⟩
    omega
  clear h
  go_enter Try.func9, Try.ntmps9
  go_wp2
  go_ret2
  exact ⟨rfl, rfl⟩
theorem HsB.row {T R : TypeId} {n : Bool} {fl bs lo sh la : Int} {L : List HR} {b g : Nat} {w : World} (h : HsB T R n fl bs lo sh la L b g w) {i : Nat} {r : HR} (hr : L[i]? = some r) : w.cell? ⟨g, i * 5, none⟩ = some (.bool (n ^^ r.h)) ∧ w.cell? ⟨g, i * 5 + 1, none⟩ = some (.bool r.e) ∧ w.cell? ⟨g, i * 5 + 2, none⟩ = some (.int .i64 r.u) ∧ w.cell? ⟨g, i * 5 + 3, none⟩ = some (.int .i64 r.f) ∧ w.cell? ⟨g, i * 5 + 4, none⟩ = some (.int .i64 r.t) := h.cG hr

set_option maxHeartbeats 1000000 in
theorem rejected_any (w : World) (fl bs lo sh la : Int) (L : List HR) (b g : Nat) (h : Rp fl bs lo sh la L b g w) (hl : L.length ≤ 16) :
    Calls Try.prog 15 #[.pointer (some ⟨b, 0, none⟩)] w fun e w' => e = .returned (.int .i64 (nE L : Int)) ∧ Fr none' w w' := by
  obtain ⟨c0, c1, c2, c3, c4, c5, f4⟩ := h.cB
  have HH := hide h
  clear h
  obtain ⟨n, Hn⟩ : ∃ n, Hid (L.length = n) := ⟨_, hide rfl⟩
  rw [Hn.out] at hl c5
  go_enter Try.func15, Try.ntmps15
  go_wp2_with fail
  clear c0 c1 c2 c3 c4 c5 f4
  go_loopw [3, 11] (fun u v wr => ∃ (i m : Nat), i ≤ n ∧ m ≤ i ∧ v = .int .i64 (i : Int) ∧ u = .int .i64 (m : Int) ∧ Hid (nE (L.take i) = m) ∧ Hid (Fr none' w wr)) (fun _ v _ => n - (intOf v).toNat)
  case atStart => exact ⟨0, 0, Nat.zero_le _, Nat.zero_le _, rfl, rfl, hide rfl, hide (Fr.refl _ _)⟩
  case round =>
    obtain ⟨i, m, hi, hmi, rfl, rfl, HM, HF⟩ := hrel
    by_cases hlt : i < n
    · have hli : i < L.length := by rw [Hn.out]; exact hlt
      obtain ⟨g0, g1, g2, g3, g4⟩ := (HH.out.fr HF.out).cG (get_take hli)
      have HT := hide (nE_take hli)
      rw [HM.out] at HT
      generalize L[i] = r at *
      obtain ⟨rh, re, ru, rf, rt⟩ := r
      simp only [Bool.true_xor] at *
      go_upto_region 5 with fail
      have F2 : Hid (Fr none' w (wr.alloc (rwO ⟨rh, re, ru, rf, rt⟩))) := hide (HF.out.trans (Fr.alloc _ _ _) (fun _ _ x => x))
      have A1 : (wr.alloc (rwO ⟨rh, re, ru, rf, rt⟩)).heap[wr.heap.size]? = some (rwO ⟨rh, re, ru, rf, rt⟩) := hp_new _ _
      clear g0 g1 g2 g3 g4 HF
      generalize wr.alloc (rwO ⟨rh, re, ru, rf, rt⟩) = W4 at *
      generalize wr.heap.size = ew at *
      have k1 : W4.cell? ⟨ew, 1, none⟩ = some (.bool re) := cell_of A1 1
      clear A1
      cases re with
      | true =>
        go_wp2_with fail
        go_roundw
        case rel => exact ⟨i + 1, m + 1, by omega, by omega, by go_num, by go_num, HT, F2⟩
        case measure => simp [intOf]; omega
      | false =>
        go_wp2_with fail
        go_roundw
        case rel => exact ⟨i + 1, m, by omega, by omega, by go_num, rfl, HT, F2⟩
        case measure => simp [intOf]; omega
    · obtain rfl : i = n := by omega
      have e : L.take i = L := by rw [← Hn.out]; exact List.take_length
      rw [e] at HM
      go_wp2_with fail
      go_ret
      exact ⟨ret_int (by rw [HM.out]), HF.out⟩

set_option maxHeartbeats 1000000 in
theorem runtil_h (w : World) (fl bs lo sh la host : Int) (L : List HR) (b g : Nat) (h : Rp fl bs lo sh la L b g w) :
    Calls Try.prog 13 #[.pointer (some ⟨b, 0, none⟩), .int .i64 host] w fun e w' => e = .returned (.tuple #[.int .i64 (untN L host), .bool (untB L host)]) ∧ w = w' := by
  obtain ⟨c0, c1, c2, c3, c4, c5, f4⟩ := h.cB
  cases hh : hasB L.length host with
  | false =>
    rw [(has_no hh).1, (has_no hh).2]
    unfold hasB at hh
    rw [decide_eq_false_iff_not] at hh
    clear h
    generalize L.length = n at *
    by_cases h0 : host < 0
    · clear hh
      go_enter Try.func13, Try.ntmps13
      go_wp2_with fail
      go_ret2
      exact ⟨rfl, rfl⟩
    · have h1 : (n : Int) ≤ host := by omega
      clear hh
      go_enter Try.func13, Try.ntmps13
      go_wp2_with fail
      go_ret2
      exact ⟨rfl, rfl⟩
  | true =>
    obtain ⟨i, hi, rfl, e2⟩ := has_ex hh
    have e3 : untN L (i : Int) = (if L[i].e then L[i].u else 0) := by unfold untN; rw [if_pos (by omega), e2]
    have e4 : untB L (i : Int) = L[i].e := by unfold untB; rw [if_pos (by omega), e2]
    rw [e3, e4]
    obtain ⟨g0, g1, g2, g3, g4⟩ := h.cG (get_take hi)
    clear hh h e2 e3 e4
    generalize L[i] = r at *
    obtain ⟨n, Hn⟩ : ∃ n, Hid (L.length = n) := ⟨_, hide rfl⟩
    rw [Hn.out] at hi c5
    have hi2 : (i : Int) < (n : Int) := by omega
    cases he : r.e with
    | true =>
      rw [he] at g1
      rw [if_pos rfl]
      go_enter Try.func13, Try.ntmps13
      go_wp2_with fail
      go_ret2
      exact ⟨rfl, rfl⟩
    | false =>
      rw [he] at g1
      rw [if_neg (by simp)]
      go_enter Try.func13, Try.ntmps13
      go_wp2_with fail
      go_ret2
      exact ⟨rfl, rfl⟩
end Go.Proofs.Ytobkgkcemdocnaa
