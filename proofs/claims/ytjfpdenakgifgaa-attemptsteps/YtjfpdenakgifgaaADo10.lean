/- The document's Begin; equal rows of acts and of numbers. -/
import Derived.Test.YtjfpdenakgifgaaADo7
namespace Go.Proofs.Ytjfpdenakgifgaa
open Go.ChangeShapes Go.WideShapes Go.ChangeAt Go.RowKit
set_option linter.unusedVariables false

theorem ract_cells {w : World} {v : Value} {L : List Ac} (h : Rw 66 3 w v L.length (fl encA L)) {i : Nat} {a : Ac} (hr : L[i]? = some a) : ∃ g off cap, v = .slice (some ⟨g, off, none⟩) L.length cap ∧ L.length ≤ cap ∧ cap ≤ 9223372036854775807 ∧ w.cell? ⟨g, off + i * 3, none⟩ = some (.int .i64 a.k) ∧ w.cell? ⟨g, off + i * 3 + 1, none⟩ = some (.int .i64 a.c) ∧ w.cell? ⟨g, off + i * 3 + 2, none⟩ = some (.int .i64 a.w) := by
  have hi : i < L.length := (List.getElem?_eq_some_iff.1 hr).1
  obtain ⟨g, off, cap, e, h1, h2, h3, h4, h5⟩ := h.at hi
  have k : ∀ j, j < 3 → w.cell? ⟨g, off + i * 3 + j, none⟩ = some (.int .i64 ((encA a).getD j 0)) := fun j hj => by
    rw [h3 j hj, fl_at encA_len L i j a hr hj]
  exact ⟨g, off, cap, e, h1, h2, k 0 (by omega), k 1 (by omega), k 2 (by omega)⟩
set_option maxHeartbeats 1000000 in
set_option maxRecDepth 100000 in
theorem acts_same (w : World) (v u : Value) (A : List Ac) (h : Rw 53 3 w v A.length (fl encA A)) (k : Rw 66 3 w u A.length (fl encA A)) (hl : A.length ≤ 1000) :
    Calls Try.prog 11 #[v, u] w fun e w' => e = .returned (.bool true) ∧ Fr none' w w' := by
  obtain ⟨a, ca, rfl, ha0, ha1⟩ := h.shape
  obtain ⟨b, cb, rfl, hb0, hb1⟩ := k.shape
  have HH := hide h
  have HK := hide k
  clear h k
  obtain ⟨n, Hn⟩ : ∃ n, Hid (A.length = n) := ⟨_, hide rfl⟩
  rw [Hn.out] at hl ha0 hb0 HH HK ⊢
  go_enter Try.func11, Try.ntmps11
  go_wp2_with fail
  go_loopw [13] (fun u wr => ∃ k : Nat, k ≤ n ∧ u = .int .i64 (k : Int) ∧ Hid (Fr none' w wr)) (fun u _ => n - (intOf u).toNat)
  case atStart => exact ⟨0, Nat.zero_le _, rfl, hide (Fr.refl _ _)⟩
  case round =>
    obtain ⟨k, hk, rfl, HF⟩ := hrel
    by_cases hlt : k < n
    · have hkl : k < A.length := by rw [Hn.out]; exact hlt
      have hr := get_ok hkl
      have HV : Hid (Rw 53 3 wr (.slice a n ca) A.length (fl encA A)) := hide (by rw [Hn.out]; exact HH.out.fr HF.out (fun _ _ x => x))
      have HU : Hid (Rw 66 3 wr (.slice b n cb) A.length (fl encA A)) := hide (by rw [Hn.out]; exact HK.out.fr HF.out (fun _ _ x => x))
      obtain ⟨g1, o1, c1, e, -, -, x0, x1, x2⟩ := act_cells HV.out hr
      simp only [Value.slice.injEq] at e
      obtain ⟨rfl, -, rfl⟩ := e
      obtain ⟨g2, o2, c2, e, -, -, y0, y1, y2⟩ := ract_cells HU.out hr
      simp only [Value.slice.injEq] at e
      obtain ⟨rfl, -, rfl⟩ := e
      generalize A[k] = r at *
      have hli : (k : Int) < (n : Int) := by omega
      clear hr hkl HV HU
      obtain ⟨rk, rc, rw'⟩ := r
      dsimp only at x0 x1 x2 y0 y1 y2
      go_wp2_with fail
      go_quiet (fail)
      have HF2 := hide (HF.out.trans (Fr.drewN none' _ nq) (fun _ _ x => x))
      clear x0 x1 x2 y0 y1 y2
      generalize wr.drewN nq = w2 at *
      go_wp2_with fail
      go_roundw
      case rel => exact ⟨k + 1, by omega, by go_num, HF2⟩
      case measure => simp [intOf]; omega
    · obtain rfl : k = n := by omega
      go_wp2_with fail
      go_ret
      exact ⟨rfl, HF.out⟩
set_option maxHeartbeats 1000000 in
set_option maxRecDepth 100000 in
theorem ints_same (w : World) (v u : Value) (A : List Int) (h : Rw 3 1 w v A.length A) (k : Rw 3 1 w u A.length A) (hl : A.length ≤ 1000) :
    Calls Try.prog 20 #[v, u] w fun e w' => e = .returned (.bool true) ∧ Fr none' w w' := by
  obtain ⟨a, ca, rfl, ha0, ha1⟩ := h.shape
  obtain ⟨b, cb, rfl, hb0, hb1⟩ := k.shape
  have HH := hide h
  have HK := hide k
  clear h k
  obtain ⟨n, Hn⟩ : ∃ n, Hid (A.length = n) := ⟨_, hide rfl⟩
  rw [Hn.out] at hl ha0 hb0 HH HK ⊢
  go_enter Try.func20, Try.ntmps20
  go_wp2_with fail
  go_loopw [13] (fun u wr => ∃ k : Nat, k ≤ n ∧ u = .int .i64 (k : Int) ∧ Hid (Fr none' w wr)) (fun u _ => n - (intOf u).toNat)
  case atStart => exact ⟨0, Nat.zero_le _, rfl, hide (Fr.refl _ _)⟩
  case round =>
    obtain ⟨k, hk, rfl, HF⟩ := hrel
    by_cases hlt : k < n
    · have hkl : k < A.length := by rw [Hn.out]; exact hlt
      have hr := get_ok hkl
      have HV : Hid (Rw 3 1 wr (.slice a n ca) A.length A) := hide (by rw [Hn.out]; exact HH.out.fr HF.out (fun _ _ x => x))
      have HU : Hid (Rw 3 1 wr (.slice b n cb) A.length A) := hide (by rw [Hn.out]; exact HK.out.fr HF.out (fun _ _ x => x))
      obtain ⟨g1, o1, c1, e, -, -, x0⟩ := int_cell HV.out hr
      simp only [Value.slice.injEq] at e
      obtain ⟨rfl, -, rfl⟩ := e
      obtain ⟨g2, o2, c2, e, -, -, y0⟩ := int_cell HU.out hr
      simp only [Value.slice.injEq] at e
      obtain ⟨rfl, -, rfl⟩ := e
      generalize A[k] = r at *
      have hli : (k : Int) < (n : Int) := by omega
      clear hr hkl HV HU
      go_wp2_with fail
      go_quiet (fail)
      have HF2 := hide (HF.out.trans (Fr.drewN none' _ nq) (fun _ _ x => x))
      clear x0 y0
      generalize wr.drewN nq = w2 at *
      go_wp2_with fail
      go_roundw
      case rel => exact ⟨k + 1, by omega, by go_num, HF2⟩
      case measure => simp [intOf]; omega
    · obtain rfl : k = n := by omega
      go_wp2_with fail
      go_ret
      exact ⟨rfl, HF.out⟩
theorem DY.bg0 {re hg ha pt tt now : Int} {sf : Bool} {A : List Ac} {b : Nat} {w : World} {P : Nat → Prop} (h : DY ⟨now, hg, false⟩ { pz re hg ha pt tt sf now with la := now } (0 + 1) false ([] ++ [0]) ([] ++ [now]) A b w P) : DX ⟨now, hg, false⟩ (p1 re hg ha pt tt sf now) (numP (p1 re hg ha pt tt sf now)) A (p1 re hg ha pt tt sf now).R.isEmpty b w P := by
  obtain ⟨vi, vb, vo, h⟩ := h
  exact ⟨vi, vb, vo, h⟩
theorem DT.new (w : World) (re hg ha pt tt : Int) (sf : Bool) (now : Int) : Does (DT ⟨now, hg, false⟩ (pz re hg ha pt tt sf now) 0 false [] [] [] w.heap.size (.slice none 0 0) (.slice none 0 0) (.slice none 0 0)) none' w (w.alloc (.cells #[.int .i64 re, .int .i64 hg, .int .i64 ha, .int .i64 pt, .int .i64 tt, .bool sf, .int .i64 now, .int .i64 0, .int .i64 0, .int .i64 0, .int .i64 0, .slice none 0 0, .slice none 0 0, .bool false, .bool false, .slice none 0 0] 47 (0, 0))) :=
  ⟨_, DT.mkd (hp_new _ _) (Rw.nil _ _ _) (Rw.nil _ _ _) (Rw.nil _ _ _) (by simp [Value.ownBlock]) (by simp [Value.ownBlock]) (by simp [Value.ownBlock]) (by simp [Value.ownBlock]) (by simp [Value.ownBlock]) (by simp [Value.ownBlock]), Fr.alloc _ _ _, fun k hk => .inr (by rcases hk with x | x | x | x; omega; all_goals simp [Value.ownBlock] at x)⟩
end Go.Proofs.Ytjfpdenakgifgaa
