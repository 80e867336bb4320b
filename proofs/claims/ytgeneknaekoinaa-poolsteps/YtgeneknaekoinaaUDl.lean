/- slices.Delete of one member: of a row of structs, of a row of numbers. -/
import Derived.Test.YtgeneknaekoinaaUFd
import Derived.Lib.SliceRun
namespace Go.Proofs.Ytgeneknaekoinaa
open Go.ChangeShapes Go.WideShapes Go.ChangeAt Go.RowKit
set_option linter.unusedVariables false

theorem run_clear_1 (w : World) (t T ty : TypeId) (z : Value) (m : Nat) (ht : Try.prog.underlying t = some (.slice T)) (hv : ∀ w, (zeroValue T).run Try.prog w = .ok z w) (hz : (Builtin.zeroCells z.cells 1).toList = ints (List.replicate m 0)) (b o c : Nat)
    (hc : ∀ j, j < m → (w.cell? ⟨b, o + j, none⟩).isSome = true) (hf : ∀ j, j < m → w.frozen? ⟨b, o + j, none⟩ = false) :
    (Builtin.clear_ #[t] ty #[.slice (some ⟨b, o, none⟩) 1 c]).run Try.prog w = .ok (.tuple #[]) (w.setCells b o (ints (List.replicate m 0))) := by
  have hl : (ints (List.replicate m 0)).length = m := by simp [ints]
  have h1 := ints_one (List.replicate m 0)
  generalize ints (List.replicate m 0) = zs at *
  have hst := run_storeCells_cells (P := Try.prog) b o zs 0 w (by rw [hl]; simpa using hc) (by rw [hl]; simpa using hf) h1
  simp only [Nat.add_zero] at hst
  simp [Builtin.clear_, run_underlying ht, hv, hz, hst]
/-- What is left where one was taken out, and its last place cleared. -/
theorem del_pure {T : TypeId} {m : Nat} {w : World} {g off n cap i : Nat} {xs : List Int} (h : Rw T m w (.slice (some ⟨g, off, none⟩) n cap) n xs) (hi : i < n) (z : List Value) (hz : z.length = m) :
    Rw T m ((w.setCells g (off + i * m) (ints (xs.drop ((i + 1) * m)))).setCells g (off + (n - 1) * m) z) (.slice (some ⟨g, off, none⟩) (n - 1) cap) (n - 1) (xs.take (i * m) ++ xs.drop ((i + 1) * m)) := by
  have hxl := h.1
  have e1 : (i + 1) * m = i * m + m := by rw [Nat.add_mul]; omega
  have e2 : (n - 1) * m + m = n * m := by rw [← Nat.succ_mul]; congr 1; omega
  have e3 : (i + 1) * m ≤ n * m := Nat.mul_le_mul_right _ hi
  have hlen : (xs.take (i * m) ++ xs.drop ((i + 1) * m)).length = (n - 1) * m := by
    rw [List.length_append, List.length_take, List.length_drop, hxl]; omega
  refine ⟨hlen, ?_⟩
  rcases h.2 with ⟨e, _⟩ | ⟨g', off', cap', cur, e, hg, h1, h2, h3, h4⟩
  · simp at e
  · simp only [Value.slice.injEq, Option.some.injEq, Addr.mk.injEq, and_true, true_and] at e
    obtain ⟨⟨rfl, rfl⟩, rfl⟩ := e
    have hcm : n * m ≤ cap * m := Nat.mul_le_mul_right _ h1
    have hdl : (ints (xs.drop ((i + 1) * m))).length = n * m - (i + 1) * m := by simp [ints, hxl]
    obtain ⟨c1, q1, q2, q3, q4⟩ := hp_sets g (ints (xs.drop ((i + 1) * m))) (off + i * m) w cur T hg
    obtain ⟨c2, s1, s2, s3, s4⟩ := hp_sets g z (off + (n - 1) * m) _ c1 T q1
    refine .inr ⟨g, off, cap, c2, rfl, s1, by omega, h2, by omega, fun k hk => ?_⟩
    rw [s3 _ (by omega)]
    by_cases hki : k < i * m
    · rw [q3 _ (by omega), h4 k (by omega)]
      rw [List.getD_eq_getElem?_getD, List.getD_eq_getElem?_getD, List.getElem?_append_left (by rw [List.length_take, hxl]; omega), List.getElem?_take, if_pos hki]
    · rw [show off + k = off + i * m + (k - i * m) by omega, q4 _ (by omega) (by omega)]
      rw [List.getD_eq_getElem?_getD, List.getElem?_append_right (by rw [List.length_take, hxl]; omega), List.length_take, hxl, Nat.min_eq_left (by omega)]
      have hlt : (i + 1) * m + (k - i * m) < xs.length := by omega
      simp only [ints, List.getElem?_map, List.getElem?_drop]
      rw [List.getElem?_eq_getElem hlt]
      rfl

set_option maxHeartbeats 4000000 in
set_option maxRecDepth 1000000 in
theorem delR_any (w : World) (v : Value) (n i j : Nat) (xs : List Int) (h : Rw 80 6 w v n xs) (hi : i < n) (hj : j = i + 1) (hn : n ≤ 64) :
    Calls Try.prog 61 #[v, .int .i64 (i : Int), .int .i64 (j : Int)] w fun e w' => ∃ v', e = .returned v' ∧ Rw 80 6 w' v' (n - 1) (xs.take (i * 6) ++ xs.drop ((i + 1) * 6)) ∧ Fr (fun k => v.ownBlock = some k) w w' ∧ v'.ownBlock = v.ownBlock := by
  obtain ⟨i0, z0, hi0, hz0, hzs, hz1, hb1⟩ := (inf_of (t := 61) (T := 80) (m := 6) (bts := 48) Try.underlying61 (by kernel_rfl)).i
  have hxl := h.1
  have hH := hide h
  rcases h.2 with ⟨_, e0⟩ | ⟨g, off, cap, cur, rfl, hg, h1, h2, h3, h4⟩
  · omega
  have hnm : n * 6 ≤ cap * 6 := Nat.mul_le_mul_right _ h1
  obtain ⟨news, hnews⟩ : ∃ news, news = ints (xs.drop (j * 6)) := ⟨_, rfl⟩
  have hlen : news.length = (n - j) * 6 := by rw [hnews, ints, List.length_map, List.length_drop, hxl]; omega
  obtain ⟨A, hA, hsrc⟩ : ∃ A : Addr, (if cap = j then some (⟨g, off, none⟩ : Addr) else some ⟨g, off + j * 6, none⟩) = some A ∧ Hid (∀ t u, news[t]? = some u → w.drew.cell? (A.add t) = some u) := by
    by_cases hcj : cap = j
    · refine ⟨⟨g, off, none⟩, by simp [hcj], hide fun t u hu => ?_⟩
      have h0 : news.length = 0 := by rw [hlen]; omega
      rw [List.length_eq_zero_iff.1 h0] at hu
      simp at hu
    · refine ⟨⟨g, off + j * 6, none⟩, by simp [hcj], hide fun t u hu => ?_⟩
      have ht : t < (n - j) * 6 := by
        have := (List.getElem?_eq_some_iff.1 hu).1
        rwa [hlen] at this
      rw [hnews] at hu
      simp only [ints, List.getElem?_map, List.getElem?_drop, Option.map_eq_some_iff] at hu
      obtain ⟨y, hy, rfl⟩ := hu
      have hg2 : w.drew.heap[g]? = some (.cells cur 80 (0, 0)) := hg
      rw [addr_plus, cell_of hg2, show off + j * 6 + t = off + (j * 6 + t) by omega, h4 _ (by omega), List.getD_eq_getElem?_getD, hy]
      rfl
  have s1 : Hid (news.length = (n - j) * 6) := hide hlen
  have s2 : Hid (∀ u ∈ news, u.oneCell' = true) := hide (by rw [hnews]; exact ints_one _)
  have s3 : Hid (∀ t, t < news.length → (w.drew.cell? ⟨g, off + i * 6 + t, none⟩).isSome = true ∧ w.drew.frozen? ⟨g, off + i * 6 + t, none⟩ = false) := hide fun t ht => by
    have hg2 : w.drew.heap[g]? = some (.cells cur 80 (0, 0)) := hg
    rw [hlen] at ht
    refine ⟨?_, frozen_of hg2 _⟩
    rw [cell_of hg2]
    have : off + i * 6 + t < cur.size := by omega
    rw [Array.getElem?_eq_getElem this]; rfl
  obtain ⟨W1, hW1⟩ : ∃ W1, W1 = w.drew.setCells g (off + i * 6) news := ⟨_, rfl⟩
  obtain ⟨c1, q1, q2, q3, q4⟩ := hp_sets g news (off + i * 6) w.drew cur 80 hg
  rw [← hW1] at q1
  have hcl : ∀ ty, (Builtin.clear_ #[61] ty #[.slice (some ⟨g, off + (i + (n - j)) * 6, none⟩) (n - (i + (n - j))) (cap - (i + (n - j)))]).run Try.prog W1 = .ok (.tuple #[]) (W1.setCells g (off + (i + (n - j)) * 6) (ints (List.replicate 6 0))) := fun ty => by
    rw [show n - (i + (n - j)) = 1 by omega]
    refine run_clear_1 W1 61 80 ty (.agg #[.int .i64 0, .int .i64 0, .int .i64 0, .int .i64 0, .int .i64 0, .int .i64 0]) 6 Try.underlying61 (fun w => by kernel_rfl) (by kernel_rfl) g _ _ (fun t ht => ?_) (fun t ht => frozen_of q1 _)
    rw [cell_of q1]
    have : off + (i + (n - j)) * 6 + t < c1.size := by omega
    simp [this]
  have HD : Hid (Rw 80 6 (W1.setCells g (off + (i + (n - j)) * 6) (ints (List.replicate 6 0))) (.slice (some ⟨g, off, none⟩) (i + (n - j)) cap) (n - 1) (xs.take (i * 6) ++ xs.drop ((i + 1) * 6))) := hide (by
    have := del_pure (hH.out.fr (Fr.drew none' w) (fun _ _ x => x)) hi (ints (List.replicate 6 0)) (by simp [ints])
    rw [hW1, hnews, hj, show i + (n - (i + 1)) = n - 1 by omega]
    exact this)
  have HF : Hid (Fr (fun k => k = g) w (W1.setCells g (off + (i + (n - j)) * 6) (ints (List.replicate 6 0)))) := hide (by
    rw [hW1]
    exact (((Fr.drew (fun k => k = g) w).trans (Fr.sets g _ _ _) (fun _ _ x => x)).trans (Fr.sets g _ _ _) (fun _ _ x => x)))
  have hW : Hid (W1 = w.drew.setCells g (off + i * 6) news) := hide hW1
  have hic : i ≤ cap := by omega
  have hjc : j ≤ cap := by omega
  have hjn : j ≤ n := by omega
  have hij : i ≤ j := by omega
  have hne : ¬ (i : Int) = (j : Int) := by omega
  have hne2 : ¬ i = j := by omega
  have hnn : n < 4611686018427387904 := by omega
  have hcc : ¬ cap = i + (n - j) := by omega
  have hle : i + (n - j) ≤ n := by omega
  clear hW1 hnews hlen q1 q2 q3 q4 hg h3 h4 hH h hj hi hxl hnm
  go_enter Try.func61, Try.ntmps61
  go_wp2_with fail
  go_region_law (refine step_append_room rfl (.tmp 22) (.tmp 25) 61 rfl 80 i0 6 Try.underlying61 hi0 hz1 g off i cap (by simp [Act.eval, Act.put]) A (n - j) (cap - j) news (by simp [Act.eval, Act.put]) s1.out hsrc.out s2.out (by omega) s3.out ?_; rw [← hW.out])
  go_wp2
  go_ret
  exact ⟨_, rfl, HD.out, HF.out.mono (fun k _ e => by subst e; rfl), rfl⟩

set_option maxHeartbeats 4000000 in
set_option maxRecDepth 1000000 in
theorem delI_any (w : World) (v : Value) (n i j : Nat) (xs : List Int) (h : Rw 3 1 w v n xs) (hi : i < n) (hj : j = i + 1) (hn : n ≤ 64) :
    Calls Try.prog 40 #[v, .int .i64 (i : Int), .int .i64 (j : Int)] w fun e w' => ∃ v', e = .returned v' ∧ Rw 3 1 w' v' (n - 1) (xs.take (i * 1) ++ xs.drop ((i + 1) * 1)) ∧ Fr (fun k => v.ownBlock = some k) w w' ∧ v'.ownBlock = v.ownBlock := by
  obtain ⟨i0, z0, hi0, hz0, hzs, hz1, hb1⟩ := (inf_of (t := 41) (T := 3) (m := 1) (bts := 8) Try.underlying41 (by kernel_rfl)).i
  have hxl := h.1
  have hH := hide h
  rcases h.2 with ⟨_, e0⟩ | ⟨g, off, cap, cur, rfl, hg, h1, h2, h3, h4⟩
  · omega
  have hnm : n * 1 ≤ cap * 1 := Nat.mul_le_mul_right _ h1
  obtain ⟨news, hnews⟩ : ∃ news, news = ints (xs.drop (j * 1)) := ⟨_, rfl⟩
  have hlen : news.length = (n - j) * 1 := by rw [hnews, ints, List.length_map, List.length_drop, hxl]; omega
  obtain ⟨A, hA, hsrc⟩ : ∃ A : Addr, (if cap = j then some (⟨g, off, none⟩ : Addr) else some ⟨g, off + j, none⟩) = some A ∧ Hid (∀ t u, news[t]? = some u → w.drew.cell? (A.add t) = some u) := by
    by_cases hcj : cap = j
    · refine ⟨⟨g, off, none⟩, by simp [hcj], hide fun t u hu => ?_⟩
      have h0 : news.length = 0 := by rw [hlen]; omega
      rw [List.length_eq_zero_iff.1 h0] at hu
      simp at hu
    · refine ⟨⟨g, off + j, none⟩, by simp [hcj], hide fun t u hu => ?_⟩
      have ht : t < (n - j) * 1 := by
        have := (List.getElem?_eq_some_iff.1 hu).1
        rwa [hlen] at this
      rw [hnews] at hu
      simp only [ints, List.getElem?_map, List.getElem?_drop, Option.map_eq_some_iff] at hu
      obtain ⟨y, hy, rfl⟩ := hu
      have hg2 : w.drew.heap[g]? = some (.cells cur 3 (0, 0)) := hg
      rw [addr_plus, cell_of hg2, show off + j + t = off + (j * 1 + t) by omega, h4 _ (by omega), List.getD_eq_getElem?_getD, hy]
      rfl
  have s1 : Hid (news.length = (n - j) * 1) := hide hlen
  have s2 : Hid (∀ u ∈ news, u.oneCell' = true) := hide (by rw [hnews]; exact ints_one _)
  have s3 : Hid (∀ t, t < news.length → (w.drew.cell? ⟨g, off + i * 1 + t, none⟩).isSome = true ∧ w.drew.frozen? ⟨g, off + i * 1 + t, none⟩ = false) := hide fun t ht => by
    have hg2 : w.drew.heap[g]? = some (.cells cur 3 (0, 0)) := hg
    rw [hlen] at ht
    refine ⟨?_, frozen_of hg2 _⟩
    rw [cell_of hg2]
    have : off + i * 1 + t < cur.size := by omega
    rw [Array.getElem?_eq_getElem this]; rfl
  obtain ⟨W1, hW1⟩ : ∃ W1, W1 = w.drew.setCells g (off + i * 1) news := ⟨_, rfl⟩
  obtain ⟨c1, q1, q2, q3, q4⟩ := hp_sets g news (off + i * 1) w.drew cur 3 hg
  rw [← hW1] at q1
  have hcl : ∀ ty, (Builtin.clear_ #[41] ty #[.slice (some ⟨g, off + (i + (n - j)), none⟩) (n - (i + (n - j))) (cap - (i + (n - j)))]).run Try.prog W1 = .ok (.tuple #[]) (W1.setCells g (off + (i + (n - j))) (ints (List.replicate 1 0))) := fun ty => by
    rw [show n - (i + (n - j)) = 1 by omega]
    refine run_clear_1 W1 41 3 ty (.int .i64 0) 1 Try.underlying41 (fun w => by kernel_rfl) (by kernel_rfl) g _ _ (fun t ht => ?_) (fun t ht => frozen_of q1 _)
    rw [cell_of q1]
    have : off + (i + (n - j)) + t < c1.size := by omega
    simp [this]
  have HD : Hid (Rw 3 1 (W1.setCells g (off + (i + (n - j))) (ints (List.replicate 1 0))) (.slice (some ⟨g, off, none⟩) (i + (n - j)) cap) (n - 1) (xs.take (i * 1) ++ xs.drop ((i + 1) * 1))) := hide (by
    have := del_pure (hH.out.fr (Fr.drew none' w) (fun _ _ x => x)) hi (ints (List.replicate 1 0)) (by simp [ints])
    simp only [Nat.mul_one] at this ⊢; simp only [Nat.mul_one] at hW1 hnews; rw [hW1, hnews, hj, show i + (n - (i + 1)) = n - 1 by omega]
    exact this)
  have HF : Hid (Fr (fun k => k = g) w (W1.setCells g (off + (i + (n - j))) (ints (List.replicate 1 0)))) := hide (by
    rw [hW1]
    exact (((Fr.drew (fun k => k = g) w).trans (Fr.sets g _ _ _) (fun _ _ x => x)).trans (Fr.sets g _ _ _) (fun _ _ x => x)))
  have hW : Hid (W1 = w.drew.setCells g (off + i * 1) news) := hide hW1
  have hic : i ≤ cap := by omega
  have hjc : j ≤ cap := by omega
  have hjn : j ≤ n := by omega
  have hij : i ≤ j := by omega
  have hne : ¬ (i : Int) = (j : Int) := by omega
  have hne2 : ¬ i = j := by omega
  have hnn : n < 4611686018427387904 := by omega
  have hcc : ¬ cap = i + (n - j) := by omega
  have hle : i + (n - j) ≤ n := by omega
  clear hW1 hnews hlen q1 q2 q3 q4 hg h3 h4 hH h hj hi hxl hnm
  go_enter Try.func40, Try.ntmps40
  go_wp2_with fail
  go_region_law (refine step_append_room rfl (.tmp 22) (.tmp 25) 41 rfl 3 i0 1 Try.underlying41 hi0 hz1 g off i cap (by simp [Act.eval, Act.put]) A (n - j) (cap - j) news (by simp [Act.eval, Act.put]) s1.out hsrc.out s2.out (by omega) s3.out ?_; rw [← hW.out])
  go_wp2
  go_ret
  exact ⟨_, rfl, HD.out, HF.out.mono (fun k _ e => by subst e; rfl), rfl⟩
end Go.Proofs.Ytgeneknaekoinaa
