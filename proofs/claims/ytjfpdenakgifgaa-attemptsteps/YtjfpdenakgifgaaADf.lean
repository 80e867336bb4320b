/- An attempt runs no longer: slices.DeleteFunc of a row of structs of two numbers. -/
import Derived.Test.YtjfpdenakgifgaaARd
import Derived.Lib.SliceRun
namespace Go.Proofs.Ytjfpdenakgifgaa
open Go.ChangeShapes Go.WideShapes Go.ChangeAt Go.RowKit
set_option linter.unusedVariables false

set_option maxHeartbeats 1000000 in
theorem isN_any (w : World) (r : Rn) (g : Nat) (c : Int) (hg : w.cell? ⟨g, 0, none⟩ = some (.int .i64 c)) : Calls Try.prog 65 #[rnV r, .pointer (some ⟨g, 0, none⟩)] w fun e w' => e = .returned (.bool (isN c r)) ∧ Fr none' w w' := by
  have hl := World.block_lt_of_cell? w _ hg
  have HF := hide (Fr.alloc none' w (rnO r))
  have HB : Hid ((w.alloc (rnO r)).heap[w.heap.size]? = some (rnO r)) := hide (hp_new _ _)
  have hg2 : (w.alloc (rnO r)).cell? ⟨g, 0, none⟩ = some (.int .i64 c) := (World.cell?_of_block (HF.out.block g hl id)).trans hg
  obtain ⟨R, HR⟩ : ∃ R, Hid (isN c r = R) := ⟨_, hide rfl⟩
  rw [HR.out]
  unfold isN at HR
  unfold rnV
  unfold rnO at HF HB hg2
  clear hg hl
  go_enter Try.func65, Try.ntmps65
  go_upto_region 1 with fail
  obtain ⟨r0, r1⟩ := rn_cells HB.out
  clear HB
  generalize w.alloc _ = w1 at *
  generalize w.heap.size = gg at *
  go_wp2_with fail
  go_ret
  exact ⟨ret_bool HR.out, HF.out⟩
set_option maxHeartbeats 2000000 in
theorem indexN_any (w : World) (v : Value) (L : List Rn) (g : Nat) (c : Int) (h : Rw 72 2 w v L.length (fl encN L)) (hg : w.cell? ⟨g, 0, none⟩ = some (.int .i64 c)) (hl : L.length ≤ 64) :
    Calls Try.prog 67 #[v, .func (.func 65) #[] #[.pointer (some ⟨g, 0, none⟩)]] w fun e w' => e = .returned (.int .i64 (idx (isN c) L)) ∧ Fr none' w w' := by
  obtain ⟨a, cap, rfl, hc0, hc1⟩ := h.shape
  have HH := hide h
  have HG := hide hg
  clear h hg
  obtain ⟨n, Hn⟩ : ∃ n, Hid (L.length = n) := ⟨_, hide rfl⟩
  rw [Hn.out] at hl hc0 ⊢
  go_enter Try.func67, Try.ntmps67
  go_wp2_with fail
  go_loopw [8] (fun u wr => ∃ k : Nat, k ≤ n ∧ u = .int .i64 (k : Int) ∧ Hid (noq (isN c) L k) ∧ Hid (Fr none' w wr)) (fun u _ => n - (intOf u).toNat)
  case atStart => exact ⟨0, Nat.zero_le _, rfl, hide (fun _ _ h => by omega), hide (Fr.refl _ _)⟩
  case round =>
    obtain ⟨k, hk, rfl, HN, HF⟩ := hrel
    by_cases hlt : k < n
    · have hkl : k < L.length := by rw [Hn.out]; exact hlt
      have hr := get_ok hkl
      have HNX := hide (fun hq => noq_next HN.out hr hq)
      have HHT := hide (fun hq => idx_hit HN.out hr hq)
      obtain ⟨g1, off, cap1, e, -, -, r0, r1, -, -⟩ := run_cells (HH.out.fr HF.out (fun _ _ x => x)) hr
      simp only [Value.slice.injEq] at e
      obtain ⟨rfl, -, rfl⟩ := e
      generalize L[k] = r at *
      have hgx : wr.cell? ⟨g, 0, none⟩ = some (.int .i64 c) := (World.cell?_of_block (HF.out.block g (World.block_lt_of_cell? w _ HG.out) id)).trans HG.out
      have HC := hide (isN_any wr r g c hgx)
      unfold rnV at HC
      clear hr hgx
      go_wp2_with fail
      refine HC.out.mono ?_
      rintro e w2 ⟨rfl, F2⟩
      have HF2 := hide (HF.out.trans F2 (fun _ _ x => x))
      clear F2 HF r0 r1 HC
      cases hb : isN c r with
      | true =>
        have HI := hide (HHT.out hb)
        clear hb
        go_wp2_with fail
        go_ret
        exact ⟨ret_int HI.out.symm, HF2.out⟩
      | false =>
        have HN2 := hide (HNX.out hb)
        clear hb
        go_wp2_with fail
        go_roundw
        case rel => exact ⟨k + 1, by omega, by go_num, HN2, HF2⟩
        case measure => simp [intOf]; omega
    · have HI := hide (idx_none (q := isN c) (L := L) (by rw [Hn.out, ← show k = n by omega]; exact HN.out))
      go_wp2_with fail
      go_ret
      exact ⟨ret_int HI.out.symm, HF.out⟩
/-- The row while it is gone through: those kept, then those not looked at. -/
def Mid (id : Int) (g off cap : Nat) (L : List Rn) (j : Nat) (w : World) : Prop := ∃ cur, w.heap[g]? = some (.cells cur 72 (0, 0)) ∧ off + cap * 2 ≤ cur.size ∧ (∀ t r, (noId id (L.take j))[t]? = some r → cur[off + t * 2]? = some (.int .i64 r.id) ∧ cur[off + t * 2 + 1]? = some (.int .i64 r.si)) ∧ ∀ t r, j ≤ t → L[t]? = some r → cur[off + t * 2]? = some (.int .i64 r.id) ∧ cur[off + t * 2 + 1]? = some (.int .i64 r.si)
theorem Mid.fr {id : Int} {g off cap : Nat} {L : List Rn} {j : Nat} {w w' : World} {Q : Nat → Prop} (h : Mid id g off cap L j w) (F : Fr Q w w') (d : ¬ Q g) : Mid id g off cap L j w' := by
  obtain ⟨cur, h1, h2⟩ := h
  exact ⟨cur, F.hd d h1, h2⟩
theorem noId_take (id : Int) {L : List Rn} {j : Nat} {r : Rn} (h : L[j]? = some r) : noId id (L.take (j + 1)) = noId id (L.take j) ++ if isN id r = true then [] else [r] := by
  unfold noId
  rw [take_next h, List.filter_append]
  congr 1
  cases e : isN id r <;> simp [e]
theorem noId_tl (id : Int) (L : List Rn) (j : Nat) : (noId id (L.take j)).length ≤ j := by
  have := noId_len id (L.take j)
  rw [List.length_take] at this
  omega
theorem Mid.skip {id : Int} {g off cap : Nat} {L : List Rn} {j : Nat} {w : World} {r : Rn} (h : Mid id g off cap L j w) (hr : L[j]? = some r) (hn : isN id r = true) : Mid id g off cap L (j + 1) w := by
  obtain ⟨cur, h1, h2, h3, h4⟩ := h
  refine ⟨cur, h1, h2, ?_, fun t s ht hs => h4 t s (by omega) hs⟩
  rw [noId_take id hr, hn, if_pos rfl, List.append_nil]
  exact h3
theorem Mid.keep {id : Int} {g off cap n : Nat} {L : List Rn} {j : Nat} {w : World} {r : Rn} (h : Mid id g off cap L j w) (hL : L.length = n) (hc : n ≤ cap) (hr : L[j]? = some r) (hn : isN id r = false) : Mid id g off cap L (j + 1) ((w.setCell ⟨g, off + (noId id (L.take j)).length * 2, none⟩ (.int .i64 r.id)).setCell ⟨g, off + (noId id (L.take j)).length * 2 + 1, none⟩ (.int .i64 r.si)) := by
  obtain ⟨cur, h1, h2, h3, h4⟩ := h
  have hi := noId_tl id L j
  have hj : j < n := by rw [← hL]; exact (List.getElem?_eq_some_iff.1 hr).1
  generalize hI : (noId id (L.take j)).length = i at *
  refine ⟨_, hp_set (hp_set h1 _ _) _ _, by simpa using h2, ?_, fun t s ht hs => ?_⟩
  · rw [noId_take id hr, hn, if_neg (by decide)]
    intro t s hs
    by_cases e : t < i
    · rw [List.getElem?_append_left (by omega)] at hs
      obtain ⟨a, b⟩ := h3 t s hs
      rw [Array.getElem?_setIfInBounds_ne (by omega), Array.getElem?_setIfInBounds_ne (by omega), Array.getElem?_setIfInBounds_ne (by omega), Array.getElem?_setIfInBounds_ne (by omega)]
      exact ⟨a, b⟩
    · rw [List.getElem?_append_right (by omega), hI] at hs
      have ht : t = i := by
        have := (List.getElem?_eq_some_iff.1 hs).1
        simp at this
        omega
      subst ht
      simp at hs
      subst hs
      have : off + t * 2 + 1 < cur.size := by omega
      rw [Array.getElem?_setIfInBounds_ne (by omega), Array.getElem?_setIfInBounds_self_of_lt (by omega), Array.getElem?_setIfInBounds_self_of_lt (by simp; omega)]
      exact ⟨rfl, rfl⟩
  · obtain ⟨a, b⟩ := h4 t s (by omega) hs
    rw [Array.getElem?_setIfInBounds_ne (by omega), Array.getElem?_setIfInBounds_ne (by omega), Array.getElem?_setIfInBounds_ne (by omega), Array.getElem?_setIfInBounds_ne (by omega)]
    exact ⟨a, b⟩
theorem Mid.of {id : Int} {w : World} {g off n cap : Nat} {L : List Rn} (h : Rw 72 2 w (.slice (some ⟨g, off, none⟩) n cap) n (fl encN L)) (hL : L.length = n) {j : Nat} (hj : ∀ t r, t < j → L[t]? = some r → isN id r = false) : Mid id g off cap L j w := by
  have hh : Rw 72 2 w (.slice (some ⟨g, off, none⟩) n cap) L.length (fl encN L) := by rw [hL]; exact h
  rcases h.2 with ⟨e, _⟩ | ⟨g', off', cap', cur, e, hg, h1, h2, h3, h4⟩
  · simp at e
  · simp only [Value.slice.injEq, Option.some.injEq, Addr.mk.injEq, and_true, true_and] at e
    obtain ⟨⟨rfl, rfl⟩, rfl⟩ := e
    have all : ∀ t r, L[t]? = some r → cur[off + t * 2]? = some (.int .i64 r.id) ∧ cur[off + t * 2 + 1]? = some (.int .i64 r.si) := fun t r hr => by
      have ht : t < n := by rw [← hL]; exact (List.getElem?_eq_some_iff.1 hr).1
      have e0 := fl_at encN_len L t 0 r hr (by omega)
      have e1 := fl_at encN_len L t 1 r hr (by omega)
      have k0 := h4 (t * 2) (by omega)
      have k1 := h4 (t * 2 + 1) (by omega)
      rw [Nat.add_zero] at e0
      rw [e0] at k0
      rw [e1] at k1
      exact ⟨k0, k1⟩
    refine ⟨cur, hg, h3, fun t r hr => ?_, fun t r _ hr => all t r hr⟩
    have e : noId id (L.take j) = L.take j := by
      unfold noId
      rw [List.filter_eq_self]
      intro x hx
      obtain ⟨t, ht, rfl⟩ := List.getElem_of_mem hx
      rw [List.length_take] at ht
      rw [List.getElem_take]
      have := hj t L[t] (by omega) (List.getElem?_eq_getElem (by omega))
      rw [this]; rfl
    rw [e, List.getElem?_take] at hr
    split at hr
    · exact all t r hr
    · simp at hr
theorem fl_two (L : List Rn) : ∀ i, i < L.length * 2 → (fl encN L).getD i 0 = if i % 2 = 0 then ((L.getD (i / 2) ⟨0, 0⟩).id) else ((L.getD (i / 2) ⟨0, 0⟩).si) := fun i hi => by
  have hr : L[i / 2]? = some L[i / 2] := List.getElem?_eq_getElem (by omega)
  have hd : L.getD (i / 2) ⟨0, 0⟩ = L[i / 2] := by rw [List.getD_eq_getElem?_getD, hr]; rfl
  rw [hd]
  have := fl_at encN_len L (i / 2) (i % 2) _ hr (by omega)
  rw [show i / 2 * 2 + i % 2 = i by omega] at this
  rw [this]
  rcases Nat.mod_two_eq_zero_or_one i with e | e <;> rw [e] <;> rfl
/-- At its end, with what is behind those kept cleared. -/
theorem Mid.fin {id : Int} {w : World} {g off n cap : Nat} {L : List Rn} (h : Mid id g off cap L n w) (hL : L.length = n) (hc : n ≤ cap) (hc1 : cap ≤ 9223372036854775807) (zs : List Value) (hz : zs.length = (n - (noId id L).length) * 2) :
    Rw 72 2 (w.setCells g (off + (noId id L).length * 2) zs) (.slice (some ⟨g, off, none⟩) (noId id L).length cap) (noId id L).length (fl encN (noId id L)) := by
  obtain ⟨cur, h1, h2, h3, h4⟩ := h
  rw [← hL, List.take_length] at h3
  have hi := noId_len id L
  refine ⟨fl_len encN_len _, ?_⟩
  obtain ⟨c1, q1, q2, q3, q4⟩ := hp_sets g zs (off + (noId id L).length * 2) w cur 72 h1
  refine .inr ⟨g, off, cap, c1, rfl, q1, by omega, hc1, by omega, fun k hk => ?_⟩
  rw [q3 _ (by omega), fl_two _ k hk]
  have hr : (noId id L)[k / 2]? = some (noId id L)[k / 2] := List.getElem?_eq_getElem (by omega)
  have hd : (noId id L).getD (k / 2) ⟨0, 0⟩ = (noId id L)[k / 2] := by rw [List.getD_eq_getElem?_getD, hr]; rfl
  obtain ⟨a, b⟩ := h3 (k / 2) _ hr
  rw [hd]
  by_cases e : k % 2 = 0
  · rw [if_pos e, show off + k = off + k / 2 * 2 by omega]; exact a
  · rw [if_neg e, show off + k = off + k / 2 * 2 + 1 by omega]; exact b
theorem zc_run (k : Nat) (hk : k < 10) : (Builtin.zeroCells #[.int .i64 0, .int .i64 0] k).toList = ints (List.replicate (k * 2) 0) := by
  refine List.ext_getElem (by simp [Builtin.zeroCells, ints]) (fun i h1 h2 => ?_)
  simp only [Builtin.zeroCells, Array.toList_map, Array.toList_range, List.getElem_map, List.getElem_range, ints, List.getElem_replicate]
  have : i % 2 = 0 ∨ i % 2 = 1 := by omega
  rcases this with e | e <;> simp [e]
theorem run_clear_k (w : World) (ty : TypeId) (k : Nat) (hk : k < 10) (h0 : 0 < k) (b o c : Nat)
    (hc : ∀ j, j < k * 2 → (w.cell? ⟨b, o + j, none⟩).isSome = true) (hf : ∀ j, j < k * 2 → w.frozen? ⟨b, o + j, none⟩ = false) :
    (Builtin.clear_ #[60] ty #[.slice (some ⟨b, o, none⟩) k c]).run Try.prog w = .ok (.tuple #[]) (w.setCells b o (ints (List.replicate (k * 2) 0))) := by
  obtain ⟨k, rfl⟩ : ∃ m, k = m + 1 := ⟨k - 1, by omega⟩
  have hz := zc_run (k + 1) hk
  have hv : ∀ w, (zeroValue 72).run Try.prog w = .ok (.agg #[.int .i64 0, .int .i64 0]) w := fun w => by kernel_rfl
  have hl : (ints (List.replicate ((k + 1) * 2) 0)).length = (k + 1) * 2 := by simp [ints]
  have h1 := ints_one (List.replicate ((k + 1) * 2) 0)
  generalize ints (List.replicate ((k + 1) * 2) 0) = zs at *
  have hst := run_storeCells_cells (P := Try.prog) b o zs 0 w (by rw [hl]; simpa using hc) (by rw [hl]; simpa using hf) h1
  simp only [Nat.add_zero] at hst
  have hz2 : (Builtin.zeroCells (Value.cells (.agg #[.int .i64 0, .int .i64 0])) (k + 1)).toList = zs := by
    rw [← hz]; rfl
  simp [Builtin.clear_, run_underlying Try.underlying60, hv, hz2, hst]
set_option maxHeartbeats 4000000 in
set_option maxRecDepth 100000 in
theorem delN_any (w : World) (v : Value) (L : List Rn) (q : Nat) (c : Int) (h : Rw 72 2 w v L.length (fl encN L)) (hq : w.cell? ⟨q, 0, none⟩ = some (.int .i64 c)) (hqv : v.ownBlock ≠ some q) (hl : L.length ≤ 9) :
    Calls Try.prog 64 #[v, .func (.func 65) #[] #[.pointer (some ⟨q, 0, none⟩)]] w fun e w' => ∃ v', e = .returned v' ∧ Rw 72 2 w' v' (noId c L).length (fl encN (noId c L)) ∧ Fr (fun k => v.ownBlock = some k) w w' ∧ ∀ k, v'.ownBlock = some k → v.ownBlock = some k := by
  have HI := hide (indexN_any w v L q c h hq (by omega))
  have HH := hide h
  rcases idx_cases (isN c) L with ⟨hi, hno⟩ | ⟨i, r, hi, hr, hri, hfst⟩
  · rw [hi] at HI
    have e : noId c L = L := by
      unfold noId
      rw [List.filter_eq_self]
      intro x hx
      rw [hno x hx]; rfl
    rw [e]
    obtain ⟨a, cap, rfl, hc0, hc1⟩ := h.shape
    clear h hi hno e
    generalize hn : L.length = n at *
    go_enter Try.func64, Try.ntmps64
    go_wp2_with fail
    refine HI.out.mono ?_
    rintro e w1 ⟨rfl, F1⟩
    have HS := hide (HH.out.fr F1 (fun _ _ x => x))
    have HF := hide F1
    clear F1 HI HH
    go_wp2_with fail
    go_ret
    exact ⟨_, rfl, HS.out, HF.out.mono (fun _ _ x => x.elim), fun k hk => hk⟩
  · rw [hi] at HI
    have hil : i < L.length := (List.getElem?_eq_some_iff.1 hr).1
    obtain ⟨g, off, cap, rfl, hc0, hc1, -, -, -, hgl⟩ := run_cells h hr
    obtain ⟨n, Hn⟩ : ∃ n, Hid (L.length = n) := ⟨_, hide rfl⟩
    rw [Hn.out] at h hil hl hc0 HI
    have hgq : ¬ q = g := fun e => hqv (by rw [e]; rfl)
    have M0 : Hid (Mid c g off cap L (i + 1) w) := hide ((Mid.of h Hn.out hfst).skip hr hri)
    have hL0 : (noId c (L.take (i + 1))).length = i := by
      rw [noId_take c hr, hri, if_pos rfl, List.append_nil]
      unfold noId
      rw [List.filter_eq_self.2 (fun x hx => ?_), List.length_take]
      · rw [Hn.out]; omega
      · obtain ⟨t, ht, rfl⟩ := List.getElem_of_mem hx
        rw [List.length_take] at ht
        rw [List.getElem_take]
        have := hfst t L[t] (by omega) (List.getElem?_eq_getElem (by omega))
        rw [this]; rfl
    have HQ := hide hq
    clear h hi hr hri hfst hq hqv HH
    rw [Hn.out]
    have hi1 : ((i : Int) == -1) = false := by simp
    have hi2 : ¬ (i : Int) = -1 := by omega
    go_enter Try.func64, Try.ntmps64
    go_wp2_with fail
    refine HI.out.mono ?_
    rintro e w1 ⟨rfl, F1⟩
    have M1 := hide (M0.out.fr F1 id)
    have HF1 := hide (F1.mono (T := fun k => k = g) (fun _ _ x => x.elim))
    clear F1 HI M0
    go_wp2_with fail
    go_loopw [5, 6] (fun u v wr => ∃ j t : Nat, t < j ∧ j ≤ n ∧ v = .int .i64 (j : Int) ∧ u = .int .i64 (t : Int) ∧ Hid ((noId c (L.take j)).length = t) ∧ Hid (Mid c g off cap L j wr) ∧ Hid (Fr (fun k => k = g) w wr)) (fun _ v _ => n - (intOf v).toNat)
    case atStart => exact ⟨i + 1, i, by omega, by omega, by go_num, rfl, hide hL0, M1, HF1⟩
    case round =>
      clear M1 HF1 hL0 hi1 hi2 hil
      obtain ⟨j, t, htj, hj, rfl, rfl, HT, HM, HF⟩ := hrel
      by_cases hlt : j < n
      · have hjl : j < L.length := by rw [Hn.out]; exact hlt
        have hr := get_ok hjl
        have HR := hide hr
        have HNT := hide (noId_take c hr)
        obtain ⟨cur, m1, m2, m3, m4⟩ := HM.out
        obtain ⟨a0, a1⟩ := m4 j _ (Nat.le_refl _) hr
        have r0 : wr.cell? ⟨g, off + j * 2, none⟩ = some (.int .i64 L[j].id) := by rw [cell_of m1]; exact a0
        have r1 : wr.cell? ⟨g, off + j * 2 + 1, none⟩ = some (.int .i64 L[j].si) := by rw [cell_of m1]; exact a1
        clear m1 m2 m3 m4 a0 a1
        generalize L[j] = r at *
        clear hr hjl
        have FA := hide (Fr.alloc none' wr (rnO r))
        have HB : Hid ((wr.alloc (rnO r)).heap[wr.heap.size]? = some (rnO r)) := hide (hp_new _ _)
        have M2 := hide (HM.out.fr FA.out id)
        have F2 := hide (HF.out.trans (FA.out.mono (T := fun k => k = g) (fun _ _ x => x.elim)) (fun _ _ x => x))
        unfold rnO at FA HB M2 F2
        go_upto_region 8 with fail
        clear r0 r1 HM HF FA
        generalize wr.alloc _ = w2 at *
        generalize wr.heap.size = gg at *
        obtain ⟨r0, r1⟩ := rn_cells HB.out
        have hqx : w2.cell? ⟨q, 0, none⟩ = some (.int .i64 c) := (World.cell?_of_block (F2.out.block q (World.block_lt_of_cell? w _ HQ.out) hgq)).trans HQ.out
        have HC := hide (isN_any w2 r q c hqx)
        unfold rnV at HC
        clear hqx
        cases hb : isN c r with
        | true =>
          rw [hb] at HC
          go_wp2_with fail
          refine HC.out.mono ?_
          rintro e w3 ⟨rfl, F3⟩
          have M3 := hide ((M2.out.fr F3 id).skip HR.out hb)
          have F4 := hide (F2.out.trans (F3.mono (T := fun k => k = g) (fun _ _ x => x.elim)) (fun _ _ x => x))
          have HT2 : Hid ((noId c (L.take (j + 1))).length = t) := hide (by rw [HNT.out, hb, if_pos rfl, List.append_nil]; exact HT.out)
          clear F3 M2 F2 HC r0 r1 HB hb
          go_wp2_with fail
          go_roundw
          case rel => exact ⟨j + 1, t, by omega, by omega, by go_num, rfl, HT2, M3, F4⟩
          case measure => simp [intOf]; omega
        | false =>
          rw [hb] at HC
          go_wp2_with fail
          refine HC.out.mono ?_
          rintro e w3 ⟨rfl, F3⟩
          have M3 := hide (M2.out.fr F3 id)
          have F4 := hide (F2.out.trans (F3.mono (T := fun k => k = g) (fun _ _ x => x.elim)) (fun _ _ x => x))
          have HB3 := hide (F3.hd id HB.out)
          clear F3 M2 F2 HC r0 r1 HB
          have r0 : w3.cell? ⟨gg, 0, none⟩ = some (.int .i64 r.id) := cell_of HB3.out 0
          have r1 : w3.cell? ⟨gg, 1, none⟩ = some (.int .i64 r.si) := cell_of HB3.out 1
          have M5 : Hid (Mid c g off cap L (j + 1) ((w3.setCell ⟨g, off + t * 2, none⟩ (.int .i64 r.id)).setCell ⟨g, off + t * 2 + 1, none⟩ (.int .i64 r.si))) := hide (by
            have := M3.out.keep Hn.out hc0 HR.out hb
            rw [HT.out] at this
            exact this)
          have F5 := hide ((F4.out.trans (Fr.set w3 g (off + t * 2) (.int .i64 r.id)) (fun _ _ x => x)).trans (Fr.set _ g (off + t * 2 + 1) (.int .i64 r.si)) (fun _ _ x => x))
          have HT2 : Hid ((noId c (L.take (j + 1))).length = t + 1) := hide (by rw [HNT.out, hb, if_neg (by decide), List.length_append, HT.out]; rfl)
          obtain ⟨cur, m1, m2, -, -⟩ := M3.out
          have z0 : w3.frozen? ⟨g, off + t * 2, none⟩ = false := frozen_of m1 _
          have z1 : w3.frozen? ⟨g, off + t * 2 + 1, none⟩ = false := frozen_of m1 _
          have o0 : ∃ u, w3.cell? ⟨g, off + t * 2, none⟩ = some u := ⟨_, by rw [cell_of m1]; exact Array.getElem?_eq_getElem (by omega)⟩
          have o1 : ∃ u, w3.cell? ⟨g, off + t * 2 + 1, none⟩ = some u := ⟨_, by rw [cell_of m1]; exact Array.getElem?_eq_getElem (by omega)⟩
          obtain ⟨u0, o0⟩ := o0
          obtain ⟨u1, o1⟩ := o1
          have htn : t < n := by omega
          have htc : t < cap := by omega
          clear m1 m2 M3 F4 HB3 hb
          go_upto_region 10 with fail
          clear r0 r1 z0 z1 o0 o1
          generalize World.setCell (World.setCell _ _ _) _ _ = w4 at *
          go_wp2_with fail
          go_roundw
          case rel => exact ⟨j + 1, t + 1, by omega, by omega, by go_num, by go_num, HT2, M5, F5⟩
          case measure => simp [intOf]; omega
      · obtain rfl : j = n := by omega
        have etk : L.take j = L := by rw [← Hn.out]; exact List.take_length
        rw [etk] at HT
        obtain ⟨cur, m1, m2, -, -⟩ := HM.out
        obtain ⟨zs, Hz⟩ : ∃ zs, Hid (ints (List.replicate ((j - t) * 2) 0) = zs) := ⟨_, hide rfl⟩
        have HCL : ∀ ty, (Builtin.clear_ #[60] ty #[.slice (some ⟨g, off + t * 2, none⟩) (j - t) (cap - t)]).run Try.prog wr = .ok (.tuple #[]) (wr.setCells g (off + t * 2) zs) := fun ty => by rw [← Hz.out]; exact run_clear_k wr ty (j - t) (by omega) (by omega) g (off + t * 2) (cap - t) (fun y hy => by rw [cell_of m1, Array.getElem?_eq_getElem (by omega)]; rfl) (fun y _ => frozen_of m1 _)
        have HD : Hid (Rw 72 2 (wr.setCells g (off + t * 2) zs) (.slice (some ⟨g, off, none⟩) t cap) t (fl encN (noId c L))) := hide (by
          have := HM.out.fin Hn.out hc0 hc1 zs (by rw [HT.out, ← Hz.out]; simp [ints])
          rw [HT.out] at this
          exact this)
        have F6 := hide (HF.out.trans (Fr.sets g zs (off + t * 2) wr) (fun _ _ x => x))
        have htc : t ≤ cap := by omega
        have htc2 : ¬ cap = t := by omega
        have htn : t ≤ j := by omega
        clear m1 m2 HM HF
        go_wp2_with fail
        go_ret
        refine ⟨_, rfl, ?_, F6.out.mono (fun k _ e => by rw [e]; rfl), fun k hk => hk⟩
        rw [HT.out]
        exact HD.out
set_option maxHeartbeats 2000000 in
theorem forget_any (p : Rq) (b : Nat) (w : World) (P : Nat → Prop) (id : Int) (h : QX p b w P) (h9 : p.R.length ≤ 9) :
    Calls Try.prog 59 #[.pointer (some ⟨b, 0, none⟩), .int .i64 id] w fun e w' => e = .returned (.tuple #[]) ∧ Does (QX (fgP p id) b) P w w' := by
  obtain ⟨vr, h⟩ := h
  have T0 : Hid (Does (Two (Blk w.heap.size (.cells #[.int .i64 id] 3 (0, 0))) (QT p b vr)) P w (w.alloc (.cells #[.int .i64 id] 3))) := hide ((Does.refl h).new _)
  clear h
  go_enter Try.func59, Try.ntmps59
  go_upto_region 1 with fail
  generalize w.alloc _ = w1 at *
  generalize w.heap.size = q at *
  obtain ⟨_, ⟨P1, P2, hb, hq, hd, he⟩, -, -⟩ := T0.out
  obtain ⟨c0, c1, c2, c3, c4, c5, c6, c7, c8, c9, c10, c11⟩ := hq.v.c
  obtain ⟨h1, h2, h3, h4⟩ := hq.parts
  have HD := hide (delN_any w1 vr p.R q id h2 (cell_of hb.1 0) (fun e => hd q ((hb.2 q).2 rfl) ((h4 q).2 (.inr e))) h9)
  obtain ⟨a, cap, rfl, hc0, hc1⟩ := h2.shape
  have T1 := hide T0.out.snd
  clear T0 hb hq hd he h1 h2 h3 h4 P1 P2
  generalize hn : p.R.length = n at *
  go_wp2_with fail
  refine HD.out.mono ?_
  rintro e w2 ⟨v', rfl, s, F, o⟩
  obtain ⟨a2, cap2, rfl, -, -⟩ := s.shape
  have T2 : Hid (Does (QX (fgP p id) b) P w (w2.setCell ⟨b, 11, none⟩ (.slice a2 (noId id p.R).length cap2))) := hide (T1.out.trans (fun _ y => (y.setR (L' := noId id p.R) s F (fun k hk => .inl (o k hk))).qx))
  obtain ⟨_, y⟩ := T1.out.of
  obtain ⟨h1, h2, h3, h4⟩ := y.parts
  have k11 : w2.cell? ⟨b, 11, none⟩ = some (.slice a n cap) := cell_of (F.hd h3 h1) 11
  have z11 : w2.frozen? ⟨b, 11, none⟩ = false := frozen_of (F.hd h3 h1) 11
  clear s F o y h1 h2 h3 h4 T1 HD c0 c1 c2 c3 c4 c5 c6 c7 c8 c9 c10 c11
  generalize (noId id p.R).length = m at *
  go_wp2_with fail
  go_end0
  exact ⟨rfl, T2.out⟩
end Go.Proofs.Ytjfpdenakgifgaa
