/- Where a connection stands, where somebody's does, who waits; how many there are. -/
import Derived.Test.YtgeneknaekoinaaUPl
namespace Go.Proofs.Ytgeneknaekoinaa
open Go.ChangeShapes Go.WideShapes Go.ChangeAt Go.RowKit
set_option linter.unusedVariables false

/-- The first place at which something is so; -1: there is none. -/
def idx {α : Type} (q : α → Bool) (L : List α) : Int := match L.findIdx? q with | some i => (i : Int) | none => -1
def noq {α : Type} (q : α → Bool) (L : List α) (k : Nat) : Prop := ∀ i r, i < k → L[i]? = some r → q r = false
theorem noq_next {α : Type} {q : α → Bool} {L : List α} {k : Nat} {r : α} (h : noq q L k) (hr : L[k]? = some r) (hq : q r = false) : noq q L (k + 1) := fun i s hi hs => by
  by_cases e : i = k
  · subst e; rw [hr] at hs; cases hs; exact hq
  · exact h i s (by omega) hs
theorem idx_hit {α : Type} {q : α → Bool} {L : List α} {k : Nat} {r : α} (h : noq q L k) (hr : L[k]? = some r) (hq : q r = true) : idx q L = (k : Int) := by
  have : L.findIdx? q = some k := by
    rw [List.findIdx?_eq_some_iff_getElem]
    obtain ⟨hk, e⟩ := List.getElem?_eq_some_iff.1 hr
    refine ⟨hk, by rw [e]; exact hq, fun j hj => ?_⟩
    have := h j _ hj (List.getElem?_eq_getElem (by omega))
    simp [this]
  unfold idx
  rw [this]
theorem idx_none {α : Type} {q : α → Bool} {L : List α} (h : noq q L L.length) : idx q L = -1 := by
  have : L.findIdx? q = none := by
    rw [List.findIdx?_eq_none_iff]
    intro x hx
    obtain ⟨i, hi, e⟩ := List.getElem_of_mem hx
    exact h i x hi (by rw [List.getElem?_eq_getElem hi, e])
  unfold idx
  rw [this]
theorem idx_cases {α : Type} (q : α → Bool) (L : List α) : (idx q L = -1 ∧ ∀ r ∈ L, q r = false) ∨ ∃ (i : Nat) (r : α), idx q L = (i : Int) ∧ L[i]? = some r ∧ q r = true ∧ ∀ j s, j < i → L[j]? = some s → q s = false := by
  unfold idx
  cases h : L.findIdx? q with
  | none =>
    rw [List.findIdx?_eq_none_iff] at h
    exact .inl ⟨rfl, h⟩
  | some i =>
    rw [List.findIdx?_eq_some_iff_getElem] at h
    obtain ⟨hi, h1, h2⟩ := h
    refine .inr ⟨i, L[i], rfl, List.getElem?_eq_getElem hi, h1, fun j s hj hs => ?_⟩
    have := h2 j hj
    rw [List.getElem?_eq_getElem (by omega)] at hs
    cases hs
    simpa using this
def isC (c : Int) (r : Rk) : Bool := r.c == c
def isW (x : Int) (r : Rk) : Bool := (r.st != 2) && (r.wh == x)
set_option maxHeartbeats 1000000 in
theorem isC_any (w : World) (r : Rk) (g : Nat) (c : Int) (hg : w.cell? ⟨g, 0, none⟩ = some (.int .i64 c)) : Calls Try.prog 60 #[rkV r, .pointer (some ⟨g, 0, none⟩)] w fun e w' => e = .returned (.bool (isC c r)) ∧ Fr none' w w' := by
  have hl := World.block_lt_of_cell? w _ hg
  have HF := hide (Fr.alloc none' w (rkO r))
  have HB : Hid ((w.alloc (rkO r)).heap[w.heap.size]? = some (rkO r)) := hide (hp_new _ _)
  have hg2 : (w.alloc (rkO r)).cell? ⟨g, 0, none⟩ = some (.int .i64 c) := (World.cell?_of_block (HF.out.block g hl id)).trans hg
  obtain ⟨R, HR⟩ : ∃ R, Hid (isC c r = R) := ⟨_, hide rfl⟩
  rw [HR.out]
  unfold isC at HR
  unfold rkV
  unfold rkO at HF HB hg2
  clear hg hl
  go_enter Try.func60, Try.ntmps60
  go_upto_region 1 with fail
  obtain ⟨r0, r1, r2, r3, r4, r5⟩ := rk_cells HB.out
  clear HB
  generalize w.alloc _ = w1 at *
  generalize w.heap.size = gg at *
  go_wp2_with fail
  go_ret
  exact ⟨ret_bool HR.out, HF.out⟩
set_option maxHeartbeats 1000000 in
theorem isW_any (w : World) (r : Rk) (g : Nat) (x : Int) (hg : w.cell? ⟨g, 0, none⟩ = some (.int .i64 x)) : Calls Try.prog 58 #[rkV r, .pointer (some ⟨g, 0, none⟩)] w fun e w' => e = .returned (.bool (isW x r)) ∧ Fr none' w w' := by
  have hl := World.block_lt_of_cell? w _ hg
  have HF := hide (Fr.alloc none' w (rkO r))
  have HB : Hid ((w.alloc (rkO r)).heap[w.heap.size]? = some (rkO r)) := hide (hp_new _ _)
  have hg2 : (w.alloc (rkO r)).cell? ⟨g, 0, none⟩ = some (.int .i64 x) := (World.cell?_of_block (HF.out.block g hl id)).trans hg
  obtain ⟨R, HR⟩ : ∃ R, Hid (isW x r = R) := ⟨_, hide rfl⟩
  rw [HR.out]
  unfold isW at HR
  unfold rkV
  unfold rkO at HF HB hg2
  clear hg hl
  go_enter Try.func58, Try.ntmps58
  go_upto_region 1 with fail
  obtain ⟨r0, r1, r2, r3, r4, r5⟩ := rk_cells HB.out
  clear HB
  generalize w.alloc _ = w1 at *
  generalize w.heap.size = gg at *
  go_wp2_with fail
  all_goals go_ret
  all_goals exact ⟨ret_bool (by first | exact HR.out | (rw [← HR.out]; simp [*])), HF.out⟩
theorem get_ok {α : Type} {L : List α} {i : Nat} (hi : i < L.length) : L[i]? = some L[i] := List.getElem?_eq_getElem hi
set_option maxHeartbeats 2000000 in
theorem indexC_any (w : World) (v : Value) (L : List Rk) (g : Nat) (c : Int) (h : Rw 80 6 w v L.length (fl encR L)) (hg : w.cell? ⟨g, 0, none⟩ = some (.int .i64 c)) (hl : L.length ≤ 64) :
    Calls Try.prog 57 #[v, .func (.func 60) #[] #[.pointer (some ⟨g, 0, none⟩)]] w fun e w' => e = .returned (.int .i64 (idx (isC c) L)) ∧ Fr none' w w' := by
  obtain ⟨a, cap, rfl, hc0, hc1⟩ := h.shape
  have HH := hide h
  have HG := hide hg
  clear h hg
  obtain ⟨n, Hn⟩ : ∃ n, Hid (L.length = n) := ⟨_, hide rfl⟩
  rw [Hn.out] at hl hc0 ⊢
  go_enter Try.func57, Try.ntmps57
  go_wp2_with fail
  go_loopw [8] (fun u wr => ∃ k : Nat, k ≤ n ∧ u = .int .i64 (k : Int) ∧ Hid (noq (isC c) L k) ∧ Hid (Fr none' w wr)) (fun u _ => n - (intOf u).toNat)
  case atStart => exact ⟨0, Nat.zero_le _, rfl, hide (fun _ _ h => by omega), hide (Fr.refl _ _)⟩
  case round =>
    obtain ⟨k, hk, rfl, HN, HF⟩ := hrel
    by_cases hlt : k < n
    · have hkl : k < L.length := by rw [Hn.out]; exact hlt
      have hr := get_ok hkl
      have HNX := hide (fun hq => noq_next HN.out hr hq)
      have HHT := hide (fun hq => idx_hit HN.out hr hq)
      obtain ⟨g1, off, cap1, e, -, -, r0, r1, r2, r3, r4, r5, -, -⟩ := row_cells (HH.out.fr HF.out (fun _ _ x => x)) hr
      simp only [Value.slice.injEq] at e
      obtain ⟨rfl, -, rfl⟩ := e
      generalize L[k] = r at *
      have hgx : wr.cell? ⟨g, 0, none⟩ = some (.int .i64 c) := (World.cell?_of_block (HF.out.block g (World.block_lt_of_cell? w _ HG.out) id)).trans HG.out
      have HC := hide (isC_any wr r g c hgx)
      unfold rkV at HC
      clear hr hgx
      go_wp2_with fail
      refine HC.out.mono ?_
      rintro e w2 ⟨rfl, F2⟩
      have HF2 := hide (HF.out.trans F2 (fun _ _ x => x))
      clear F2 HF r0 r1 r2 r3 r4 r5 HC
      cases hb : isC c r with
      | true =>
        have HI := hide (HHT.out hb)
        clear hb
        go_wp2_with fail
        go_ret
        exact ⟨ret_int HI.out.symm, HF2.out⟩
      | false =>
        have HN2 := hide (HNX.out hb)
        clear hb
        go_wp2_with fail
        go_roundw
        case rel => exact ⟨k + 1, by omega, by go_num, HN2, HF2⟩
        case measure => simp [intOf]; omega
    · have HI := hide (idx_none (q := isC c) (L := L) (by rw [Hn.out, ← show k = n by omega]; exact HN.out))
      go_wp2_with fail
      go_ret
      exact ⟨ret_int HI.out.symm, HF.out⟩
set_option maxHeartbeats 2000000 in
theorem indexW_any (w : World) (v : Value) (L : List Rk) (g : Nat) (c : Int) (h : Rw 80 6 w v L.length (fl encR L)) (hg : w.cell? ⟨g, 0, none⟩ = some (.int .i64 c)) (hl : L.length ≤ 64) :
    Calls Try.prog 57 #[v, .func (.func 58) #[] #[.pointer (some ⟨g, 0, none⟩)]] w fun e w' => e = .returned (.int .i64 (idx (isW c) L)) ∧ Fr none' w w' := by
  obtain ⟨a, cap, rfl, hc0, hc1⟩ := h.shape
  have HH := hide h
  have HG := hide hg
  clear h hg
  obtain ⟨n, Hn⟩ : ∃ n, Hid (L.length = n) := ⟨_, hide rfl⟩
  rw [Hn.out] at hl hc0 ⊢
  go_enter Try.func57, Try.ntmps57
  go_wp2_with fail
  go_loopw [8] (fun u wr => ∃ k : Nat, k ≤ n ∧ u = .int .i64 (k : Int) ∧ Hid (noq (isW c) L k) ∧ Hid (Fr none' w wr)) (fun u _ => n - (intOf u).toNat)
  case atStart => exact ⟨0, Nat.zero_le _, rfl, hide (fun _ _ h => by omega), hide (Fr.refl _ _)⟩
  case round =>
    obtain ⟨k, hk, rfl, HN, HF⟩ := hrel
    by_cases hlt : k < n
    · have hkl : k < L.length := by rw [Hn.out]; exact hlt
      have hr := get_ok hkl
      have HNX := hide (fun hq => noq_next HN.out hr hq)
      have HHT := hide (fun hq => idx_hit HN.out hr hq)
      obtain ⟨g1, off, cap1, e, -, -, r0, r1, r2, r3, r4, r5, -, -⟩ := row_cells (HH.out.fr HF.out (fun _ _ x => x)) hr
      simp only [Value.slice.injEq] at e
      obtain ⟨rfl, -, rfl⟩ := e
      generalize L[k] = r at *
      have hgx : wr.cell? ⟨g, 0, none⟩ = some (.int .i64 c) := (World.cell?_of_block (HF.out.block g (World.block_lt_of_cell? w _ HG.out) id)).trans HG.out
      have HC := hide (isW_any wr r g c hgx)
      unfold rkV at HC
      clear hr hgx
      go_wp2_with fail
      refine HC.out.mono ?_
      rintro e w2 ⟨rfl, F2⟩
      have HF2 := hide (HF.out.trans F2 (fun _ _ x => x))
      clear F2 HF r0 r1 r2 r3 r4 r5 HC
      cases hb : isW c r with
      | true =>
        have HI := hide (HHT.out hb)
        clear hb
        go_wp2_with fail
        go_ret
        exact ⟨ret_int HI.out.symm, HF2.out⟩
      | false =>
        have HN2 := hide (HNX.out hb)
        clear hb
        go_wp2_with fail
        go_roundw
        case rel => exact ⟨k + 1, by omega, by go_num, HN2, HF2⟩
        case measure => simp [intOf]; omega
    · have HI := hide (idx_none (q := isW c) (L := L) (by rw [Hn.out, ← show k = n by omega]; exact HN.out))
      go_wp2_with fail
      go_ret
      exact ⟨ret_int HI.out.symm, HF.out⟩
set_option maxHeartbeats 1000000 in
theorem place_any (p : Pm) (b : Nat) (vr vw : Value) (w : World) (c : Int) (h : PV p b vr vw w) (hl : p.R.length ≤ 64) :
    Calls Try.prog 38 #[.pointer (some ⟨b, 0, none⟩), .int .i64 c] w fun e w' => e = .returned (.int .i64 (idx (isC c) p.R)) ∧ Fr none' w w' := by
  have HF := hide (Fr.alloc none' w (.cells #[.int .i64 c] 3))
  have HB : Hid ((w.alloc (.cells #[.int .i64 c] 3)).heap[w.heap.size]? = some (.cells #[.int .i64 c] 3 (0, 0))) := hide (hp_new _ _)
  have HV := hide (h.fr HF.out)
  clear h
  obtain ⟨a, cap, rfl, hc0, hc1⟩ := HV.out.r
  go_enter Try.func38, Try.ntmps38
  go_upto_region 1 with fail
  have HI := hide (indexC_any _ _ p.R w.heap.size c HV.out.R (cell_of HB.out 0) hl)
  obtain ⟨c0, c1, c2, c3, c4, c5, c6, c7⟩ := HV.out.c
  clear HB HV
  generalize w.alloc _ = w1 at *
  generalize w.heap.size = gg at *
  generalize p.R.length = n at *
  go_wp2_with fail
  refine HI.out.mono ?_
  rintro e w2 ⟨rfl, F2⟩
  have HF2 := hide (HF.out.trans F2 (fun _ _ x => x))
  clear F2 HI HF
  go_wp2_with fail
  go_ret
  exact ⟨rfl, HF2.out⟩
theorem place_nil (w : World) (c : Int) : Calls Try.prog 38 #[.pointer none, .int .i64 c] w fun e w' => e = .returned (.int .i64 (-1)) ∧ Fr none' w w' := by
  have HF := hide (Fr.alloc none' w (.cells #[.int .i64 c] 3))
  go_enter Try.func38, Try.ntmps38
  go_wp2_with fail
  go_ret
  exact ⟨rfl, HF.out⟩
set_option maxHeartbeats 1000000 in
theorem of_any (p : Pm) (b : Nat) (vr vw : Value) (w : World) (c : Int) (h : PV p b vr vw w) (hl : p.R.length ≤ 64) :
    Calls Try.prog 35 #[.pointer (some ⟨b, 0, none⟩), .int .i64 c] w fun e w' => e = .returned (.int .i64 (idx (isW c) p.R)) ∧ Fr none' w w' := by
  have HF := hide (Fr.alloc none' w (.cells #[.int .i64 c] 3))
  have HB : Hid ((w.alloc (.cells #[.int .i64 c] 3)).heap[w.heap.size]? = some (.cells #[.int .i64 c] 3 (0, 0))) := hide (hp_new _ _)
  have HV := hide (h.fr HF.out)
  clear h
  obtain ⟨a, cap, rfl, hc0, hc1⟩ := HV.out.r
  go_enter Try.func35, Try.ntmps35
  go_upto_region 1 with fail
  have HI := hide (indexW_any _ _ p.R w.heap.size c HV.out.R (cell_of HB.out 0) hl)
  obtain ⟨c0, c1, c2, c3, c4, c5, c6, c7⟩ := HV.out.c
  clear HB HV
  generalize w.alloc _ = w1 at *
  generalize w.heap.size = gg at *
  generalize p.R.length = n at *
  go_wp2_with fail
  refine HI.out.mono ?_
  rintro e w2 ⟨rfl, F2⟩
  have HF2 := hide (HF.out.trans F2 (fun _ _ x => x))
  clear F2 HI HF
  go_wp2_with fail
  go_ret
  exact ⟨rfl, HF2.out⟩
def isN (x : Int) (y : Int) : Bool := x == y
theorem int_cell {w : World} {v : Value} {L : List Int} (h : Rw 3 1 w v L.length L) {i : Nat} {x : Int} (hr : L[i]? = some x) : ∃ g off cap, v = .slice (some ⟨g, off, none⟩) L.length cap ∧ L.length ≤ cap ∧ cap ≤ 9223372036854775807 ∧ w.cell? ⟨g, off + i, none⟩ = some (.int .i64 x) := by
  have hi : i < L.length := (List.getElem?_eq_some_iff.1 hr).1
  obtain ⟨g, off, cap, e, h1, h2, h3, h4, h5⟩ := h.at hi
  have := h3 0 (by omega)
  rw [Nat.mul_one, Nat.add_zero, Nat.add_zero] at this
  refine ⟨g, off, cap, e, h1, h2, ?_⟩
  rw [this]
  simp [List.getD, hr]
set_option maxHeartbeats 2000000 in
theorem index_any (w : World) (v : Value) (L : List Int) (x : Int) (h : Rw 3 1 w v L.length L) (hl : L.length ≤ 64) :
    Calls Try.prog 39 #[v, .int .i64 x] w fun e w' => e = .returned (.int .i64 (idx (isN x) L)) ∧ w = w' := by
  obtain ⟨a, cap, rfl, hc0, hc1⟩ := h.shape
  have HH := hide h
  clear h
  obtain ⟨n, Hn⟩ : ∃ n, Hid (L.length = n) := ⟨_, hide rfl⟩
  rw [Hn.out] at hl hc0 ⊢
  go_enter Try.func39, Try.ntmps39
  go_wp2_with fail
  go_loopw [8] (fun u wr => ∃ k : Nat, k ≤ n ∧ u = .int .i64 (k : Int) ∧ Hid (noq (isN x) L k) ∧ w = wr) (fun u _ => n - (intOf u).toNat)
  case atStart => exact ⟨0, Nat.zero_le _, rfl, hide (fun _ _ h => by omega), rfl⟩
  case round =>
    obtain ⟨k, hk, rfl, HN, rfl⟩ := hrel
    by_cases hlt : k < n
    · have hkl : k < L.length := by rw [Hn.out]; exact hlt
      have hr := get_ok hkl
      have HNX := hide (fun hq => noq_next HN.out hr hq)
      have HHT := hide (fun hq => idx_hit HN.out hr hq)
      obtain ⟨g1, off, cap1, e, -, -, r0⟩ := int_cell HH.out hr
      simp only [Value.slice.injEq] at e
      obtain ⟨rfl, -, rfl⟩ := e
      generalize L[k] = r at *
      clear hr
      unfold isN at HNX HHT
      by_cases hb : x = r
      · subst hb
        have HI := hide (HHT.out (by simp))
        clear HHT HNX
        go_wp2_with fail
        go_ret
        exact ⟨ret_int HI.out.symm, rfl⟩
      · have hb2 : (x == r) = false := by simpa using hb
        have HN2 := hide (HNX.out hb2)
        clear HHT HNX
        go_wp2_with fail
        go_roundw
        case rel => exact ⟨k + 1, by omega, by go_num, HN2, trivial⟩
        case measure => simp [intOf]; omega
    · have HI := hide (idx_none (q := isN x) (L := L) (by rw [Hn.out, ← show k = n by omega]; exact HN.out))
      go_wp2_with fail
      go_ret
      exact ⟨ret_int HI.out.symm, rfl⟩
theorem contains_any (w : World) (v : Value) (L : List Int) (x : Int) (h : Rw 3 1 w v L.length L) (hl : L.length ≤ 64) :
    Calls Try.prog 36 #[v, .int .i64 x] w fun e w' => e = .returned (.bool (decide (0 ≤ idx (isN x) L))) ∧ w = w' := by
  have HI := hide (index_any w v L x h hl)
  clear h
  generalize idx (isN x) L = k at *
  go_enter Try.func36, Try.ntmps36
  go_wp2_with (go_at_call 39; refine HI.out.mono ?_; rintro e w' ⟨rfl, rfl⟩)
  go_ret
  exact ⟨rfl, rfl⟩
end Go.Proofs.Ytgeneknaekoinaa
