/- Which attempts run, which are late, whether one does, when a hedge is made. -/
import Derived.Test.YtjfpdenakgifgaaAKit
namespace Go.Proofs.Ytjfpdenakgifgaa
open Go.ChangeShapes Go.WideShapes Go.ChangeAt Go.RowKit
set_option linter.unusedVariables false

def idx {α : Type} (q : α → Bool) (L : List α) : Int := match L.findIdx? q with | some i => (i : Int) | none => -1
def noq {α : Type} (q : α → Bool) (L : List α) (k : Nat) : Prop := ∀ i r, i < k → L[i]? = some r → q r = false
theorem noq_next {α : Type} {q : α → Bool} {L : List α} {k : Nat} {r : α} (h : noq q L k) (hr : L[k]? = some r) (hq : q r = false) : noq q L (k + 1) := fun i s hi hs => by
  by_cases e : i = k
  · subst e; rw [hr] at hs; cases hs; exact hq
  · exact h i s (by omega) hs
theorem idx_hit {α : Type} {q : α → Bool} {L : List α} {k : Nat} {r : α} (h : noq q L k) (hr : L[k]? = some r) (hq : q r = true) : idx q L = (k : Int) := by
  have : L.findIdx? q = some k := by
    rw [List.findIdx?_eq_some_iff_getElem]
    obtain ⟨hk, e⟩ := List.getElem?_eq_some_iff.1 hr
    refine ⟨hk, by rw [e]; exact hq, fun j hj => ?_⟩
    have := h j _ hj (List.getElem?_eq_getElem (by omega))
    simp [this]
  unfold idx
  rw [this]
theorem idx_none {α : Type} {q : α → Bool} {L : List α} (h : noq q L L.length) : idx q L = -1 := by
  have : L.findIdx? q = none := by
    rw [List.findIdx?_eq_none_iff]
    intro x hx
    obtain ⟨i, hi, e⟩ := List.getElem_of_mem hx
    exact h i x hi (by rw [List.getElem?_eq_getElem hi, e])
  unfold idx
  rw [this]
theorem idx_cases {α : Type} (q : α → Bool) (L : List α) : (idx q L = -1 ∧ ∀ r ∈ L, q r = false) ∨ ∃ (i : Nat) (r : α), idx q L = (i : Int) ∧ L[i]? = some r ∧ q r = true ∧ ∀ j s, j < i → L[j]? = some s → q s = false := by
  unfold idx
  cases h : L.findIdx? q with
  | none =>
    rw [List.findIdx?_eq_none_iff] at h
    exact .inl ⟨rfl, h⟩
  | some i =>
    rw [List.findIdx?_eq_some_iff_getElem] at h
    obtain ⟨hi, h1, h2⟩ := h
    refine .inr ⟨i, L[i], rfl, List.getElem?_eq_getElem hi, h1, fun j s hj hs => ?_⟩
    have := h2 j hj
    rw [List.getElem?_eq_getElem (by omega)] at hs
    cases hs
    simpa using this
def isI (x : Int) (y : Int) : Bool := x == y
theorem int_cell {w : World} {v : Value} {L : List Int} (h : Rw 3 1 w v L.length L) {i : Nat} {x : Int} (hr : L[i]? = some x) : ∃ g off cap, v = .slice (some ⟨g, off, none⟩) L.length cap ∧ L.length ≤ cap ∧ cap ≤ 9223372036854775807 ∧ w.cell? ⟨g, off + i, none⟩ = some (.int .i64 x) := by
  have hi : i < L.length := (List.getElem?_eq_some_iff.1 hr).1
  obtain ⟨g, off, cap, e, h1, h2, h3, h4, h5⟩ := h.at hi
  have := h3 0 (by omega)
  rw [Nat.mul_one, Nat.add_zero, Nat.add_zero] at this
  refine ⟨g, off, cap, e, h1, h2, ?_⟩
  rw [this]
  simp [List.getD, hr]
set_option maxHeartbeats 2000000 in
theorem index_any (w : World) (v : Value) (L : List Int) (x : Int) (h : Rw 3 1 w v L.length L) (hl : L.length ≤ 64) :
    Calls Try.prog 66 #[v, .int .i64 x] w fun e w' => e = .returned (.int .i64 (idx (isI x) L)) ∧ w = w' := by
  obtain ⟨a, cap, rfl, hc0, hc1⟩ := h.shape
  have HH := hide h
  clear h
  obtain ⟨n, Hn⟩ : ∃ n, Hid (L.length = n) := ⟨_, hide rfl⟩
  rw [Hn.out] at hl hc0 ⊢
  go_enter Try.func66, Try.ntmps66
  go_wp2_with fail
  go_loopw [8] (fun u wr => ∃ k : Nat, k ≤ n ∧ u = .int .i64 (k : Int) ∧ Hid (noq (isI x) L k) ∧ w = wr) (fun u _ => n - (intOf u).toNat)
  case atStart => exact ⟨0, Nat.zero_le _, rfl, hide (fun _ _ h => by omega), rfl⟩
  case round =>
    obtain ⟨k, hk, rfl, HN, rfl⟩ := hrel
    by_cases hlt : k < n
    · have hkl : k < L.length := by rw [Hn.out]; exact hlt
      have hr := get_ok hkl
      have HNX := hide (fun hq => noq_next HN.out hr hq)
      have HHT := hide (fun hq => idx_hit HN.out hr hq)
      obtain ⟨g1, off, cap1, e, -, -, r0⟩ := int_cell HH.out hr
      simp only [Value.slice.injEq] at e
      obtain ⟨rfl, -, rfl⟩ := e
      generalize L[k] = r at *
      clear hr
      unfold isI at HNX HHT
      by_cases hb : x = r
      · subst hb
        have HI := hide (HHT.out (by simp))
        clear HHT HNX
        go_wp2_with fail
        go_ret
        exact ⟨ret_int HI.out.symm, rfl⟩
      · have hb2 : (x == r) = false := by simpa using hb
        have HN2 := hide (HNX.out hb2)
        clear HHT HNX
        go_wp2_with fail
        go_roundw
        case rel => exact ⟨k + 1, by omega, by go_num, HN2, trivial⟩
        case measure => simp [intOf]; omega
    · have HI := hide (idx_none (q := isI x) (L := L) (by rw [Hn.out, ← show k = n by omega]; exact HN.out))
      go_wp2_with fail
      go_ret
      exact ⟨ret_int HI.out.symm, rfl⟩
theorem contains_any (w : World) (v : Value) (L : List Int) (x : Int) (h : Rw 3 1 w v L.length L) (hl : L.length ≤ 64) :
    Calls Try.prog 61 #[v, .int .i64 x] w fun e w' => e = .returned (.bool (decide (0 ≤ idx (isI x) L))) ∧ w = w' := by
  have HI := hide (index_any w v L x h hl)
  clear h
  generalize idx (isI x) L = k at *
  go_enter Try.func61, Try.ntmps61
  go_wp2_with (go_at_call 66; refine HI.out.mono ?_; rintro e w' ⟨rfl, rfl⟩)
  go_ret
  exact ⟨rfl, rfl⟩
theorem take_next {α : Type} {L : List α} {k : Nat} {r : α} (h : L[k]? = some r) : L.take (k + 1) = L.take k ++ [r] := by
  rw [List.take_add_one, h]; rfl
theorem ids_app (L M : List Rn) : ids (L ++ M) = ids L ++ ids M := List.map_append
theorem fl_id (L : List Int) : L ++ [] = L := List.append_nil L
section
variable (p : Rq) (b : Nat) (vr : Value) (w : World)
set_option maxHeartbeats 2000000 in
theorem running_any (h : QV p b vr w) (h9 : p.R.length ≤ 9) : Calls Try.prog 21 #[.pointer (some ⟨b, 0, none⟩)] w fun e w' => ∃ v, e = .returned v ∧ Does (RI v (ids p.R)) none' w w' := by
  have HV := hide h
  obtain ⟨c0, c1, c2, c3, c4, c5, c6, c7, c8, c9, c10, c11⟩ := h.c
  obtain ⟨a, cap, rfl, hc0, hc1⟩ := h.r
  clear h
  obtain ⟨n, Hn⟩ : ∃ n, Hid (p.R.length = n) := ⟨_, hide rfl⟩
  rw [Hn.out] at c11 hc0 h9
  go_enter Try.func21, Try.ntmps21
  go_wp2_with fail
  clear c0 c1 c2 c3 c4 c5 c6 c7 c8 c9 c10 c11
  go_loopw [3, 13] (fun s v wr => ∃ k : Nat, k ≤ n ∧ v = .int .i64 (k : Int) ∧ Hid (Does (RI s (ids (p.R.take k))) none' w wr)) (fun _ v _ => n - (intOf v).toNat)
  case atStart => exact ⟨0, Nat.zero_le _, rfl, hide (RT.new _ _ _)⟩
  case round =>
    obtain ⟨k, hk, rfl, HI⟩ := hrel
    obtain ⟨sa, sc, rfl, hs0, hs1⟩ := HI.out.ri.shape
    have hl : Hid ((ids (p.R.take k)).length = k) := hide (by unfold ids; rw [List.length_map, List.length_take, Hn.out]; omega)
    rw [hl.out] at hs0 ⊢
    by_cases hlt : k < n
    · have hkl : k < p.R.length := by rw [Hn.out]; exact hlt
      have hr := get_ok hkl
      have HT : Hid (ids (p.R.take (k + 1)) = ids (p.R.take k) ++ [p.R[k].id]) := hide (by rw [take_next hr, ids_app]; rfl)
      obtain ⟨g1, off, cap1, e, -, -, r0, r1, -, -⟩ := run_cells (HV.out.fr HI.out.fr).R hr
      simp only [Value.slice.injEq] at e
      obtain ⟨rfl, -, rfl⟩ := e
      generalize p.R[k] = r at *
      clear hr hkl
      have HF := hide (Fr.alloc none' wr (rnO r))
      have HB : Hid ((wr.alloc (rnO r)).heap[wr.heap.size]? = some (rnO r)) := hide (hp_new _ _)
      have HI2 := hide (HI.out.e HF.out)
      unfold rnO at HF HB HI2
      go_upto_region 7 with fail
      clear r0 r1 HF HI
      generalize wr.alloc _ = w1 at *
      generalize wr.heap.size = gg at *
      obtain ⟨r0, r1⟩ := rn_cells HB.out
      have HS : Hid (Rw 3 1 w1 (.slice sa k sc) k (ids (p.R.take k))) := hide (by have := HI2.out.ri; rw [hl.out] at this; exact this)
      clear HB
      go_wp2_with (at_builtin; apply Hid.out)
      unfold Hid
      refine wpList_append_rw infInt rfl _ _ rfl w1 (.slice sa k sc) k _ [r.id] rfl (by simp [Act.eval, go_sem]) HS.out rfl (by omega) (by omega) ?_
      intro v' W6 q1 F o
      have T6 : Hid (Does (RI v' (ids (p.R.take (k + 1)))) none' w W6) := hide (by
        rw [HT.out]
        exact HI2.out.trans (fun _ y => y.app (by rw [List.length_append, hl.out]; exact q1) (by rw [hl.out]; exact F) (by rw [hl.out]; exact o)))
      clear q1 F o HS HI2 r0 r1
      go_wp2_with fail
      go_roundw
      case rel => exact ⟨k + 1, by omega, by go_num, T6⟩
      case measure => simp [intOf]; omega
    · obtain rfl : k = n := by omega
      have etk : p.R.take k = p.R := by rw [← Hn.out]; exact List.take_length
      rw [etk] at HI hl
      go_wp2_with fail
      go_ret
      refine ⟨_, rfl, ?_⟩
      have := HI.out
      rw [hl.out] at this
      exact this
theorem running_nil : Calls Try.prog 21 #[.pointer none] w fun e w' => e = .returned (.slice none 0 0) ∧ w = w' := by
  go_enter Try.func21, Try.ntmps21
  go_wp2_with fail
  go_ret
  exact ⟨rfl, rfl⟩
theorem has_nil (x : Int) : Calls Try.prog 50 #[.pointer none, .int .i64 x] w fun e w' => e = .returned (.bool false) ∧ w = w' := by
  have HC := hide (contains_any w (.slice none 0 0) [] x (Rw.nil _ _ _) (by simp))
  go_enter Try.func50, Try.ntmps50
  go_wp2_with (first | (go_at_call 21; refine (running_nil _).mono ?_; rintro e w' ⟨rfl, rfl⟩) | (go_at_call 61; refine HC.out.mono ?_; rintro e w' ⟨rfl, rfl⟩))
  go_ret
  exact ⟨rfl, rfl⟩
theorem idx_has (x : Int) (L : List Int) : decide (0 ≤ idx (isI x) L) = L.contains x := by
  rcases idx_cases (isI x) L with ⟨h, k⟩ | ⟨i, r, h, k, l, -⟩
  · rw [h]
    have : ¬ L.contains x = true := fun y => by
      have := k x (List.contains_iff_mem.1 y)
      simp [isI] at this
    rw [Bool.eq_false_iff.2 this]; rfl
  · rw [h]
    have : L.contains x = true := by
      rw [List.contains_iff_mem]
      have e : x = r := by simpa [isI] using l
      rw [e]
      exact List.mem_of_getElem? k
    rw [this]
    exact decide_eq_true (by omega)
set_option maxHeartbeats 1000000 in
theorem has_any (x : Int) (h : QV p b vr w) (h9 : p.R.length ≤ 9) : Calls Try.prog 50 #[.pointer (some ⟨b, 0, none⟩), .int .i64 x] w fun e w' => e = .returned (.bool (hasB p x)) ∧ Fr none' w w' := by
  have HR := hide (running_any p b vr w h h9)
  obtain ⟨R, HB⟩ : ∃ R, Hid (hasB p x = R) := ⟨_, hide rfl⟩
  rw [HB.out]
  clear h
  go_enter Try.func50, Try.ntmps50
  go_wp2_with fail
  refine HR.out.mono ?_
  rintro e w1 ⟨v, rfl, d⟩
  have HC := hide (contains_any w1 v (ids p.R) x d.ri (by unfold ids; rw [List.length_map]; omega))
  have HF := hide d.fr
  have e2 := idx_has x (ids p.R)
  rw [show (ids p.R).contains x = hasB p x from rfl, HB.out] at e2
  rw [e2] at HC
  clear d HR e2
  go_wp2_with fail
  refine HC.out.mono ?_
  rintro e w2 ⟨rfl, rfl⟩
  go_wp2_with fail
  go_ret
  exact ⟨rfl, HF.out⟩
set_option maxHeartbeats 2000000 in
theorem late_any (now : Int) (h : QV p b vr w) (k0 : QOk p) : Calls Try.prog 47 #[.pointer (some ⟨b, 0, none⟩), .int .i64 now] w fun e w' => ∃ v, e = .returned v ∧ Does (RI v (ltL p now)) none' w w' := by
  have HV := hide h
  have h9 := k0.r9
  have HK := hide k0
  obtain ⟨c0, c1, c2, c3, c4, c5, c6, c7, c8, c9, c10, c11⟩ := h.c
  obtain ⟨a, cap, rfl, hc0, hc1⟩ := h.r
  clear h k0
  obtain ⟨n, Hn⟩ : ∃ n, Hid (p.R.length = n) := ⟨_, hide rfl⟩
  rw [Hn.out] at c11 hc0 h9
  go_enter Try.func47, Try.ntmps47
  go_wp2_with fail
  clear c0 c1 c2 c3 c4 c5 c6 c7 c8 c9 c10 c11
  go_loopw [5, 13] (fun s v wr => ∃ k : Nat, k ≤ n ∧ v = .int .i64 (k : Int) ∧ Hid (Does (RI s (ids ((p.R.take k).filter (tirB p now)))) none' w wr)) (fun _ v _ => n - (intOf v).toNat)
  case atStart => exact ⟨0, Nat.zero_le _, rfl, hide (RT.new _ _ _)⟩
  case round =>
    obtain ⟨k, hk, rfl, HI⟩ := hrel
    obtain ⟨sa, sc, rfl, hs0, hs1⟩ := HI.out.ri.shape
    have hl9 : (ids ((p.R.take k).filter (tirB p now))).length ≤ 9 := by
      unfold ids
      rw [List.length_map]
      have := List.length_filter_le (tirB p now) (p.R.take k)
      rw [List.length_take] at this
      omega
    obtain ⟨sl, hl⟩ : ∃ sl, Hid ((ids ((p.R.take k).filter (tirB p now))).length = sl) := ⟨_, hide rfl⟩
    rw [hl.out] at hs0 hl9 ⊢
    by_cases hlt : k < n
    · have hkl : k < p.R.length := by rw [Hn.out]; exact hlt
      have hr := get_ok hkl
      have HT : Hid (ids ((p.R.take (k + 1)).filter (tirB p now)) = ids ((p.R.take k).filter (tirB p now)) ++ if tirB p now p.R[k] = true then [p.R[k].id] else []) := hide (by
        rw [take_next hr, List.filter_append, ids_app]
        congr 1
        by_cases x : tirB p now p.R[k] = true
        · rw [if_pos x, List.filter_cons, if_pos x]; rfl
        · rw [if_neg x, List.filter_cons, if_neg x]; rfl)
      obtain ⟨s0, s1⟩ := HK.out.rs _ (List.getElem_mem hkl)
      obtain ⟨g1, off, cap1, e, -, -, r0, r1, -, -⟩ := run_cells (HV.out.fr HI.out.fr).R hr
      simp only [Value.slice.injEq] at e
      obtain ⟨rfl, -, rfl⟩ := e
      generalize p.R[k] = r at *
      clear hr hkl
      have HF := hide (Fr.alloc none' wr (rnO r))
      have HB : Hid ((wr.alloc (rnO r)).heap[wr.heap.size]? = some (rnO r)) := hide (hp_new _ _)
      have HI2 := hide (HI.out.e HF.out)
      unfold rnO at HF HB HI2
      go_upto_region 5 with fail
      clear r0 r1 HF HI
      generalize wr.alloc _ = w1 at *
      generalize wr.heap.size = gg at *
      have r0 : w1.cell? ⟨gg, 0, none⟩ = some (.int .i64 r.id) := cell_of HB.out 0
      have r1 : w1.cell? ⟨gg, 1, none⟩ = some (.int .i64 r.si) := cell_of HB.out 1
      have HC := hide (tired_any p b _ w1 r (HV.out.fr HI2.out.fr) HK.out s0 s1)
      unfold rnV at HC
      clear s0 s1
      by_cases hb : latI r.si p.pt ≤ now
      · have hT : tirB p now r = true := by unfold tirB; exact decide_eq_true hb
        rw [hT, if_pos rfl] at HT
        clear hT
        generalize latI r.si p.pt = lt at *
        go_wp2_with fail
        refine HC.out.mono ?_
        rintro e w2 ⟨rfl, F2⟩
        have T2 := hide (HI2.out.e F2)
        have HB2 := hide (F2.hd id HB.out)
        clear HC F2 HI2 r0 r1 HB
        have r0 : w2.cell? ⟨gg, 0, none⟩ = some (.int .i64 r.id) := cell_of HB2.out 0
        have HS : Hid (Rw 3 1 w2 (.slice sa sl sc) sl (ids ((p.R.take k).filter (tirB p now)))) := hide (by have := T2.out.ri; rw [hl.out] at this; exact this)
        clear HB2
        go_wp2_with (at_builtin; apply Hid.out)
        unfold Hid
        refine wpList_append_rw infInt rfl _ _ rfl w2 (.slice sa sl sc) sl _ [r.id] rfl (by simp [Act.eval, go_sem]) HS.out rfl (by omega) (by omega) ?_
        intro v' W6 q1 F o
        have T6 : Hid (Does (RI v' (ids ((p.R.take (k + 1)).filter (tirB p now)))) none' w W6) := hide (by
          rw [HT.out]
          exact T2.out.trans (fun _ y => y.app (by rw [List.length_append, hl.out]; exact q1) (by rw [hl.out]; exact F) (by rw [hl.out]; exact o)))
        clear q1 F o HS T2 r0
        go_wp2_with fail
        go_roundw
        case rel => exact ⟨k + 1, by omega, by go_num, T6⟩
        case measure => simp [intOf]; omega
      · have hT : tirB p now r = false := by unfold tirB; exact decide_eq_false hb
        rw [hT, if_neg (by decide), List.append_nil] at HT
        clear hT
        generalize latI r.si p.pt = lt at *
        go_wp2_with fail
        refine HC.out.mono ?_
        rintro e w2 ⟨rfl, F2⟩
        have T6 : Hid (Does (RI (.slice sa sl sc) (ids ((p.R.take (k + 1)).filter (tirB p now)))) none' w w2) := hide (by
          rw [HT.out]
          have := HI2.out.e F2
          rw [hl.out] at this
          exact this)
        clear HC F2 HI2 r0 r1 HB
        go_wp2_with fail
        go_roundw
        case rel => exact ⟨k + 1, by omega, by go_num, T6⟩
        case measure => simp [intOf]; omega
    · obtain rfl : k = n := by omega
      have etk : p.R.take k = p.R := by rw [← Hn.out]; exact List.take_length
      rw [etk] at HI hl
      go_wp2_with fail
      go_ret
      refine ⟨_, rfl, ?_⟩
      have := HI.out
      rw [hl.out] at this
      exact this
set_option maxHeartbeats 2000000 in
theorem nextHedge_any (h : QV p b vr w) (k0 : QOk p) : Calls Try.prog 41 #[.pointer (some ⟨b, 0, none⟩)] w fun e w' => e = .returned (.tuple #[.int .i64 (nhT p), .bool (nhB p)]) ∧ Fr none' w w' := by
  have HA := hide (fun V => (lat_any p.la p.ha V k0.la0 k0.la1 (by have := k0.ha0; omega) k0.ha1).mono (R' := fun e w' => e = .returned (.int .i64 (latI p.la p.ha)) ∧ w' = V) (fun e w' ⟨x, y⟩ => ⟨x, y.symm⟩))
  have HO := hide (fun n => (over_any p b vr (w.drewN n) (h.fr (Fr.drewN none' w n))).mono (R' := fun e w' => e = .returned (.bool p.R.isEmpty) ∧ w' = w.drewN n) (fun e w' ⟨x, y⟩ => ⟨x, y.symm⟩))
  obtain ⟨c0, c1, c2, c3, c4, c5, c6, c7, c8, c9, c10, c11⟩ := h.c
  have HF := hide (fun n => Fr.drewN none' w n)
  have HF2 := hide (fun n m => (Fr.drewN none' w n).d m)
  have d7 : ∀ n, (w.drewN n).cell? ⟨b, 10, none⟩ = some (.int .i64 p.la) := fun _ => c10
  have d2 : ∀ n, (w.drewN n).cell? ⟨b, 2, none⟩ = some (.int .i64 p.ha) := fun _ => c2
  clear h k0
  cases he : p.R.isEmpty with
  | true =>
    have e1 : nhB p = false := by unfold nhB; rw [he]; rfl
    have e2 : nhT p = 0 := by unfold nhT; rw [e1]; rfl
    rw [e1, e2]
    rw [he] at HO
    clear e1 e2 he
    go_enter Try.func41, Try.ntmps41
    go_wp2_with fail
    go_quiet (first | (go_at_call 19; refine Calls.quiet_of_same (HO.out _)))
    go_wp2_with fail
    go_ret2
    exact ⟨rfl, HF.out _⟩
  | false =>
    rw [he] at HO
    by_cases hm : p.m2 < p.hg
    · have e1 : nhB p = true := by unfold nhB; rw [he, decide_eq_true hm]; rfl
      have e2 : nhT p = latI p.la p.ha := by unfold nhT; rw [e1]; rfl
      have hd : decide (p.hg ≤ p.m2) = false := decide_eq_false (by omega)
      rw [e1, e2]
      clear e1 e2 he
      go_enter Try.func41, Try.ntmps41
      go_wp2_with fail
      go_quiet (first | (go_at_call 19; refine Calls.quiet_of_same (HO.out _)))
      go_wp2_with fail
      have c10' := d7 nq
      have c2' := d2 nq
      have HF3 := hide (HF2.out nq)
      clear d7 d2 c0 c1 c2 c3 c4 c5 c6 c7 c8 c9 c10 c11 HO HF HF2
      generalize w.drewN nq = w1 at *
      go_quiet (first | (go_at_call 28; refine Calls.quiet_of_same (HA.out _)))
      go_wp2_with fail
      go_ret2
      exact ⟨rfl, HF3.out _⟩
    · have e1 : nhB p = false := by unfold nhB; rw [decide_eq_false hm]; simp
      have e2 : nhT p = 0 := by unfold nhT; rw [e1]; rfl
      have hd : decide (p.hg ≤ p.m2) = true := decide_eq_true (by omega)
      rw [e1, e2]
      clear e1 e2 he hm
      go_enter Try.func41, Try.ntmps41
      go_wp2_with fail
      go_quiet (first | (go_at_call 19; refine Calls.quiet_of_same (HO.out _)))
      go_wp2_with fail
      go_ret2
      exact ⟨rfl, HF.out _⟩
end
end Go.Proofs.Ytjfpdenakgifgaa
