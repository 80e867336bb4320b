/- What the document's pool tells of its connections. -/
import Derived.Test.YtgeneknaekoinaaURf
namespace Go.Proofs.Ytgeneknaekoinaa
open Go.ChangeShapes Go.WideShapes Go.ChangeAt Go.RowKit
set_option linter.unusedVariables false

def isD (c : Int) (r : Cn) : Bool := r.n == c
def isO (x : Int) (r : Cn) : Bool := (r.st != 3) && (r.wh == x)
def rendI (p : Rm) (r : Cn) : Int := min (latI r.si p.idle) (latI r.bo p.life)
/-- Its numbers are right, and time goes on within its bounds. -/
structure QOk (p : Rm) (K : Int) : Prop where
  idle0 : 1 ≤ p.idle
  idle1 : p.idle ≤ 1000000
  life0 : 1 ≤ p.life
  life1 : p.life ≤ 1000000
  nx0 : 0 ≤ p.nx
  nx1 : p.nx ≤ K
  len : p.L.length ≤ 64
  sen : p.S.length ≤ 64
  wait : p.Q.length ≤ 64
  rows : ∀ r ∈ p.L, (0 ≤ r.bo ∧ r.bo ≤ 4611686018427387904) ∧ (0 ≤ r.si ∧ r.si ≤ 4611686018427387904)
  ins : ∀ x ∈ p.S, idx (isD x) p.L ≠ -1
set_option maxHeartbeats 2000000 in
theorem find_any (p : Rm) (b : Nat) (vl vs vw : Value) (w : World) (c : Int) (h : QV p b vl vs vw w) (hl : p.L.length ≤ 64) :
    Calls Try.prog 49 #[.pointer (some ⟨b, 0, none⟩), .int .i64 c] w fun e w' => e = .returned (.int .i64 (idx (isD c) p.L)) ∧ Fr none' w w' := by
  obtain ⟨a, cap, rfl, hc0, hc1⟩ := h.L.shape
  have HV := hide h
  obtain ⟨c0, c1, c2, c3, c4, c5, c6, c7⟩ := h.c
  clear h
  obtain ⟨n, Hn⟩ : ∃ n, Hid (p.L.length = n) := ⟨_, hide rfl⟩
  rw [Hn.out] at hl hc0 c5 HV
  go_enter Try.func49, Try.ntmps49
  go_wp2_with fail
  clear c0 c1 c2 c3 c4 c5 c6 c7
  go_loopw [12] (fun u wr => ∃ k : Nat, k ≤ n ∧ u = .int .i64 (k : Int) ∧ Hid (noq (isD c) p.L k) ∧ Hid (Fr none' w wr)) (fun u _ => n - (intOf u).toNat)
  case atStart => exact ⟨0, Nat.zero_le _, rfl, hide (fun _ _ h => by omega), hide (Fr.refl _ _)⟩
  case round =>
    obtain ⟨k, hk, rfl, HN, HF⟩ := hrel
    by_cases hlt : k < n
    · have hkl : k < p.L.length := by rw [Hn.out]; exact hlt
      have hr := get_ok hkl
      have HNX := hide (fun hq => noq_next HN.out hr hq)
      have HHT := hide (fun hq => idx_hit HN.out hr hq)
      obtain ⟨g1, off, cap1, e, -, -, r0, r1, r2, r3, r4, -⟩ := con_cells (HV.out.fr HF.out).L hr
      simp only [Value.slice.injEq] at e
      obtain ⟨rfl, -, rfl⟩ := e
      generalize p.L[k] = r at *
      clear hr hkl
      have HA : Hid (Fr none' w (wr.alloc (cnO r))) := hide (HF.out.trans (Fr.alloc none' wr _) (fun _ _ x => x))
      have HB : Hid ((wr.alloc (cnO r)).heap[wr.heap.size]? = some (cnO r)) := hide (hp_new _ _)
      unfold cnO at HA HB
      go_upto_region 4 with fail
      clear r0 r1 r2 r3 r4 HF
      obtain ⟨e0, e1, e2, e3, e4⟩ := cn_cells HB.out
      clear HB
      generalize wr.alloc _ = w1 at *
      generalize wr.heap.size = gg at *
      unfold isD at HNX HHT
      by_cases hb : r.n = c
      · have hb2 : (r.n == c) = true := by simpa using hb
        have HI := hide (HHT.out hb2)
        clear HHT HNX hb
        go_wp2_with fail
        go_ret
        exact ⟨ret_int HI.out.symm, HA.out⟩
      · have hb2 : (r.n == c) = false := by simpa using hb
        have HN2 := hide (HNX.out hb2)
        clear HHT HNX
        go_wp2_with fail
        go_roundw
        case rel => exact ⟨k + 1, by omega, by go_num, HN2, HA⟩
        case measure => simp [intOf]; omega
    · have HI := hide (idx_none (q := isD c) (L := p.L) (by rw [Hn.out, ← show k = n by omega]; exact HN.out))
      go_wp2_with fail
      go_ret
      exact ⟨ret_int HI.out.symm, HF.out⟩
set_option maxHeartbeats 2000000 in
theorem rof_any (p : Rm) (b : Nat) (vl vs vw : Value) (w : World) (c : Int) (h : QV p b vl vs vw w) (hl : p.L.length ≤ 64) :
    Calls Try.prog 46 #[.pointer (some ⟨b, 0, none⟩), .int .i64 c] w fun e w' => e = .returned (.int .i64 (idx (isO c) p.L)) ∧ Fr none' w w' := by
  obtain ⟨a, cap, rfl, hc0, hc1⟩ := h.L.shape
  have HV := hide h
  obtain ⟨c0, c1, c2, c3, c4, c5, c6, c7⟩ := h.c
  clear h
  obtain ⟨n, Hn⟩ : ∃ n, Hid (p.L.length = n) := ⟨_, hide rfl⟩
  rw [Hn.out] at hl hc0 c5 HV
  go_enter Try.func46, Try.ntmps46
  go_wp2_with fail
  clear c0 c1 c2 c3 c4 c5 c6 c7
  go_loopw [12] (fun u wr => ∃ k : Nat, k ≤ n ∧ u = .int .i64 (k : Int) ∧ Hid (noq (isO c) p.L k) ∧ Hid (Fr none' w wr)) (fun u _ => n - (intOf u).toNat)
  case atStart => exact ⟨0, Nat.zero_le _, rfl, hide (fun _ _ h => by omega), hide (Fr.refl _ _)⟩
  case round =>
    obtain ⟨k, hk, rfl, HN, HF⟩ := hrel
    by_cases hlt : k < n
    · have hkl : k < p.L.length := by rw [Hn.out]; exact hlt
      have hr := get_ok hkl
      have HNX := hide (fun hq => noq_next HN.out hr hq)
      have HHT := hide (fun hq => idx_hit HN.out hr hq)
      obtain ⟨g1, off, cap1, e, -, -, r0, r1, r2, r3, r4, -⟩ := con_cells (HV.out.fr HF.out).L hr
      simp only [Value.slice.injEq] at e
      obtain ⟨rfl, -, rfl⟩ := e
      generalize p.L[k] = r at *
      clear hr hkl
      have HA : Hid (Fr none' w (wr.alloc (cnO r))) := hide (HF.out.trans (Fr.alloc none' wr _) (fun _ _ x => x))
      have HB : Hid ((wr.alloc (cnO r)).heap[wr.heap.size]? = some (cnO r)) := hide (hp_new _ _)
      unfold cnO at HA HB
      go_upto_region 4 with fail
      clear r0 r1 r2 r3 r4 HF
      obtain ⟨e0, e1, e2, e3, e4⟩ := cn_cells HB.out
      clear HB
      generalize wr.alloc _ = w1 at *
      generalize wr.heap.size = gg at *
      unfold isO at HNX HHT
      by_cases hs : r.st = 3
      · have HN2 := hide (HNX.out (by simp [hs]))
        clear HHT HNX
        obtain ⟨qn, qs, qw, qi, qb⟩ := r
        dsimp only at hs e0 e1 e2 e3 e4
        subst hs
        go_wp2_with fail
        go_roundw
        case rel => exact ⟨k + 1, by omega, by go_num, HN2, HA⟩
        case measure => simp [intOf]; omega
      · have hs2 : (r.st == 3) = false := by simpa using hs
        by_cases hb : r.wh = c
        · have hb2 : (r.wh == c) = true := by simpa using hb
          have HI := hide (HHT.out (by simp [hs, hb]))
          clear HHT HNX hb
          go_wp2_with fail
          go_ret
          exact ⟨ret_int HI.out.symm, HA.out⟩
        · have hb2 : (r.wh == c) = false := by simpa using hb
          have HN2 := hide (HNX.out (by simp [hb]))
          clear HHT HNX
          go_wp2_with fail
          go_roundw
          case rel => exact ⟨k + 1, by omega, by go_num, HN2, HA⟩
          case measure => simp [intOf]; omega
    · have HI := hide (idx_none (q := isO c) (L := p.L) (by rw [Hn.out, ← show k = n by omega]; exact HN.out))
      go_wp2_with fail
      go_ret
      exact ⟨ret_int HI.out.symm, HF.out⟩
set_option maxHeartbeats 2000000 in
theorem rwaits_any (p : Rm) (b : Nat) (vl vs vw : Value) (w : World) (c : Int) (h : QV p b vl vs vw w) (hl : p.Q.length ≤ 64) :
    Calls Try.prog 47 #[.pointer (some ⟨b, 0, none⟩), .int .i64 c] w fun e w' => e = .returned (.int .i64 (idx (isN c) p.Q)) ∧ w = w' := by
  obtain ⟨a, cap, rfl, hc0, hc1⟩ := h.Q.shape
  have HV := hide h
  obtain ⟨c0, c1, c2, c3, c4, c5, c6, c7⟩ := h.c
  clear h
  obtain ⟨n, Hn⟩ : ∃ n, Hid (p.Q.length = n) := ⟨_, hide rfl⟩
  rw [Hn.out] at hl hc0 c7 HV
  go_enter Try.func47, Try.ntmps47
  go_wp2_with fail
  clear c0 c1 c2 c3 c4 c5 c6 c7
  go_loopw [12] (fun u wr => ∃ k : Nat, k ≤ n ∧ u = .int .i64 (k : Int) ∧ Hid (noq (isN c) p.Q k) ∧ w = wr) (fun u _ => n - (intOf u).toNat)
  case atStart => exact ⟨0, Nat.zero_le _, rfl, hide (fun _ _ h => by omega), rfl⟩
  case round =>
    obtain ⟨k, hk, rfl, HN, rfl⟩ := hrel
    by_cases hlt : k < n
    · have hkl : k < p.Q.length := by rw [Hn.out]; exact hlt
      have hr := get_ok hkl
      have HNX := hide (fun hq => noq_next HN.out hr hq)
      have HHT := hide (fun hq => idx_hit HN.out hr hq)
      obtain ⟨g1, off, cap1, e, -, -, r0⟩ := int_cell HV.out.Q hr
      simp only [Value.slice.injEq] at e
      obtain ⟨rfl, -, rfl⟩ := e
      generalize p.Q[k] = r at *
      clear hr hkl
      unfold isN at HNX HHT
      by_cases hb : c = r
      · subst hb
        have HI := hide (HHT.out (by simp))
        clear HHT HNX
        go_wp2_with fail
        go_ret
        exact ⟨ret_int HI.out.symm, rfl⟩
      · have hb2 : (r == c) = false := by simp; exact fun x => hb x.symm
        have hb3 : ¬ r = c := fun x => hb x.symm
        have HN2 := hide (HNX.out (by simpa using hb))
        clear HHT HNX hb
        go_wp2_with fail
        go_roundw
        case rel => exact ⟨k + 1, by omega, by go_num, HN2, trivial⟩
        case measure => simp [intOf]; omega
    · have HI := hide (idx_none (q := isN c) (L := p.Q) (by rw [Hn.out, ← show k = n by omega]; exact HN.out))
      go_wp2_with fail
      go_ret
      exact ⟨ret_int HI.out.symm, rfl⟩
set_option maxHeartbeats 1000000 in
theorem rend_any (p : Rm) (b : Nat) (vl vs vw : Value) (w : World) (r : Cn) (h : QV p b vl vs vw w) (l0 : 1 ≤ p.life) (l1 : p.life ≤ 1000000) (i0 : 1 ≤ p.idle) (i1 : p.idle ≤ 1000000) (b0 : 0 ≤ r.bo) (b1 : r.bo ≤ 4611686018427387904) (s0 : 0 ≤ r.si) (s1 : r.si ≤ 4611686018427387904) :
    Calls Try.prog 32 #[.pointer (some ⟨b, 0, none⟩), cnV r] w fun e w' => e = .returned (.int .i64 (rendI p r)) ∧ Fr none' w w' := by
  have HA := hide (fun V => (rlater_any r.si p.idle V s0 s1 (by omega) i1).mono (R' := fun e w' => e = .returned (.int .i64 (latI r.si p.idle)) ∧ w' = V) (fun e w' ⟨x, y⟩ => ⟨x, y.symm⟩))
  have HA2 := hide (fun V => (rlater_any r.bo p.life V b0 b1 (by omega) l1).mono (R' := fun e w' => e = .returned (.int .i64 (latI r.bo p.life)) ∧ w' = V) (fun e w' ⟨x, y⟩ => ⟨x, y.symm⟩))
  have HV := hide (h.fr (Fr.alloc none' w (cnO r)))
  have HB : Hid ((w.alloc (cnO r)).heap[w.heap.size]? = some (cnO r)) := hide (hp_new _ _)
  have HF := hide (Fr.alloc none' w (cnO r))
  clear h
  unfold rendI
  unfold cnV
  unfold cnO at HV HB HF
  go_enter Try.func32, Try.ntmps32
  go_wp2_with fail
  obtain ⟨r0, r1, r2, r3, r4⟩ := cn_cells HB.out
  obtain ⟨c0, c1, c2, c3, c4, c5, c6, c7⟩ := HV.out.c
  generalize w.alloc _ = w1 at *
  generalize w.heap.size = g at *
  go_quiet (first | (go_at_call 52; refine Calls.quiet_of_same (HA.out _)))
  have HF2 := hide (HF.out.d nq)
  have HV2 := hide (HV.out.fr (Fr.drewN none' w1 nq))
  have HB2 : Hid ((w1.drewN nq).heap[g]? = _) := hide HB.out
  clear HF r0 r1 r2 r3 r4 c0 c1 c2 c3 c4 c5 c6 c7 HA HV HB
  generalize w1.drewN nq = w2 at *
  obtain ⟨r0, r1, r2, r3, r4⟩ := cn_cells HB2.out
  obtain ⟨c0, c1, c2, c3, c4, c5, c6, c7⟩ := HV2.out.c
  clear HB2 HV2
  go_wp2_with fail
  go_quiet (first | (go_at_call 52; refine Calls.quiet_of_same (HA2.out _)))
  have HF3 := hide (HF2.out.d nq)
  clear HF2 r0 r1 r2 r3 r4 c0 c1 c2 c3 c4 c5 c6 c7 HA2
  generalize w2.drewN nq = w3 at *
  go_wp2_with fail
  all_goals go_ret
  all_goals exact ⟨ret_int (by omega), HF3.out⟩
/-- A list of numbers without one place. -/
theorem without_snoc {L : List Int} {i k : Nat} {x : Int} (h : L[k]? = some x) : (L.take (k + 1)).eraseIdx i = if k = i then (L.take k).eraseIdx i else (L.take k).eraseIdx i ++ [x] := by
  have hk := (List.getElem?_eq_some_iff.1 h).1
  rw [List.take_add_one, h]
  have hl : (L.take k).length = k := by rw [List.length_take]; omega
  show (L.take k ++ [x]).eraseIdx i = _
  by_cases e : k = i
  · rw [if_pos e, List.eraseIdx_append_of_length_le (by omega), hl, List.eraseIdx_of_length_le (l := L.take k) (by omega), show i - k = 0 by omega]
    simp
  · rw [if_neg e]
    by_cases h2 : i < k
    · rw [List.eraseIdx_append_of_lt_length (by omega)]
    · rw [List.eraseIdx_append_of_length_le (by omega), hl, List.eraseIdx_of_length_le (l := [x]) (by simp; omega), List.eraseIdx_of_length_le (l := L.take k) (by omega)]
set_option maxHeartbeats 2000000 in
set_option maxRecDepth 100000 in
theorem without_any (w : World) (v : Value) (L : List Int) (i : Nat) (h : Rw 3 1 w v L.length L) (hl : L.length ≤ 64) :
    Calls Try.prog 53 #[v, .int .i64 (i : Int)] w fun e w' => ∃ v', e = .returned v' ∧ Does (RQ v' (L.eraseIdx i)) none' w w' := by
  obtain ⟨a, cap, rfl, hc0, hc1⟩ := h.shape
  have HH := hide h
  clear h
  obtain ⟨n, Hn⟩ : ∃ n, Hid (L.length = n) := ⟨_, hide rfl⟩
  rw [Hn.out] at hl hc0 ⊢
  have T0 : Hid (Does (RQ (.slice none 0 0) ((L.take 0).eraseIdx i)) none' w w) := hide (RT.new 3 1 w)
  go_enter Try.func53, Try.ntmps53
  go_wp2_with fail
  go_loopw [5, 10] (fun s u wr => ∃ k : Nat, k ≤ n ∧ u = .int .i64 (k : Int) ∧ Hid (Does (RQ s ((L.take k).eraseIdx i)) none' w wr)) (fun _ u _ => n - (intOf u).toNat)
  case atStart => exact ⟨0, Nat.zero_le _, rfl, T0⟩
  case round =>
    clear T0
    obtain ⟨k, hk, rfl, HI⟩ := hrel
    obtain ⟨sa, sl, sc, rfl, Hsl⟩ : ∃ a n cap, u5 = .slice a n cap ∧ Hid (((L.take k).eraseIdx i).length = n) := by obtain ⟨_, y⟩ := HI.out.of; obtain ⟨a, c, e, _⟩ := y.1.shape; exact ⟨a, _, c, e, hide rfl⟩
    by_cases hlt : k < n
    · have hkl : k < L.length := by rw [Hn.out]; exact hlt
      have hr := get_ok hkl
      have HS := hide (without_snoc (i := i) hr)
      obtain ⟨g1, off, cap1, e, -, -, r0⟩ := int_cell (HH.out.fr (HI.out.choose_spec.2.1) (fun _ _ x => x)) hr
      simp only [Value.slice.injEq] at e
      obtain ⟨rfl, -, rfl⟩ := e
      generalize L[k] = x at *
      clear hr hkl
      have hsl : sl ≤ 64 := by
        have := Hsl.out
        rw [← this]
        exact Nat.le_trans (List.length_eraseIdx_le _ _) (by rw [List.length_take]; omega)
      by_cases hki : k = i
      · subst hki
        rw [if_pos rfl] at HS
        rw [← HS.out] at HI
        clear HS
        go_wp2_with fail
        go_roundw
        case rel => exact ⟨k + 1, by omega, by go_num, HI⟩
        case measure => simp [intOf]; omega
      · rw [if_neg hki] at HS
        have hki1 : ¬ (k : Int) = (i : Int) := by omega
        have hki2 : ((k : Int) == (i : Int)) = false := by simpa using hki1
        have HQ : Hid (Rw 3 1 wr (.slice sa sl sc) sl ((L.take k).eraseIdx i)) := by obtain ⟨_, y⟩ := HI.out.of; exact hide (by have := y.1; rw [Hsl.out] at this; exact this)
        go_wp2_with (at_builtin; apply Hid.out)
        unfold Hid
        refine wpList_append_rw infInt rfl _ _ rfl wr (.slice sa sl sc) sl _ [x] rfl (by simp [Act.eval, go_sem]) HQ.out rfl (by omega) (by omega) ?_
        intro v' W6 q1 F o
        have T6 : Hid (Does (RQ v' ((L.take (k + 1)).eraseIdx i)) none' w W6) := hide (HI.out.trans (fun _ y => by
          rw [HS.out]
          exact y.app (by rw [List.length_append, Hsl.out]; exact q1) F o))
        clear q1 F o HQ HI r0
        go_wp2_with fail
        go_roundw
        case rel => exact ⟨k + 1, by omega, by go_num, T6⟩
        case measure => simp [intOf]; omega
    · obtain rfl : k = n := by omega
      have e : L.take k = L := by rw [← Hn.out]; exact List.take_length
      rw [e] at HI
      go_wp2_with fail
      go_ret
      exact ⟨_, rfl, HI.out⟩
end Go.Proofs.Ytgeneknaekoinaa
