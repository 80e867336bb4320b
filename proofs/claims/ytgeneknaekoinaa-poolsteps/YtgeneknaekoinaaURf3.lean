/- The document's pool: a connection rests no longer; a connection is there no longer. -/
import Derived.Test.YtgeneknaekoinaaURf2
namespace Go.Proofs.Ytgeneknaekoinaa
open Go.ChangeShapes Go.WideShapes Go.ChangeAt Go.RowKit
set_option linter.unusedVariables false

theorem Does.put {A B : Thing} [a : Ob A] {P : Nat → Prop} {w w1 w2 : World} (h : Does A P w w1) (d : Does B none' w1 w2) : Does (Two B A) P w w2 := by
  obtain ⟨P1, h1, h2, h3⟩ := h
  obtain ⟨P', q1, q2, q3⟩ := d
  have q4 : ∀ k, P' k → w1.heap.size ≤ k := fun k hk => (q3 k hk).resolve_left id
  refine ⟨fun k => P' k ∨ P1 k, ⟨P', P1, q1, a.fr _ _ _ _ h1 q2 (fun _ _ x => x), fun k hk x => ?_, fun k => Iff.rfl⟩, h2.trans q2 (fun _ _ x => x.elim), fun k hk => ?_⟩
  · have := a.lt _ _ _ h1 x; have := q4 k hk; omega
  · rcases hk with x | x
    · exact .inr (Nat.le_trans h2.size (q4 k x))
    · exact h3 k x
/-- A list of numbers without the first that is c. -/
def erI (c : Int) (S : List Int) : List Int := if 0 ≤ idx (isN c) S then S.eraseIdx (idx (isN c) S).toNat else S
set_option maxHeartbeats 2000000 in
set_option maxRecDepth 100000 in
theorem rested_any (p : Rm) (b : Nat) (w : World) (P : Nat → Prop) (c : Int) (h : QX p b w P) (hl : p.S.length ≤ 64) :
    Calls Try.prog 62 #[.pointer (some ⟨b, 0, none⟩), .int .i64 c] w fun e w' => e = .returned (.tuple #[]) ∧ Does (QX { p with S := erI c p.S } b) P w w' := by
  obtain ⟨vl, vs, vw, h⟩ := h
  obtain ⟨a, cap, rfl, hc0, hc1⟩ := h.v.S.shape
  have HT := hide h
  obtain ⟨c0, c1, c2, c3, c4, c5, c6, c7⟩ := h.v.c
  have z6 := h.v.fz 6
  have HW := hide (fun i => without_any w _ p.S i h.v.S hl)
  clear h
  obtain ⟨n, Hn⟩ : ∃ n, Hid (p.S.length = n) := ⟨_, hide rfl⟩
  rw [Hn.out] at hl hc0 c6 HT HW
  go_enter Try.func62, Try.ntmps62
  go_wp2_with fail
  go_loopw [11] (fun u wr => ∃ k : Nat, k ≤ n ∧ u = .int .i64 (k : Int) ∧ Hid (noq (isN c) p.S k) ∧ w = wr) (fun u _ => n - (intOf u).toNat)
  case atStart => exact ⟨0, Nat.zero_le _, rfl, hide (fun _ _ h => by omega), rfl⟩
  case round =>
    obtain ⟨k, hk, rfl, HN, rfl⟩ := hrel
    by_cases hlt : k < n
    · have hkl : k < p.S.length := by rw [Hn.out]; exact hlt
      have hr := get_ok hkl
      have HNX := hide (fun hq => noq_next HN.out hr hq)
      have HHT := hide (fun hq => idx_hit HN.out hr hq)
      obtain ⟨g1, off, cap1, e, -, -, r0⟩ := int_cell HT.out.v.S hr
      simp only [Value.slice.injEq] at e
      obtain ⟨rfl, -, rfl⟩ := e
      generalize p.S[k] = r at *
      clear hr hkl
      unfold isN at HNX HHT
      by_cases hb : c = r
      · subst hb
        have HI := HHT.out (by simp)
        have HE : Hid (erI c p.S = p.S.eraseIdx k) := hide (by
          have hi : idx (isN c) p.S = (k : Int) := HI
          unfold erI
          rw [hi, if_pos (by omega), Int.toNat_natCast])
        have HW := hide (HW.out k)
        clear HHT HNX HI
        go_wp2_with fail
        refine HW.out.mono ?_
        rintro e w1 ⟨v', rfl, d⟩
        have T1 := hide ((Does.refl HT.out).put d)
        obtain ⟨sa, sl, sc, rfl⟩ : ∃ a n cap, v' = .slice a n cap := by obtain ⟨_, y⟩ := d.of; obtain ⟨a, c, e, _⟩ := y.1.shape; exact ⟨a, _, c, e⟩
        have F := d.choose_spec.2.1
        have k6 : w1.cell? ⟨b, 6, none⟩ = some (.slice (some ⟨g1, off, none⟩) n cap) := F.cl.cell c6
        have y6 : w1.frozen? ⟨b, 6, none⟩ = false := by obtain ⟨_, x⟩ := T1.out.snd_of; exact x.v.fz 6
        have T2 : Hid (Does (QX { p with S := p.S.eraseIdx k } b) P w (w1.setCell ⟨b, 6, none⟩ (.slice sa sl sc))) := hide (T1.out.trans (fun _ y => QT.takeS y)).qx
        clear d F T1 HW c0 c1 c2 c3 c4 c5 c6 c7 z6 r0
        go_wp2_with fail
        refine bodyPost_ret (v := .tuple #[]) (by simp [results, Try.results62, go_sem]) rfl ⟨rfl, ?_⟩
        rw [HE.out]
        exact T2.out
      · have hb2 : (r == c) = false := by simp; exact fun x => hb x.symm
        have hb3 : ¬ r = c := fun x => hb x.symm
        have HN2 := hide (HNX.out (by simpa using hb))
        clear HHT HNX hb
        go_wp2_with fail
        go_roundw
        case rel => exact ⟨k + 1, by omega, by go_num, HN2, trivial⟩
        case measure => simp [intOf]; omega
    · have HI := idx_none (q := isN c) (L := p.S) (by rw [Hn.out, ← show k = n by omega]; exact HN.out)
      have HE : Hid (erI c p.S = p.S) := hide (by unfold erI; rw [HI, if_neg (by omega)])
      have T2 : Hid (Does (QX { p with S := erI c p.S } b) P w w) := hide (by rw [HE.out]; exact (Does.refl HT.out).qx)
      clear HI
      go_wp2_with fail
      go_end0
      exact ⟨rfl, T2.out⟩
/-- .. without a connection. -/
def cutP (p : Rm) (c : Int) : Rm := { p with L := p.L.filter (fun r => r.n != c), S := erI c p.S }
theorem filter_snoc {L : List Cn} {q : Cn → Bool} {k : Nat} {r : Cn} (h : L[k]? = some r) : (L.take (k + 1)).filter q = if q r then (L.take k).filter q ++ [r] else (L.take k).filter q := by
  rw [List.take_add_one, h]
  cases hb : q r <;> simp [List.filter_append, hb]
theorem Does.nilRL {B : Thing} {P : Nat → Prop} {w w1 : World} (h : Does B P w w1) : Does (Two (RL (.slice none 0 0) []) B) P w w1 := by
  obtain ⟨P', h1, h2, h3⟩ := h
  exact ⟨P', ⟨fun _ => False, P', ⟨Rw.nil _ _ _, fun _ => by simp [Value.ownBlock]⟩, h1, fun _ x => x.elim, fun _ => by simp⟩, h2, h3⟩
set_option maxHeartbeats 2000000 in
set_option maxRecDepth 100000 in
theorem cut_any (p : Rm) (b : Nat) (w : World) (P : Nat → Prop) (c : Int) (h : QX p b w P) (hl : p.L.length ≤ 64) (hs : p.S.length ≤ 64) :
    Calls Try.prog 50 #[.pointer (some ⟨b, 0, none⟩), .int .i64 c] w fun e w' => e = .returned (.tuple #[]) ∧ Does (QX (cutP p c) b) P w w' := by
  obtain ⟨vl, vs, vw, h⟩ := h
  obtain ⟨a, cap, rfl, hc0, hc1⟩ := h.v.L.shape
  obtain ⟨c0, c1, c2, c3, c4, c5, c6, c7⟩ := h.v.c
  obtain ⟨n, Hn⟩ : ∃ n, Hid (p.L.length = n) := ⟨_, hide rfl⟩
  have HS := hide hs
  rw [Hn.out] at hl hc0 c5 h
  have T0 : Hid (Does (Two (RL (.slice none 0 0) ((p.L.take 0).filter (fun r => r.n != c))) (QT p b (.slice a n cap) vs vw)) P w w) := hide (Does.refl h).nilRL
  clear h hs
  go_enter Try.func50, Try.ntmps50
  go_wp2_with fail
  clear c0 c1 c2 c3 c4 c5 c6 c7
  go_loopw [4, 12] (fun s u wr => ∃ k : Nat, k ≤ n ∧ u = .int .i64 (k : Int) ∧ Hid (Does (Two (RL s ((p.L.take k).filter (fun r => r.n != c))) (QT p b (.slice a n cap) vs vw)) P w wr)) (fun _ u _ => n - (intOf u).toNat)
  case atStart => exact ⟨0, Nat.zero_le _, rfl, T0⟩
  case round =>
    clear T0
    obtain ⟨k, hk, rfl, HI⟩ := hrel
    obtain ⟨sa, sl, sc, rfl, Hsl⟩ : ∃ a n cap, u4 = .slice a n cap ∧ Hid (((p.L.take k).filter (fun r => r.n != c)).length = n) := by obtain ⟨_, y⟩ := HI.out.fst_of; obtain ⟨a, c, e, _⟩ := y.1.shape; exact ⟨a, _, c, e, hide rfl⟩
    by_cases hlt : k < n
    · have hkl : k < p.L.length := by rw [Hn.out]; exact hlt
      have hr := get_ok hkl
      have HSN := hide (filter_snoc (q := fun r => r.n != c) hr)
      obtain ⟨_, x⟩ := HI.out.snd_of
      obtain ⟨g1, off, cap1, e, -, -, r0, r1, r2, r3, r4, -⟩ := con_cells x.v.L hr
      simp only [Value.slice.injEq] at e
      obtain ⟨rfl, -, rfl⟩ := e
      generalize p.L[k] = r at *
      clear hr hkl x
      have hsl : sl ≤ 64 := by
        have := Hsl.out
        rw [← this]
        exact Nat.le_trans (List.length_filter_le _ _) (by rw [List.length_take]; omega)
      have T1 := hide (HI.out.new (cnO r))
      unfold cnO at T1
      go_upto_region 4 with fail
      clear r0 r1 r2 r3 r4 HI
      generalize wr.alloc _ = w1 at *
      generalize wr.heap.size = gg at *
      obtain ⟨_, y⟩ := T1.out.fst_of
      obtain ⟨e0, e1, e2, e3, e4⟩ := cn_cells y.1
      have T2 := hide T1.out.snd
      clear y T1
      try dsimp only at HSN
      by_cases hb : r.n = c
      · have hb2 : (r.n == c) = true := by simpa using hb
        rw [if_neg (by simp [hb])] at HSN
        rw [← HSN.out] at T2
        clear hb HSN
        go_wp2_with fail
        go_roundw
        case rel => exact ⟨k + 1, by omega, by go_num, T2⟩
        case measure => simp [intOf]; omega
      · have hb2 : (r.n == c) = false := by simpa using hb
        rw [if_pos (by simp [hb])] at HSN
        have HQ : Hid (Rw 84 5 w1 (.slice sa sl sc) sl (fl encC ((p.L.take k).filter (fun r => r.n != c)))) := by obtain ⟨_, y⟩ := T2.out.fst_of; exact hide (by have := y.1; rw [Hsl.out] at this; exact this)
        go_wp2_with (at_builtin; apply Hid.out)
        unfold Hid
        refine wpList_append_rw infCon rfl _ _ rfl w1 (.slice sa sl sc) sl _ (encC r) rfl (by simp [Act.eval, go_sem]) HQ.out rfl (by omega) (by omega) ?_
        intro v' W6 q1 F o
        have T6 : Hid (Does (Two (RL v' ((p.L.take (k + 1)).filter (fun r => r.n != c))) (QT p b (.slice (some ⟨g1, off, none⟩) n cap) vs vw)) P w W6) := hide (by
          rw [HSN.out]
          exact T2.out.left (fun _ y => y.app (by rw [fl_app, List.length_append, Hsl.out]; exact q1) F o))
        clear q1 F o HQ T2 e0 e1 e2 e3 e4
        go_wp2_with fail
        go_roundw
        case rel => exact ⟨k + 1, by omega, by go_num, T6⟩
        case measure => simp [intOf]; omega
    · obtain rfl : k = n := by omega
      have etk : p.L.take k = p.L := by rw [← Hn.out]; exact List.take_length
      rw [etk] at HI
      clear etk
      obtain ⟨_, x⟩ := HI.out.snd_of
      obtain ⟨c0, c1, c2, c3, c4, c5, c6, c7⟩ := x.v.c
      have z5 := x.v.fz 5
      clear x
      have T1 : Hid (Does (QX { p with L := p.L.filter (fun r => r.n != c) } b) P w (wr.setCell ⟨b, 5, none⟩ (.slice sa sl sc))) := hide (HI.out.trans (fun _ y => QT.takeL y)).qx
      clear HI
      go_upto_region 8 with fail
      clear c0 c1 c2 c3 c4 c5 c6 c7 z5
      generalize wr.setCell _ _ = w2 at *
      obtain ⟨P2, x, hx⟩ := T1.out.foc
      have HR := hide (rested_any _ b w2 P2 c x HS.out)
      have HX := hide hx
      clear x hx T1
      go_wp2_with fail
      refine HR.out.mono ?_
      rintro e w3 ⟨rfl, d⟩
      have T3 : Hid (Does (QX (cutP p c) b) P w w3) := hide (HX.out _ _ d)
      clear d HX HR
      go_wp2_with fail
      go_end0
      exact ⟨rfl, T3.out⟩
end Go.Proofs.Ytgeneknaekoinaa
