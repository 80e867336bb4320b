/- What rests too long is let go. -/
import Derived.Test.YtgeneknaekoinaaUAct3
namespace Go.Proofs.Ytgeneknaekoinaa
open Go.ChangeShapes Go.WideShapes Go.ChangeAt Go.RowKit
set_option linter.unusedVariables false

/-! ### Expire -/
def exB (p : Pm) (now : Int) (r : Rk) : Bool := (r.st == 2) && !goodB p r now
def clA (r : Rk) : Ac := ⟨5, r.c, -1⟩
def exC (p : Pm) (now : Int) (L : List Rk) : List Ac := (L.filter (exB p now)).map clA
def exL (p : Pm) (now : Int) (L : List Rk) : List Rk := L.filter (fun r => !exB p now r)
def exE (now : Int) : Int := if mom now then 0 else 1
def ex1 (p : Pm) (now : Int) : Pm := { p with R := exL p now p.R }
def exA (p : Pm) (now : Int) : List Ac := if mom now then exC p now p.R ++ svA (ex1 p now) now else []
def exP (p : Pm) (now : Int) : Pm := if mom now then svP (ex1 p now) now else p
theorem exC_snoc {p : Pm} {now : Int} {L : List Rk} {k : Nat} {r : Rk} (h : L[k]? = some r) : exC p now (L.take (k + 1)) = if exB p now r then exC p now (L.take k) ++ [clA r] else exC p now (L.take k) := by
  unfold exC
  rw [List.take_add_one, h]
  cases hb : exB p now r <;> simp [List.filter_append, hb]
theorem exL_snoc {p : Pm} {now : Int} {L : List Rk} {k : Nat} {r : Rk} (h : L[k]? = some r) : exL p now (L.take (k + 1)) = if exB p now r then exL p now (L.take k) else exL p now (L.take k) ++ [r] := by
  unfold exL
  rw [List.take_add_one, h]
  cases hb : exB p now r <;> simp [List.filter_append, hb]
theorem exC_len (p : Pm) (now : Int) (L : List Rk) : (exC p now L).length ≤ L.length := by unfold exC; rw [List.length_map]; exact List.length_filter_le _ _
theorem exL_len (p : Pm) (now : Int) (L : List Rk) : (exL p now L).length ≤ L.length := List.length_filter_le _ _
theorem POk.ex {p : Pm} {K : Int} (h : POk p K) (now : Int) : POk (ex1 p now) K := by
  have := exL_len p now p.R
  have := h.len
  exact { h with len := by unfold ex1; dsimp only; omega, rows := fun r hr => h.rows r (List.mem_filter.1 hr).1 }
/-- Another row, of blocks of its own, put in the pool. -/
theorem PT.take {p : Pm} {b : Nat} {vr vw v' : Value} {L' : List Rk} {w : World} {P : Nat → Prop} (h : Two (RR v' L') (PT p b vr vw) w P) : Does (PT { p with R := L' } b v' vw) P w (w.setCell ⟨b, 6, none⟩ v') := by
  obtain ⟨P1, P2, hv, hp, d1, d2⟩ := h
  obtain ⟨h1, h2, h3, h4, h5, h6, h7⟩ := hp.parts
  have n1 : v'.ownBlock ≠ some b := fun e => d1 b ((hv.2 b).2 e) ((h7 b).2 (.inl rfl))
  refine ⟨_, PT.mk (p := { p with R := L' }) (hp_set h1 6 v') (hv.1.fr (Fr.set _ _ _ _) (fun k hk e => n1 (by rw [hk, e]))) (h3.fr (Fr.set _ _ _ _) (fun k hk e => h5 (by rw [hk, e]))) n1 h5 (fun k hk e => d1 k ((hv.2 k).2 hk) ((h7 k).2 (.inr (.inr e)))), (Fr.set _ _ _ _).mono (fun k _ e => (d2 k).2 (.inr ((h7 k).2 (.inl e)))), fun k hk => .inl ((d2 k).2 ?_)⟩
  rcases hk with e | e | e
  · exact .inr ((h7 k).2 (.inl e))
  · exact .inl ((hv.2 k).2 e)
  · exact .inr ((h7 k).2 (.inr (.inr e)))
theorem Does.nilRR {B : Thing} {P : Nat → Prop} {w w1 : World} (h : Does B P w w1) : Does (Two (RR (.slice none 0 0) []) B) P w w1 := by
  obtain ⟨P', h1, h2, h3⟩ := h
  exact ⟨P', ⟨fun _ => False, P', ⟨Rw.nil _ _ _, fun _ => by simp [Value.ownBlock]⟩, h1, fun _ x => x.elim, fun _ => by simp⟩, h2, h3⟩
set_option maxHeartbeats 1000000 in
set_option maxRecDepth 100000 in
theorem expire_any (p : Pm) (b : Nat) (w : World) (P : Nat → Prop) (now K : Int) (h : PX p b w P) (k0 : POk p K) (hK : K < 9223372036854775806) :
    Calls Try.prog 19 #[.pointer (some ⟨b, 0, none⟩), .int .i64 now] w fun e w' => ∃ v, e = .returned (.tuple #[v, .int .i64 (exE now)]) ∧ Does (Two (RA v (exA p now)) (PX (exP p now) b)) P w w' := by
  have h64 := k0.r64
  have HM := hide (isMom_any now w)
  cases hm : mom now with
  | false =>
    have e0 : exE now = 1 := by unfold exE; rw [hm]; rfl
    have e2 : exA p now = [] := by unfold exA; rw [hm]; rfl
    have e3 : exP p now = p := by unfold exP; rw [hm]; rfl
    rw [e0, e2, e3]
    rw [hm] at HM
    have T := hide (Does.refl h).nilRA
    clear h e0 e2 e3 k0 hm
    go_enter Try.func19, Try.ntmps19
    go_wp2_with (first | (go_at_call 34; refine HM.out.mono ?_; rintro e w' ⟨rfl, rfl⟩))
    go_ret2
    exact ⟨_, rfl, T.out⟩
  | true =>
    have e0 : exE now = 0 := by unfold exE; rw [hm]; rfl
    have e2 : exA p now = exC p now p.R ++ svA (ex1 p now) now := by unfold exA; rw [hm]; rfl
    have e3 : exP p now = svP (ex1 p now) now := by unfold exP; rw [hm]; rfl
    rw [e0, e2, e3]
    rw [hm] at HM
    obtain ⟨vr, vw, h⟩ := h
    have T0 : Hid (Does (Two (RA (.slice none 0 0) (exC p now (p.R.take 0))) (Two (RR (.slice none 0 0) (exL p now (p.R.take 0))) (PT p b vr vw))) P w w) := hide (Does.refl h).nilRR.nilRA
    have HMM := hide hm
    have HK := hide k0
    have HKE := hide (k0.ex now)
    obtain ⟨c0, c1, c2, c3, c4, c5, c6, c7⟩ := h.v.c
    obtain ⟨ra, rc, rfl, hc0, hc1⟩ := h.v.r
    have HCL := hide (fun k => exC_len p now (p.R.take k))
    have HLL := hide (fun k => exL_len p now (p.R.take k))
    clear h e0 e2 e3 k0 hm
    obtain ⟨n, Hn⟩ : ∃ n, Hid (p.R.length = n) := ⟨_, hide rfl⟩
    rw [Hn.out] at h64 c6 hc0 T0
    go_enter Try.func19, Try.ntmps19
    go_wp2_with (first | (go_at_call 34; refine HM.out.mono ?_; rintro e w' ⟨rfl, rfl⟩))
    clear c0 c1 c2 c3 c4 c5 c6 c7
    go_loopw [6, 7, 20] (fun s t u wr => ∃ k : Nat, k ≤ n ∧ u = .int .i64 (k : Int) ∧ Hid (Does (Two (RA s (exC p now (p.R.take k))) (Two (RR t (exL p now (p.R.take k))) (PT p b (.slice ra n rc) vw))) P w wr)) (fun _ _ u _ => n - (intOf u).toNat)
    case atStart => exact ⟨0, Nat.zero_le _, rfl, T0⟩
    case round =>
      clear T0
      obtain ⟨k, hk, rfl, HI⟩ := hrel
      obtain ⟨sa, sl, sc, rfl⟩ : ∃ a n cap, u6 = .slice a n cap := by obtain ⟨_, y⟩ := HI.out.fst_of; obtain ⟨a, c, e, _⟩ := y.1.shape; exact ⟨a, _, c, e⟩
      obtain ⟨ta, tl, tc, rfl⟩ : ∃ a n cap, u7 = .slice a n cap := by obtain ⟨_, _, _, y, -, -, -⟩ := HI.out.snd_of; obtain ⟨a, c, e, _⟩ := y.1.shape; exact ⟨a, _, c, e⟩
      by_cases hlt : k < n
      · have hkl : k < p.R.length := by rw [Hn.out]; exact hlt
        have hr := get_ok hkl
        have HSC := hide (exC_snoc (p := p) (now := now) hr)
        have HSL := hide (exL_snoc (p := p) (now := now) hr)
        obtain ⟨⟨b0, b1⟩, ⟨s0, s1⟩, -⟩ := HK.out.rows _ (List.mem_of_getElem? hr)
        obtain ⟨_, _, _, _, x, -, -⟩ := HI.out.snd_of
        obtain ⟨c0, c1, c2, c3, c4, c5, c6, c7⟩ := x.v.c
        obtain ⟨g1, off, cap1, e, -, -, r0, r1, r2, r3, r4, r5, -, -⟩ := row_cells x.v.R hr
        simp only [Value.slice.injEq] at e
        obtain ⟨rfl, -, rfl⟩ := e
        generalize p.R[k] = r at *
        clear hr hkl x
        have T1 := hide (HI.out.new (rkO r))
        unfold rkO at T1
        go_upto_region 10 with fail
        clear r0 r1 r2 r3 r4 r5 c0 c1 c2 c3 c4 c5 c6 c7 HI
        generalize wr.alloc _ = w1 at *
        generalize wr.heap.size = gg at *
        obtain ⟨_, y⟩ := T1.out.fst_of
        obtain ⟨e0, e1, e2, e3, e4, e5⟩ := rk_cells y.1
        obtain ⟨_, _, _, _, ⟨_, _, _, x, -, -⟩, -, -⟩ := T1.out.snd_of
        have HG := hide (good_any p b _ vw w1 r x.v HK.out.life0 HK.out.life1 HK.out.idle0 HK.out.idle1 b0 b1 s0 s1 now)
        unfold rkV at HG
        clear x y
        by_cases hex : exB p now r = true
        · rw [hex, if_pos rfl] at HSC HSL
          have hst : r.st = 2 ∧ goodB p r now = false := by unfold exB at hex; simpa using hex
          obtain ⟨hst, hgd⟩ := hst
          rw [hgd] at HG
          have hs2 : (r.st == 2) = true := by simpa using hst
          clear hex hgd hst
          have HLN : Hid ((exC p now (p.R.take k)).length ≤ 64) := hide (by have := HCL.out k; rw [List.length_take] at this; omega)
          go_wp2_with fail
          refine HG.out.mono ?_
          rintro e w2 ⟨rfl, F2⟩
          have T2 := hide (T1.out.e F2)
          clear F2 HG T1 e0 e1 e2 e3 e4 e5
          obtain ⟨_, y⟩ := T2.out.fst_of
          obtain ⟨e0, e1, e2, e3, e4, e5⟩ := rk_cells y.1
          clear y
          have T3 := hide T2.out.snd
          clear T2
          have HS : Hid (Rw 49 3 w2 (.slice sa sl sc) (exC p now (p.R.take k)).length (fl encA (exC p now (p.R.take k)))) := by obtain ⟨_, x⟩ := T3.out.fst_of; exact hide x.1
          go_wp2_with (at_builtin; apply Hid.out)
          unfold Hid
          refine wpList_append_rw infAct rfl _ _ rfl w2 (.slice sa sl sc) _ _ (encA (clA r)) rfl (by simp [Act.eval, go_sem]) HS.out rfl (by have := HLN.out; omega) (by have := HLN.out; omega) ?_
          intro v' W6 q1 F o
          have T6 : Hid (Does (Two (RA v' (exC p now (p.R.take (k + 1)))) (Two (RR (.slice ta tl tc) (exL p now (p.R.take (k + 1)))) (PT p b (.slice (some ⟨g1, off, none⟩) n rc) vw))) P w W6) := hide (by
            rw [HSC.out, HSL.out]
            exact T3.out.left (fun _ y => y.app (by rw [fl_app, List.length_append]; exact q1) F o))
          clear q1 F o HS T3 e0 e1 e2 e3 e4 e5
          go_wp2_with fail
          go_roundw
          case rel => exact ⟨k + 1, by omega, by go_num, T6⟩
          case measure => simp [intOf]; omega
        · have hexf : exB p now r = false := by simpa using hex
          rw [hexf, if_neg (by simp)] at HSC HSL
          have HLN : Hid ((exL p now (p.R.take k)).length ≤ 64) := hide (by have := HLL.out k; rw [List.length_take] at this; omega)
          have hcase : ¬ r.st = 2 ∨ (r.st = 2 ∧ goodB p r now = true) := by
            unfold exB at hexf
            by_cases q : r.st = 2
            · right; rw [q] at hexf; exact ⟨q, by simpa using hexf⟩
            · exact .inl q
          clear hex hexf
          rcases hcase with hst | ⟨hst, hgd⟩
          · have hs2 : (r.st == 2) = false := by simpa using hst
            have T3 := hide T1.out.snd
            clear HG T1
            have HS : Hid (Rw 80 6 w1 (.slice ta tl tc) (exL p now (p.R.take k)).length (fl encR (exL p now (p.R.take k)))) := by obtain ⟨_, _, _, y, -, -, -⟩ := T3.out.snd_of; exact hide y.1
            go_wp2_with (at_builtin; apply Hid.out)
            unfold Hid
            refine wpList_append_rw infRow rfl _ _ rfl w1 (.slice ta tl tc) _ _ (encR r) rfl (by simp [Act.eval, go_sem]) HS.out rfl (by have := HLN.out; omega) (by have := HLN.out; omega) ?_
            intro v' W6 q1 F o
            have T6 : Hid (Does (Two (RA (.slice sa sl sc) (exC p now (p.R.take (k + 1)))) (Two (RR v' (exL p now (p.R.take (k + 1)))) (PT p b (.slice (some ⟨g1, off, none⟩) n rc) vw))) P w W6) := hide (by
              rw [HSC.out, HSL.out]
              exact T3.out.right (fun _ z => (Does.refl z).left (fun _ y => y.app (by rw [fl_app, List.length_append]; exact q1) F o)))
            clear q1 F o HS T3 e0 e1 e2 e3 e4 e5
            go_wp2_with fail
            go_roundw
            case rel => exact ⟨k + 1, by omega, by go_num, T6⟩
            case measure => simp [intOf]; omega
          · rw [hgd] at HG
            have hs2 : (r.st == 2) = true := by simpa using hst
            clear hgd hst
            go_wp2_with fail
            refine HG.out.mono ?_
            rintro e w2 ⟨rfl, F2⟩
            have T2 := hide (T1.out.e F2)
            clear F2 HG T1 e0 e1 e2 e3 e4 e5
            obtain ⟨_, y⟩ := T2.out.fst_of
            obtain ⟨e0, e1, e2, e3, e4, e5⟩ := rk_cells y.1
            clear y
            have T3 := hide T2.out.snd
            clear T2
            have HS : Hid (Rw 80 6 w2 (.slice ta tl tc) (exL p now (p.R.take k)).length (fl encR (exL p now (p.R.take k)))) := by obtain ⟨_, _, _, y, -, -, -⟩ := T3.out.snd_of; exact hide y.1
            go_wp2_with (at_builtin; apply Hid.out)
            unfold Hid
            refine wpList_append_rw infRow rfl _ _ rfl w2 (.slice ta tl tc) _ _ (encR r) rfl (by simp [Act.eval, go_sem]) HS.out rfl (by have := HLN.out; omega) (by have := HLN.out; omega) ?_
            intro v' W6 q1 F o
            have T6 : Hid (Does (Two (RA (.slice sa sl sc) (exC p now (p.R.take (k + 1)))) (Two (RR v' (exL p now (p.R.take (k + 1)))) (PT p b (.slice (some ⟨g1, off, none⟩) n rc) vw))) P w W6) := hide (by
              rw [HSC.out, HSL.out]
              exact T3.out.right (fun _ z => (Does.refl z).left (fun _ y => y.app (by rw [fl_app, List.length_append]; exact q1) F o)))
            clear q1 F o HS T3 e0 e1 e2 e3 e4 e5
            go_wp2_with fail
            go_roundw
            case rel => exact ⟨k + 1, by omega, by go_num, T6⟩
            case measure => simp [intOf]; omega
      · obtain rfl : k = n := by omega
        have etk : p.R.take k = p.R := by rw [← Hn.out]; exact List.take_length
        rw [etk] at HI
        clear etk
        have HLE : Hid ((exC p now p.R).length ≤ 64) := hide (by have := exC_len p now p.R; have := Hn.out; omega)
        obtain ⟨_, _, _, _, x, -, -⟩ := HI.out.snd_of
        obtain ⟨c0, c1, c2, c3, c4, c5, c6, c7⟩ := x.v.c
        have z6 := x.v.fz 6
        clear x
        have T1 : Hid (Does (Two (RA (.slice sa sl sc) (exC p now p.R)) (PX (ex1 p now) b)) P w (wr.setCell ⟨b, 6, none⟩ (.slice ta tl tc))) := hide (HI.out.right (fun _ z => (PT.take z).px))
        clear HI
        go_upto_region 15 with fail
        clear c0 c1 c2 c3 c4 c5 c6 c7 z6
        generalize wr.setCell _ _ = w2 at *
        obtain ⟨P3, x, hx⟩ := T1.out.foc
        have HSV := hide (serve_any (ex1 p now) b w2 P3 now K _ _ x HKE.out hK HMM.out HLE.out)
        have HX := hide hx
        clear x hx T1
        go_wp2_with fail
        refine HSV.out.mono ?_
        rintro e w4 ⟨v, rfl, d⟩
        have T3 := hide (HX.out _ _ d)
        obtain ⟨sa2, sl2, sc2, rfl⟩ : ∃ a n cap, v = .slice a n cap := by obtain ⟨_, y⟩ := T3.out.fst_of; obtain ⟨a, c, e, _⟩ := y.1.shape; exact ⟨a, _, c, e⟩
        clear d HX HSV
        go_wp2_with fail
        go_ret2
        exact ⟨_, rfl, T3.out⟩
end Go.Proofs.Ytgeneknaekoinaa
