/- The document's request: Time. -/
import Derived.Test.YtjfpdenakgifgaaADo6
namespace Go.Proofs.Ytjfpdenakgifgaa
open Go.ChangeShapes Go.WideShapes Go.ChangeAt Go.RowKit
set_option linter.unusedVariables false

/-- What the document keeps beside agrees with the request. -/
structure XOk (x : Ex) (p : Rq) : Prop where
  en : p.en = latI x.si p.to
  hg : p.hg = if x.tm = true then 0 else x.hg
  s0 : 0 ≤ x.si
  s1 : x.si ≤ 4611686018427387904
  t0 : 1 ≤ p.to
  t1 : p.to ≤ 1000000
def Same (p q : Rq) : Prop := q.hg = p.hg ∧ q.ha = p.ha ∧ q.pt = p.pt ∧ q.to = p.to ∧ q.en = p.en
theorem Same.refl (p : Rq) : Same p p := ⟨rfl, rfl, rfl, rfl, rfl⟩
theorem Same.trans {p q r : Rq} (h : Same p q) (k : Same q r) : Same p r := ⟨k.1.trans h.1, k.2.1.trans h.2.1, k.2.2.1.trans h.2.2.1, k.2.2.2.1.trans h.2.2.2.1, k.2.2.2.2.trans h.2.2.2.2⟩
theorem Same.fl (p : Rq) (now id why : Int) (al : Bool) : Same p (flP p now id why al) := by
  unfold flP; split <;> exact ⟨rfl, rfl, rfl, rfl, rfl⟩
theorem Same.lg (p : Rq) (l : List Int) : Same p (lgP p l) := by rw [lg_eq]; exact ⟨rfl, rfl, rfl, rfl, rfl⟩
theorem Same.ll (now : Int) (al : Bool) : ∀ (l : List Int) (s : Rq × List Ac), Same s.1 (l.foldl (llS now al) s).1
  | [], s => Same.refl _
  | i :: l, s => Same.trans (Same.trans (show Same s.1 (fgP s.1 i) from ⟨rfl, rfl, rfl, rfl, rfl⟩) (Same.fl (fgP s.1 i) now i 3 al)) (Same.ll now al l (llS now al s i))
theorem XOk.same {x : Ex} {p q : Rq} (h : XOk x p) (s : Same p q) : XOk x q := ⟨by rw [s.2.2.2.2, s.2.2.2.1]; exact h.en, by rw [s.1]; exact h.hg, h.s0, h.s1, by rw [s.2.2.2.1]; exact h.t0, by rw [s.2.2.2.1]; exact h.t1⟩
theorem fg_fg (p : Rq) (id : Int) : fgP (fgP p id) id = fgP p id := by
  unfold fgP noId
  dsimp only
  rw [List.filter_filter]
  congr 1
  exact List.filter_congr (fun x _ => by simp)
theorem l1_eq (p : Rq) (now : Int) (al : Bool) (id : Int) : l1P p now al id = flP p now id 3 al ∧ l1A p al id = lgA [id] ++ flA p id 3 al := by
  unfold l1P l1A flP flA
  rw [fg_fg]
  exact ⟨rfl, rfl⟩
theorem Does.map {O O' : Thing} {P : Nat → Prop} {w w' : World} (h : Does O P w w') (f : ∀ P', O w' P' → O' w' P') : Does O' P w w' := by
  obtain ⟨P', h1, h2, h3⟩ := h
  exact ⟨P', f _ h1, h2, h3⟩
/-- The object, and two rows that were its own at first, read all the while. -/
def Cap (x : Ex) (p : Rq) (A : List Ac) (b : Nat) (vi vb : Value) (I B : List Int) : Thing := fun w P => (DW x p (numP p) p.R.isEmpty I B A b vi vb w P ∧ I = ids p.R ∧ B = sis p.R) ∨ Two (RI vi I) (Two (RI vb B) (DX x p (numP p) A p.R.isEmpty b)) w P
instance Cap.ob (x : Ex) (p : Rq) (A : List Ac) (b : Nat) (vi vb : Value) (I B : List Int) : Ob (Cap x p A b vi vb I B) := ⟨fun w w' P Q h F d => h.elim (fun y => .inl ⟨Ob.fr w w' P Q y.1 F d, y.2⟩) (fun y => .inr (Ob.fr w w' P Q y F d)), fun w P k h hk => h.elim (fun y => Ob.lt w P k y.1 hk) (fun y => Ob.lt w P k y hk)⟩
section
variable {x : Ex} {p : Rq} {A : List Ac} {b : Nat} {vi0 vb0 : Value} {I0 B0 : List Int} {w : World} {P : Nat → Prop}
theorem Cap.view (h : Cap x p A b vi0 vb0 I0 B0 w P) : ∃ vi vb vo, w.heap[b]? = some (dO x p (numP p) p.R.isEmpty vi vb vo) ∧ Rw 3 1 w vi0 I0.length I0 ∧ Rw 3 1 w vb0 B0.length B0 ∧ Rw 66 3 w vo A.length (fl encA A) ∧ vo.ownBlock ≠ some b ∧ ∀ (w' : World) (v' : Value) (A' : List Ac), Rw 66 3 w' v' A'.length (fl encA A') → Fr (fun k => vo.ownBlock = some k) w w' → (∀ k, v'.ownBlock = some k → vo.ownBlock = some k ∨ w.heap.size ≤ k) → Does (Cap x p A' b vi0 vb0 I0 B0) P w (w'.setCell ⟨b, 15, none⟩ v') := by
  rcases h with ⟨⟨vo, y⟩, hI, hB⟩ | h
  · have q := y.pt
    exact ⟨vi0, vb0, vo, q.B0, q.I, q.B, q.A, q.nA, fun w' v' A' s F o => (y.setA s F o).map (fun P' z => .inl ⟨⟨v', z⟩, hI, hB⟩)⟩
  · obtain ⟨P1, P23, r1, ⟨P2, P3, r2, ⟨vi, vb, vo, y⟩, d2, e2⟩, d1, e1⟩ := h
    have q := y.pt
    refine ⟨vi, vb, vo, q.B0, r1.1, r2.1, q.A, q.nA, fun w' v' A' s F o => ?_⟩
    have h' : Two (RI vi0 I0) (Two (RI vb0 B0) (DT x p (numP p) p.R.isEmpty (ids p.R) (sis p.R) A b vi vb vo)) w P := ⟨P1, P23, r1, ⟨P2, P3, r2, y, d2, e2⟩, d1, e1⟩
    exact ((Does.refl h').in3 (fun P4 z => (z.setA s F o).dx)).map (fun P' z => .inr z)
theorem Cap.dx (h : Cap x p A b vi0 vb0 I0 B0 w P) : Does (DX x p (numP p) A p.R.isEmpty b) P w w := by
  rcases h with ⟨⟨vo, y⟩, hI, hB⟩ | h
  · subst hI; subst hB
    exact (Does.refl y).dx
  · exact (Does.refl h).snd.snd
theorem Cap.fails (now id why : Int) (al : Bool) (h : Cap x p A b vi0 vb0 I0 B0 w P) (k0 : QOk p) (hne : p.R ≠ []) (hA : A.length ≤ 60) :
    Calls Try.prog 34 #[.pointer (some ⟨b, 0, none⟩), .int .i64 now, .int .i64 id, .int .i64 why, .bool al] w fun e w' => e = .returned (.tuple #[]) ∧ Does (Cap x (flP p now id why al) (A ++ flA p id why al) b vi0 vb0 I0 B0) P w w' := by
  have hie : p.R.isEmpty = false := by rw [List.isEmpty_eq_false_iff]; exact hne
  rcases h with ⟨⟨vo, y⟩, hI, hB⟩ | h
  · subst hI; subst hB
    rw [hie] at y
    refine (rfails_any now id why al y k0 hA).mono ?_
    rintro e w' ⟨rfl, d⟩
    exact ⟨rfl, d.map (fun P' z => .inr z)⟩
  · obtain ⟨P2, ⟨vi, vb, vo, y⟩, hy⟩ := (Does.refl h).foc3
    rw [hie] at y
    refine (rfails_any now id why al y k0 hA).mono ?_
    rintro e w' ⟨rfl, d⟩
    exact ⟨rfl, (hy _ _ d.snd.snd).map (fun P' z => .inr z)⟩
end
def txX (x : Ex) (p : Rq) (now : Int) (al : Bool) : Ex := if mom now = true ∧ p.R ≠ [] ∧ ¬ p.en ≤ now ∧ hgB (llF p now al (ltL p now)).1 now = true ∧ al = false then { x with tm := true } else x
/-- As far as which of its attempts. -/
def stK (p : Rq) (now : Int) (al : Bool) (k : Nat) : Rq × List Ac := llF p now al (ids ((p.R.take k).filter (tirB p now)))
theorem stK_next {p : Rq} {now : Int} {al : Bool} {k : Nat} {r : Rn} (h : p.R[k]? = some r) : stK p now al (k + 1) = if tirB p now r = true then llS now al (stK p now al k) r.id else stK p now al k := by
  unfold stK
  rw [take_next h, List.filter_append, ids_app]
  by_cases e : tirB p now r = true
  · rw [if_pos e, List.filter_cons, if_pos e]
    unfold llF
    rw [List.foldl_append]; rfl
  · rw [if_neg e, List.filter_cons, if_neg e]
    simp [ids]
theorem stK_ok {p : Rq} (h : QOk p) {now : Int} (al : Bool) (n0 : 0 ≤ now) (n1 : now ≤ 4611686018427387904) (k : Nat) : QOk (stK p now al k).1 := QOk.ll al n0 n1 _ (s := (p, [])) h
theorem stK_same (p : Rq) (now : Int) (al : Bool) (k : Nat) : Same p (stK p now al k).1 := Same.ll now al _ (p, [])
theorem stK_len (p : Rq) (now : Int) (al : Bool) (k : Nat) : (stK p now al k).2.length ≤ 2 * k := by
  have := llF_len p now al (ids ((p.R.take k).filter (tirB p now)))
  have h2 := List.length_filter_le (tirB p now) (p.R.take k)
  rw [List.length_take] at h2
  rw [ids_len] at this
  unfold stK
  omega
/-- Those not looked at yet run still. -/
theorem stK_rem {p : Rq} (hnd : Nd p) {now : Int} {al : Bool} : ∀ (k : Nat), ∀ j r, k ≤ j → p.R[j]? = some r → r.id ∈ ids (stK p now al k).1.R
  | 0, j, r, _, hr => by
    show r.id ∈ ids p.R
    exact ids_mem (List.mem_of_getElem? hr)
  | k + 1, j, r, hj, hr => by
    have ih := stK_rem hnd (now := now) (al := al) k j r (by omega) hr
    by_cases hk : k < p.R.length
    · have hrk := get_ok hk
      rw [stK_next hrk]
      by_cases e : tirB p now p.R[k] = true
      · rw [if_pos e]
        have hne : r.id ≠ p.R[k].id := fun e2 => by
          have h1 : (ids p.R)[j]? = some r.id := by unfold ids; rw [List.getElem?_map, hr]; rfl
          have h2 : (ids p.R)[k]? = some r.id := by unfold ids; rw [List.getElem?_map, hrk, e2]; rfl
          have := (List.getElem?_inj (by rw [ids_len]; exact hk) hnd).1 (h2.trans h1.symm)
          omega
        show r.id ∈ ids (l1P (stK p now al k).1 now al p.R[k].id).R
        rw [(l1_eq _ now al _).1]
        obtain ⟨s, hs, he⟩ := mem_ids ih
        have hm : s ∈ (fgP (stK p now al k).1 p.R[k].id).R := fg_mem.2 ⟨hs, by rw [he]; exact hne⟩
        unfold flP
        split
        · rename_i z; rw [z.1] at hm; simp at hm
        · rw [← he]; exact ids_mem hm
      · rw [if_neg e]; exact ih
    · have := (List.getElem?_eq_some_iff.1 hr).1
      omega
set_option maxHeartbeats 8000000 in
set_option maxRecDepth 100000 in
theorem rtime_any (x : Ex) (p : Rq) (b : Nat) (w : World) (P : Nat → Prop) (now : Int) (al : Bool) (h : RX x p b w P) (k0 : QOk p) (hnd : Nd p) (xo : XOk x p) :
    Calls Try.prog 16 #[.pointer (some ⟨b, 0, none⟩), .int .i64 now, .bool al] w fun e w' => ∃ v, e = .returned (.tuple #[v, .int .i64 (tmE now)]) ∧ Does (Two (RB v (tmA p now al)) (RX (txX x p now al) (tmP p now al) b)) P w w' := by
  have HM := hide (moment_any now w)
  have T := hide (Does.refl h)
  unfold tmE
  cases hm : mom now with
  | false =>
    have e2 : tmA p now al = [] := by unfold tmA; rw [hm, if_neg (fun x => by simp at x)]
    have e3 : tmP p now al = p := by unfold tmP; rw [hm, if_neg (fun x => by simp at x)]
    have e4 : txX x p now al = x := by unfold txX; rw [hm, if_neg (fun x => by simp at x)]
    rw [e2, e3, e4]
    rw [hm] at HM
    have T1 := hide T.out.nilRB
    clear h e2 e3 e4 hm k0 T
    go_enter Try.func16, Try.ntmps16
    go_wp2_with (first | (go_at_call 25; refine HM.out.mono ?_; rintro e w' ⟨rfl, rfl⟩))
    go_ret2
    exact ⟨_, rfl, T1.out⟩
  | true =>
    rw [hm] at HM
    rw [if_pos rfl]
    by_cases hr : p.R = []
    · have e2 : tmA p now al = [] := by unfold tmA; rw [if_neg (fun x => x.2 hr)]
      have e3 : tmP p now al = p := by unfold tmP; rw [if_neg (fun x => x.2 hr)]
      have e4 : txX x p now al = x := by unfold txX; rw [if_neg (fun x => x.2.1 hr)]
      rw [e2, e3, e4]
      have T1 := hide T.out.nilRB
      unfold RX at h
      rw [show p.R.isEmpty = true by rw [hr]; rfl] at h
      obtain ⟨vi, vb, vo, y⟩ := h
      obtain ⟨c0, c1, c2, c3, c4, c5, c6, c7, c8, c9, c10, c11, c12, c13, c14, c15⟩ := y.pt.c
      clear y e2 e3 e4 hm k0 T hr
      go_enter Try.func16, Try.ntmps16
      go_wp2_with (first | (go_at_call 25; refine HM.out.mono ?_; rintro e w' ⟨rfl, rfl⟩))
      go_ret2
      exact ⟨_, rfl, T1.out⟩
    · have hc : mom now = true ∧ p.R ≠ [] := ⟨hm, hr⟩
      have hie : p.R.isEmpty = false := by rw [List.isEmpty_eq_false_iff]; exact hr
      unfold RX at h
      rw [hie] at h
      obtain ⟨vi, vb, vo, y⟩ := h
      have HQ0 := hide y.pt
      have HD := hide y
      obtain ⟨c0, c1, c2, c3, c4, c5, c6, c7, c8, c9, c10, c11, c12, c13, c14, c15⟩ := y.pt.c
      have HLA := hide (fun V => (rlater_any x.si p.to V xo.s0 xo.s1 (by have := xo.t0; omega) xo.t1).mono (R' := fun e w' => e = .returned (.int .i64 p.en) ∧ w' = V) (fun e w' ⟨a, z⟩ => ⟨by rw [a, xo.en], z.symm⟩))
      have H9 := hide k0.r9
      have HK := hide k0
      obtain ⟨n0, n1⟩ := mom_iff.1 hm
      have HST := hide (fun k => stK_ok k0 al n0 n1 k)
      clear y T k0
      obtain ⟨n, Hn⟩ : ∃ n, Hid (p.R.length = n) := ⟨_, hide rfl⟩
      have Hi : Hid ((ids p.R).length = n) := hide (by rw [ids_len, Hn.out])
      have Hs : Hid ((sis p.R).length = n) := hide (by rw [sis_len, Hn.out])
      obtain ⟨ai, ci, rfl, hi0, hi1⟩ := HQ0.out.I.shape
      obtain ⟨ab, cb, rfl, hb0, hb1⟩ := HQ0.out.B.shape
      rw [Hi.out] at c11 hi0 HQ0 HD
      rw [Hs.out] at c12 hb0 HQ0 HD
      clear HQ0
      by_cases he : p.en ≤ now
      · have e2 : tmA p now al = lgA (ids p.R) ++ anA (-1) 504 := by unfold tmA; rw [if_pos hc, if_pos he]
        have e3 : tmP p now al = { p with R := [] } := by unfold tmP; rw [if_pos hc, if_pos he, lga_eq]
        have e4 : txX x p now al = x := by unfold txX; rw [if_neg (fun x => x.2.2.1 he)]
        rw [e2, e3, e4]
        clear e2 e3 e4 hm hr hc n0 n1 HST hie
        go_enter Try.func16, Try.ntmps16
        go_wp2_with (first | (go_at_call 25; refine HM.out.mono ?_; rintro e w' ⟨rfl, rfl⟩))
        go_quiet (first | (go_at_call 38; refine Calls.quiet_of_same (HLA.out _)))
        have HL0 : Hid (Does (DW x p (numP p) false (ids p.R) (sis p.R) (lgA ((ids p.R).take 0)) b (.slice ai n ci) (.slice ab n cb)) P w (w.drewN nq)) := hide ((Does.refl HD.out).e (Fr.drewN none' w nq)).dw
        have c11' : (w.drewN nq).cell? ⟨b, 11, none⟩ = some (.slice ai n ci) := c11
        clear HD HLA c0 c1 c2 c3 c4 c5 c6 c7 c8 c9 c10 c11 c12 c13 c14 c15 he
        generalize w.drewN nq = w1 at *
        go_wp2_with fail
        go_loopw [36] (fun v wr => ∃ k : Nat, k ≤ n ∧ v = .int .i64 (k : Int) ∧ Hid (Does (DW x p (numP p) false (ids p.R) (sis p.R) (lgA ((ids p.R).take k)) b (.slice ai n ci) (.slice ab n cb)) P w wr)) (fun v _ => n - (intOf v).toNat)
        case atStart => exact ⟨0, Nat.zero_le _, rfl, HL0⟩
        case round =>
          clear HL0 c11'
          obtain ⟨k, hk, rfl, HI⟩ := hrel
          obtain ⟨Px, ⟨vo2, y⟩, hy⟩ := HI.out.foc
          have HY3 := hide hy
          have HD3 := hide y
          have HQ3 := hide y.pt
          obtain ⟨ao3, co3, rfl, -, -⟩ := y.pt.A.shape
          have Hm : Hid ((lgA ((ids p.R).take k)).length = k) := hide (by rw [lgA_len, List.length_take, Hi.out]; omega)
          have hn9 := H9.out
          rw [Hn.out] at hn9
          rw [Hm.out] at HD3 HQ3
          clear y hy HI
          by_cases hlt : k < n
          · have hkl : k < (ids p.R).length := by rw [Hi.out]; exact hlt
            have hri := get_ok hkl
            have HT : Hid (lgA ((ids p.R).take (k + 1)) = lgA ((ids p.R).take k) ++ [⟨2, (ids p.R)[k], 0⟩]) := hide (by rw [take_next hri]; unfold lgA; rw [List.map_append]; rfl)
            obtain ⟨g1, off, cap1, e, -, -, r0⟩ := int_cell HQ3.out.I hri
            rw [Hi.out] at e
            simp only [Value.slice.injEq] at e
            obtain ⟨rfl, -, rfl⟩ := e
            have k15 : wr.cell? ⟨b, 15, none⟩ = some (.slice ao3 k co3) := HQ3.out.c.2.2.2.2.2.2.2.2.2.2.2.2.2.2.2
            generalize (ids p.R)[k] = rid at *
            clear hri hkl
            have HSA : Hid (Rw 66 3 wr (.slice ao3 k co3) k (fl encA (lgA ((ids p.R).take k)))) := hide (by have := HQ3.out.A; rw [Hm.out] at this; exact this)
            go_wp2_with (at_builtin; apply Hid.out)
            unfold Hid
            refine wpList_append_rw infRac rfl _ _ rfl wr (.slice ao3 k co3) k _ (encA ⟨2, rid, 0⟩) rfl (by simp [Act.eval, go_sem]) HSA.out rfl (by omega) (by omega) ?_
            intro v' w4 q1 F o
            obtain ⟨a4, cap4, rfl, -, -⟩ := q1.shape
            have k15' : w4.cell? ⟨b, 15, none⟩ = some (.slice ao3 k co3) := cell_of (F.hd HQ3.out.nA HQ3.out.B0) 15
            have z15' : w4.frozen? ⟨b, 15, none⟩ = false := frozen_of (F.hd HQ3.out.nA HQ3.out.B0) 15
            have T6 : Hid (Does (DW x p (numP p) false (ids p.R) (sis p.R) (lgA ((ids p.R).take (k + 1))) b (.slice (some ⟨g1, off, none⟩) n ci) (.slice ab n cb)) P w (w4.setCell ⟨b, 15, none⟩ (.slice a4 (k + 1) cap4))) := hide (by
              rw [HT.out]
              exact HY3.out _ _ (HD3.out.setA (A' := lgA ((ids p.R).take k) ++ [⟨2, rid, 0⟩]) (by rw [fl_app, List.length_append, Hm.out]; exact q1) F o).dw)
            clear q1 F o HSA HY3 HD3 HQ3 r0 k15
            go_upto_region 10 with fail
            clear k15' z15'
            generalize w4.setCell _ _ = w5 at *
            go_wp2_with fail
            go_roundw
            case rel => exact ⟨k + 1, by omega, by go_num, T6⟩
            case measure => simp [intOf]; omega
          · obtain rfl : k = n := by omega
            have etk : (ids p.R).take k = ids p.R := by rw [← Hi.out]; exact List.take_length
            rw [etk] at HD3 Hm
            have HDN := hide (rdone_any ⟨4, -1, 504⟩ HD3.out (by rw [Hm.out]; omega))
            unfold acV at HDN
            dsimp only at HDN
            clear HD3 HQ3
            go_wp2_with fail
            refine HDN.out.mono ?_
            rintro e w6 ⟨rfl, d⟩
            have T3 : Hid (Does (DX x { p with R := [] } (numP p) (lgA (ids p.R) ++ anA (-1) 504) true b) P w w6) := hide ((HY3.out _ _ d).map (fun Pz ⟨vi, vb, vo, z⟩ => ⟨vi, vb, vo, z⟩))
            clear d HDN HY3
            obtain ⟨P5, y, hy⟩ := T3.out.foc
            have HY5 := hide hy
            have HTD := hide (rtold_x y)
            clear y hy T3
            go_wp2_with fail
            refine HTD.out.mono ?_
            rintro e w7 ⟨v, rfl, d⟩
            have T4 := hide (HY5.out _ _ d)
            clear d HTD HY5
            go_wp2_with fail
            go_ret2
            exact ⟨_, rfl, T4.out⟩
      · have hen : decide (p.en ≤ now) = false := decide_eq_false he
        have e2 : tmA p now al = (llF p now al (ltL p now)).2 ++ hgA (llF p now al (ltL p now)).1 now al := by unfold tmA; rw [if_pos hc, if_neg he]
        have e3 : tmP p now al = hgP (llF p now al (ltL p now)).1 now al := by unfold tmP; rw [if_pos hc, if_neg he]
        have e4 : txX x p now al = if hgB (llF p now al (ltL p now)).1 now = true ∧ al = false then { x with tm := true } else x := by
          unfold txX
          by_cases q : hgB (llF p now al (ltL p now)).1 now = true ∧ al = false
          · rw [if_pos ⟨hm, hr, he, q.1, q.2⟩, if_pos q]
          · rw [if_neg (fun z => q z.2.2.2), if_neg q]
        rw [e2, e3, e4]
        have HEND : Hid (stK p now al n = llF p now al (ltL p now)) := hide (by unfold stK ltL; rw [← Hn.out, List.take_length])
        rw [← HEND.out]
        obtain ⟨XX, HXX⟩ : ∃ XX, Hid ((if hgB (stK p now al n).1 now = true ∧ al = false then ({ x with tm := true } : Ex) else x) = XX) := ⟨_, hide rfl⟩
        rw [HXX.out]
        clear e2 e3 e4 hm hr hc HEND
        have HSM := hide (fun k => stK_same p now al k)
        have HLN := hide (fun k => stK_len p now al k)
        have HNX := hide (fun (k : Nat) (r : Rn) (hr : p.R[k]? = some r) => stK_next (now := now) (al := al) hr)
        have HRM := hide (fun (k : Nat) (r : Rn) (hr : p.R[k]? = some r) => stK_rem hnd (now := now) (al := al) k k r (Nat.le_refl _) hr)
        have HXO := hide xo
        go_enter Try.func16, Try.ntmps16
        go_wp2_with (first | (go_at_call 25; refine HM.out.mono ?_; rintro e w' ⟨rfl, rfl⟩))
        go_quiet (first | (go_at_call 38; refine Calls.quiet_of_same (HLA.out _)))
        have HL0 : Hid (Does (Cap x (stK p now al 0).1 (stK p now al 0).2 b (.slice ai n ci) (.slice ab n cb) (ids p.R) (sis p.R)) P w (w.drewN nq)) := hide ((Does.refl HD.out).e (Fr.drewN none' w nq)).dw |>.out |> fun z => hide (z.map (fun P' y => .inl ⟨by show DW x p (numP p) p.R.isEmpty _ _ [] b _ _ _ P'; rw [hie]; exact y, rfl, rfl⟩))
        have c11' : (w.drewN nq).cell? ⟨b, 11, none⟩ = some (.slice ai n ci) := c11
        have c12' : (w.drewN nq).cell? ⟨b, 12, none⟩ = some (.slice ab n cb) := c12
        clear HD HLA c0 c1 c2 c3 c4 c5 c6 c7 c8 c9 c10 c11 c12 c13 c14 c15 he hen hie
        generalize w.drewN nq = w1 at *
        go_wp2_with fail
        go_loopw [67] (fun v wr => ∃ k : Nat, k ≤ n ∧ v = .int .i64 (k : Int) ∧ Hid (Does (Cap x (stK p now al k).1 (stK p now al k).2 b (.slice ai n ci) (.slice ab n cb) (ids p.R) (sis p.R)) P w wr)) (fun v _ => n - (intOf v).toNat)
        case atStart => exact ⟨0, Nat.zero_le _, rfl, HL0⟩
        case round =>
          clear HL0 c11' c12'
          obtain ⟨k, hk, rfl, HI⟩ := hrel
          have hqk := HST.out k
          have hsk := HSM.out k
          have hlk := HLN.out k
          have hn9 := H9.out
          rw [Hn.out] at hn9
          by_cases hlt : k < n
          · have hkl : k < p.R.length := by rw [Hn.out]; exact hlt
            have hr := get_ok hkl
            have hri : (ids p.R)[k]? = some p.R[k].id := by unfold ids; rw [List.getElem?_map, hr]; rfl
            have hrs : (sis p.R)[k]? = some p.R[k].si := by unfold sis; rw [List.getElem?_map, hr]; rfl
            have HRI := hide hri
            have HRS := hide hrs
            have hnk := HNX.out k _ hr
            have hrk := HRM.out k _ hr
            obtain ⟨rs0, rs1⟩ := HK.out.rs _ (List.getElem_mem hkl)
            obtain ⟨⟨q, A⟩, Hst⟩ : ∃ st, Hid (stK p now al k = st) := ⟨_, hide rfl⟩
            rw [Hst.out] at HI hqk hsk hlk hnk hrk
            dsimp only at HI hqk hsk hlk hrk
            have HQK := hide hqk
            have hpt : q.pt = p.pt := hsk.2.2.1
            generalize p.R[k] = r at *
            have HNK := hide hnk
            have HRK := hide hrk
            have HLT := hide (fun V => (rlater_any r.si q.pt V rs0 rs1 (by have := hqk.pt0; omega) hqk.pt1).mono (R' := fun e w' => e = .returned (.int .i64 (latI r.si q.pt)) ∧ w' = V) (fun e w' ⟨a, z⟩ => ⟨a, z.symm⟩))
            have HTB : Hid (tirB p now r = decide (latI r.si q.pt ≤ now)) := hide (by unfold tirB; rw [hpt])
            have HCL : Hid (∀ (A' : List Ac) (w' : World) (P' : Nat → Prop), Cap x q A' b (.slice ai n ci) (.slice ab n cb) (ids p.R) (sis p.R) w' P' → ∃ g off g2 off2, ai = some ⟨g, off, none⟩ ∧ ab = some ⟨g2, off2, none⟩ ∧ w'.cell? ⟨g, off + k, none⟩ = some (.int .i64 r.id) ∧ w'.cell? ⟨g2, off2 + k, none⟩ = some (.int .i64 r.si) ∧ w'.cell? ⟨b, 3, none⟩ = some (.int .i64 q.pt)) := hide (fun A' w' P' y => by
              obtain ⟨vi, vb, vo, hB0, hI, hBr, hA, nA, hset⟩ := y.view
              obtain ⟨g, off, cap1, e, -, -, r0⟩ := int_cell hI HRI.out
              rw [Hi.out] at e
              simp only [Value.slice.injEq] at e
              obtain ⟨e1, -, -⟩ := e
              obtain ⟨g2, off2, cap2, e, -, -, r1⟩ := int_cell hBr HRS.out
              rw [Hs.out] at e
              simp only [Value.slice.injEq] at e
              obtain ⟨e2, -, -⟩ := e
              exact ⟨g, off, g2, off2, e1, e2, r0, r1, cell_of hB0 3⟩)
            clear hr hkl hri hrs hnk hrk hqk hsk rs0 rs1 hpt
            obtain ⟨_, y⟩ := HI.out.of
            obtain ⟨g, off, g2, off2, rfl, rfl, r0, r1, c3⟩ := HCL.out _ _ _ y
            clear y
            generalize latI r.si q.pt = lt at *
            go_upto_region 18 with fail
            go_quiet (first | (go_at_call 38; refine Calls.quiet_of_same (HLT.out _)))
            have T3 := hide (HI.out.e (Fr.drewN none' wr nq))
            clear r0 r1 c3 HI HLT
            generalize wr.drewN nq = w3 at *
            by_cases hb : lt ≤ now
            · have hd : decide (lt ≤ now) = true := decide_eq_true hb
              have HT : Hid (stK p now al (k + 1) = (flP q now r.id 3 al, (A ++ [⟨2, r.id, 0⟩]) ++ flA q r.id 3 al)) := hide (by
                rw [HNK.out, HTB.out, if_pos hd]
                show (l1P q now al r.id, A ++ l1A q al r.id) = _
                rw [(l1_eq q now al r.id).1, (l1_eq q now al r.id).2, List.append_assoc]; rfl)
              have hqne : q.R ≠ [] := fun e => by have := HRK.out; rw [e] at this; simp [ids] at this
              have T4 := hide (T3.out.e (Fr.drew none' _))
              obtain ⟨Py, y, hy⟩ := T4.out.foc
              obtain ⟨g', off', g2', off2', e1, e2, r0, r1, c3⟩ := HCL.out _ _ _ y
              simp only [Option.some.injEq, Addr.mk.injEq, and_true] at e1 e2
              obtain ⟨rfl, rfl⟩ := e1
              obtain ⟨rfl, rfl⟩ := e2
              obtain ⟨vi, vb, vo, hB0, hI, hBr, hA, nA, hset⟩ := y.view
              obtain ⟨ao, co, rfl, ho0, ho1⟩ := hA.shape
              obtain ⟨v5, w5, hrun, s', F', o'⟩ := append_rw infRac w3.drew 33 _ _ _ (encA ⟨2, r.id, 0⟩) hA rfl (by omega) (by omega)
              obtain ⟨a5, cap5, rfl, hd0, hd1⟩ := s'.shape
              have c15' : w5.cell? ⟨b, 15, none⟩ = some (.slice ao A.length co) := cell_of (F'.hd nA hB0) 15
              have z15' : w5.frozen? ⟨b, 15, none⟩ = false := frozen_of (F'.hd nA hB0) 15
              have c15o : w3.cell? ⟨b, 15, none⟩ = some (.slice ao A.length co) := cell_of hB0 15
              have r0o : w3.cell? ⟨g, off + k, none⟩ = some (.int .i64 r.id) := r0
              have c15a : (w3.alloc (.cells #[.int .i64 2, .int .i64 r.id, .int .i64 0] 66)).cell? ⟨b, 15, none⟩ = some (.slice ao A.length co) := (World.cell?_of_block ((Fr.alloc none' w3 _).block b (World.block_lt_of_cell? _ _ c15o) (fun y => y))).trans c15o
              have T5 := hide (hy _ _ (hset w5 _ (A ++ [⟨2, r.id, 0⟩]) (by rw [fl_app, List.length_append]; exact s') F' o'))
              simp only [ints, encA, List.map_cons, List.map_nil] at hrun
              clear y hy hB0 hI hBr hA nA hset s' F' o' T4 T3 r0 r1 c3
              go_wp2_with fail
              go_region_law (refine step_append_is rfl (.tmp 85) (.tmp 91) 33 rfl _ _ _ (by simp [Act.eval]) (by simp [Act.eval]) hrun ?_)
              all_goals
                generalize w5.setCell ⟨b, 15, none⟩ (.slice a5 (A.length + 1) cap5) = w6 at *
                clear c15' z15' c15o c15a hrun r0o
                obtain ⟨Pz, y, hy⟩ := T5.out.foc
                have HY := hide hy
                obtain ⟨g', off', g2', off2', e1, e2, r0, r1, c3⟩ := HCL.out _ _ _ y
                simp only [Option.some.injEq, Addr.mk.injEq, and_true] at e1 e2
                obtain ⟨rfl, rfl⟩ := e1
                obtain ⟨rfl, rfl⟩ := e2
                have HC := hide (Cap.fails now r.id 3 al y HQK.out hqne (by simp; omega))
                clear y hy T5 r1 c3
                go_wp2_with fail
                refine HC.out.mono ?_
                rintro e w7 ⟨rfl, d⟩
                have T6 : Hid (Does (Cap x (stK p now al (k + 1)).1 (stK p now al (k + 1)).2 b (.slice (some ⟨g, off, none⟩) n ci) (.slice (some ⟨g2, off2, none⟩) n cb) (ids p.R) (sis p.R)) P w w7) := hide (by rw [HT.out]; exact HY.out _ _ d)
                clear d HC HY r0
                go_wp2_with fail
                go_roundw
                case rel => exact ⟨k + 1, by omega, by go_num, T6⟩
                case measure => simp [intOf]; omega
            · have hd : decide (lt ≤ now) = false := decide_eq_false hb
              have T6 : Hid (Does (Cap x (stK p now al (k + 1)).1 (stK p now al (k + 1)).2 b (.slice (some ⟨g, off, none⟩) n ci) (.slice (some ⟨g2, off2, none⟩) n cb) (ids p.R) (sis p.R)) P w w3) := hide (by rw [HNK.out, HTB.out, hd, if_neg (by decide)]; exact T3.out)
              clear T3
              go_wp2_with fail
              go_roundw
              case rel => exact ⟨k + 1, by omega, by go_num, T6⟩
              case measure => simp [intOf]; omega
          · obtain rfl : k = n := by omega
            have hxo := HXO.out.same hsk
            obtain ⟨⟨q, A⟩, Hst⟩ : ∃ st, Hid (stK p now al k = st) := ⟨_, hide rfl⟩
            rw [Hst.out] at HI hqk hsk hlk hxo
            dsimp only at HI hqk hsk hlk hxo
            obtain ⟨Px, ⟨vi, vb, vo, y⟩, hy⟩ := (HI.out.trans (fun _ z => z.dx)).foc
            have HY := hide hy
            have HD := hide y
            have HPT := hide y.pt
            have HQK := hide hqk
            obtain ⟨c0, c1, c2, c3, c4, c5, c6, c7, c8, c9, c10, c11, c12, c13, c14, c15⟩ := y.pt.c
            have HFIN : Hid (∀ (w' : World) (v : Value) (x' : Ex) (q' : Rq) (A' : List Ac), hgP q now al = q' → A ++ hgA q now al = A' → (if hgB q now = true ∧ al = false then ({ x with tm := true } : Ex) else x) = x' → Does (Two (RB v A') (DX x' q' (numP q') [] q'.R.isEmpty b)) P w w' → Does (Two (RB v ((stK p now al k).2 ++ hgA (stK p now al k).1 now al)) (RX XX (hgP (stK p now al k).1 now al) b)) P w w') := hide (fun w' v x' q' A' e1 e2 e3 d => by
              rw [← HXX.out, Hst.out]
              dsimp only
              rw [e1, e2, e3]
              exact d)
            have HG := hide (fun u : Sw wr => call_cw (rhedging_any (HPT.out.fr (cw_fr u)) rfl rfl hxo.hg hqk.m20))
            have HLT := hide (fun u : Sw wr => call_cw_same (rlater_any q.la q.ha (cw u) hqk.la0 hqk.la1 (by have := hqk.ha0; omega) hqk.ha1))
            have k7 := cw_cell c7
            have k2 := cw_cell c2
            have hq9 := hqk.num
            have hr9 := hqk.r9
            have hm2 := hqk.m21
            have hm20 := hqk.m20
            clear y hy HI c0 c1 c3 c4 c5 c6 c8 c9 c10 c11 c12 c13 c14 c15 hqk hsk
            by_cases hnh : nhB q = true
            · rw [hnh] at HG
              by_cases hlt2 : latI q.la q.ha ≤ now
              · have hd : decide (latI q.la q.ha ≤ now) = true := decide_eq_true hlt2
                have hgb : hgB q now = true := by unfold hgB nhT; rw [hnh, if_pos rfl, hd]; rfl
                have hne : q.R ≠ [] := fun e => by unfold nhB at hnh; rw [e] at hnh; simp at hnh
                have hqe : q.R.isEmpty = false := by rw [List.isEmpty_eq_false_iff]; exact hne
                cases al with
                | true =>
                  have e1 : hgP q now true = bgP q now 2 := by unfold hgP; rw [hgb, if_pos rfl, if_pos rfl]
                  have e2 : A ++ hgA q now true = A ++ [⟨1, numP q, 2⟩] := by unfold hgA; rw [hgb, if_pos ⟨rfl, rfl⟩]; rfl
                  have e3 : (if hgB q now = true ∧ true = false then ({ x with tm := true } : Ex) else x) = x := if_neg (fun z => by simp at z)
                  have FIN := hide (fun w' v => HFIN.out w' v x (bgP q now 2) _ e1 e2 e3)
                  clear HFIN e1 e2 e3 hgb hnh hne
                  generalize latI q.la q.ha = lt at *
                  go_upto_region 22 with fail
                  refine wp_region_cw (by kernel_rfl) (by kernel_rfl) ?_
                  repeat (go_big_quiet_step ((first | (go_at_call 39; refine HG.out _) | (go_at_call 38; refine HLT.out _))))
                  refine wpQuiet_nil ?_
                  intro _ hw'
                  obtain ⟨z, hw''⟩ := hw'
                  subst hw''
                  have T3 := hide (Does.still HD.out (cw_fr z))
                  clear HG HLT k7 k2 HD HPT c7 c2
                  generalize cw z = w3 at *
                  rw [hqe] at T3
                  obtain ⟨_, y⟩ := T3.out.of
                  have c10 : w3.cell? ⟨b, 10, none⟩ = some (.int .i64 q.m2) := y.pt.c.2.2.2.2.2.2.2.2.2.2.1
                  have z10 := y.pt.fz 10
                  have T4 := hide (T3.out.trans (fun _ z => z.setN (x' := x) (p' := { q with m2 := q.m2 + 1 }) (mk' := numP q) (ov' := false) 10 (.int .i64 (q.m2 + 1)) rfl))
                  clear y T3
                  go_upto_region 25 with fail
                  clear c10 z10
                  generalize w3.setCell _ _ = w4 at *
                  obtain ⟨P6, y, hy⟩ := T4.out.foc
                  have HY6 := hide hy
                  have HMK := hide (rmake_any now 2 y (by rw [ids_len]; omega) (by rw [sis_len]; omega) (by omega) (by omega) (by omega))
                  clear y hy T4
                  go_wp2_with fail
                  refine HMK.out.mono ?_
                  rintro e w5 ⟨rfl, d⟩
                  have T5 := hide (HY.out _ _ ((HY6.out _ _ d).map (fun Pz z => DY.bg2 z)))
                  clear d HMK HY6 HY
                  obtain ⟨P5, y, hy⟩ := T5.out.foc
                  have HY5 := hide hy
                  have HTD := hide (rtold_x y)
                  clear y hy T5
                  go_wp2_with fail
                  refine HTD.out.mono ?_
                  rintro e w6 ⟨v, rfl, d⟩
                  have T6 := hide (FIN.out w6 v (by
                    rw [show (bgP q now 2).R.isEmpty = false by unfold bgP; simp]
                    exact HY5.out _ _ d))
                  clear d HTD HY5
                  go_wp2_with fail
                  go_ret2
                  exact ⟨_, rfl, T6.out⟩
                | false =>
                  have e1 : hgP q now false = { q with hg := 0 } := by unfold hgP; rw [hgb, if_pos rfl, if_neg (by decide)]
                  have e2 : A ++ hgA q now false = A := by unfold hgA; rw [if_neg (fun z => by simp at z), List.append_nil]
                  have e3 : (if hgB q now = true ∧ false = false then ({ x with tm := true } : Ex) else x) = { x with tm := true } := if_pos ⟨hgb, rfl⟩
                  have FIN := hide (fun w' v => HFIN.out w' v { x with tm := true } { q with hg := 0 } _ e1 e2 e3)
                  clear HFIN e1 e2 e3 hgb hnh hne
                  generalize latI q.la q.ha = lt at *
                  go_upto_region 22 with fail
                  refine wp_region_cw (by kernel_rfl) (by kernel_rfl) ?_
                  repeat (go_big_quiet_step ((first | (go_at_call 39; refine HG.out _) | (go_at_call 38; refine HLT.out _))))
                  refine wpQuiet_nil ?_
                  intro _ hw'
                  obtain ⟨z, hw''⟩ := hw'
                  subst hw''
                  have T3 := hide (Does.still HD.out (cw_fr z))
                  clear HG HLT k7 k2 HD HPT c7 c2
                  generalize cw z = w3 at *
                  rw [hqe] at T3
                  obtain ⟨_, y⟩ := T3.out.of
                  have c14 : w3.cell? ⟨b, 14, none⟩ = some (.bool x.tm) := y.pt.c.2.2.2.2.2.2.2.2.2.2.2.2.2.2.1
                  have z14 := y.pt.fz 14
                  have T4 : Hid (Does (DX { x with tm := true } { q with hg := 0 } (numP q) A false b) Px wr (w3.setCell ⟨b, 14, none⟩ (.bool true))) := hide (T3.out.trans (fun _ z => z.setN (x' := { x with tm := true }) (p' := { q with hg := 0 }) (mk' := numP q) (ov' := false) 14 (.bool true) rfl)).dx
                  clear y T3
                  go_upto_region 27 with fail
                  clear c14 z14
                  generalize w3.setCell _ _ = w4 at *
                  have T5 := hide (HY.out _ _ T4.out)
                  clear T4 HY
                  obtain ⟨P5, y, hy⟩ := T5.out.foc
                  have HY5 := hide hy
                  have HTD := hide (rtold_x y)
                  clear y hy T5
                  go_wp2_with fail
                  refine HTD.out.mono ?_
                  rintro e w6 ⟨v, rfl, d⟩
                  have T6 := hide (FIN.out w6 v (by
                    show Does (Two (RB v A) (DX { x with tm := true } { q with hg := 0 } (numP q) [] q.R.isEmpty b)) P w w6
                    rw [hqe]
                    exact HY5.out _ _ d))
                  clear d HTD HY5
                  go_wp2_with fail
                  go_ret2
                  exact ⟨_, rfl, T6.out⟩
              · have hd : decide (latI q.la q.ha ≤ now) = false := decide_eq_false hlt2
                have hgb : hgB q now = false := by unfold hgB nhT; rw [hnh, if_pos rfl, hd]; rfl
                have FIN := hide (fun w' v => HFIN.out w' v x q A (by unfold hgP; rw [hgb, if_neg (by decide)]) (by unfold hgA; rw [hgb, if_neg (fun z => by simp at z), List.append_nil]) (if_neg (fun z => by rw [hgb] at z; simp at z)))
                clear HFIN hgb hnh
                generalize latI q.la q.ha = lt at *
                go_upto_region 22 with fail
                refine wp_region_cw (by kernel_rfl) (by kernel_rfl) ?_
                repeat (go_big_quiet_step ((first | (go_at_call 39; refine HG.out _) | (go_at_call 38; refine HLT.out _))))
                refine wpQuiet_nil ?_
                intro _ hw'
                obtain ⟨z, hw''⟩ := hw'
                subst hw''
                have T5 := hide (HY.out _ _ (Does.still HD.out (cw_fr z)).dx)
                clear HG HLT k7 k2 HD HPT c7 c2 HY
                generalize cw z = w3 at *
                obtain ⟨P5, y, hy⟩ := T5.out.foc
                have HY5 := hide hy
                have HTD := hide (rtold_x y)
                clear y hy T5
                go_wp2_with fail
                refine HTD.out.mono ?_
                rintro e w6 ⟨v, rfl, d⟩
                have T6 := hide (FIN.out w6 v (HY5.out _ _ d))
                clear d HTD HY5
                go_wp2_with fail
                go_ret2
                exact ⟨_, rfl, T6.out⟩
            · have hnf : nhB q = false := by simpa using hnh
              rw [hnf] at HG
              have hgb : hgB q now = false := by unfold hgB; rw [hnf]; rfl
              have FIN := hide (fun w' v => HFIN.out w' v x q A (by unfold hgP; rw [hgb, if_neg (by decide)]) (by unfold hgA; rw [hgb, if_neg (fun z => by simp at z), List.append_nil]) (if_neg (fun z => by rw [hgb] at z; simp at z)))
              clear HFIN hgb hnh hnf
              go_upto_region 22 with fail
              refine wp_region_cw (by kernel_rfl) (by kernel_rfl) ?_
              repeat (go_big_quiet_step ((first | (go_at_call 39; refine HG.out _) | (go_at_call 38; refine HLT.out _))))
              refine wpQuiet_nil ?_
              intro _ hw'
              obtain ⟨z, hw''⟩ := hw'
              subst hw''
              have T5 := hide (HY.out _ _ (Does.still HD.out (cw_fr z)).dx)
              clear HG HLT k7 k2 HD HPT c7 c2 HY
              generalize cw z = w3 at *
              obtain ⟨P5, y, hy⟩ := T5.out.foc
              have HY5 := hide hy
              have HTD := hide (rtold_x y)
              clear y hy T5
              go_wp2_with fail
              refine HTD.out.mono ?_
              rintro e w6 ⟨v, rfl, d⟩
              have T6 := hide (FIN.out w6 v (HY5.out _ _ d))
              clear d HTD HY5
              go_wp2_with fail
              go_ret2
              exact ⟨_, rfl, T6.out⟩
end Go.Proofs.Ytjfpdenakgifgaa
