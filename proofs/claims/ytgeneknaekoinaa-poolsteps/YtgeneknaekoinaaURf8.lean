/- The document's pool: a connection's work is done. -/
import Derived.Test.YtgeneknaekoinaaURf7
namespace Go.Proofs.Ytgeneknaekoinaa
open Go.ChangeShapes Go.WideShapes Go.ChangeAt Go.RowKit
set_option linter.unusedVariables false

def rqR (r : Cn) (now : Int) : Cn := ⟨r.n, 3, r.wh, now, r.bo⟩
def rsQ (p : Rm) (i : Nat) (r : Cn) (now c : Int) : Rm := { p with L := p.L.set i (rqR r now), S := p.S ++ [c] }
theorem QOk.rs {p : Rm} {K now c : Int} (h : QOk p K) {i : Nat} {r : Cn} (hi : idx (isD c) p.L = (i : Int)) (hr : p.L[i]? = some r) (hm : mom now = true) (hs : p.S.length ≤ 63) : QOk (rsQ p i r now c) K := by
  rw [mom_iff] at hm
  have hb := (h.rows r (List.mem_of_getElem? hr)).1
  unfold rsQ
  refine { h with len := by dsimp only; rw [List.length_set]; exact h.len, sen := by dsimp only; rw [List.length_append]; simp; omega, rows := fun s hx => ?_, ins := fun y hy => ?_ }
  · rcases List.mem_or_eq_of_mem_set hx with q | q
    · exact h.rows s q
    · rw [q]; exact ⟨hb, hm⟩
  · refine isD_in.2 ?_
    rw [show (p.L.set i (rqR r now)).map (·.n) = p.L.map (·.n) from map_set_n hr rfl]
    rcases List.mem_append.1 hy with q | q
    · exact isD_in.1 (h.ins y q)
    · simp at q
      subst q
      exact isD_in.1 (by omega)
def roE (p : Rm) (now c : Int) : Int := if mom now then (if idx (isD c) p.L ≠ -1 ∧ (conC p c).st = 2 then 0 else 6) else 1
/-- Does it rest? -/
def roK (p : Rm) (now c : Int) (keep : Bool) : Bool := keep && decide (now < latI (conC p c).bo p.life)
def ro1 (p : Rm) (now c : Int) (keep : Bool) : Rm := if roK p now c keep then rsQ p (idx (isD c) p.L).toNat (conC p c) now c else cutP p c
def ro0 (p : Rm) (now c : Int) (keep : Bool) : List Ac := if roK p now c keep then [] else [⟨5, c, -1⟩]
def roA (p : Rm) (now c : Int) (keep : Bool) : List Ac := if roE p now c = 0 then ro0 p now c keep ++ rvA (ro1 p now c keep) now else []
def roP (p : Rm) (now c : Int) (keep : Bool) : Rm := if roE p now c = 0 then rvP (ro1 p now c keep) now else p
set_option maxHeartbeats 1000000 in
set_option maxRecDepth 100000 in
theorem rdone_any (p : Rm) (b : Nat) (w : World) (P : Nat → Prop) (now c M : Int) (keep : Bool) (h : QX p b w P) (k0 : QOk p (M - p.Q.length)) (hd : p.S.Nodup) (hsl : roE p now c = 0 → p.S.length ≤ 63) (hM : M < 9223372036854775806) (hc : p.cap ≤ 64) :
    Calls Try.prog 27 #[.pointer (some ⟨b, 0, none⟩), .int .i64 now, .int .i64 c, .bool keep] w fun e w' => ∃ v, e = .returned (.tuple #[v, .int .i64 (roE p now c)]) ∧ Does (Two (RB v (roA p now c keep)) (QX (roP p now c keep) b)) P w w' := by
  have h64 := k0.len
  have hq64 := k0.wait
  have HM := hide (rmom_any now w)
  cases hm : mom now with
  | false =>
    have e0 : roE p now c = 1 := by unfold roE; rw [hm]; rfl
    have e2 : roA p now c keep = [] := by unfold roA; rw [e0]; rfl
    have e3 : roP p now c keep = p := by unfold roP; rw [e0]; rfl
    rw [e0, e2, e3]
    rw [hm] at HM
    have T := hide (Does.refl h).nilRB
    clear h e0 e2 e3 k0 hm hd hc hsl
    go_enter Try.func27, Try.ntmps27
    go_wp2_with (first | (go_at_call 20; refine HM.out.mono ?_; rintro e w' ⟨rfl, rfl⟩))
    go_ret2
    exact ⟨_, rfl, T.out⟩
  | true =>
    rw [hm] at HM
    obtain ⟨vl, vs, vw, h⟩ := h
    have HP := hide (find_any p b vl vs vw w c h.v h64)
    have T0 := hide (Does.refl h)
    rcases idx_cases (isD c) p.L with ⟨hi, -⟩ | ⟨i, r, hi, hr, -⟩
    · have e0 : roE p now c = 6 := by unfold roE; rw [hm, hi]; rfl
      have e2 : roA p now c keep = [] := by unfold roA; rw [e0]; rfl
      have e3 : roP p now c keep = p := by unfold roP; rw [e0]; rfl
      rw [e0, e2, e3]
      rw [hi] at HP
      clear h e0 e2 e3 k0 hm hd hc hi hsl
      go_enter Try.func27, Try.ntmps27
      go_wp2_with (first | (go_at_call 20; refine HM.out.mono ?_; rintro e w' ⟨rfl, rfl⟩))
      refine HP.out.mono ?_
      rintro e w1 ⟨rfl, F1⟩
      have T1 := hide (T0.out.e F1).qx.nilRB
      clear F1 HP T0
      go_wp2_with fail
      go_ret2
      exact ⟨_, rfl, T1.out⟩
    · have hrc := conC_of hi hr
      rw [hi] at HP
      have hl : i < p.L.length := (List.getElem?_eq_some_iff.1 hr).1
      have hi1 : ¬ (i : Int) < 0 := by omega
      have hi2 : decide ((i : Int) < 0) = false := decide_eq_false hi1
      have HR := hide hr
      obtain ⟨n, Hn⟩ : ∃ n, Hid (p.L.length = n) := ⟨_, hide rfl⟩
      by_cases hs : r.st = 2
      · have e0 : roE p now c = 0 := by unfold roE; rw [hm, hi, hrc, if_pos rfl, if_pos ⟨by omega, hs⟩]
        have hs63 := hsl e0
        have HDK : Hid (roK p now c keep = (keep && decide (now < latI r.bo p.life))) := hide (by unfold roK; rw [hrc])
        obtain ⟨D1, HD1⟩ : ∃ D, Hid (ro1 p now c keep = D) := ⟨_, hide rfl⟩
        obtain ⟨D0, HD0⟩ : ∃ D, Hid (ro0 p now c keep = D) := ⟨_, hide rfl⟩
        have e2 : roA p now c keep = D0 ++ rvA D1 now := by unfold roA; rw [e0, HD0.out, HD1.out]; rfl
        have e3 : roP p now c keep = rvP D1 now := by unfold roP; rw [e0, HD1.out]; rfl
        rw [e0, e2, e3]
        unfold ro1 at HD1
        unfold ro0 at HD0
        rw [hi, hrc, Int.toNat_natCast] at HD1
        have HS64 := hide k0.sen
        have HKC : Hid (QOk (cutP p c) (M - (cutP p c).Q.length)) := hide (k0.cut hd c)
        have HKS : Hid (QOk (rsQ p i r now c) (M - (rsQ p i r now c).Q.length)) := hide (k0.rs hi hr hm hs63)
        have HCC : Hid ((cutP p c).cap ≤ 64) := hide hc
        have HCS : Hid ((rsQ p i r now c).cap ≤ 64) := hide hc
        have HLC : Hid ((rvA (cutP p c) now).length ≤ 64) := hide (Nat.le_trans (rv_len _ rfl) hq64)
        have HLS : Hid ((rvA (rsQ p i r now c) now).length ≤ 64) := hide (Nat.le_trans (rv_len _ rfl) hq64)
        have HMM := hide hm
        obtain ⟨b0, b1⟩ := (k0.rows r (List.mem_of_getElem? hr)).1
        have HLT := hide (fun V => (rlater_any r.bo p.life V b0 b1 (by have := k0.life0; omega) k0.life1).mono (R' := fun e w' => e = .returned (.int .i64 (latI r.bo p.life)) ∧ w' = V) (fun e w' ⟨x, y⟩ => ⟨x, y.symm⟩))
        clear h e0 e2 e3 k0 hm hrc hi hr hd hc hsl b0 b1
        have H64 := hide h64
        rw [Hn.out] at hl h64
        have hli : (i : Int) < (n : Int) := by omega
        obtain ⟨sn, Hsn⟩ : ∃ n, Hid (p.S.length = n) := ⟨_, hide rfl⟩
        rw [Hsn.out] at hs63
        go_enter Try.func27, Try.ntmps27
        go_wp2_with (first | (go_at_call 20; refine HM.out.mono ?_; rintro e w' ⟨rfl, rfl⟩))
        refine HP.out.mono ?_
        rintro e w1 ⟨rfl, F1⟩
        have T1 := hide (T0.out.e F1)
        clear F1 HP T0
        obtain ⟨_, x⟩ := T1.out.of
        obtain ⟨c0, c1, c2, c3, c4, c5, c6, c7⟩ := x.v.c
        obtain ⟨g, off, cap, e, hc0, hc1, r0, r1, r2, r3, r4, rz⟩ := con_cells x.v.L HR.out
        subst e
        rw [Hn.out] at c5 hc0 T1
        rw [hs] at r1
        have z1 := rz (off + i * 5 + 1)
        clear x hs rz
        generalize latI r.bo p.life = lt at *
        cases keep with
        | false =>
          rw [Bool.false_and] at HDK
          rw [HDK.out, if_neg (by simp)] at HD1 HD0
          go_wp2_with fail
          go_quiet (first | (go_at_call 52; refine Calls.quiet_of_same (HLT.out _)))
          have T1 := hide (T1.out.e (Fr.drewN none' _ nq))
          clear c0 c1 c2 c3 c4 c5 c6 c7 r0 r1 r2 r3 r4 z1 HLT
          generalize w1.drewN nq = w1 at *
          obtain ⟨_, x⟩ := T1.out.of
          obtain ⟨c0, c1, c2, c3, c4, c5, c6, c7⟩ := x.v.c
          obtain ⟨g', off', cap', e, -, -, r0, r1, r2, r3, r4, rz⟩ := con_cells x.v.L HR.out
          simp only [Value.slice.injEq, Option.some.injEq, Addr.mk.injEq, and_true] at e
          obtain ⟨⟨rfl, rfl⟩, -, -⟩ := e
          have z1 := rz (off + i * 5 + 1)
          clear x rz
          have T4 := hide T1.out.qx
          obtain ⟨P2, x, hx⟩ := T4.out.foc
          have HFG := hide (cut_any p b w1 P2 c x H64.out HS64.out)
          have HX := hide hx
          clear x hx T1 T4
          go_wp2_with fail
          refine HFG.out.mono ?_
          rintro e w2 ⟨rfl, d⟩
          have T2 := hide (HX.out _ _ d).nilRB
          clear d HX HFG c0 c1 c2 c3 c4 c5 c6 c7 r0 r1 r2 r3 r4 z1
          have HQ : Hid (Rw 64 3 w2 (.slice none 0 0) 0 (fl encA [])) := hide (Rw.nil _ _ _)
          go_wp2_with (at_builtin; apply Hid.out)
          unfold Hid
          refine wpList_append_rw infRac rfl _ _ rfl w2 (.slice none 0 0) 0 _ (encA ⟨5, c, -1⟩) rfl (by simp [Act.eval, go_sem]) HQ.out rfl (by omega) (by omega) ?_
          intro v' w5 q1 F o
          have T5 : Hid (Does (Two (RB v' [⟨5, c, -1⟩]) (QX (cutP p c) b)) P w w5) := hide (T2.out.left (fun _ y => y.app (by rw [show [(⟨5, c, -1⟩ : Ac)] = [] ++ [⟨5, c, -1⟩] from rfl, fl_app, List.length_append]; exact q1) F o))
          obtain ⟨sa5, sc5, rfl, s50, s51⟩ := q1.shape
          clear q1 F o HQ T2
          rw [Nat.zero_add] at *
          obtain ⟨P3, x, hx⟩ := T5.out.focR
          have HSV := hide (rserve_any (cutP p c) b w5 P3 now M x HKC.out hM HMM.out HCC.out)
          have HX := hide hx
          clear x hx T5
          go_wp2_with fail
          refine HSV.out.mono ?_
          rintro e w6 ⟨v6, rfl, d⟩
          have T6 := hide (HX.out _ _ d)
          clear d HX HSV
          obtain ⟨al, Hal⟩ : ∃ al, Hid ((rvA (cutP p c) now).length = al) := ⟨_, hide rfl⟩
          have HLE2 := HLC.out
          rw [Hal.out] at HLE2
          have HV : Hid (Rw 64 3 w6 (.slice sa5 1 sc5) 1 (fl encA [⟨5, c, -1⟩])) := by obtain ⟨_, y⟩ := T6.out.fst_of; exact hide y.1
          have HY : Hid (Rw 64 3 w6 v6 al (fl encA (rvA (cutP p c) now))) := by obtain ⟨_, y⟩ := T6.out.snd_of; obtain ⟨_, _, y1, -⟩ := y; exact hide (by have := y1.1; rw [Hal.out] at this; exact this)
          obtain ⟨sa6, sc6, rfl, s60, s61⟩ := HY.out.shape
          go_wp2_with (at_builtin; apply Hid.out)
          unfold Hid
          refine wpList_append_rwv infRac rfl _ _ rfl w6 (.slice sa5 1 sc5) (.slice sa6 al sc6) 1 al _ _ rfl (by simp [Act.eval, go_sem]) HV.out HY.out (by omega) (by omega) ?_
          intro v' W6 q1 F o
          have T7 := hide (T6.out.onto (A := [⟨5, c, -1⟩]) (by rw [Hal.out]; exact q1) F o)
          obtain ⟨sa7, sc7, rfl, -, -⟩ := q1.shape
          clear q1 F o HV HY T6
          rw [HD0.out, HD1.out] at T7
          go_wp2_with fail
          go_ret2
          exact ⟨_, rfl, T7.out⟩
        | true =>
          rw [Bool.true_and] at HDK
          by_cases hk : now < lt
          · rw [decide_eq_true hk] at HDK
            rw [HDK.out, if_pos rfl] at HD1 HD0
            have hk2 : decide (now < lt) = true := decide_eq_true hk
            go_wp2_with fail
            go_quiet (first | (go_at_call 52; refine Calls.quiet_of_same (HLT.out _)))
            have T1 := hide (T1.out.e (Fr.drewN none' _ nq))
            clear c0 c1 c2 c3 c4 c5 c6 c7 r0 r1 r2 r3 r4 z1 HLT
            generalize w1.drewN nq = w1 at *
            obtain ⟨_, x⟩ := T1.out.of
            obtain ⟨c0, c1, c2, c3, c4, c5, c6, c7⟩ := x.v.c
            obtain ⟨g', off', cap', e, -, -, r0, r1, r2, r3, r4, rz⟩ := con_cells x.v.L HR.out
            simp only [Value.slice.injEq, Option.some.injEq, Addr.mk.injEq, and_true] at e
            obtain ⟨⟨rfl, rfl⟩, -, -⟩ := e
            have z1 := rz (off + i * 5 + 1)
            clear x rz
            have T2 := hide (T1.out.trans (fun _ z => z.setC (j := 1) (r' := ⟨r.n, 3, r.wh, r.si, r.bo⟩) (x := 3) Hn.out HR.out (by omega) rfl))
            go_upto_region 9 with fail
            clear c0 c1 c2 c3 c4 c5 c6 c7 r0 r1 r2 r3 r4 z1 T1
            generalize w1.setCell _ _ = w2 at *
            have HLX : Hid ((p.L.set i ⟨r.n, 3, r.wh, r.si, r.bo⟩)[i]? = some ⟨r.n, 3, r.wh, r.si, r.bo⟩) := hide (set_atC HR.out)
            have HLN : Hid ((p.L.set i ⟨r.n, 3, r.wh, r.si, r.bo⟩).length = n) := hide (by rw [List.length_set]; exact Hn.out)
            obtain ⟨_, x⟩ := T2.out.of
            obtain ⟨c0, c1, c2, c3, c4, c5, c6, c7⟩ := x.v.c
            obtain ⟨g', off', cap', e, -, -, r0, r1, r2, r3, r4, rz⟩ := con_cells x.v.L HLX.out
            simp only [Value.slice.injEq, Option.some.injEq, Addr.mk.injEq, and_true] at e
            obtain ⟨⟨rfl, rfl⟩, -, -⟩ := e
            dsimp only at r0 r1 r2 r3 r4
            have z3 := rz (off + i * 5 + 3)
            clear x rz
            have T3 := hide (T2.out.trans (fun _ z => z.setC (j := 3) (r' := rqR r now) (x := now) HLN.out HLX.out (by omega) rfl))
            dsimp only at T3
            rw [List.set_set] at T3
            go_upto_region 10 with fail
            clear c0 c1 c2 c3 c4 c5 c6 c7 r0 r1 r2 r3 r4 z3 T2
            generalize w2.setCell _ _ = w3 at *
            obtain ⟨_, x⟩ := T3.out.of
            obtain ⟨c0, c1, c2, c3, c4, c5, c6, c7⟩ := x.v.c
            have HQ : Hid (Rw 3 1 w3 vs sn p.S) := hide (by have := x.v.S; dsimp only at this; rw [Hsn.out] at this; exact this)
            obtain ⟨sa, sc, rfl, s0, s1⟩ := HQ.out.shape
            obtain ⟨h1, n1, n2, n3, n4, n5, n6, n7⟩ := x.parts
            have H1 := hide h1.B
            have HN2 := hide n2
            clear x h1 n1 n2 n3 n4 n5 n6 n7
            go_wp2_with (at_builtin; apply Hid.out)
            unfold Hid
            refine wpList_append_rw infInt rfl _ _ rfl w3 (.slice sa sn sc) sn _ [c] rfl (by simp [Act.eval, go_sem]) HQ.out rfl (by omega) (by omega) ?_
            intro v' W6 q1 F o
            obtain ⟨sa2, sc2, rfl, -, -⟩ := q1.shape
            have k6 : W6.cell? ⟨b, 6, none⟩ = some (.slice sa sn sc) := cell_of (F.hd HN2.out H1.out) 6
            have z6 : W6.frozen? ⟨b, 6, none⟩ = false := frozen_of (F.hd HN2.out H1.out) 6
            have T5 : Hid (Does (Two (RB (.slice none 0 0) []) (QX (rsQ p i r now c) b)) P w (W6.setCell ⟨b, 6, none⟩ (.slice sa2 (sn + 1) sc2))) := hide (T3.out.trans (fun _ z => (z.appS (L' := p.S ++ [c]) (by rw [List.length_append, Hsn.out]; exact q1) F o).qx)).nilRB
            clear q1 F o HQ T3 H1 HN2 c0 c1 c2 c3 c4 c5 c6 c7
            go_upto_region 13 with fail
            clear k6 z6
            generalize W6.setCell ⟨b, 6, none⟩ (.slice sa2 (sn + 1) sc2) = w5 at *
            obtain ⟨P3, x, hx⟩ := T5.out.focR
            have HSV := hide (rserve_any (rsQ p i r now c) b w5 P3 now M x HKS.out hM HMM.out HCS.out)
            have HX := hide hx
            clear x hx T5
            go_wp2_with fail
            refine HSV.out.mono ?_
            rintro e w6 ⟨v6, rfl, d⟩
            have T6 := hide (HX.out _ _ d)
            clear d HX HSV
            obtain ⟨al, Hal⟩ : ∃ al, Hid ((rvA (rsQ p i r now c) now).length = al) := ⟨_, hide rfl⟩
            have HLE2 := HLS.out
            rw [Hal.out] at HLE2
            have HV : Hid (Rw 64 3 w6 (.slice none 0 0) 0 (fl encA ([] : List Ac))) := by obtain ⟨_, y⟩ := T6.out.fst_of; exact hide y.1
            have HY : Hid (Rw 64 3 w6 v6 al (fl encA (rvA (rsQ p i r now c) now))) := by obtain ⟨_, y⟩ := T6.out.snd_of; obtain ⟨_, _, y1, -⟩ := y; exact hide (by have := y1.1; rw [Hal.out] at this; exact this)
            obtain ⟨sa6, sc6, rfl, s60, s61⟩ := HY.out.shape
            go_wp2_with (at_builtin; apply Hid.out)
            unfold Hid
            refine wpList_append_rwv infRac rfl _ _ rfl w6 (.slice none 0 0) (.slice sa6 al sc6) 0 al _ _ rfl (by simp [Act.eval, go_sem]) HV.out HY.out (by omega) (by omega) ?_
            intro v' W6 q1 F o
            have T7 := hide (T6.out.onto (A := ([] : List Ac)) (by rw [Hal.out]; exact q1) F o)
            obtain ⟨sa7, sc7, rfl, -, -⟩ := q1.shape
            clear q1 F o HV HY T6
            rw [HD0.out, HD1.out] at T7
            rw [Nat.zero_add] at T7
            go_wp2_with fail
            go_ret2
            exact ⟨_, rfl, T7.out⟩
          · rw [decide_eq_false hk] at HDK
            rw [HDK.out, if_neg (by simp)] at HD1 HD0
            have hk2 : decide (now < lt) = false := decide_eq_false hk
            go_wp2_with fail
            go_quiet (first | (go_at_call 52; refine Calls.quiet_of_same (HLT.out _)))
            have T1 := hide (T1.out.e (Fr.drewN none' _ nq))
            clear c0 c1 c2 c3 c4 c5 c6 c7 r0 r1 r2 r3 r4 z1 HLT
            generalize w1.drewN nq = w1 at *
            obtain ⟨_, x⟩ := T1.out.of
            obtain ⟨c0, c1, c2, c3, c4, c5, c6, c7⟩ := x.v.c
            obtain ⟨g', off', cap', e, -, -, r0, r1, r2, r3, r4, rz⟩ := con_cells x.v.L HR.out
            simp only [Value.slice.injEq, Option.some.injEq, Addr.mk.injEq, and_true] at e
            obtain ⟨⟨rfl, rfl⟩, -, -⟩ := e
            have z1 := rz (off + i * 5 + 1)
            clear x rz
            have T4 := hide T1.out.qx
            obtain ⟨P2, x, hx⟩ := T4.out.foc
            have HFG := hide (cut_any p b w1 P2 c x H64.out HS64.out)
            have HX := hide hx
            clear x hx T1 T4
            go_wp2_with fail
            refine HFG.out.mono ?_
            rintro e w2 ⟨rfl, d⟩
            have T2 := hide (HX.out _ _ d).nilRB
            clear d HX HFG c0 c1 c2 c3 c4 c5 c6 c7 r0 r1 r2 r3 r4 z1
            have HQ : Hid (Rw 64 3 w2 (.slice none 0 0) 0 (fl encA [])) := hide (Rw.nil _ _ _)
            go_wp2_with (at_builtin; apply Hid.out)
            unfold Hid
            refine wpList_append_rw infRac rfl _ _ rfl w2 (.slice none 0 0) 0 _ (encA ⟨5, c, -1⟩) rfl (by simp [Act.eval, go_sem]) HQ.out rfl (by omega) (by omega) ?_
            intro v' w5 q1 F o
            have T5 : Hid (Does (Two (RB v' [⟨5, c, -1⟩]) (QX (cutP p c) b)) P w w5) := hide (T2.out.left (fun _ y => y.app (by rw [show [(⟨5, c, -1⟩ : Ac)] = [] ++ [⟨5, c, -1⟩] from rfl, fl_app, List.length_append]; exact q1) F o))
            obtain ⟨sa5, sc5, rfl, s50, s51⟩ := q1.shape
            clear q1 F o HQ T2
            rw [Nat.zero_add] at *
            obtain ⟨P3, x, hx⟩ := T5.out.focR
            have HSV := hide (rserve_any (cutP p c) b w5 P3 now M x HKC.out hM HMM.out HCC.out)
            have HX := hide hx
            clear x hx T5
            go_wp2_with fail
            refine HSV.out.mono ?_
            rintro e w6 ⟨v6, rfl, d⟩
            have T6 := hide (HX.out _ _ d)
            clear d HX HSV
            obtain ⟨al, Hal⟩ : ∃ al, Hid ((rvA (cutP p c) now).length = al) := ⟨_, hide rfl⟩
            have HLE2 := HLC.out
            rw [Hal.out] at HLE2
            have HV : Hid (Rw 64 3 w6 (.slice sa5 1 sc5) 1 (fl encA [⟨5, c, -1⟩])) := by obtain ⟨_, y⟩ := T6.out.fst_of; exact hide y.1
            have HY : Hid (Rw 64 3 w6 v6 al (fl encA (rvA (cutP p c) now))) := by obtain ⟨_, y⟩ := T6.out.snd_of; obtain ⟨_, _, y1, -⟩ := y; exact hide (by have := y1.1; rw [Hal.out] at this; exact this)
            obtain ⟨sa6, sc6, rfl, s60, s61⟩ := HY.out.shape
            go_wp2_with (at_builtin; apply Hid.out)
            unfold Hid
            refine wpList_append_rwv infRac rfl _ _ rfl w6 (.slice sa5 1 sc5) (.slice sa6 al sc6) 1 al _ _ rfl (by simp [Act.eval, go_sem]) HV.out HY.out (by omega) (by omega) ?_
            intro v' W6 q1 F o
            have T7 := hide (T6.out.onto (A := [⟨5, c, -1⟩]) (by rw [Hal.out]; exact q1) F o)
            obtain ⟨sa7, sc7, rfl, -, -⟩ := q1.shape
            clear q1 F o HV HY T6
            rw [HD0.out, HD1.out] at T7
            go_wp2_with fail
            go_ret2
            exact ⟨_, rfl, T7.out⟩
      · have e0 : roE p now c = 6 := by unfold roE; rw [hm, hi, hrc, if_pos rfl, if_neg (fun x => hs x.2)]
        have e2 : roA p now c keep = [] := by unfold roA; rw [e0]; rfl
        have e3 : roP p now c keep = p := by unfold roP; rw [e0]; rfl
        rw [e0, e2, e3]
        have hs2 : (r.st == 2) = false := by simpa using hs
        clear h e0 e2 e3 k0 hm hrc hi hr hd hc hsl
        rw [Hn.out] at hl h64
        have hli : (i : Int) < (n : Int) := by omega
        go_enter Try.func27, Try.ntmps27
        go_wp2_with (first | (go_at_call 20; refine HM.out.mono ?_; rintro e w' ⟨rfl, rfl⟩))
        refine HP.out.mono ?_
        rintro e w1 ⟨rfl, F1⟩
        have T1 := hide (T0.out.e F1)
        clear F1 HP T0
        obtain ⟨_, x⟩ := T1.out.of
        obtain ⟨c0, c1, c2, c3, c4, c5, c6, c7⟩ := x.v.c
        obtain ⟨g, off, cap, e, hc0, hc1, r0, r1, r2, r3, r4, -⟩ := con_cells x.v.L HR.out
        subst e
        rw [Hn.out] at c5 hc0 T1
        have T3 := hide T1.out.qx.nilRB
        clear x T1
        go_wp2_with fail
        go_ret2
        exact ⟨_, rfl, T3.out⟩
end Go.Proofs.Ytgeneknaekoinaa
