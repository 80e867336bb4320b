/- The document's pool: somebody gets a connection. -/
import Derived.Test.YtgeneknaekoinaaURf3
namespace Go.Proofs.Ytgeneknaekoinaa
open Go.ChangeShapes Go.WideShapes Go.ChangeAt Go.RowKit
set_option linter.unusedVariables false

def raO (a : Ac) : Obj := .cells #[.int .i64 a.k, .int .i64 a.c, .int .i64 a.w] 64 (0, 0)
theorem ra_cells {w : World} {b : Nat} {a : Ac} (h : w.heap[b]? = some (raO a)) : w.cell? ⟨b, 0, none⟩ = some (.int .i64 a.k) ∧ w.cell? ⟨b, 1, none⟩ = some (.int .i64 a.c) ∧ w.cell? ⟨b, 2, none⟩ = some (.int .i64 a.w) ∧ ∀ i, w.frozen? ⟨b, i, none⟩ = false :=
  ⟨cell_of h 0, cell_of h 1, cell_of h 2, fun i => frozen_of h i⟩
theorem Blk.put3r {b : Nat} {a a' : Ac} {w : World} {P : Nat → Prop} (h : Blk b (raO a) w P) : Does (Blk b (raO a')) P w (Go.Proofs.Ytgeneknaekoinaa.put3 w b a') :=
  ((h.set 0 (.int .i64 a'.k)).trans (fun _ y => y.set 1 (.int .i64 a'.c))).trans (fun _ y => y.set 2 (.int .i64 a'.w))
abbrev zC : Cn := ⟨0, 0, 0, 0, 0⟩
def conC (p : Rm) (x : Int) : Cn := p.L.getD (idx (isD x) p.L).toNat zC
theorem conC_of {p : Rm} {x : Int} {i : Nat} {r : Cn} (h : idx (isD x) p.L = (i : Int)) (hr : p.L[i]? = some r) : conC p x = r := by
  unfold conC; rw [h, Int.toNat_natCast, List.getD_eq_getElem?_getD, hr]; rfl
def gdS (p : Rm) (now x : Int) : Bool := decide (now < rendI p (conC p x))
/-- The last of the first k that rest and are good. -/
def rgS (p : Rm) (now : Int) : Nat → Int
  | 0 => -1
  | k + 1 => if gdS p now (p.S.getD k 0) then (k : Int) else rgS p now k
def rl (p : Rm) (now : Int) : Int := rgS p now p.S.length
theorem rgS_bd (p : Rm) (now : Int) : ∀ k, rgS p now k = -1 ∨ ∃ i : Nat, rgS p now k = (i : Int) ∧ i < k
  | 0 => .inl rfl
  | k + 1 => by
    unfold rgS
    split
    · exact .inr ⟨k, rfl, by omega⟩
    · rcases rgS_bd p now k with x | ⟨i, x, y⟩
      · exact .inl x
      · exact .inr ⟨i, x, by omega⟩
def glR (r : Cn) (who : Int) : Cn := ⟨r.n, 2, who, r.si, r.bo⟩
def rgA (p : Rm) (now who : Int) : Ac := if rl p now = -1 then (if p.cap ≤ (p.L.length : Int) then ⟨0, 0, 0⟩ else ⟨1, p.nx, who⟩) else ⟨2, p.S.getD (rl p now).toNat 0, who⟩
def rgB (p : Rm) (now : Int) : Bool := decide (rl p now ≠ -1 ∨ (p.L.length : Int) < p.cap)
def rgP (p : Rm) (now who : Int) : Rm := if rl p now = -1 then (if p.cap ≤ (p.L.length : Int) then p else { p with nx := p.nx + 1, L := p.L ++ [⟨p.nx, 1, who, 0, now⟩] }) else { p with L := p.L.set (idx (isD (p.S.getD (rl p now).toNat 0)) p.L).toNat (glR (conC p (p.S.getD (rl p now).toNat 0)) who), S := erI (p.S.getD (rl p now).toNat 0) p.S }
theorem isD_of {p : Rm} {x : Int} {i : Nat} {r : Cn} (h : idx (isD x) p.L = (i : Int)) (hr : p.L[i]? = some r) : r.n = x := by
  rcases idx_cases (isD x) p.L with ⟨q, -⟩ | ⟨j, s, q, hs, hq, -⟩
  · omega
  · have : i = j := by omega
    subst this
    rw [hr] at hs
    cases hs
    unfold isD at hq
    simpa using hq
set_option maxHeartbeats 600000 in
set_option maxRecDepth 100000 in
theorem rgive_any (p : Rm) (b : Nat) (w : World) (P : Nat → Prop) (now who K : Int) (h : QX p b w P) (k0 : QOk p K) (hK : K < 9223372036854775807) :
    Calls Try.prog 48 #[.pointer (some ⟨b, 0, none⟩), .int .i64 now, .int .i64 who] w fun e w' => e = .returned (.tuple #[acV (rgA p now who), .bool (rgB p now)]) ∧ Does (QX (rgP p now who) b) P w w' := by
  obtain ⟨vl, vs, vw, h⟩ := h
  have T0 : Hid (Does (Two (Blk w.heap.size (raO ⟨0, 0, 0⟩)) (QT p b vl vs vw)) P w (w.alloc (raO ⟨0, 0, 0⟩))) := hide ((Does.refl h).new _)
  have HK := hide k0
  have HFA : Hid (∃ A B q, rgA p now who = A ∧ rgB p now = B ∧ rgP p now who = q) := hide ⟨_, _, _, rfl, rfl, rfl⟩
  obtain ⟨RA', RB', RP', HRA, HRB, HRP⟩ : ∃ A B q, Hid (rgA p now who = A) ∧ Hid (rgB p now = B) ∧ Hid (rgP p now who = q) := ⟨_, _, _, hide rfl, hide rfl, hide rfl⟩
  rw [HRA.out, HRB.out, HRP.out]
  clear HFA
  obtain ⟨sa, sc, rfl, hs0, hs1⟩ := h.v.S.shape
  obtain ⟨la, lc, rfl, hl0, hl1⟩ := h.v.L.shape
  have hs64 := k0.sen
  have hl64 := k0.len
  have nx0 := k0.nx0
  have nx1 := k0.nx1
  clear h k0
  obtain ⟨n, Hn⟩ : ∃ n, Hid (p.S.length = n) := ⟨_, hide rfl⟩
  obtain ⟨m, Hm⟩ : ∃ m, Hid (p.L.length = m) := ⟨_, hide rfl⟩
  rw [Hn.out] at hs0 hs64 T0
  rw [Hm.out] at hl0 hl64 T0
  rw [show raO ⟨0, 0, 0⟩ = .cells #[.int .i64 0, .int .i64 0, .int .i64 0] 64 (0, 0) from rfl] at T0
  obtain ⟨ak, ac, aw⟩ := RA'
  unfold acV
  go_enter Try.func48, Try.ntmps48
  go_upto_region 1 with fail
  generalize w.alloc _ = w0 at *
  generalize w.heap.size = rb at *
  obtain ⟨_, x⟩ := T0.out.snd_of
  obtain ⟨c0, c1, c2, c3, c4, c5, c6, c7⟩ := x.v.c
  clear x
  go_wp2_with fail
  clear c0 c1 c2 c3 c4 c5 c6 c7
  go_loopw [8] (fun u wr => ∃ k : Nat, k ≤ n ∧ u = .int .i64 ((k : Int) - 1) ∧ Hid (rl p now = rgS p now k) ∧ Hid (Fr none' w0 wr)) (fun u _ => (intOf u + 1).toNat)
  case atStart => exact ⟨n, Nat.le_refl _, rfl, hide (by unfold rl; rw [Hn.out]), hide (Fr.refl _ _)⟩
  case round =>
    obtain ⟨k, hk, rfl, HR, HF⟩ := hrel
    have T1 := hide (T0.out.e HF.out)
    cases k with
    | zero =>
      have hrl : rl p now = -1 := HR.out
      obtain ⟨_, x⟩ := T1.out.snd_of
      obtain ⟨c0, c1, c2, c3, c4, c5, c6, c7⟩ := x.v.c
      clear x
      simp only [Int.natCast_zero, Int.zero_sub]
      by_cases hf : p.cap ≤ (m : Int)
      · have hfd : decide (p.cap ≤ (m : Int)) = true := decide_eq_true hf
        have e1 : (⟨ak, ac, aw⟩ : Ac) = ⟨0, 0, 0⟩ := by rw [← HRA.out]; unfold rgA; rw [if_pos hrl, Hm.out, if_pos hf]
        have e2 : RB' = false := by rw [← HRB.out]; unfold rgB; rw [hrl, Hm.out]; simp; omega
        have e3 : RP' = p := by rw [← HRP.out]; unfold rgP; rw [if_pos hrl, Hm.out, if_pos hf]
        simp only [Ac.mk.injEq] at e1
        have HEA := hide e1
        clear e1
        subst e2
        have HE3 := hide e3
        clear hrl HR e3
        go_wp2_with fail
        go_quiet (fail)
        have T2 := hide (T1.out.e (Fr.drewN none' _ nq))
        clear c0 c1 c2 c3 c4 c5 c6 c7 T1
        generalize wr.drewN nq = w3 at *
        obtain ⟨_, y2⟩ := T2.out.fst_of
        obtain ⟨a0, a1, a2, az⟩ := ra_cells (a := ⟨0, 0, 0⟩) y2.1
        have y0 := az 0
        have y1 := az 1
        have y2' := az 2
        clear y2 az
        have T4 := hide (T2.out.left (fun _ y => y.put3r (a := ⟨0, 0, 0⟩) (a' := ⟨0, 0, 0⟩)))
        obtain ⟨w4, hw4⟩ : ∃ w4, put3 w3 rb ⟨0, 0, 0⟩ = w4 := ⟨_, rfl⟩
        rw [hw4] at T4
        have T5 : Hid (Does (QX RP' b) P w w4) := hide (by rw [HE3.out]; exact T4.out.snd.qx)
        obtain ⟨_, y3⟩ := T4.out.fst_of
        obtain ⟨q0, q1, q2, -⟩ := ra_cells y3.1
        unfold put3 at hw4
        dsimp only at hw4 q0 q1 q2
        clear y3 T4 T2
        go_wp2_with fail
        exact bodyPost_ret (v := .tuple #[.agg #[.int .i64 0, .int .i64 0, .int .i64 0], .bool false]) (by simp [results, Try.results48, go_sem, q0, q1, q2]) rfl ⟨by rw [HEA.out.1, HEA.out.2.1, HEA.out.2.2], T5.out⟩
      · have hfd : decide (p.cap ≤ (m : Int)) = false := decide_eq_false hf
        have e1 : (⟨ak, ac, aw⟩ : Ac) = ⟨1, p.nx, who⟩ := by rw [← HRA.out]; unfold rgA; rw [if_pos hrl, Hm.out, if_neg hf]
        have e2 : RB' = true := by rw [← HRB.out]; unfold rgB; rw [hrl, Hm.out]; simp; omega
        have e3 : RP' = { p with nx := p.nx + 1, L := p.L ++ [⟨p.nx, 1, who, 0, now⟩] } := by rw [← HRP.out]; unfold rgP; rw [if_pos hrl, Hm.out, if_neg hf]
        simp only [Ac.mk.injEq] at e1
        have HEA := hide e1
        clear e1
        subst e2
        have HE3 := hide e3
        clear hrl HR e3
        go_wp2_with fail
        go_quiet (fail)
        have T2 := hide (T1.out.e (Fr.drewN none' _ nq))
        clear c0 c1 c2 c3 c4 c5 c6 c7 T1
        generalize wr.drewN nq = w3 at *
        obtain ⟨_, x⟩ := T2.out.snd_of
        obtain ⟨c0, c1, c2, c3, c4, c5, c6, c7⟩ := x.v.c
        have z4 := x.v.fz 4
        clear x
        have T3 := hide (T2.out.right (fun _ z => z.setX (p.nx + 1)))
        go_upto_region 15 with fail
        clear c0 c1 c2 c3 c4 c5 c6 c7 T2 z4
        generalize w3.setCell ⟨b, 4, none⟩ (.int .i64 (p.nx + 1)) = w4 at *
        obtain ⟨_, x⟩ := T3.out.snd_of
        obtain ⟨c0, c1, c2, c3, c4, c5, c6, c7⟩ := x.v.c
        have HQ : Hid (Rw 84 5 w4 (.slice la m lc) m (fl encC p.L)) := hide (by have := x.v.L; dsimp only at this; rw [Hm.out] at this; exact this)
        obtain ⟨h1, n1, n2, n3, n4, n5, n6, n7⟩ := x.parts
        have H1 := hide h1.B
        have HN1 := hide n1
        clear x h1 n1 n2 n3 n4 n5 n6 n7
        go_wp2_with (at_builtin; apply Hid.out)
        unfold Hid
        refine wpList_append_rw infCon rfl _ _ rfl w4 (.slice la m lc) m _ (encC ⟨p.nx, 1, who, 0, now⟩) rfl (by simp [Act.eval, go_sem]) HQ.out rfl (by omega) (by omega) ?_
        intro v' W6 q1 F o
        obtain ⟨sa2, sc2, rfl, -, -⟩ := q1.shape
        have k5 : W6.cell? ⟨b, 5, none⟩ = some (.slice la m lc) := cell_of (F.hd HN1.out H1.out) 5
        have z5 : W6.frozen? ⟨b, 5, none⟩ = false := frozen_of (F.hd HN1.out H1.out) 5
        have T5 : Hid (Does (Two (Blk rb (.cells #[.int .i64 0, .int .i64 0, .int .i64 0] 64 (0, 0))) (QX RP' b)) P w (W6.setCell ⟨b, 5, none⟩ (.slice sa2 (m + 1) sc2))) := hide (by
          rw [HE3.out]
          exact T3.out.right (fun _ z => (z.appL (L' := p.L ++ [⟨p.nx, 1, who, 0, now⟩]) (by rw [fl_app, List.length_append, Hm.out]; exact q1) F o).qx))
        clear q1 F o HQ T3 H1 HN1 c0 c1 c2 c3 c4 c5 c6 c7
        go_upto_region 16 with fail
        clear k5 z5
        generalize W6.setCell ⟨b, 5, none⟩ (.slice sa2 (m + 1) sc2) = w5 at *
        obtain ⟨_, y2⟩ := T5.out.fst_of
        obtain ⟨a0, a1, a2, az⟩ := ra_cells (a := ⟨0, 0, 0⟩) y2.1
        have y0 := az 0
        have y1 := az 1
        have y2' := az 2
        clear y2 az
        have T6 := hide (T5.out.left (fun _ y => y.put3r (a := ⟨0, 0, 0⟩) (a' := ⟨1, p.nx, who⟩)))
        obtain ⟨w6, hw6⟩ : ∃ w6, put3 w5 rb ⟨1, p.nx, who⟩ = w6 := ⟨_, rfl⟩
        rw [hw6] at T6
        have T7 := hide T6.out.snd
        obtain ⟨_, y3⟩ := T6.out.fst_of
        obtain ⟨q0, q1, q2, -⟩ := ra_cells y3.1
        unfold put3 at hw6
        dsimp only at hw6 q0 q1 q2
        clear y3 T6 T5
        go_wp2_with fail
        exact bodyPost_ret (v := .tuple #[.agg #[.int .i64 1, .int .i64 p.nx, .int .i64 who], .bool true]) (by simp [results, Try.results48, go_sem, q0, q1, q2]) rfl ⟨by rw [HEA.out.1, HEA.out.2.1, HEA.out.2.2], T7.out⟩
    | succ j =>
      rw [show ((j + 1 : Nat) : Int) - 1 = (j : Int) by omega]
      have hjl : j < p.S.length := by rw [Hn.out]; omega
      have hjr := get_ok hjl
      have hgd : p.S.getD j 0 = p.S[j] := by simp [List.getD, hjl]
      have hne := HK.out.ins _ (List.mem_of_getElem? hjr)
      have HR2 : Hid (rl p now = if gdS p now p.S[j] then (j : Int) else rgS p now j) := hide (by rw [HR.out, ← hgd]; rfl)
      generalize p.S[j] = x at *
      obtain ⟨i, r, hi, hr⟩ : ∃ (i : Nat) (r : Cn), idx (isD x) p.L = (i : Int) ∧ p.L[i]? = some r := by
        rcases idx_cases (isD x) p.L with ⟨q, -⟩ | ⟨i, r, q, hr, -⟩
        · exact absurd q hne
        · exact ⟨i, r, q, hr⟩
      have hcc := conC_of hi hr
      have hxn := isD_of hi hr
      obtain ⟨⟨b0, b1⟩, s0, s1⟩ := HK.out.rows r (List.mem_of_getElem? hr)
      have hil : i < m := by rw [← Hm.out]; exact (List.getElem?_eq_some_iff.1 hr).1
      have hili : (i : Int) < (m : Int) := by omega
      have hjn : (j : Int) < (n : Int) := by omega
      obtain ⟨_, y⟩ := T1.out.snd_of
      have HFD := hide (find_any p b _ _ vw wr x y.v (by rw [Hm.out]; exact hl64))
      rw [hi] at HFD
      have HEN := hide (fun V (F : Fr none' wr V) => rend_any p b _ _ vw V r (y.v.fr F) HK.out.life0 HK.out.life1 HK.out.idle0 HK.out.idle1 b0 b1 s0 s1)
      unfold cnV at HEN
      obtain ⟨c0, c1, c2, c3, c4, c5, c6, c7⟩ := y.v.c
      obtain ⟨g0, o0, cp0, e, -, -, l0⟩ := int_cell y.v.S hjr
      simp only [Value.slice.injEq] at e
      obtain ⟨rfl, -, -⟩ := e
      have HGD : Hid (gdS p now x = decide (now < rendI p r)) := hide (by unfold gdS; rw [hcc])
      have HIX := hide hi
      have HRX := hide hr
      have HCC := hide hcc
      have HGX := hide hgd
      have HXN := hide hxn
      clear y hne hi hr hcc hjr hgd HR hxn
      go_wp2_with fail
      refine HFD.out.mono ?_
      rintro e w2 ⟨rfl, F2⟩
      have T2 := hide (T1.out.e F2)
      have HF2 := hide (HF.out.trans F2 (fun _ _ x => x))
      have HEN := hide (HEN.out w2 F2)
      clear F2 HFD T1 c0 c1 c2 c3 c4 c5 c6 c7 l0
      obtain ⟨_, y⟩ := T2.out.snd_of
      obtain ⟨c0, c1, c2, c3, c4, c5, c6, c7⟩ := y.v.c
      obtain ⟨g1, o1, cp1, e, -, -, r0, r1, r2, r3, r4, -⟩ := con_cells y.v.L HRX.out
      simp only [Value.slice.injEq] at e
      obtain ⟨rfl, -, -⟩ := e
      clear y
      go_wp2_with fail
      refine HEN.out.mono ?_
      rintro e w3 ⟨rfl, F3⟩
      have T3 := hide (T2.out.e F3)
      have HF3 := hide (HF2.out.trans F3 (fun _ _ x => x))
      clear F3 HEN T2 c0 c1 c2 c3 c4 c5 c6 c7 r0 r1 r2 r3 r4 HF2
      by_cases hgood : now < rendI p r
      · rw [decide_eq_true hgood] at HGD
        rw [HGD.out, if_pos rfl] at HR2
        have hrn : ¬ rl p now = -1 := by rw [HR2.out]; omega
        have egd : p.S.getD (rl p now).toNat 0 = x := by rw [HR2.out, Int.toNat_natCast]; exact HGX.out
        have e1 : (⟨ak, ac, aw⟩ : Ac) = ⟨2, x, who⟩ := by rw [← HRA.out]; unfold rgA; rw [if_neg hrn, egd]
        have e2 : RB' = true := by rw [← HRB.out]; unfold rgB; simp [hrn]
        have HE3 : Hid (RP' = { p with L := p.L.set i (glR r who), S := erI x p.S }) := hide (by rw [← HRP.out]; unfold rgP; rw [if_neg hrn, egd, HIX.out, HCC.out, Int.toNat_natCast])
        simp only [Ac.mk.injEq] at e1
        have HEA := hide e1
        clear e1
        subst e2
        clear hrn egd HR2 HGD HRA HRB HRP
        obtain ⟨_, y⟩ := T3.out.snd_of
        obtain ⟨c0, c1, c2, c3, c4, c5, c6, c7⟩ := y.v.c
        obtain ⟨g1', o1', cp1', e, -, -, r0, r1, r2, r3, r4, rz⟩ := con_cells y.v.L HRX.out
        simp only [Value.slice.injEq, Option.some.injEq, Addr.mk.injEq, and_true] at e
        obtain ⟨⟨rfl, rfl⟩, -, -⟩ := e
        rw [HXN.out] at r0
        have z1 := rz (o1 + i * 5 + 1)
        clear y rz
        have T4 := hide (T3.out.right (fun _ z => z.setC (j := 1) (r' := ⟨r.n, 2, r.wh, r.si, r.bo⟩) (x := 2) Hm.out HRX.out (by omega) rfl))
        go_upto_region 8 with fail
        clear c0 c1 c2 c3 c4 c5 c6 c7 r0 r1 r2 r3 r4 z1 T3
        generalize w3.setCell _ _ = w4 at *
        have HLX : Hid ((p.L.set i ⟨r.n, 2, r.wh, r.si, r.bo⟩)[i]? = some ⟨r.n, 2, r.wh, r.si, r.bo⟩) := hide (by rw [List.getElem?_set_self (List.getElem?_eq_some_iff.1 HRX.out).1])
        obtain ⟨_, y⟩ := T4.out.snd_of
        obtain ⟨c0, c1, c2, c3, c4, c5, c6, c7⟩ := y.v.c
        obtain ⟨g1', o1', cp1', e, -, -, r0, r1, r2, r3, r4, rz⟩ := con_cells y.v.L HLX.out
        simp only [Value.slice.injEq, Option.some.injEq, Addr.mk.injEq, and_true] at e
        obtain ⟨⟨rfl, rfl⟩, -, -⟩ := e
        dsimp only at r2
        have z2 := rz (o1 + i * 5 + 2)
        clear y rz
        have T5 := hide (T4.out.right (fun _ z => z.setC (j := 2) (r' := glR r who) (x := who) (by dsimp only; rw [List.length_set]; exact Hm.out) HLX.out (by omega) rfl))
        go_upto_region 9 with fail
        clear c0 c1 c2 c3 c4 c5 c6 c7 r0 r1 r2 r3 r4 z2 T4
        generalize w4.setCell _ _ = w5 at *
        have T6 : Hid (Does (Two (Blk rb (.cells #[.int .i64 0, .int .i64 0, .int .i64 0] 64 (0, 0))) (QX { p with L := p.L.set i (glR r who) } b)) P w w5) := hide (by
          have := T5.out.right (fun _ z => (Does.refl z).qx)
          dsimp only at this
          rw [List.set_set] at this
          exact this)
        clear T5
        obtain ⟨P2, y, hy⟩ := T6.out.focR
        have HRS := hide (rested_any _ b w5 P2 x y (by dsimp only; rw [Hn.out]; exact hs64))
        have HX := hide hy
        clear y hy T6
        go_wp2_with fail
        refine HRS.out.mono ?_
        rintro e w6 ⟨rfl, d⟩
        have T7 : Hid (Does (Two (Blk rb (.cells #[.int .i64 0, .int .i64 0, .int .i64 0] 64 (0, 0))) (QX RP' b)) P w w6) := hide (by rw [HE3.out]; exact HX.out _ _ d)
        clear d HX HRS
        obtain ⟨_, y2⟩ := T7.out.fst_of
        obtain ⟨a0, a1, a2, az⟩ := ra_cells (a := ⟨0, 0, 0⟩) y2.1
        have y0 := az 0
        have y1 := az 1
        have y2' := az 2
        clear y2 az
        have T8 := hide (T7.out.left (fun _ y => y.put3r (a := ⟨0, 0, 0⟩) (a' := ⟨2, x, who⟩)))
        obtain ⟨w7, hw7⟩ : ∃ w7, put3 w6 rb ⟨2, x, who⟩ = w7 := ⟨_, rfl⟩
        rw [hw7] at T8
        have T9 := hide T8.out.snd
        obtain ⟨_, y3⟩ := T8.out.fst_of
        obtain ⟨q0, q1, q2, -⟩ := ra_cells y3.1
        unfold put3 at hw7
        dsimp only at hw7 q0 q1 q2
        clear y3 T8 T7
        go_wp2_with fail
        exact bodyPost_ret (v := .tuple #[.agg #[.int .i64 2, .int .i64 x, .int .i64 who], .bool true]) (by simp [results, Try.results48, go_sem, q0, q1, q2]) rfl ⟨by rw [HEA.out.1, HEA.out.2.1, HEA.out.2.2], T9.out⟩
      · rw [decide_eq_false hgood] at HGD
        rw [HGD.out, if_neg (by simp)] at HR2
        generalize rendI p r = en at *
        have hgd2 : decide (now < en) = false := decide_eq_false hgood
        go_wp2_with fail
        go_roundw
        case rel => exact ⟨j, by omega, rfl, HR2, HF3⟩
        case measure => simp [intOf] <;> omega
end Go.Proofs.Ytgeneknaekoinaa
