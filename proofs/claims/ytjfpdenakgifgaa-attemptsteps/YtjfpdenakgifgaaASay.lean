/- That the small case which each statement asks comes out true; what a step does. -/
import Derived.Test.YtjfpdenakgifgaaABg
namespace Go.Proofs.Ytjfpdenakgifgaa
open Go.ChangeShapes Go.WideShapes Go.ChangeAt Go.RowKit
set_option linter.unusedVariables false

theorem act_cells {w : World} {v : Value} {L : List Ac} (h : Rw 53 3 w v L.length (fl encA L)) {i : Nat} {a : Ac} (hr : L[i]? = some a) : ∃ g off cap, v = .slice (some ⟨g, off, none⟩) L.length cap ∧ L.length ≤ cap ∧ cap ≤ 9223372036854775807 ∧ w.cell? ⟨g, off + i * 3, none⟩ = some (.int .i64 a.k) ∧ w.cell? ⟨g, off + i * 3 + 1, none⟩ = some (.int .i64 a.c) ∧ w.cell? ⟨g, off + i * 3 + 2, none⟩ = some (.int .i64 a.w) := by
  have hi : i < L.length := (List.getElem?_eq_some_iff.1 hr).1
  obtain ⟨g, off, cap, e, h1, h2, h3, h4, h5⟩ := h.at hi
  have k : ∀ j, j < 3 → w.cell? ⟨g, off + i * 3 + j, none⟩ = some (.int .i64 ((encA a).getD j 0)) := fun j hj => by
    rw [h3 j hj, fl_at encA_len L i j a hr hj]
  exact ⟨g, off, cap, e, h1, h2, k 0 (by omega), k 1 (by omega), k 2 (by omega)⟩
abbrev q1 : Rq := ⟨1, 0, 5, 10, 100, true, 100, 1, 0, 0, 0, [⟨0, 0⟩]⟩
abbrev q2 : Rq := ⟨1, 0, 5, 10, 100, true, 100, 1, 1, 0, 3, [⟨1, 3⟩]⟩
abbrev q3 : Rq := ⟨1, 0, 5, 10, 100, true, 100, 1, 1, 0, 3, []⟩
set_option maxHeartbeats 4000000 in
set_option maxRecDepth 100000 in
theorem speaks_any (w : World) : Calls Try.prog 12 #[] w fun e w' => e = .returned (.bool true) ∧ Fr none' w w' := by
  have A : okPl 1 0 5 10 100 := ⟨⟨by omega, by omega⟩, ⟨by omega, by omega⟩, ⟨by omega, by omega⟩, ⟨by omega, by omega⟩, by omega, by omega⟩
  have HN := hide (new_any w 1 0 5 10 100 true 0 A rfl)
  have K1 : Hid (QOk q1) := hide (QOk.new (sf := true) (now := 0) A (by omega) (by omega))
  have K2 : Hid (QOk q2) := hide (K1.out.fa 3 0 2 true)
  rw [show p1 1 0 5 10 100 true 0 = q1 from rfl] at HN
  unfold plV at HN
  clear A
  go_enter Try.func12, Try.ntmps12
  go_wp2_with fail
  refine HN.out.mono ?_
  rintro e w1 ⟨b, v1, rfl, d⟩
  have T1 := hide d
  clear d HN
  obtain ⟨P, x, hx⟩ := T1.out.focR
  have HX := hide hx
  have HC := hide (failed_any q1 b w1 P 3 0 2 true x K1.out)
  rw [show faP q1 3 0 2 true = q2 from rfl, show faA q1 3 0 2 true = [⟨1, 1, 1⟩] from rfl, show faE q1 3 0 2 = 0 from rfl] at HC
  obtain ⟨g1, o1, c1, rfl, -, -, -⟩ := act_cells (i := 0) (T1.out.fst_of.elim (fun _ z => z.1)) rfl
  clear x hx K1 T1
  go_wp2_with fail
  refine HC.out.mono ?_
  rintro e w2 ⟨v2, rfl, d⟩
  have T2 := hide (HX.out _ _ d)
  clear d HX HC
  obtain ⟨g2, o2, c2, rfl, -, -, -⟩ := act_cells (i := 0) (T2.out.snd.fst_of.elim (fun _ z => z.1)) rfl
  have T3 : Hid (Does (Two (Two (RA (.slice (some ⟨g1, o1, none⟩) 1 c1) [⟨1, 0, 0⟩]) (RA (.slice (some ⟨g2, o2, none⟩) 1 c2) [⟨1, 1, 1⟩])) (QX q2 b)) none' w w2) := hide (by
    obtain ⟨P', ⟨P1, P2, h1, ⟨P3, P4, h2, h3, d1, d2⟩, d3, d4⟩, t1, t2⟩ := T2.out
    exact ⟨P', ⟨fun k => P1 k ∨ P3 k, P4, ⟨P1, P3, h1, h2, fun k hk hx => d3 k hk ((d2 k).2 (.inl hx)), fun _ => Iff.rfl⟩, h3, fun k hk hx => hk.elim (fun y => d3 k y ((d2 k).2 (.inr hx))) (fun y => d1 k y hx), fun k => by rw [d4 k, d2 k, or_assoc]⟩, t1, t2⟩)
  clear T2
  obtain ⟨P, x, hx⟩ := T3.out.focR
  have HX := hide hx
  have HC := hide (failed_any q2 b w2 P 4 1 2 true x K2.out)
  rw [show faP q2 4 1 2 true = q3 from rfl, show faA q2 4 1 2 true = [⟨4, 1, 502⟩] from rfl, show faE q2 4 1 2 = 0 from rfl] at HC
  clear x hx K2 T3
  go_wp2_with fail
  refine HC.out.mono ?_
  rintro e w3 ⟨v3, rfl, d⟩
  have T4 := hide (HX.out _ _ d)
  clear d HX HC
  obtain ⟨g3, o3, c3, rfl, n0, n1, l0, l1, l2⟩ := act_cells (i := 0) (T4.out.snd.fst_of.elim (fun _ z => z.1)) rfl
  obtain ⟨_, ⟨_, _, ha, hb, -, -⟩⟩ := T4.out.fst_of
  obtain ⟨g1', o1', c1', e1, n2, n3, a0, a1, a2⟩ := act_cells (i := 0) ha.1 rfl
  obtain ⟨g2', o2', c2', e2, n4, n5, b0, b1, b2⟩ := act_cells (i := 0) hb.1 rfl
  simp only [Value.slice.injEq, Option.some.injEq, Addr.mk.injEq, and_true, List.length_cons, List.length_nil, true_and] at e1 e2
  obtain ⟨⟨rfl, rfl⟩, rfl⟩ := e1
  obtain ⟨⟨rfl, rfl⟩, rfl⟩ := e2
  obtain ⟨_, vr, y⟩ := T4.out.snd.snd.of
  have HO := hide (over_any q3 b vr w3 y.v)
  have HF := hide T4.out.fr
  clear T4 ha hb y
  simp only [List.length_cons, List.length_nil, Nat.zero_mul, Nat.add_zero, Nat.zero_add] at a0 a1 a2 b0 b1 b2 l0 l1 l2 n0 n2 n4 ⊢
  go_wp2_with (go_at_call 19; refine HO.out.mono ?_; rintro e w' ⟨rfl, rfl⟩)
  go_ret
  exact ⟨rfl, HF.out⟩
def dsE (p : Rq) (kd now id why : Int) : Int := if kd = 0 then faE p now id why else if kd = 1 then heE p now id why else tmE now
def stV (kd nw id why : Int) (al : Bool) : Value := .agg #[.int .i64 kd, .int .i64 nw, .int .i64 id, .int .i64 why, .bool al]
def stO (kd nw id why : Int) (al : Bool) : Obj := .cells #[.int .i64 kd, .int .i64 nw, .int .i64 id, .int .i64 why, .bool al] 26 (0, 0)
theorem st_cells {w : World} {b : Nat} {kd nw id why : Int} {al : Bool} (h : w.heap[b]? = some (stO kd nw id why al)) : w.cell? ⟨b, 0, none⟩ = some (.int .i64 kd) ∧ w.cell? ⟨b, 1, none⟩ = some (.int .i64 nw) ∧ w.cell? ⟨b, 2, none⟩ = some (.int .i64 id) ∧ w.cell? ⟨b, 3, none⟩ = some (.int .i64 why) ∧ w.cell? ⟨b, 4, none⟩ = some (.bool al) :=
  ⟨cell_of h 0, cell_of h 1, cell_of h 2, cell_of h 3, cell_of h 4⟩
set_option maxHeartbeats 2000000 in
set_option maxRecDepth 100000 in
theorem does0 (p : Rq) (b : Nat) (w : World) (P : Nat → Prop) (nw id why : Int) (al : Bool) (h : QX p b w P) (k0 : QOk p) :
    Calls Try.prog 13 #[.pointer (some ⟨b, 0, none⟩), stV 0 nw id why al] w fun e w' => ∃ v, e = .returned (.tuple #[v, .int .i64 (faE p nw id why)]) ∧ Does (Two (RA v (faA p nw id why al)) (QX (faP p nw id why al) b)) P w w' := by
  obtain ⟨er, He⟩ : ∃ er, Hid (faE p nw id why = er) := ⟨_, hide rfl⟩
  rw [He.out]
  have T0 : Hid (Does (Two (Blk w.heap.size (stO 0 nw id why al)) (QX p b)) P w (w.alloc (stO 0 nw id why al))) := hide ((Does.refl h).new _)
  have HK := hide k0
  clear h k0
  rw [show stO 0 nw id why al = .cells #[.int .i64 0, .int .i64 nw, .int .i64 id, .int .i64 why, .bool al] 26 (0, 0) from rfl] at T0
  unfold stV
  go_enter Try.func13, Try.ntmps13
  go_upto_region 1 with fail
  generalize w.alloc _ = w1 at *
  generalize w.heap.size = sb at *
  obtain ⟨_, x⟩ := T0.out.fst_of
  obtain ⟨e0, e1, e2, e3, e4⟩ := st_cells (kd := 0) (nw := nw) (id := id) (why := why) (al := al) x.1
  clear x
  have T1 := hide T0.out.snd
  clear T0
  obtain ⟨P2, x, hx⟩ := T1.out.foc
  have HX := hide hx
  have HC := hide (failed_any p b w1 P2 nw id why al x HK.out)
  clear x hx T1
  rw [He.out] at HC
  go_wp2_with fail
  refine HC.out.mono ?_
  rintro e w2 ⟨v, rfl, d⟩
  have T2 := hide (HX.out _ _ d)
  clear d HX HC
  go_wp2_with fail
  go_ret2
  exact ⟨_, rfl, T2.out⟩
set_option maxHeartbeats 2000000 in
set_option maxRecDepth 100000 in
theorem does1 (p : Rq) (b : Nat) (w : World) (P : Nat → Prop) (nw id why : Int) (al : Bool) (h : QX p b w P) (k0 : QOk p) :
    Calls Try.prog 13 #[.pointer (some ⟨b, 0, none⟩), stV 1 nw id why al] w fun e w' => ∃ v, e = .returned (.tuple #[v, .int .i64 (heE p nw id why)]) ∧ Does (Two (RA v (heA p nw id why al)) (QX (heP p nw id why al) b)) P w w' := by
  obtain ⟨er, He⟩ : ∃ er, Hid (heE p nw id why = er) := ⟨_, hide rfl⟩
  rw [He.out]
  have T0 : Hid (Does (Two (Blk w.heap.size (stO 1 nw id why al)) (QX p b)) P w (w.alloc (stO 1 nw id why al))) := hide ((Does.refl h).new _)
  have HK := hide k0
  clear h k0
  rw [show stO 1 nw id why al = .cells #[.int .i64 1, .int .i64 nw, .int .i64 id, .int .i64 why, .bool al] 26 (0, 0) from rfl] at T0
  unfold stV
  go_enter Try.func13, Try.ntmps13
  go_upto_region 1 with fail
  generalize w.alloc _ = w1 at *
  generalize w.heap.size = sb at *
  obtain ⟨_, x⟩ := T0.out.fst_of
  obtain ⟨e0, e1, e2, e3, e4⟩ := st_cells (kd := 1) (nw := nw) (id := id) (why := why) (al := al) x.1
  clear x
  have T1 := hide T0.out.snd
  clear T0
  obtain ⟨P2, x, hx⟩ := T1.out.foc
  have HX := hide hx
  have HC := hide (head_any p b w1 P2 nw id why al x HK.out)
  clear x hx T1
  rw [He.out] at HC
  go_wp2_with fail
  refine HC.out.mono ?_
  rintro e w2 ⟨v, rfl, d⟩
  have T2 := hide (HX.out _ _ d)
  clear d HX HC
  go_wp2_with fail
  go_ret2
  exact ⟨_, rfl, T2.out⟩
set_option maxHeartbeats 2000000 in
set_option maxRecDepth 100000 in
theorem does2 (p : Rq) (b : Nat) (w : World) (P : Nat → Prop) (kd : Int) (nw id why : Int) (al : Bool) (h : QX p b w P) (k0 : QOk p) (n0 : ¬ kd = 0) (n1 : ¬ kd = 1) :
    Calls Try.prog 13 #[.pointer (some ⟨b, 0, none⟩), stV kd nw id why al] w fun e w' => ∃ v, e = .returned (.tuple #[v, .int .i64 (tmE nw)]) ∧ Does (Two (RA v (tmA p nw al)) (QX (tmP p nw al) b)) P w w' := by
  obtain ⟨er, He⟩ : ∃ er, Hid (tmE nw = er) := ⟨_, hide rfl⟩
  rw [He.out]
  have T0 : Hid (Does (Two (Blk w.heap.size (stO kd nw id why al)) (QX p b)) P w (w.alloc (stO kd nw id why al))) := hide ((Does.refl h).new _)
  have HK := hide k0
  clear h k0
  rw [show stO kd nw id why al = .cells #[.int .i64 kd, .int .i64 nw, .int .i64 id, .int .i64 why, .bool al] 26 (0, 0) from rfl] at T0
  unfold stV
  have m0 : (kd == 0) = false := by simpa using n0
  have m1 : (kd == 1) = false := by simpa using n1
  go_enter Try.func13, Try.ntmps13
  go_upto_region 1 with fail
  generalize w.alloc _ = w1 at *
  generalize w.heap.size = sb at *
  obtain ⟨_, x⟩ := T0.out.fst_of
  obtain ⟨e0, e1, e2, e3, e4⟩ := st_cells (kd := kd) (nw := nw) (id := id) (why := why) (al := al) x.1
  clear x
  have T1 := hide T0.out.snd
  clear T0
  obtain ⟨P2, x, hx⟩ := T1.out.foc
  have HX := hide hx
  have HC := hide (time_any p b w1 P2 nw al x HK.out)
  clear x hx T1
  rw [He.out] at HC
  go_wp2_with fail
  refine HC.out.mono ?_
  rintro e w2 ⟨v, rfl, d⟩
  have T2 := hide (HX.out _ _ d)
  clear d HX HC
  go_wp2_with fail
  go_ret2
  exact ⟨_, rfl, T2.out⟩
theorem does_any (p : Rq) (b : Nat) (w : World) (P : Nat → Prop) (kd nw id why : Int) (al : Bool) (h : QX p b w P) (k0 : QOk p) :
    Calls Try.prog 13 #[.pointer (some ⟨b, 0, none⟩), stV kd nw id why al] w fun e w' => ∃ v, e = .returned (.tuple #[v, .int .i64 (dsE p kd nw id why)]) ∧ Does (Two (RA v (dsA p kd nw id why al)) (QX (dsP p kd nw id why al) b)) P w w' := by
  unfold dsE dsA dsP
  by_cases h0 : kd = 0
  · subst h0
    rw [if_pos rfl, if_pos rfl, if_pos rfl]
    exact does0 p b w P nw id why al h k0
  rw [if_neg h0, if_neg h0, if_neg h0]
  by_cases h1 : kd = 1
  · subst h1
    rw [if_pos rfl, if_pos rfl, if_pos rfl]
    exact does1 p b w P nw id why al h k0
  rw [if_neg h1, if_neg h1, if_neg h1]
  exact does2 p b w P kd nw id why al h k0 h0 h1
abbrev InS (W : World) (ad : Option Addr) (len : Nat) : Prop := ∀ i, i < len → ∃ b off, ∃ (x0 : Int) (x1 : Int) (x2 : Int) (x3 : Int) (x4 : Bool), ad = some ⟨b, off, none⟩ ∧ (W.cell? ⟨b, off + i * 5, none⟩ = some (.int .i64 x0) ∧ W.cell? ⟨b, off + i * 5 + 1, none⟩ = some (.int .i64 x1) ∧ W.cell? ⟨b, off + i * 5 + 2, none⟩ = some (.int .i64 x2) ∧ W.cell? ⟨b, off + i * 5 + 3, none⟩ = some (.int .i64 x3) ∧ W.cell? ⟨b, off + i * 5 + 4, none⟩ = some (.bool x4)) ∧ b < W.heap.size ∧ (-9223372036854775808 ≤ x0 ∧ x0 ≤ 9223372036854775807) ∧ (-9223372036854775808 ≤ x1 ∧ x1 ≤ 9223372036854775807) ∧ (-9223372036854775808 ≤ x2 ∧ x2 ≤ 9223372036854775807) ∧ (-9223372036854775808 ≤ x3 ∧ x3 ≤ 9223372036854775807)
theorem next_nil (w : World) : Calls Try.prog 17 #[.pointer none] w fun e w' => e = .returned (.tuple #[.int .i64 0, .bool false]) ∧ w = w' := by
  go_enter Try.func17, Try.ntmps17
  go_wp2_with (go_at_call 19; refine (over_nil _).mono ?_; rintro e w' ⟨rfl, rfl⟩)
  go_ret2
  exact ⟨rfl, rfl⟩
theorem next_over (p : Rq) (b : Nat) (vr : Value) (w : World) (h : QV p b vr w) (hr : p.R = []) : Calls Try.prog 17 #[.pointer (some ⟨b, 0, none⟩)] w fun e w' => e = .returned (.tuple #[.int .i64 0, .bool false]) ∧ w = w' := by
  have HO := hide (over_any p b vr w h)
  rw [show p.R.isEmpty = true by rw [hr]; rfl] at HO
  clear h hr
  go_enter Try.func17, Try.ntmps17
  go_wp2_with (go_at_call 19; refine HO.out.mono ?_; rintro e w' ⟨rfl, rfl⟩)
  go_ret2
  exact ⟨rfl, rfl⟩
end Go.Proofs.Ytjfpdenakgifgaa
