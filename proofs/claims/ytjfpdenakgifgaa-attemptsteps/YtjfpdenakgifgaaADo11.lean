/- The document's Begin; what is kept by a step. -/
import Derived.Test.YtjfpdenakgifgaaADo10
namespace Go.Proofs.Ytjfpdenakgifgaa
open Go.ChangeShapes Go.WideShapes Go.ChangeAt Go.RowKit
set_option linter.unusedVariables false

set_option maxHeartbeats 8000000 in
set_option maxRecDepth 100000 in
theorem rbegin_bad (w : World) (re hg ha pt tt : Int) (sf : Bool) (now : Int) (h : ¬ (okPl re hg ha pt tt ∧ mom now = true)) :
    Calls Try.prog 10 #[.int .i64 re, .int .i64 hg, .int .i64 ha, .int .i64 pt, .int .i64 tt, .bool sf, .int .i64 now] w fun e w' => e = .returned (.tuple #[.pointer none, .slice none 0 0, .int .i64 1]) ∧ Fr none' w w' := by
  have S1 := hide (fun V => rspan_any ha V)
  have S2 := hide (fun V => rspan_any pt V)
  have S3 := hide (fun V => rspan_any tt V)
  have SM := hide (fun V => moment_any now V)
  have HN := hide h
  clear h
  by_cases q0 : re < 0
  · have d0 : decide (re < 0) = true := decide_eq_true q0
    clear HN S1 S2 S3 SM
    go_enter Try.func10, Try.ntmps10
    go_wp2_with fail
    go_ret3
    exact ⟨rfl, Fr.refl _ _⟩
  have d0 : decide (re < 0) = false := decide_eq_false q0
  by_cases q1 : 5 < re
  · have d1 : decide (5 < re) = true := decide_eq_true q1
    clear HN S1 S2 S3 SM
    go_enter Try.func10, Try.ntmps10
    go_wp2_with fail
    go_ret3
    exact ⟨rfl, Fr.refl _ _⟩
  have d1 : decide (5 < re) = false := decide_eq_false q1
  by_cases q2 : hg < 0
  · have d2 : decide (hg < 0) = true := decide_eq_true q2
    clear HN S1 S2 S3 SM
    go_enter Try.func10, Try.ntmps10
    go_wp2_with fail
    go_ret3
    exact ⟨rfl, Fr.refl _ _⟩
  have d2 : decide (hg < 0) = false := decide_eq_false q2
  by_cases q3 : 3 < hg
  · have d3 : decide (3 < hg) = true := decide_eq_true q3
    clear HN S1 S2 S3 SM
    go_enter Try.func10, Try.ntmps10
    go_wp2_with fail
    go_ret3
    exact ⟨rfl, Fr.refl _ _⟩
  have d3 : decide (3 < hg) = false := decide_eq_false q3
  rcases Bool.eq_false_or_eq_true (decide (1 ≤ ha ∧ ha ≤ 1000000)) with t0 | t0
  case inr =>
    rw [t0] at S1
    clear HN t0
    go_enter Try.func10, Try.ntmps10
    go_wp2_with fail
    refine (S1.out _).mono ?_
    rintro e w' ⟨rfl, rfl⟩
    go_wp2_with fail
    go_ret3
    exact ⟨rfl, Fr.refl _ _⟩
  rw [t0] at S1
  have u0 := of_decide_eq_true t0
  clear t0
  rcases Bool.eq_false_or_eq_true (decide (1 ≤ pt ∧ pt ≤ 1000000)) with t1 | t1
  case inr =>
    rw [t1] at S2
    clear HN t1
    go_enter Try.func10, Try.ntmps10
    go_wp2_with fail
    refine (S1.out _).mono ?_
    rintro e w' ⟨rfl, rfl⟩
    go_wp2_with fail
    refine (S2.out _).mono ?_
    rintro e w' ⟨rfl, rfl⟩
    go_wp2_with fail
    go_ret3
    exact ⟨rfl, Fr.refl _ _⟩
  rw [t1] at S2
  have u1 := of_decide_eq_true t1
  clear t1
  rcases Bool.eq_false_or_eq_true (decide (1 ≤ tt ∧ tt ≤ 1000000)) with t2 | t2
  case inr =>
    rw [t2] at S3
    clear HN t2
    go_enter Try.func10, Try.ntmps10
    go_wp2_with fail
    refine (S1.out _).mono ?_
    rintro e w' ⟨rfl, rfl⟩
    go_wp2_with fail
    refine (S2.out _).mono ?_
    rintro e w' ⟨rfl, rfl⟩
    go_wp2_with fail
    refine (S3.out _).mono ?_
    rintro e w' ⟨rfl, rfl⟩
    go_wp2_with fail
    go_ret3
    exact ⟨rfl, Fr.refl _ _⟩
  rw [t2] at S3
  have u2 := of_decide_eq_true t2
  clear t2
  rcases Bool.eq_false_or_eq_true (mom now) with t3 | t3
  case inr =>
    rw [t3] at SM
    clear HN t3
    go_enter Try.func10, Try.ntmps10
    go_wp2_with fail
    refine (S1.out _).mono ?_
    rintro e w' ⟨rfl, rfl⟩
    go_wp2_with fail
    refine (S2.out _).mono ?_
    rintro e w' ⟨rfl, rfl⟩
    go_wp2_with fail
    refine (S3.out _).mono ?_
    rintro e w' ⟨rfl, rfl⟩
    go_wp2_with fail
    refine (SM.out _).mono ?_
    rintro e w' ⟨rfl, rfl⟩
    go_wp2_with fail
    go_ret3
    exact ⟨rfl, Fr.refl _ _⟩
  exact absurd ⟨⟨⟨by omega, by omega⟩, ⟨by omega, by omega⟩, u0, u1, u2⟩, t3⟩ HN.out
set_option maxHeartbeats 8000000 in
set_option maxRecDepth 100000 in
theorem rbegin_any (w : World) (re hg ha pt tt : Int) (sf : Bool) (now : Int) (h : okPl re hg ha pt tt) (hm : mom now = true) :
    Calls Try.prog 10 #[.int .i64 re, .int .i64 hg, .int .i64 ha, .int .i64 pt, .int .i64 tt, .bool sf, .int .i64 now] w fun e w' => ∃ b v, e = .returned (.tuple #[.pointer (some ⟨b, 0, none⟩), v, .int .i64 0]) ∧ Does (Two (RB v [⟨1, 0, 0⟩]) (RX ⟨now, hg, false⟩ (p1 re hg ha pt tt sf now) b)) none' w w' := by
  obtain ⟨⟨a0, a1⟩, ⟨a2, a3⟩, a4, a5, a6⟩ := h
  have S1 := hide (fun V => rspan_any ha V)
  have S2 := hide (fun V => rspan_any pt V)
  have S3 := hide (fun V => rspan_any tt V)
  have SM := hide (fun V => moment_any now V)
  rw [decide_eq_true a4] at S1
  rw [decide_eq_true a5] at S2
  rw [decide_eq_true a6] at S3
  rw [hm] at SM
  have d0 : decide (re < 0) = false := decide_eq_false (by omega)
  have d1 : decide (5 < re) = false := decide_eq_false (by omega)
  have d2 : decide (hg < 0) = false := decide_eq_false (by omega)
  have d3 : decide (3 < hg) = false := decide_eq_false (by omega)
  clear a0 a1 a2 a3 a4 a5 a6 hm
  have T0 := hide (DT.new w re hg ha pt tt sf now)
  go_enter Try.func10, Try.ntmps10
  go_wp2_with fail
  refine (S1.out _).mono ?_
  rintro e w' ⟨rfl, rfl⟩
  go_wp2_with fail
  refine (S2.out _).mono ?_
  rintro e w' ⟨rfl, rfl⟩
  go_wp2_with fail
  refine (S3.out _).mono ?_
  rintro e w' ⟨rfl, rfl⟩
  go_wp2_with fail
  refine (SM.out _).mono ?_
  rintro e w' ⟨rfl, rfl⟩
  go_upto_region 4 with fail
  clear S1 S2 S3 SM d0 d1 d2 d3
  generalize w.alloc _ = w1 at *
  generalize w.heap.size = b at *
  obtain ⟨P1, y, hy⟩ := T0.out.foc
  have HY := hide hy
  have HM := hide (rmake_any now 0 y (by simp) (by simp) (by simp) (by omega) (by omega))
  clear y hy T0
  go_wp2_with fail
  refine HM.out.mono ?_
  rintro e w2 ⟨rfl, d⟩
  have T2 := hide ((HY.out _ _ d).map (fun _ z => DY.bg0 z))
  clear d HY HM
  obtain ⟨P1, y, hy⟩ := T2.out.foc
  have HY := hide hy
  have HT := hide (rtold_x y)
  clear y hy T2
  go_wp2_with fail
  refine HT.out.mono ?_
  rintro e w3 ⟨v, rfl, d⟩
  have T3 := hide (HY.out _ _ d)
  clear d HY HT
  go_wp2_with fail
  go_ret3
  exact ⟨_, _, rfl, T3.out⟩
/-- What agrees at first, and by each step. -/
theorem XOk.new {re hg ha pt tt now : Int} {sf : Bool} (h : okPl re hg ha pt tt) (hm : mom now = true) : XOk ⟨now, hg, false⟩ (p1 re hg ha pt tt sf now) := by
  obtain ⟨n0, n1⟩ := mom_iff.1 hm
  obtain ⟨-, -, -, -, a6⟩ := h
  exact ⟨rfl, rfl, n0, n1, a6.1, a6.2⟩
theorem Nd.new (re hg ha pt tt : Int) (sf : Bool) (now : Int) : Nd (p1 re hg ha pt tt sf now) := by simp [Nd, p1, bgP, pz, ids]
theorem Same.fa (p : Rq) (now id why : Int) (al : Bool) : Same p (faP p now id why al) := by
  unfold faP; split
  · exact Same.fl _ _ _ _ _
  · exact Same.refl _
theorem Same.wn (p : Rq) (id : Int) : Same p (wnP p id) := by rw [wn_eq]; exact ⟨rfl, rfl, rfl, rfl, rfl⟩
theorem Same.he (p : Rq) (now id st : Int) (al : Bool) : Same p (heP p now id st al) := by
  unfold heP; split
  · unfold heP0
    split
    · exact Same.wn _ _
    split
    · exact ⟨rfl, rfl, rfl, rfl, rfl⟩
    split
    · exact ⟨rfl, rfl, rfl, rfl, rfl⟩
    · exact Same.wn _ _
  · exact Same.refl _
theorem XOk.tx {x : Ex} {p : Rq} (h : XOk x p) (now : Int) (al : Bool) : XOk (txX x p now al) (tmP p now al) := by
  by_cases hc : mom now = true ∧ p.R ≠ []
  · by_cases he : p.en ≤ now
    · have e1 : txX x p now al = x := by unfold txX; rw [if_neg (fun y => y.2.2.1 he)]
      have e2 : tmP p now al = lgP p (ids p.R) := by unfold tmP; rw [if_pos hc, if_pos he]
      rw [e1, e2]
      exact h.same (Same.lg _ _)
    · have e2 : tmP p now al = hgP (llF p now al (ltL p now)).1 now al := by unfold tmP; rw [if_pos hc, if_neg he]
      have hs : XOk x (llF p now al (ltL p now)).1 := h.same (Same.ll now al (ltL p now) (p, []))
      rw [e2]
      by_cases hg : hgB (llF p now al (ltL p now)).1 now = true
      · cases al with
        | true =>
          have e1 : txX x p now true = x := by unfold txX; rw [if_neg (fun y => by simp at y)]
          rw [e1]
          unfold hgP
          rw [if_pos hg, if_pos rfl]
          exact hs.same ⟨rfl, rfl, rfl, rfl, rfl⟩
        | false =>
          have e1 : txX x p now false = { x with tm := true } := by unfold txX; rw [if_pos ⟨hc.1, hc.2, he, hg, rfl⟩]
          rw [e1]
          unfold hgP
          rw [if_pos hg, if_neg (by decide)]
          exact ⟨hs.en, rfl, hs.s0, hs.s1, hs.t0, hs.t1⟩
      · have e1 : txX x p now al = x := by unfold txX; rw [if_neg (fun y => hg y.2.2.2.1)]
        rw [e1]
        unfold hgP
        rw [if_neg hg]
        exact hs
  · have e1 : txX x p now al = x := by unfold txX; rw [if_neg (fun y => hc ⟨y.1, y.2.1⟩)]
    have e2 : tmP p now al = p := by unfold tmP; rw [if_neg hc]
    rw [e1, e2]
    exact h
def dsX (x : Ex) (p : Rq) (kd now : Int) (al : Bool) : Ex := if kd = 0 then x else if kd = 1 then x else txX x p now al
theorem XOk.ds {x : Ex} {p : Rq} (h : XOk x p) (kd now id why : Int) (al : Bool) : XOk (dsX x p kd now al) (dsP p kd now id why al) := by
  unfold dsX dsP
  split
  · exact h.same (Same.fa _ _ _ _ _)
  split
  · exact h.same (Same.he _ _ _ _ _)
  · exact h.tx now al
end Go.Proofs.Ytjfpdenakgifgaa
