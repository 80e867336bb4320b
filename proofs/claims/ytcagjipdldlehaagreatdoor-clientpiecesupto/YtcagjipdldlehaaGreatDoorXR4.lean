/- XR4: XPl XRw XTl XPi XOi. -/
import Derived.Test.YtcagjipdldlehaaGreatDoorXR3
import Derived.Test.YtcagjipdldlehaaGreatDoorXG
import Derived.Test.YtcagjipdldlehaaGreatDoorFld
import Derived.Test.YtcagjipdldlehaaGreatDoorBlk
import Derived.Deep.QuietTactic
import Derived.BigQuiet
import Derived.Test.YtcagjipdldlehaaGreatDoorXQ
import Derived.Test.YtcagjipdldlehaaGreatDoorXC
/- Equal heads: what the statements hold against each other. -/
namespace Go.Proofs.YtcagjipdldlehaaGreatDoor
open Go.ChangeShapes Go.WideShapes Go.ChangeAt Go.RowKit
set_option linter.unusedVariables false

structure Hi where
  r : Bool
  me : ByteArray
  ta : ByteArray
  mi : Int
  st : Int
  re : ByteArray
  fs : List (ByteArray × ByteArray)
def hiV (h : Hi) (l : Value) : Value := .agg #[.bool h.r, .string h.me, .string h.ta, .int .i64 h.mi, .int .i64 h.st, .string h.re, l]
def hiEq (a b : Hi) : Bool := (a.r == b.r) && (decide (a.me = b.me) && (decide (a.ta = b.ta) && (decide (a.mi = b.mi) && (decide (a.st = b.st) && (decide (a.re = b.re) && decide (a.fs = b.fs))))))
theorem hiEq_iff {a b : Hi} : hiEq a b = true ↔ a = b := by
  unfold hiEq
  simp only [Bool.and_eq_true, beq_iff_eq, decide_eq_true_eq]
  constructor
  · rintro ⟨h1, h2, h3, h4, h5, h6, h7⟩
    cases a; cases b
    simp only at h1 h2 h3 h4 h5 h6 h7
    subst h1 h2 h3 h4 h5 h6 h7
    rfl
  · rintro rfl; exact ⟨rfl, rfl, rfl, rfl, rfl, rfl, rfl⟩
theorem take_snocP {α : Type} (A : List α) (k : Nat) (h : k < A.length) : A.take (k + 1) = A.take k ++ [A[k]] := List.take_succ_eq_append_getElem h
set_option maxHeartbeats 2000000 in
theorem plainF_any (w : World) (a b : Value) (A B : List (ByteArray × ByteArray)) (hA : Flds w a A) (hB : Flds w b B) (hl : A.length ≤ 1099511627776) (hl2 : B.length ≤ 1099511627776) :
    Calls Tryz.prog 35 #[a, b] w fun e w' => e = .returned (.bool (decide (A = B))) ∧ Below w.heap.size w w' := by
  obtain ⟨a0, c0, rfl, _, hca⟩ := hA
  obtain ⟨b0, d0, rfl, _, hcb⟩ := hB
  have HA := hide hca
  have HB := hide hcb
  clear hca hcb
  obtain ⟨D, hD⟩ : ∃ D, decide (A = B) = D := ⟨_, rfl⟩
  rw [hD]
  have HD := hide hD
  clear hD
  by_cases hn : A.length = B.length
  · have t : ((A.length : Int) != (B.length : Int)) = false := by rw [bne_eq_false_iff_eq]; omega
    have hl3 : B.length ≤ A.length := by omega
    have hl4 : A.length ≤ B.length := by omega
    clear hn
    go_enter Tryz.func35, Tryz.ntmps35
    go_wp2
    go_loopw [13] (fun i wr => ∃ k : Nat, k ≤ A.length ∧ i = .int .i64 k ∧ Hid (A.take k = B.take k) ∧ Hid (∃ n, wr = w.drewN n)) (fun i _ => A.length - (intOf i).toNat)
    case atStart => exact ⟨0, Nat.zero_le _, rfl, hide rfl, hide ⟨0, rfl⟩⟩
    case round =>
      obtain ⟨k, hk, rfl, H, HW⟩ := hrel
      by_cases hlt : k < A.length
      · have hlb : k < B.length := by omega
        obtain ⟨g1, o1, rfl, _, q1, q2⟩ := HA.out k hlt
        obtain ⟨g2, o2, rfl, _, q3, q4⟩ := HB.out k hlb
        obtain ⟨n, hwn⟩ := HW.out
        subst hwn
        have hsa := hide (take_snocP A k hlt)
        have hsb := hide (take_snocP B k hlb)
        obtain ⟨⟨fa, fb⟩, hf⟩ : ∃ f, A[k] = f := ⟨_, rfl⟩
        obtain ⟨⟨ga, gb⟩, hg⟩ : ∃ f, B[k] = f := ⟨_, rfl⟩
        have HNE : Hid ((fa, fb) ≠ (ga, gb) → A ≠ B) := hide (by rintro hne rfl; exact hne (hf.symm.trans hg))
        rw [hf] at q1 q2 hsa
        rw [hg] at q3 q4 hsb
        dsimp only at q1 q2 q3 q4
        clear hf hg
        have e1 := bytes_eq fa ga
        have e2 := bytes_eq fb gb
        by_cases h1 : fa = ga
        · subst h1
          clear e1
          by_cases h2 : fb = gb
          · subst h2
            clear e2
            have HT : Hid (A.take (k + 1) = B.take (k + 1)) := hide (by rw [hsa.out, hsb.out, H.out])
            go_wp2
            go_quiet (fail)
            go_wp2
            exact ⟨⟨k + 1, by omega, by go_num, HT, hide ⟨n + nq, rfl⟩⟩, by simp [intOf]; omega⟩
          · have t2 : (fb.toList == gb.toList) = false := by rw [e2]; exact decide_eq_false h2
            have HE : Hid (A ≠ B) := hide (HNE.out (fun e => h2 (Prod.mk.inj e).2))
            clear e2 h2
            go_wp2
            go_quiet (fail)
            go_wp2
            go_ret
            exact ⟨ret_bool (by rw [← HD.out]; exact (decide_eq_false HE.out).symm), by rw [World.drewN_drewN]; exact below_drewN w _⟩
        · have t1 : (fa.toList == ga.toList) = false := by rw [e1]; exact decide_eq_false h1
          have HE : Hid (A ≠ B) := hide (HNE.out (fun e => h1 (Prod.mk.inj e).1))
          clear e1 e2 h1
          go_wp2
          go_quiet (fail)
          go_wp2
          go_ret
          exact ⟨ret_bool (by rw [← HD.out]; exact (decide_eq_false HE.out).symm), by rw [World.drewN_drewN]; exact below_drewN w _⟩
      · have HE : Hid (A = B) := hide (by
          have := H.out
          rw [List.take_of_length_le (by omega), List.take_of_length_le (by omega)] at this
          exact this)
        obtain ⟨n, hwn⟩ := HW.out
        subst hwn
        go_wp2
        go_ret
        exact ⟨ret_bool (by rw [← HD.out]; exact (decide_eq_true HE.out).symm), below_drewN w _⟩
  · have t : ((A.length : Int) != (B.length : Int)) = true := by rw [bne_iff_ne]; omega
    have HE : Hid (A ≠ B) := hide (by rintro rfl; exact hn rfl)
    clear hn
    go_enter Tryz.func35, Tryz.ntmps35
    go_wp2
    go_ret
    exact ⟨ret_bool (by rw [← HD.out]; exact (decide_eq_false HE.out).symm), Below.refl _ _⟩
set_option maxHeartbeats 4000000 in
theorem plainH_any (w : World) (X Y : Hi) (la lb : Value) (hA : Flds w la X.fs) (hB : Flds w lb Y.fs) (hl : X.fs.length ≤ 1099511627776) (hl2 : Y.fs.length ≤ 1099511627776) :
    Calls Tryz.prog 21 #[hiV X la, hiV Y lb] w fun e w' => e = .returned (.bool (hiEq X Y)) ∧ Below w.heap.size w w' := by
  have FA := hide hA
  have FB := hide hB
  obtain ⟨D, hD⟩ : ∃ D, hiEq X Y = D := ⟨_, rfl⟩
  rw [hD]
  unfold hiEq at hD
  have HC := hide (fun W (h1 : Flds W la X.fs) (h2 : Flds W lb Y.fs) => plainF_any W la lb X.fs Y.fs h1 h2 hl hl2)
  unfold hiV
  obtain ⟨aa, ac, rfl, _, _⟩ := hA
  obtain ⟨ba, bc, rfl, _, _⟩ := hB
  clear hl hl2
  obtain ⟨ar, ame, ata, ami, ast, are, A⟩ := X
  obtain ⟨br, bme, bta, bmi, bst, bre, B⟩ := Y
  dsimp only at *
  generalize decide (A = B) = d7 at hD HC
  generalize A.length = an at FA HC
  generalize B.length = bn at FB HC
  have HD := hide hD
  clear hD
  have e1 := bytes_eq ame bme
  have e2 := bytes_eq ata bta
  have e5 := bytes_eq are bre
  by_cases h0 : ar = br
  · subst h0
    by_cases h1 : ame = bme
    · subst h1
      clear e1
      by_cases h2 : ata = bta
      · subst h2
        clear e2
        by_cases h3 : ami = bmi
        · subst h3
          by_cases h4 : ast = bst
          · subst h4
            by_cases h5 : are = bre
            · subst h5
              clear e5
              go_enter Tryz.func21, Tryz.ntmps21
              go_wp2_with fail
              have T0 := hide (Bl.two w #[.bool ar, .string ame, .string ata, .int .i64 ami, .int .i64 ast, .string are, .slice aa an ac] 45 #[.bool ar, .string ame, .string ata, .int .i64 ami, .int .i64 ast, .string are, .slice ba bn bc] 45)
              generalize ((w.alloc (.cells #[.bool ar, .string ame, .string ata, .int .i64 ami, .int .i64 ast, .string are, .slice aa an ac] 45)).alloc (.cells #[.bool ar, .string ame, .string ata, .int .i64 ami, .int .i64 ast, .string are, .slice ba bn bc] 45)) = x at T0 ⊢
              refine (HC.out _ (FA.out.below T0.out.b) (FB.out.below T0.out.b)).mono ?_
              rintro e w1 ⟨rfl, bb⟩
              have T1 := hide (T0.out.below bb)
              clear bb
              go_wp2
              go_ret
              exact ⟨ret_bool (by rw [← HD.out]; simp), T1.out.b⟩
            · have t5 : (are.toList == bre.toList) = false := by rw [e5]; exact decide_eq_false h5
              have HN := hide h5
              clear e5 h5
              go_enter Tryz.func21, Tryz.ntmps21
              go_wp2
              go_ret
              exact ⟨ret_bool (by rw [← HD.out]; simp [HN.out]), (Bl.two w _ _ _ _).b⟩
          · have HN := hide h4
            clear e5
            have t4 : (ast == bst) = false := beq_eq_false_iff_ne.2 h4
            go_enter Tryz.func21, Tryz.ntmps21
            go_wp2
            go_ret
            exact ⟨ret_bool (by rw [← HD.out]; simp [HN.out]), (Bl.two w _ _ _ _).b⟩
        · have HN := hide h3
          clear e5
          have t3 : (ami == bmi) = false := beq_eq_false_iff_ne.2 h3
          go_enter Tryz.func21, Tryz.ntmps21
          go_wp2
          go_ret
          exact ⟨ret_bool (by rw [← HD.out]; simp [HN.out]), (Bl.two w _ _ _ _).b⟩
      · have t2 : (ata.toList == bta.toList) = false := by rw [e2]; exact decide_eq_false h2
        have HN := hide h2
        clear e2 e5 h2
        go_enter Tryz.func21, Tryz.ntmps21
        go_wp2
        go_ret
        exact ⟨ret_bool (by rw [← HD.out]; simp [HN.out]), (Bl.two w _ _ _ _).b⟩
    · have t1 : (ame.toList == bme.toList) = false := by rw [e1]; exact decide_eq_false h1
      have HN := hide h1
      clear e1 e2 e5 h1
      go_enter Tryz.func21, Tryz.ntmps21
      go_wp2
      go_ret
      exact ⟨ret_bool (by rw [← HD.out]; simp [HN.out]), (Bl.two w _ _ _ _).b⟩
  · have t0 : (ar == br) = false := beq_eq_false_iff_ne.2 h0
    have HN := hide h0
    clear e1 e2 e5
    cases ar <;> cases br <;> first | exact absurd rfl h0 | skip
    all_goals (clear h0 t0)
    all_goals (go_enter Tryz.func21, Tryz.ntmps21)
    all_goals (go_wp2)
    all_goals (go_ret)
    all_goals (exact ⟨ret_bool (by rw [← HD.out]; rfl), (Bl.two w _ _ _ _).b⟩)
end Go.Proofs.YtcagjipdldlehaaGreatDoor
/- A client's connection: the request that is whole, with its body; none where it doesn't wait. -/
namespace Go.Proofs.YtcagjipdldlehaaGreatDoor
open Go.ChangeShapes Go.WideShapes Go.ChangeAt Go.RowKit
set_option linter.unusedVariables false

set_option maxHeartbeats 1000000 in
set_option maxRecDepth 100000 in
theorem request_no {w : World} {c : Nat} {hd bd : Int} {st : Value} {bg : Bool} {pv rv bv : Value} {wr : Int} (h : ClB w c hd bd st bg false pv rv bv wr) : Calls Tryz.prog 20 #[.pointer (some ⟨c, 0, none⟩)] w fun e w' => e = .returned (.tuple #[hd0, .slice none 0 0, .bool false]) ∧ Below w.heap.size w w' := by
  have hcl : c < w.heap.size := lt_heap h
  have B0 := hide ((Below.refl w.heap.size w).alloc (Nat.le_refl _) (.cells #[.bool false, .string ⟨#[]⟩, .string ⟨#[]⟩, .int .i64 0, .int .i64 0, .string ⟨#[]⟩, .slice none 0 0] 45))
  obtain ⟨-, -, -, -, k4, -, -, -, -⟩ := cl_cells h
  unfold hd0
  clear h
  go_enter Tryz.func20, Tryz.ntmps20
  go_wp2
  refine bodyPost_ret (v := .tuple #[.agg #[.bool false, .string ⟨#[]⟩, .string ⟨#[]⟩, .int .i64 0, .int .i64 0, .string ⟨#[]⟩, .slice none 0 0], .slice none 0 0, .bool false]) (by simp [results, Tryz.results20, go_sem]) rfl ⟨rfl, B0.out⟩
set_option maxHeartbeats 1000000 in
set_option maxRecDepth 100000 in
theorem request_all {w : World} {c b0 : Nat} {O : List UInt8} {bv : Value} {hd bd : Int} {st : Value} {bg : Bool} {rv : Value} {wr : Int} {base g : Nat} {lv fv : Value} {p : Pz} (h : ClB w c hd bd st bg true (.pointer (some ⟨g, 0, none⟩)) rv bv wr) (hrow : Row w b0 5 bv (bc O)) (hO : O.length ≤ 70368744177664) (hp : Par w base g lv fv p) (hw : p.whole = true) (hz : Sz p) (hf : Fit p) :
    Calls Tryz.prog 20 #[.pointer (some ⟨c, 0, none⟩)] w fun e w' => ∃ l u, e = .returned (.tuple #[hdV p l, u, .bool true]) ∧ Flds w' l p.fs ∧ (∃ b1, Row w' b1 5 u (bc O)) ∧ Below w.heap.size w w' := by
  have HH := hide h
  obtain ⟨ba, bn, bk, rfl⟩ : ∃ a n k, bv = .slice a n k := by obtain ⟨a, k, e, _⟩ := hrow.shape; exact ⟨a, _, k, e⟩
  have HD := hide (fun W (b : Below w.heap.size w W) => head_whole (hp.below b) hw hz hf)
  unfold hdV at HD ⊢
  have hcl : c < w.heap.size := lt_heap h
  clear h hp hw hz hf
  have B0 := hide ((Below.refl w.heap.size w).alloc (Nat.le_refl _) (.cells #[.bool false, .string ⟨#[]⟩, .string ⟨#[]⟩, .int .i64 0, .int .i64 0, .string ⟨#[]⟩, .slice none 0 0] 45))
  have F0 := hide (hp_new w (.cells #[.bool false, .string ⟨#[]⟩, .string ⟨#[]⟩, .int .i64 0, .int .i64 0, .string ⟨#[]⟩, .slice none 0 0] 45))
  have H0 := hide ((B0.out.block c hcl).trans HH.out)
  obtain ⟨-, -, -, -, k4, -, -, -, -⟩ := cl_cells HH.out
  go_enter Tryz.func20, Tryz.ntmps20
  go_upto_region 1 with fail
  clear k4
  generalize w.alloc _ = w1 at *
  obtain ⟨-, -, -, -, k4, k5, -, k7, -⟩ := cl_cells H0.out
  have BX : Hid (Below w.heap.size w w1.drew) := hide B0.out.drew
  go_upto_region 3 with fail
  have HA : Hid (∀ (ty : TypeId) (W : World), Below w1.drew.heap.size w1.drew W → ∃ a n k W', (Builtin.append_ #[31, 31] ty #[.slice none 0 0, .slice ba bn bk]).run Tryz.prog W = .ok (.slice a n k) W' ∧ Row W' W.heap.size 5 (.slice a n k) (bc O) ∧ Below W.heap.size W W') := hide (fun ty W b => by
    have hr : Row W b0 5 (.slice ba bn bk) (bc O) := hrow.below (BX.out.trans (b.mono BX.out.size))
    obtain ⟨v', W', q1, q2, q3, -⟩ := append_bs_k W W.heap.size W.heap.size ty (.slice none 0 0) (.slice ba bn bk) [] O (Row.nil _ _ _) (Bs.of_row hr) (Shp.of_row hr) (by simp; omega) (Nat.le_refl _)
    obtain ⟨a', k', e', -⟩ := q2.shape
    subst e'
    exact ⟨_, _, _, W', q1, q2, q3⟩)
  have hcl1 : c < w1.heap.size := lt_heap H0.out
  have hbl1 : w.heap.size < w1.heap.size := lt_heap F0.out
  have HD2 : Hid (Calls Tryz.prog 34 #[.pointer (some ⟨g, 0, none⟩)] w1.drew fun e w' => ∃ r, e = .returned r ∧ ∃ l, r = .agg #[.bool p.req, .string p.me, .string p.ta, .int .i64 (p.minor : Int), .int .i64 (p.status : Int), .string p.re, l] ∧ FRow w' w1.drew.heap.size l p.fs ∧ Below w1.drew.heap.size w1.drew w') := hide ((HD.out w1.drew B0.out.drew).mono (fun e w' ⟨l, a1, a2, a3⟩ => ⟨_, a1, l, rfl, a2, a3⟩))
  have HAF : Hid (∀ (y : World) (l : Value), FRow y w1.drew.heap.size l p.fs → Below w1.drew.heap.size w1.drew y → ClB y c hd bd st bg true (.pointer (some ⟨g, 0, none⟩)) rv (.slice ba bn bk) wr ∧ y.heap[w.heap.size]? = some (.cells (hdA false ⟨#[]⟩ ⟨#[]⟩ 0 0 ⟨#[]⟩ (.slice none 0 0)) 45 (0, 0)) ∧ Below w.heap.size w y ∧ (∃ a n k, l = .slice a n k) ∧ Flds (put7 y w.heap.size p.req p.me p.ta (p.minor : Int) (p.status : Int) p.re l) l p.fs) := hide (fun y l y1 y2 => by
    have hF : y.heap[w.heap.size]? = some (.cells (hdA false ⟨#[]⟩ ⟨#[]⟩ 0 0 ⟨#[]⟩ (.slice none 0 0)) 45 (0, 0)) := (y2.block w.heap.size hbl1).trans F0.out
    refine ⟨(y2.block c hcl1).trans H0.out, hF, B0.out.drew.trans (y2.mono B0.out.size), ?_, ?_⟩
    · obtain ⟨a, k, e, -⟩ := y1.shape
      exact ⟨a, _, k, e⟩
    · have ck := (put7_ok hF p.req p.me p.ta (p.minor : Int) (p.status : Int) p.re l).2
      refine Flds.of_row (base := w1.drew.heap.size) (y1.frame fun k hk => ck.block k (y1.lt hk).2 (fun e => ?_))
      have := (y1.lt hk).1
      rw [e] at this
      exact absurd this (Nat.not_le_of_lt hbl1))
  clear HD
  go_region_law (first
    | (refine step_callg rfl 34 _ _ rfl (enters_of Tryz.func34 (by kernel_rfl) rfl) #[.pointer (some ⟨g, 0, none⟩)] (by simp [Act.eval]) _ HD2.out ?_; rintro v y ⟨l, rfl, y1, y2⟩; have HFR := hide y1; have HBD := hide y2; obtain ⟨aa1, aa2, aa3, ⟨la, ln, lk, rfl⟩, aa5⟩ := HAF.out y l y1 y2; have HY := hide aa1; have FY := hide aa2; have HBY := hide aa3; have HFL := hide aa5; have q7 := (cl_cells aa1).2.2.2.2.2.2.2.1; obtain ⟨r0, r1, r2, r3, r4, r5, r6⟩ := hd_cells aa2; have rz := (fun i => (by rw [frozen_at aa2]; simp : y.frozen? ⟨w.heap.size, i, none⟩ = false)); have rz0 := rz 0; have rz1 := rz 1; have rz2 := rz 2; have rz3 := rz 3; have rz4 := rz 4; have rz5 := rz 5; have rz6 := rz 6; clear y1 y2 rz aa1 aa2 aa3 aa5)
    | (obtain ⟨xa, xn, xk, z, hz, hz1, hz2⟩ := HA.out _ y HBD.out; refine step_append_is rfl _ _ 31 rfl (.slice none 0 0) (.slice ba bn bk) (.slice xa xn xk) (by simp [Act.eval]) (by simp [Act.eval]) hz ?_; obtain ⟨aa1, aa2, aa3, -, aa5⟩ := HAF.out z _ (HFR.out.below hz2) (HBD.out.trans (hz2.mono HBD.out.size)); have hwy : w.heap.size < y.heap.size := Nat.lt_of_lt_of_le hbl1 HBD.out.size; have FZ := hide aa2; have HBZ := hide aa3; have HFZ := hide aa5; clear r0 r1 r2 r3 r4 r5 r6 rz0 rz1 rz2 rz3 rz4 rz5 rz6; obtain ⟨r0, r1, r2, r3, r4, r5, r6⟩ := hd_cells aa2; have rz := (fun i => (by rw [frozen_at aa2]; simp : z.frozen? ⟨w.heap.size, i, none⟩ = false)); have rz0 := rz 0; have rz1 := rz 1; have rz2 := rz 2; have rz3 := rz 3; have rz4 := rz 4; have rz5 := rz 5; have rz6 := rz 6; have HXR := hide hz1; clear hz hz1 hz2 rz aa1 aa2 aa3 aa5))
  all_goals
    have P7 := hide (put7_ok FZ.out p.req p.me p.ta (p.minor : Int) (p.status : Int) p.re (.slice la ln lk))
    have BP := hide (HBZ.out.trans (P7.out.2.low (Nat.le_refl _) HBZ.out.size))
    have HXZ : Hid (∃ b1, Row (put7 z w.heap.size p.req p.me p.ta (p.minor : Int) (p.status : Int) p.re (.slice la ln lk)) b1 5 (.slice xa xn xk) (bc O)) := hide ⟨_, HXR.out.frame fun k hk => P7.out.2.block k (HXR.out.lt hk).2 (fun e => by have := (HXR.out.lt hk).1; omega)⟩
    unfold put7 at P7 BP HFZ HXZ
    clear r0 r1 r2 r3 r4 r5 r6 rz0 rz1 rz2 rz3 rz4 rz5 rz6 q7 k4 k5 k7 HY FY HBY HD2 HAF HA HFL HXR FZ HBZ HFR HBD
    generalize ((((((z.setCell ⟨w.heap.size, 0, none⟩ (.bool p.req)).setCell ⟨w.heap.size, 1, none⟩ (.string p.me)).setCell ⟨w.heap.size, 2, none⟩ (.string p.ta)).setCell ⟨w.heap.size, 3, none⟩ (.int .i64 (p.minor : Int))).setCell ⟨w.heap.size, 4, none⟩ (.int .i64 (p.status : Int))).setCell ⟨w.heap.size, 5, none⟩ (.string p.re)).setCell ⟨w.heap.size, 6, none⟩ (.slice la ln lk) = y9 at *
    obtain ⟨s0, s1, s2, s3, s4, s5, s6⟩ := hd_cells P7.out.1
    go_wp2
    exact bodyPost_ret (v := .tuple #[.agg #[.bool p.req, .string p.me, .string p.ta, .int .i64 (p.minor : Int), .int .i64 (p.status : Int), .string p.re, .slice la ln lk], .slice xa xn xk, .bool true]) (by simp [results, Tryz.results20, go_sem, s0, s1, s2, s3, s4, s5, s6]) rfl ⟨_, _, rfl, HFZ.out, HXZ.out, BP.out⟩
end Go.Proofs.YtcagjipdldlehaaGreatDoor
/- What a client's connection tells, in each of its states; New; Read of no bytes too. -/
namespace Go.Proofs.YtcagjipdldlehaaGreatDoor
open Go.ChangeShapes Go.WideShapes Go.ChangeAt Go.RowKit
set_option linter.unusedVariables false

def CS.wr : CS → Int
  | .shut s => s
  | _ => 0
def CS.bgb : CS → Bool
  | .head _ bg => bg
  | .meas _ _ _ => true
  | .part _ _ _ => true
  | _ => false
def CS.shb (s : CS) : Bool := !s.goes && !s.told
/-- The head and the body of the request that is whole. -/
def CS.hi : CS → Hi
  | .waits p _ => ⟨p.req, p.me, p.ta, (p.minor : Int), (p.status : Int), p.re, p.fs⟩
  | _ => ⟨false, ⟨#[]⟩, ⟨#[]⟩, 0, 0, ⟨#[]⟩, []⟩
def CS.ob : CS → List UInt8
  | .waits _ O => O
  | _ => []
section
variable {w : World} {c : Nat} {hd : Int} {bd : Nat} {A : Nat → Prop} {s : CS}
theorem At.wrong (h : At w c hd bd A s) : Calls Tryz.prog 22 #[.pointer (some ⟨c, 0, none⟩)] w fun e w' => e = .returned (.int .i64 s.wr) ∧ w = w' := by
  cases s with
  | head p bg => obtain ⟨base, g, lv, fv, hc, -⟩ := h; exact wrong_any hc
  | meas p L O => obtain ⟨g, bp, b2, gr, g', bv, hc, -⟩ := h; exact wrong_any hc
  | part p d O => obtain ⟨g, bp, b2, gr, g', gd, lv, tv, bv, hc, -⟩ := h; exact wrong_any hc
  | waits p O => obtain ⟨g, bp, bv, hc, -⟩ := h; exact wrong_any hc
  | shut s => exact wrong_any h
theorem At.bgn (h : At w c hd bd A s) : Calls Tryz.prog 24 #[.pointer (some ⟨c, 0, none⟩)] w fun e w' => e = .returned (.bool s.bgb) ∧ w = w' := by
  cases s with
  | head p bg => obtain ⟨base, g, lv, fv, hc, -⟩ := h; exact begun_cl hc
  | meas p L O => obtain ⟨g, bp, b2, gr, g', bv, hc, -⟩ := h; exact begun_cl hc
  | part p d O => obtain ⟨g, bp, b2, gr, g', gd, lv, tv, bv, hc, -⟩ := h; exact begun_cl hc
  | waits p O => obtain ⟨g, bp, bv, hc, -⟩ := h; exact begun_cl hc
  | shut s => exact begun_cl h
theorem At.sht (h : At w c hd bd A s) : Calls Tryz.prog 23 #[.pointer (some ⟨c, 0, none⟩)] w fun e w' => e = .returned (.bool s.shb) ∧ w = w' := by
  cases s with
  | head p bg => obtain ⟨base, g, lv, fv, hc, -⟩ := h; exact shut_open hc
  | meas p L O => obtain ⟨g, bp, b2, gr, g', bv, hc, -⟩ := h; exact shut_open hc
  | part p d O => obtain ⟨g, bp, b2, gr, g', gd, lv, tv, bv, hc, -⟩ := h; exact shut_open hc
  | waits p O => obtain ⟨g, bp, bv, hc, -⟩ := h; exact shut_nil' hc
  | shut s => exact shut_nil' h
theorem flds_nil (w : World) : Flds w (.slice none 0 0) [] := ⟨none, 0, rfl, ⟨Nat.le_refl _, fun _ => rfl⟩, fun j hj => by simp at hj⟩
/-- The request that is whole. -/
theorem At.request (h : At w c hd bd A s) (hO : s.ob.length ≤ 70368744177664) : Calls Tryz.prog 20 #[.pointer (some ⟨c, 0, none⟩)] w fun e w' => ∃ l u, e = .returned (.tuple #[hiV s.hi l, u, .bool s.told]) ∧ Flds w' l s.hi.fs ∧ (∃ b1, Row w' b1 5 u (bc s.ob)) ∧ Below w.heap.size w w' := by
  have none : ∀ {hd bd : Int} {st : Value} {bg : Bool} {pv rv bv : Value} {wr : Int}, ClB w c hd bd st bg false pv rv bv wr → Calls Tryz.prog 20 #[.pointer (some ⟨c, 0, none⟩)] w fun e w' => ∃ l u, e = .returned (.tuple #[hiV ⟨false, ⟨#[]⟩, ⟨#[]⟩, 0, 0, ⟨#[]⟩, []⟩ l, u, .bool false]) ∧ Flds w' l [] ∧ (∃ b1, Row w' b1 5 u (bc [])) ∧ Below w.heap.size w w' := fun h => (request_no h).mono (fun e w' ⟨e1, e2⟩ => ⟨_, _, e1, flds_nil w', ⟨0, Row.nil _ _ _⟩, e2⟩)
  cases s with
  | head p bg => obtain ⟨base, g, lv, fv, hc, -⟩ := h; exact none hc
  | meas p L O => obtain ⟨g, bp, b2, gr, g', bv, hc, -⟩ := h; exact none hc
  | part p d O => obtain ⟨g, bp, b2, gr, g', gd, lv, tv, bv, hc, -⟩ := h; exact none hc
  | waits p O =>
    obtain ⟨g, bp, bv, hc, ⟨base, lv, fv, h1, h2, h3, h4, h5, h6⟩, hrow, -⟩ := h
    exact request_all hc hrow hO h1 h4 h3 h2
  | shut s => exact none h
end
/-- The blocks that are new. -/
def Nw (w w' : World) (k : Nat) : Prop := w.heap.size ≤ k ∧ k < w'.heap.size
theorem new_at (w : World) (hd bd : Nat) (h1 : 16 ≤ hd) (h2 : hd ≤ 65536) (h4 : bd ≤ 1048576) (h3 : 3 ≤ w.heap.size) :
    Calls Tryz.prog 8 #[.int .i64 (hd : Int), .int .i64 (bd : Int)] w fun e w' => e = .returned (.tuple #[.pointer (some ⟨w.heap.size, 0, none⟩), .int .i64 0]) ∧ At w' w.heap.size hd bd (Nw w w') (.head (pNew true hd) false) ∧ Ow w' w.heap.size (Nw w w') ∧ Below w.heap.size w w' := by
  refine (cnew_any w hd (bd : Int) h1 h2 (by omega) (by omega)).mono ?_
  rintro e w' ⟨rfl, g, hg, hp, hc, hb⟩
  have hgl := hp.lt
  refine ⟨rfl, ⟨g, g, _, _, hc, hp, fit_new true hd h2, sz_new true hd, ⟨rfl, rfl⟩, hg, fun k n => ?_⟩, ⟨fun k hk => ⟨by have := hk.1; omega, hk.2⟩, Nat.le_refl _, by have := lt_heap hc; omega⟩, hb⟩
  have := hp.own n
  exact ⟨by omega, this.2⟩
set_option maxHeartbeats 2000000 in
set_option maxRecDepth 100000 in
/-- No bytes. -/
theorem cread_zat {w : World} {c : Nat} {hd : Int} {bd : Nat} {A : Nat → Prop} {s : CS} (h : At w c hd bd A s) (ho : Ow w c A) (a : Option Addr) (vc : Nat) :
    Calls Tryz.prog 11 #[.pointer (some ⟨c, 0, none⟩), .slice a 0 vc] w fun e w' => e = .returned (.tuple #[.int .i64 0, .bool s.told]) ∧ At w' c hd bd A s ∧ AK w w' A := by
  have E2 := ne_nil
  have HA := hide ho.me
  have HS := hide h
  clear ho
  obtain ⟨gb, Hg⟩ : ∃ gb, Hid (s.goes = gb) := ⟨_, hide rfl⟩
  cases gb with
  | true =>
    obtain ⟨f, st, bg, pv, rv, bv, hf, rfl, hc⟩ := h.cl Hg.out
    have E1 := ne_fun f c
    obtain ⟨-, -, k2, k3, k4, -, -, -, -⟩ := cl_cells hc
    rw [← told_goes Hg.out] at k4
    generalize htd : s.told = td at k4 ⊢
    clear hc h htd
    go_enter Tryz.func11, Tryz.ntmps11
    go_wp2_with fail
    refine wp_loop_rounds 1 ?_
    rw [rounds_succ]
    go_wp2_with fail
    go_quiet (fail)
    have HZ := hide (⟨rfl, rfl, rfl, Nat.le_refl _, fun _ _ _ => rfl⟩ : AK w (w.drewN nq) A)
    have HRZ : Hid (At (w.drewN nq) c hd bd A s) := hide (HS.out.keep (w' := w.drewN nq) HA.out (fun _ _ => rfl) (Nat.le_refl _))
    go_wp2_with fail
    go_ret2
    exact ⟨rfl, HRZ.out, HZ.out⟩
  | false =>
    obtain ⟨k2, k4⟩ := h.nil Hg.out
    generalize htd : s.told = td at k4 ⊢
    clear h htd
    go_enter Tryz.func11, Tryz.ntmps11
    go_wp2_with fail
    refine wp_loop_rounds 1 ?_
    rw [rounds_succ]
    go_wp2_with fail
    go_quiet (fail)
    have HZ := hide (⟨rfl, rfl, rfl, Nat.le_refl _, fun _ _ _ => rfl⟩ : AK w (w.drewN nq) A)
    have HRZ : Hid (At (w.drewN nq) c hd bd A s) := hide (HS.out.keep (w' := w.drewN nq) HA.out (fun _ _ => rfl) (Nat.le_refl _))
    go_wp2_with fail
    go_ret2
    exact ⟨rfl, HRZ.out, HZ.out⟩
/-- Read of any bytes. -/
theorem cread_all {w : World} {c : Nat} {hd : Int} {bd : Nat} {A : Nat → Prop} {s : CS} (h : At w c hd bd A s) (ho : Ow w c A) (hbd : bd ≤ 1048576) (hm : MX w) (he : ET w) (v : Value) (l : List UInt8) (hv : Bf w (fun k => ¬ A k) v l) (hs : Shp v) (hl : l.length ≤ 70368744177664) :
    Calls Tryz.prog 11 #[.pointer (some ⟨c, 0, none⟩), v] w fun e w' => e = .returned (.tuple #[.int .i64 ((csRun bd s l).1 : Int), .bool (csRun bd s l).2.told]) ∧ At w' c hd bd (grow A w w') (csRun bd s l).2 ∧ AK w w' A := by
  rcases hs with rfl | ⟨⟨bk, o, sp⟩, n, vc, rfl⟩
  · obtain ⟨a, m, e, -⟩ := hv
    simp only [Value.slice.injEq] at e
    obtain rfl := List.length_eq_zero_iff.1 e.2.1.symm
    rw [run_nil]
    exact (cread_zat h ho none 0).mono fun e w' ⟨e1, e2, e3⟩ => ⟨e1, e2.mono fun k q => .inl q, e3⟩
  · obtain ⟨a, m, e, h1, h2⟩ := id hv
    simp only [Value.slice.injEq] at e
    obtain ⟨rfl, rfl, rfl⟩ := e
    by_cases h0 : l = []
    · subst h0
      rw [run_nil]
      exact (cread_zat h ho _ vc).mono fun e w' ⟨e1, e2, e3⟩ => ⟨e1, e2.mono fun k q => .inl q, e3⟩
    · obtain ⟨g, o', q1, -⟩ := h2 0 (List.length_pos_iff.2 h0)
      simp only [Option.some.injEq, Addr.mk.injEq] at q1
      obtain ⟨rfl, rfl, rfl⟩ := q1
      exact cread_at h ho hbd hm he _ _ vc l hv h1 hl
end Go.Proofs.YtcagjipdldlehaaGreatDoor
/- ClientPieces, walked. -/
namespace Go.Proofs.YtcagjipdldlehaaGreatDoor
open Go.ChangeShapes Go.WideShapes Go.ChangeAt Go.RowKit
set_option linter.unusedVariables false

/-- A slice of ints that came in. -/
def Ir (W : World) (v : Value) (L : List Int) : Prop := ∃ (a : Option Addr) (c : Nat), v = .slice a L.length c ∧ ∀ j (h : j < L.length), ∃ g o, a = some ⟨g, o, none⟩ ∧ g < W.heap.size ∧ W.cell? ⟨g, o + j, none⟩ = some (.int .i64 L[j])
theorem bf_low {w w' : World} {c : Nat} {A : Nat → Prop} {v : Value} {l : List UInt8} (h : Bs w c v l) (b : Below c w w') (hA : ∀ k, A k → c ≤ k) : Bf w' (fun k => ¬ A k) v l := by
  obtain ⟨a, n, e, h1, h2⟩ := h
  refine ⟨a, n, e, h1, fun j hj => ?_⟩
  obtain ⟨g, o, q1, q2, q3, q4⟩ := h2 j hj
  have := b.size
  exact ⟨g, o, q1, fun q => by have := hA g q; omega, by omega, (b.cell (p := ⟨g, o + j, none⟩) q2).trans q4⟩
theorem Bf.sub {w : World} {A : Nat → Prop} {bk o vc : Nat} {l : List UInt8} (h : Bf w A (.slice (some ⟨bk, o, none⟩) l.length vc) l) (k J : Nat) (hk : k + J ≤ l.length) : Bf w A (.slice (some ⟨bk, o + k, none⟩) J (vc - k)) ((l.drop k).take J) := by
  obtain ⟨a, n, e, h1, h2⟩ := h
  simp only [Value.slice.injEq, true_and] at e
  obtain ⟨rfl, rfl⟩ := e
  have hlen : ((l.drop k).take J).length = J := by rw [List.length_take, List.length_drop]; omega
  refine ⟨_, _, by rw [hlen], by rw [hlen]; omega, fun j hj => ?_⟩
  rw [hlen] at hj
  obtain ⟨b, o', q1, q2, q3, q4⟩ := h2 (k + j) (by omega)
  simp only [Option.some.injEq, Addr.mk.injEq, and_true] at q1
  obtain ⟨rfl, rfl⟩ := q1
  refine ⟨bk, o + k, rfl, q2, q3, ?_⟩
  rw [Nat.add_assoc, q4]
  simp
def CS.bl : CS → Nat
  | .meas _ _ O => O.length
  | .part _ _ O => O.length
  | .waits _ O => O.length
  | _ => 0
theorem next_out (d : Dz) (c : UInt8) : (dNext d c).2.1.length ≤ 1 := by
  unfold dNext
  repeat' split
  all_goals simp
theorem begin_bl (bd : Nat) (p : Pz) : (csBegin bd p).bl = 0 := by
  unfold csBegin
  repeat' split
  all_goals rfl
theorem one_bl (bd : Nat) (s : CS) (x : UInt8) : (csOne bd s x).bl ≤ s.bl + 1 := by
  cases s with
  | head p bg =>
    rw [csOne]
    split
    · exact Nat.zero_le _
    · split
      · rw [begin_bl]; exact Nat.zero_le _
      · exact Nat.zero_le _
  | meas p L O =>
    rw [csOne]
    split <;> (show (O ++ [x]).length ≤ O.length + 1; simp)
  | part p d O =>
    have := next_out d x
    rw [csOne]
    split
    · exact Nat.zero_le _
    · split <;> (show (O ++ (dNext d x).2.1).length ≤ O.length + 1; rw [List.length_append]; omega)
  | waits p O => show O.length ≤ O.length + 1; omega
  | shut s => exact Nat.zero_le _
theorem run_bl (bd : Nat) : ∀ (l : List UInt8) (s : CS), (csRun bd s l).2.bl ≤ s.bl + l.length
  | [], s => by rw [run_nil]; simp
  | x :: r, s => by
    cases h : s.goes with
    | false => rw [run_stop bd h]; show s.bl ≤ _; omega
    | true =>
      rw [run_cons bd h]
      have h1 := run_bl bd r (csOne bd s x)
      have h2 := one_bl bd s x
      simp only [List.length_cons]
      omega
theorem ob_bl (s : CS) : s.ob.length ≤ s.bl := by cases s <;> first | exact Nat.le_refl _ | exact Nat.zero_le _
theorem At.hi_len {w : World} {c : Nat} {hd : Int} {bd : Nat} {A : Nat → Prop} {s : CS} (h : At w c hd bd A s) : s.hi.fs.length ≤ 100 := by
  cases s with
  | waits p O =>
    obtain ⟨g, bp, bv, hc, ⟨base, lv, fv, h1, h2, -⟩, -⟩ := h
    exact h2.fs
  | _ => exact Nat.zero_le _
theorem At.on {w W : World} {c : Nat} {hd : Int} {bd : Nat} {A : Nat → Prop} {s : CS} (h : At w c hd bd A s) (hc : A c) (hA : ∀ k, A k → k < w.heap.size) (b : Below w.heap.size w W) : At W c hd bd A s := h.keep hc (fun k q => b.block k (hA k q)) b.size
def s0 : CS := .head (pNew true 200) false
set_option maxHeartbeats 8000000 in
set_option maxRecDepth 100000 in
theorem pieces_walk (w : World) (v vi : Value) (l : List UInt8) (L : List Int) (hB : Bs w w.heap.size v l) (hS : Shp v) (hI : Ir w vi L) (hl : l.length ≤ 70368744177664) (hLl : L.length ≤ 70368744177664) (hm : MX w) (he : ET w) (h3 : 3 ≤ w.heap.size) :
    Calls Tryz.prog 7 #[v, vi] w fun e w' => e = .returned (.bool true) ∧ Below w.heap.size w w' := by
  obtain ⟨va, vc, rfl, hvc⟩ : ∃ a c, v = .slice a l.length c ∧ l.length ≤ c := by obtain ⟨a, c, e, h1, -⟩ := hB; exact ⟨a, c, e, h1⟩
  obtain ⟨ia, ic, rfl, hcells⟩ := hI
  have HI := hide hcells
  have HV := hide hB
  have HSH := hide hS
  have HM := hide hm
  have HE := hide he
  have HN := hide (fun W h => new_at W 200 20 (by omega) (by omega) (by omega) h)
  rw [show ((200 : Nat) : Int) = 200 from rfl, show ((20 : Nat) : Int) = 20 from rfl] at HN
  have HP := hide (fun W (b : Below w.heap.size w W) => speaks_any W (hm.below b) (he.below b))
  obtain ⟨n, s, HRUN⟩ : ∃ n s, Hid (csRun 20 s0 l = (n, s)) := ⟨_, _, hide rfl⟩
  have hn : n ≤ l.length := by have := run_le 20 l s0; rw [HRUN.out] at this; exact this
  clear hB hS hm he hcells
  go_enter Tryz.func7, Tryz.ntmps7
  go_upto_region 2 with (go_at_call 8; refine (HN.out _ h3).mono ?_; rintro e w1 ⟨rfl, q1, q2, q3⟩; have C1 := hide q1; have O1 := hide q2; have B1 := hide q3; clear q1 q2 q3)
  have h31 : 3 ≤ w1.heap.size := Nat.le_trans h3 B1.out.size
  go_upto_region 3 with (go_at_call 8; refine (HN.out _ h31).mono ?_; rintro e w2 ⟨rfl, q1, q2, q3⟩; have D2 := hide q1; have O2 := hide q2; have Y2 := hide q3; clear q1 q2 q3)
  have hs2 := Y2.out.size
  have hs1 := B1.out.size
  have C2 : Hid (At w2 w.heap.size (200 : Int) 20 (Nw w w1) s0) := hide (C1.out.keep O1.out.me (fun k hk => Y2.out.block k hk.2) hs2)
  have OC : Hid (Ow w2 w.heap.size (Nw w w1)) := hide ⟨fun k hk => ⟨(O1.out.lo k hk).1, Nat.lt_of_lt_of_le hk.2 hs2⟩, O1.out.me⟩
  have B2 := hide (B1.out.trans (Y2.out.mono hs1))
  have HRC := hide (cread_all C2.out OC.out (by omega) (HM.out.below B2.out) (HE.out.below B2.out) _ l (bf_low HV.out B2.out (fun k hk => hk.1)) HSH.out hl)
  rw [HRUN.out] at HRC
  dsimp only at HRC
  clear C1 C2 O1 HN
  go_upto_region 6 with (go_at_call 11; refine HRC.out.mono ?_; rintro e w3 ⟨rfl, q1, q2⟩; have C3 := hide q1; have K3 := hide q2; clear q1 q2 HRC)
  have hs3 := K3.out.size
  have D3 : Hid (At w3 w1.heap.size (200 : Int) 20 (Nw w1 w2) s0) := hide (D2.out.keep O2.out.me (fun k hk => K3.out.block k hk.2 (fun q => by have := q.2; have := hk.1; omega)) hs3)
  have B3 := hide (B2.out.trans (K3.out.low (B := w.heap.size) (fun k q => q.1) (by omega)))
  have OD : Hid (Ow w3 w1.heap.size (Nw w1 w2)) := hide ⟨fun k hk => ⟨(O2.out.lo k hk).1, Nat.lt_of_lt_of_le hk.2 hs3⟩, O2.out.me⟩
  have D0 : Hid (At w3 w1.heap.size (200 : Int) 20 (grow (Nw w1 w2) w3 w3) (csRun 20 s0 (l.take 0)).2) := hide (D3.out.mono fun k q => .inl q)
  clear D2 D3 O2 Y2
  go_wp2_with fail
  go_loopw [11, 12, 13] (fun at_ is_ i wr => ∃ (k j : Nat) (t : Bool), k ≤ n ∧ j ≤ k ∧ at_ = .int .i64 k ∧ is_ = .bool t ∧ i = .int .i64 j ∧ Hid (t = (csRun 20 s0 (l.take k)).2.told) ∧ Hid (At wr w1.heap.size (200 : Int) 20 (grow (Nw w1 w2) w3 wr) (csRun 20 s0 (l.take k)).2) ∧ Hid (AK w3 wr (Nw w1 w2))) (fun at_ _ _ _ => n - (intOf at_).toNat)
  case atStart => exact ⟨0, 0, false, Nat.zero_le _, Nat.le_refl _, rfl, rfl, rfl, hide rfl, D0, hide (AK.refl _ _)⟩
  case round =>
    clear D0
    obtain ⟨k, j, t, hk, hjk, rfl, rfl, rfl, HT, HS, HB⟩ := hrel
    by_cases hlt : k < n
    · have hlti : (k : Int) < (n : Int) := by omega
      have hl0 : 0 < l.length := by omega
      obtain ⟨bk, o, hva, hbk⟩ : ∃ bk o, va = some ⟨bk, o, none⟩ ∧ bk < w.heap.size := by
        obtain ⟨a, c, e, h1, h2⟩ := HV.out
        simp only [Value.slice.injEq, true_and] at e
        obtain ⟨rfl, rfl⟩ := e
        obtain ⟨g', o', p1, p2, -⟩ := h2 0 hl0
        exact ⟨g', o', p1, p2⟩
      subst hva
      have OW := hide (OD.out.grow HB.out)
      have BR := hide (B3.out.trans (HB.out.low (B := w.heap.size) (fun k q => by have := q.1; omega) (by omega)))
      have HD : Hid (∀ J, 1 ≤ J → k + J ≤ n → Calls Tryz.prog 11 #[.pointer (some ⟨w1.heap.size, 0, none⟩), .slice (some ⟨bk, o + k, none⟩) J (vc - k)] wr fun e w' => e = .returned (.tuple #[.int .i64 (J : Int), .bool (csRun 20 s0 (l.take (k + J))).2.told]) ∧ Hid (At w' w1.heap.size (200 : Int) 20 (grow (Nw w1 w2) w3 w') (csRun 20 s0 (l.take (k + J))).2) ∧ Hid (AK w3 w' (Nw w1 w2))) := hide (fun J hJ1 hJ2 => by
        have hb : Bf wr (fun i => ¬ grow (Nw w1 w2) w3 wr i) (.slice (some ⟨bk, o + k, none⟩) J (vc - k)) ((l.drop k).take J) := (bf_low HV.out BR.out (fun i q => by rcases q with q | q; exact Nat.le_trans hs1 q.1; omega)).sub k J (by omega)
        have hrs := run_step 20 (s := s0) (l := l) (k := k) (j := J) (by rw [HRUN.out]; exact hJ2)
        have hq := cread_all HS.out OW.out (by omega) (HM.out.below BR.out) (HE.out.below BR.out) _ _ hb (.inr ⟨_, _, _, rfl⟩) (by rw [List.length_take, List.length_drop]; omega)
        rw [hrs] at hq
        dsimp only at hq
        refine hq.mono ?_
        rintro e w' ⟨rfl, q1, q2⟩
        refine ⟨rfl, hide (q1.mono fun i q => ?_), hide (HB.out.on q2)⟩
        have z1 := HB.out.size
        have z2 := q2.size
        rcases q with (q | q) | q
        · exact .inl q
        · exact .inr ⟨q.1, by omega⟩
        · exact .inr ⟨by omega, q.2⟩)
      clear HS HB OW HT
      have hkc : k ≤ vc := by omega
      have hc0 : ¬ (k : Int) < 0 := by omega
      have hkci : (k : Int) ≤ (vc : Int) := by omega
      by_cases hj : j < L.length
      · have hji : (j : Int) < (L.length : Int) := by omega
        obtain ⟨ig, io, rfl, hig, r0⟩ := HI.out j hj
        have r1 : wr.cell? ⟨ig, io + j, none⟩ = some (.int .i64 L[j]) := (BR.out.cell (p := ⟨ig, io + j, none⟩) hig).trans r0
        generalize L[j] = x at r1
        clear r0
        by_cases hx : 0 < x
        · by_cases hxn : x < (n : Int) - (k : Int)
          · obtain ⟨J, rfl⟩ : ∃ J : Nat, x = (J : Int) := ⟨x.toNat, by omega⟩
            have hwn : IntKind.i64.wrap ((n : Int) - (k : Int)) = (n : Int) - (k : Int) := IntWalk.i64_in _ ⟨by omega, by omega⟩
            have hwj : IntKind.i64.wrap ((k : Int) + (J : Int)) = ((k + J : Nat) : Int) := (IntWalk.i64_in _ ⟨by omega, by omega⟩).trans (by omega)
            have hle1 : (k : Int) ≤ ((k + J : Nat) : Int) := by omega
            have hle2 : ((k + J : Nat) : Int) ≤ (vc : Int) := by omega
            have hle3 : k ≤ k + J := by omega
            have hle4 : k + J ≤ vc := by omega
            have HRJ := hide (HD.out J (by omega) (by omega))
            clear HD
            go_upto_region 15 with (go_at_call 11; refine HRJ.out.mono ?_; rintro e w4 ⟨rfl, q1, q2⟩; clear HRJ)
            go_wp2_with fail
            go_roundw
            case rel => exact ⟨k + J, j + 1, _, by omega, by omega, by go_num, rfl, by go_num, hide (by first | rfl | (rw [show k + (n - k) = n by omega])), q1, q2⟩
            case measure => simp [intOf]; omega
          · have hwn : IntKind.i64.wrap ((n : Int) - (k : Int)) = (n : Int) - (k : Int) := IntWalk.i64_in _ ⟨by omega, by omega⟩
            have hnv : (n : Int) ≤ (vc : Int) := by omega
            have hkn1 : (k : Int) ≤ (n : Int) := by omega
            have hkn2 : k ≤ n := by omega
            have hnv2 : n ≤ vc := by omega
            have HRJ := hide (HD.out (n - k) (by omega) (by omega))
            clear HD
            go_upto_region 15 with (go_at_call 11; refine HRJ.out.mono ?_; rintro e w4 ⟨rfl, q1, q2⟩; clear HRJ)
            go_wp2_with fail
            go_roundw
            case rel => exact ⟨k + (n - k), j + 1, _, by omega, by omega, by go_num, rfl, by go_num, hide (by first | rfl | (rw [show k + (n - k) = n by omega])), q1, q2⟩
            case measure => simp [intOf]; omega
        · have hnv : (n : Int) ≤ (vc : Int) := by omega
          have hkn1 : (k : Int) ≤ (n : Int) := by omega
          have hkn2 : k ≤ n := by omega
          have hnv2 : n ≤ vc := by omega
          have HRJ := hide (HD.out (n - k) (by omega) (by omega))
          clear HD
          go_upto_region 15 with (go_at_call 11; refine HRJ.out.mono ?_; rintro e w4 ⟨rfl, q1, q2⟩; clear HRJ)
          go_wp2_with fail
          go_roundw
          case rel => exact ⟨k + (n - k), j + 1, _, by omega, by omega, by go_num, rfl, by go_num, hide (by first | rfl | (rw [show k + (n - k) = n by omega])), q1, q2⟩
          case measure => simp [intOf]; omega
      · have hji : ¬ (j : Int) < (L.length : Int) := by omega
        have hnv : (n : Int) ≤ (vc : Int) := by omega
        have hkn1 : (k : Int) ≤ (n : Int) := by omega
        have hkn2 : k ≤ n := by omega
        have hnv2 : n ≤ vc := by omega
        have HRJ := hide (HD.out (n - k) (by omega) (by omega))
        clear HD
        go_upto_region 15 with (go_at_call 11; refine HRJ.out.mono ?_; rintro e w4 ⟨rfl, q1, q2⟩; clear HRJ)
        go_wp2_with fail
        go_roundw
        case rel => exact ⟨k + (n - k), j + 1, _, by omega, by omega, by go_num, rfl, by go_num, hide (by first | rfl | (rw [show k + (n - k) = n by omega])), q1, q2⟩
        case measure => simp [intOf]; omega
    · have hlti : ¬ (k : Int) < (n : Int) := by omega
      obtain rfl : k = n := by omega
      have ht := HT.out
      have hra := run_all 20 s0 l
      rw [HRUN.out] at hra
      dsimp only at hra
      have HS2 : Hid (At wr w1.heap.size (200 : Int) 20 (grow (Nw w1 w2) w3 wr) s) := hide (by have := HS.out; rw [hra] at this; exact this)
      rw [hra] at ht
      dsimp only at ht
      subst ht
      have hs4 := HB.out.size
      have C4 : Hid (At wr w.heap.size (200 : Int) 20 (grow (Nw w w1) w2 w3) s) := hide (C3.out.keep (.inl OC.out.me) (fun i q => HB.out.block i (by rcases q with q | q; have := q.2; omega; exact q.2) (fun z => by rcases q with q | q; have := q.2; have := z.1; omega; have := q.1; have := z.2; omega)) hs4)
      have BR := hide (B3.out.trans (HB.out.low (B := w.heap.size) (fun i q => by have := q.1; omega) (by omega)))
      have HOB : Hid (s.ob.length ≤ 70368744177664) := hide (by
        have q1 := run_bl 20 l s0
        rw [HRUN.out] at q1
        have q2 := ob_bl s
        have q3 : s0.bl = 0 := rfl
        dsimp only at q1
        omega)
      have HFL := hide C4.out.hi_len
      obtain ⟨⟨hr, hme, hta, hmi, hst, hre, hfs⟩, HHI⟩ : ∃ H, Hid (s.hi = H) := ⟨_, hide rfl⟩
      obtain ⟨ob, HOBE⟩ : ∃ O, Hid (s.ob = O) := ⟨_, hide rfl⟩
      obtain ⟨tt, HTT⟩ : ∃ tt, Hid (s.told = tt) := ⟨_, hide rfl⟩
      rw [HHI.out] at HFL
      have HRQ : Hid (∀ W c A, At W c (200 : Int) 20 A s → Calls Tryz.prog 20 #[.pointer (some ⟨c, 0, none⟩)] W fun e w' => ∃ la ln lc ua un uc, e = .returned (.tuple #[.agg #[.bool hr, .string hme, .string hta, .int .i64 hmi, .int .i64 hst, .string hre, .slice la ln lc], .slice ua un uc, .bool tt]) ∧ Flds w' (.slice la ln lc) hfs ∧ (∃ b1, Row w' b1 5 (.slice ua un uc) (bc ob)) ∧ Below W.heap.size W w') := hide (fun W c A h => by
        have q := h.request HOB.out
        rw [HHI.out, HOBE.out, HTT.out] at q
        refine q.mono ?_
        rintro e w' ⟨l', u', rfl, a1, ⟨b1, a2⟩, a3⟩
        obtain ⟨la, lc, rfl, -⟩ := id a1
        obtain ⟨ua, uc, rfl, -⟩ := a2.shape
        exact ⟨la, _, lc, ua, _, uc, rfl, a1, ⟨b1, a2⟩, a3⟩)
      have HCA : Hid (∀ i, grow (Nw w w1) w2 w3 i → i < wr.heap.size) := hide (fun i q => by rcases q with q | q; have := q.2; omega; have := q.2; omega)
      have HDA : Hid (∀ i, grow (Nw w1 w2) w3 wr i → i < wr.heap.size) := hide (fun i q => by rcases q with q | q; have := q.2; omega; exact q.2)
      have HCM : Hid (grow (Nw w w1) w2 w3 w.heap.size) := hide (.inl OC.out.me)
      have HDM : Hid (grow (Nw w1 w2) w3 wr w1.heap.size) := hide (.inl OD.out.me)
      rw [HTT.out]
      clear HS HT HB C3 OD B3 K3 OC hra HHI HOBE HOB HRUN
      go_upto_region 20 with (go_at_call 20; refine (HRQ.out _ _ _ C4.out).mono ?_; rintro e w4 ⟨la, ln, lc, ua, un, uc, rfl, a1, ⟨b1, a2⟩, a3⟩; have LF4 := hide a1; have RX4 := hide a2; have Y4 := hide a3; clear a1 a2 a3)
      have hs4r := Y4.out.size
      have b5 := hide ((Below.refl w4.heap.size w4).alloc (Nat.le_refl _) (.cells #[.bool hr, .string hme, .string hta, .int .i64 hmi, .int .i64 hst, .string hre, .slice la ln lc] 45))
      have G5 := hide (hp_new w4 (.cells #[.bool hr, .string hme, .string hta, .int .i64 hmi, .int .i64 hst, .string hre, .slice la ln lc] 45))
      generalize w4.alloc _ = w5 at *
      have Y5 := hide (Y4.out.trans (b5.out.mono hs4r))
      have LF5 := hide (LF4.out.below b5.out)
      have RX5 := hide (RX4.out.below b5.out)
      have D5 := hide (HS2.out.on HDM.out HDA.out Y5.out)
      clear LF4 RX4 Y4 b5
      go_upto_region 21 with (go_at_call 20; refine (HRQ.out _ _ _ D5.out).mono ?_; rintro e w6 ⟨ma, mn, mc, xa, xn, xc, rfl, a1, ⟨b2, a2⟩, a3⟩; have MF6 := hide a1; have RY6 := hide a2; have Y6 := hide a3; clear a1 a2 a3)
      have hs6r := Y6.out.size
      have b7 := hide ((Below.refl w6.heap.size w6).alloc (Nat.le_refl _) (.cells #[.bool hr, .string hme, .string hta, .int .i64 hmi, .int .i64 hst, .string hre, .slice ma mn mc] 45))
      have G7 := hide (hp_new w6 (.cells #[.bool hr, .string hme, .string hta, .int .i64 hmi, .int .i64 hst, .string hre, .slice ma mn mc] 45))
      generalize w6.alloc _ = w7 at *
      have Z7 := hide (Y6.out.trans (b7.out.mono hs6r))
      have Y7 := hide (Y5.out.trans (Z7.out.mono Y5.out.size))
      have G57 := hide ((Z7.out.block _ (lt_heap G5.out)).trans G5.out)
      have LF7 := hide (LF5.out.below Z7.out)
      have RX7 := hide (RX5.out.below Z7.out)
      have MF7 := hide (MF6.out.below b7.out)
      have RY7 := hide (RY6.out.below b7.out)
      have B7 := hide (BR.out.trans (Y7.out.mono BR.out.size))
      have HC7 := hide (C4.out.on HCM.out HCA.out Y7.out)
      have HD7 := hide (HS2.out.on HDM.out HDA.out Y7.out)
      obtain ⟨wv, HWV⟩ : ∃ x, Hid (s.wr = x) := ⟨_, hide rfl⟩
      obtain ⟨bv, HBV⟩ : ∃ x, Hid (s.bgb = x) := ⟨_, hide rfl⟩
      obtain ⟨sv, HSV⟩ : ∃ x, Hid (s.shb = x) := ⟨_, hide rfl⟩
      have HW1 := hide HC7.out.wrong
      have HW2 := hide HD7.out.wrong
      have HS1 := hide HC7.out.sht
      have HS2' := hide HD7.out.sht
      have HB1 := hide HC7.out.bgn
      have HB2 := hide HD7.out.bgn
      have HG : Hid (Calls Tryz.prog 21 #[.agg #[.bool hr, .string hme, .string hta, .int .i64 hmi, .int .i64 hst, .string hre, .slice la ln lc], .agg #[.bool hr, .string hme, .string hta, .int .i64 hmi, .int .i64 hst, .string hre, .slice ma mn mc]] w7 fun e w' => e = .returned (.bool true) ∧ Below w7.heap.size w7 w') := hide (by
        have q := plainH_any w7 ⟨hr, hme, hta, hmi, hst, hre, hfs⟩ ⟨hr, hme, hta, hmi, hst, hre, hfs⟩ (.slice la ln lc) (.slice ma mn mc) LF7.out MF7.out (Nat.le_trans HFL.out (by decide)) (Nat.le_trans HFL.out (by decide))
        rw [hiEq_iff.2 rfl] at q
        exact q)
      clear HC7 HD7
      rw [HWV.out] at HW1 HW2
      rw [HBV.out] at HB1 HB2
      rw [HSV.out] at HS1 HS2'
      have g0 : w7.cell? ⟨w4.heap.size, 0, none⟩ = some (.bool hr) := cell_at G57.out 0
      have g1 : w7.cell? ⟨w4.heap.size, 1, none⟩ = some (.string hme) := cell_at G57.out 1
      have g2 : w7.cell? ⟨w4.heap.size, 2, none⟩ = some (.string hta) := cell_at G57.out 2
      have g3 : w7.cell? ⟨w4.heap.size, 3, none⟩ = some (.int .i64 hmi) := cell_at G57.out 3
      have g4 : w7.cell? ⟨w4.heap.size, 4, none⟩ = some (.int .i64 hst) := cell_at G57.out 4
      have g5 : w7.cell? ⟨w4.heap.size, 5, none⟩ = some (.string hre) := cell_at G57.out 5
      have g6 : w7.cell? ⟨w4.heap.size, 6, none⟩ = some (.slice la ln lc) := cell_at G57.out 6
      have m0 : w7.cell? ⟨w6.heap.size, 0, none⟩ = some (.bool hr) := cell_at G7.out 0
      have m1 : w7.cell? ⟨w6.heap.size, 1, none⟩ = some (.string hme) := cell_at G7.out 1
      have m2 : w7.cell? ⟨w6.heap.size, 2, none⟩ = some (.string hta) := cell_at G7.out 2
      have m3 : w7.cell? ⟨w6.heap.size, 3, none⟩ = some (.int .i64 hmi) := cell_at G7.out 3
      have m4 : w7.cell? ⟨w6.heap.size, 4, none⟩ = some (.int .i64 hst) := cell_at G7.out 4
      have m5 : w7.cell? ⟨w6.heap.size, 5, none⟩ = some (.string hre) := cell_at G7.out 5
      have m6 : w7.cell? ⟨w6.heap.size, 6, none⟩ = some (.slice ma mn mc) := cell_at G7.out 6
      clear G5 G57 G7 LF5 RX5 MF6 RY6 Y5 Y6 Y7 Z7 D5 b7 C4 HS2 HRQ HCM HDM HCA HDA HFL LF7 MF7
      go_wp2_with fail
      refine HW1.out.mono ?_
      rintro e w8 ⟨rfl, rfl⟩
      go_wp2_with fail
      refine HW2.out.mono ?_
      rintro e w8 ⟨rfl, rfl⟩
      go_wp2_with fail
      refine HS1.out.mono ?_
      rintro e w8 ⟨rfl, rfl⟩
      go_wp2_with fail
      refine HS2'.out.mono ?_
      rintro e w8 ⟨rfl, rfl⟩
      go_wp2_with fail
      refine HB1.out.mono ?_
      rintro e w8 ⟨rfl, rfl⟩
      go_wp2_with fail
      refine HB2.out.mono ?_
      rintro e w8 ⟨rfl, rfl⟩
      go_wp2_with fail
      refine HG.out.mono ?_
      rintro e w8 ⟨rfl, b8⟩
      have HX1 : (convert 31 9 (.slice ua un uc)).run Tryz.prog w8 = .ok (.string ⟨ob.toArray⟩) w8 := (RX7.out.below b8).text
      have HX2 : (convert 31 9 (.slice xa xn xc)).run Tryz.prog w8 = .ok (.string ⟨ob.toArray⟩) w8 := (RY7.out.below b8).text
      have B8 := hide (B7.out.trans (b8.mono B7.out.size))
      clear b8 HW1 HW2 HS1 HS2' HB1 HB2 HG
      go_wp2_with fail
      refine (HP.out _ B8.out).mono ?_
      rintro e w9 ⟨rfl, b9⟩
      have BZ := hide (B8.out.trans (b9.mono B8.out.size))
      clear b9
      go_wp2_with fail
      go_ret
      exact ⟨rfl, BZ.out⟩
end Go.Proofs.YtcagjipdldlehaaGreatDoor
/- A slice of ints that came in, opened. -/
namespace Go.Proofs.YtcagjipdldlehaaGreatDoor
open Go.ChangeShapes Go.WideShapes Go.ChangeAt Go.RowKit Go.Joins Go.Deep
theorem cells3 : Tryz.prog.cellsOf 3 = 1 := by kernel_rfl
/-- Ints that came in. -/
theorem ir_in {H : Type} {enc : TypeId × Value → H} {W : World} {fuel : Nat} {v : Value} {x : DataW H × List MemPlace} (h : DataW.trod enc Tryz.prog W 0 (fun _ => true) true fuel 42 [v] = some x) :
    ∃ L : List Int, Ir W v L ∧ L.length ≤ Rows.uptoBulk x.1 := by
  rcases open_ints Tryz.underlying42 Tryz.underlying3 cells3 h with ⟨hcs, hx⟩ | ⟨ad, l, c, zs, hcs, _, hl, hm, hz, hx, hcell, hwz⟩
  · simp only [List.cons.injEq, and_true] at hcs
    subst hcs
    exact ⟨[], ⟨none, 0, rfl, fun j hj => by simp at hj⟩, Nat.zero_le _⟩
  · simp only [List.cons.injEq, and_true] at hcs
    subst hcs
    have hzl : zs.length = c := by simpa using hz
    have el : (zs.take l).length = l := by simp; omega
    obtain ⟨b, off, spot⟩ := ad
    refine ⟨zs.take l, ⟨some ⟨b, off, spot⟩, c, by rw [el], fun j hj => ?_⟩, ?_⟩
    · rw [el] at hj
      have hspot : spot = none := by simpa [Addr.add] using World.cell?_spot (hcell 0 (by omega))
      subst hspot
      have hc := hcell j (by omega)
      rw [addr_plus] at hc
      have hlt := World.block_lt_of_cell? W _ hc
      refine ⟨b, off, rfl, hlt, ?_⟩
      rw [hc]
      have hjz : j < zs.length := by omega
      simp only [List.getD, List.getElem?_eq_getElem hjz, Option.getD_some, List.getElem_take]
    · rw [el, hx]
      have := bulk_many (H := H) (lits .i64 (zs.take l))
      simp only [lits, List.length_map, List.length_take] at this
      simp only [Rows.uptoBulk, lits]
      omega
end Go.Proofs.YtcagjipdldlehaaGreatDoor
