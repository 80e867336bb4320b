/- One step of both sets of hosts. -/
import Derived.Test.YtobkgkcemdocnaaORef4
namespace Go.Proofs.Ytobkgkcemdocnaa
open Go.ChangeShapes Go.WideShapes Go.ChangeAt Go.RowKit

theorem rresult_u (w : World) (P : Nat → Prop) (fl bs lo sh la now host K : Int) (ok : Bool) (L : List HR) (b g : Nat) (h : Rs fl bs lo sh la L b g w P) (k : HOk fl bs lo sh la K L) (hK : K < 8796093022207) :
    Calls Try.prog 22 #[.pointer (some ⟨b, 0, none⟩), .int .i64 now, .int .i64 host, .bool ok] w fun e w' => e = .returned (.tuple #[.bool (rsB fl sh la L now host ok), .int .i64 (askE L.length now host)]) ∧ Does (Rs fl bs lo sh (rsA L la now host) (rsL fl bs lo sh la L now host ok) b g) P w w' := by
  by_cases hb : askE L.length now host = 0
  · obtain ⟨hm, i, hi, rfl⟩ := ask_ok hb
    have := rresult_any w P fl bs lo sh la now K ok i _ L b g h k hK hm (row_at hi)
    unfold rsB rsA rsL
    rw [hb, if_pos rfl, if_pos rfl, decide_eq_true rfl, Bool.true_and, Int.toNat_natCast]
    exact this
  · refine (rresult_bad w fl bs lo sh la now host ok L b g h.1 hb).mono ?_
    rintro e w' ⟨rfl, rfl⟩
    unfold rsB rsA rsL
    rw [if_neg hb, if_neg hb, decide_eq_false hb, Bool.false_and]
    exact ⟨rfl, Does.refl h⟩
theorem rmark_u (w : World) (P : Nat → Prop) (fl bs lo sh la now host : Int) (x : Bool) (L : List HR) (b g : Nat) (h : Rs fl bs lo sh la L b g w P) (hl : L.length ≤ 16) :
    Calls Try.prog 23 #[.pointer (some ⟨b, 0, none⟩), .int .i64 now, .int .i64 host, .bool x] w fun e w' => e = .returned (.tuple #[.bool (mkB la L now host x), .int .i64 (askE L.length now host)]) ∧ Does (Rs fl bs lo sh (rsA L la now host) (mkL la L now host x) b g) P w w' := by
  by_cases hb : askE L.length now host = 0
  · obtain ⟨hm, i, hi, rfl⟩ := ask_ok hb
    have := rmark_any w P fl bs lo sh la now x i _ L b g h hl hm (row_at hi)
    unfold mkB rsA mkL
    rw [hb, if_pos rfl, if_pos rfl, decide_eq_true rfl, Bool.true_and, Int.toNat_natCast]
    exact this
  · refine (rmark_bad w fl bs lo sh la now host x L b g h.1 hb).mono ?_
    rintro e w' ⟨rfl, rfl⟩
    unfold mkB rsA mkL
    rw [if_neg hb, if_neg hb, decide_eq_false hb, Bool.false_and]
    exact ⟨rfl, Does.refl h⟩
theorem rbring_u (w : World) (P : Nat → Prop) (fl bs lo sh la now : Int) (L : List HR) (b g : Nat) (h : Rs fl bs lo sh la L b g w P) (hl : L.length ≤ 16) :
    Calls Try.prog 24 #[.pointer (some ⟨b, 0, none⟩), .int .i64 now] w fun e w' => ∃ v, e = .returned (.tuple #[v, .int .i64 (bE now)]) ∧ Does (Two (Row v (brN la L now)) (Rs fl bs lo sh (brA la now) (brL la L now) b g)) P w w' := by
  unfold brN brA brL bE
  cases hm : mom now with
  | true => exact rbring_any w P fl bs lo sh la now L b g h hl hm
  | false =>
    refine (rbring_bad w b now hm).mono ?_
    rintro e w' ⟨rfl, rfl⟩
    exact ⟨_, rfl, (Does.refl h).nilrow⟩
theorem rusable_u (w : World) (P : Nat → Prop) (fl bs lo sh la now : Int) (L : List HR) (b g : Nat) (h : Rs fl bs lo sh la L b g w P) (hl : L.length ≤ 16) :
    Calls Try.prog 25 #[.pointer (some ⟨b, 0, none⟩), .int .i64 now] w fun e w' => ∃ v, e = .returned (.tuple #[v, .int .i64 (bE now)]) ∧ Does (Two (Row v (usN la L now)) (Rs fl bs lo sh (brA la now) (brL la L now) b g)) P w w' := by
  unfold usN brA brL bE
  cases hm : mom now with
  | true => exact rusable_any w P fl bs lo sh la now L b g h hl hm
  | false =>
    refine (rusable_bad w b now hm).mono ?_
    rintro e w' ⟨rfl, rfl⟩
    exact ⟨_, rfl, (Does.refl h).nilrow⟩
theorem brN_len (la : Int) (L : List HR) (now : Int) (hl : L.length ≤ 16) : (brN la L now).length < 1000000 := by
  unfold brN
  split
  · have := nums_len (rst (mx la now)) L L.length; omega
  · simp
theorem usN_len (la : Int) (L : List HR) (now : Int) (hl : L.length ≤ 16) : (usN la L now).length < 1000000 := by
  unfold usN
  split
  · have := nums_len usa (brS (mx la now) L) L.length; omega
  · simp
abbrev DuT (fl bs lo sh la : Int) (L : List HR) (b g c gc : Nat) (X : Thing) : Thing := Two (Rs fl bs lo sh la L c gc) (Two (Hs fl bs lo sh la L b g) X)

set_option maxHeartbeats 8000000 in
set_option maxRecDepth 100000 in
theorem asks_any {X : Thing} [Ob X] (W w : World) (fl bs lo sh la K kd nw ho : Int) (L : List HR) (b g c gc : Nat) (T : Top (DuT fl bs lo sh la L b g c gc X) W w) (k : HOk fl bs lo sh la K L) (hK : K < 8796093022207) :
    Calls Try.prog 11 #[.pointer (some ⟨b, 0, none⟩), .pointer (some ⟨c, 0, none⟩), .agg #[.int .i64 kd, .int .i64 nw, .int .i64 ho]] w fun e w' => e = .returned (.bool true) ∧ ∃ la' L', HOk fl bs lo sh la' (K + 1) L' ∧ Top (DuT fl bs lo sh la' L' b g c gc X) W w' := by
  have T0 : Hid (Top (Two (Blk w.heap.size (stO kd nw ho)) (DuT fl bs lo sh la L b g c gc X)) W (w.alloc (stO kd nw ho))) := hide (T.put (Blk.new w _))
  have HK := hide k
  clear T k
  by_cases k0 : kd = 0 ∨ kd = 1 ∨ kd = 2
  · have hkk : (kd = 0) ∨ (¬ kd = 0 ∧ kd = 1) ∨ (¬ kd = 0 ∧ ¬ kd = 1 ∧ kd = 2) := by omega
    clear k0
    obtain ⟨ok, hok⟩ : ∃ ok, (kd == 0) = ok := ⟨_, rfl⟩
    rcases hkk with z | ⟨z, y⟩ | ⟨z, y, x⟩
    · have q0 : (kd == 0) = true := by rw [beq_iff_eq]; omega
      obtain rfl : ok = true := hok.symm.trans q0
      clear z hok
      go_enter Try.func11, Try.ntmps11
      go_upto_region 1 with fail
      generalize w.alloc (stO kd nw ho) = w1 at *
      generalize w.heap.size = ew at *
      obtain ⟨_, xb, _⟩ := T0.out.at0
      have e0 : w1.cell? ⟨ew, 0, none⟩ = some (.int .i64 kd) := cell_of xb.1 0
      have e1 : w1.cell? ⟨ew, 1, none⟩ = some (.int .i64 nw) := cell_of xb.1 1
      have e2 : w1.cell? ⟨ew, 2, none⟩ = some (.int .i64 ho) := cell_of xb.1 2
      clear xb
      obtain ⟨P, h1, h2⟩ := T0.out.at2
      have H2 := hide h2
      have HC := hide (result_u w1 P fl bs lo sh la nw ho K true L b g h1 HK.out hK)
      have HC2 := hide (fun V Q h => rresult_u V Q fl bs lo sh la nw ho K true L c gc h HK.out hK)
      have HK2 := hide (HK.out.rs hK nw ho true)
      generalize rsB fl sh la L nw ho true = xb at *
      generalize rsL fl bs lo sh la L nw ho true = L2 at *
      generalize askE L.length nw ho = ee at *
      generalize rsA L la nw ho = la2 at *
      clear h1 h2
      go_wp2_with fail
      refine HC.out.mono ?_
      rintro e w2 ⟨rfl, d⟩
      have T1 := hide (H2.out _ _ d)
      clear d H2 HC e0 e1 e2 T0
      obtain ⟨_, xb, _⟩ := T1.out.at0
      have e0 : w2.cell? ⟨ew, 0, none⟩ = some (.int .i64 kd) := cell_of xb.1 0
      have e1 : w2.cell? ⟨ew, 1, none⟩ = some (.int .i64 nw) := cell_of xb.1 1
      have e2 : w2.cell? ⟨ew, 2, none⟩ = some (.int .i64 ho) := cell_of xb.1 2
      obtain ⟨P, h1, h2⟩ := T1.out.at1
      have H2 := hide h2
      have HC := hide (HC2.out w2 P h1)
      clear xb h1 h2 HC2
      go_wp2_with fail
      refine HC.out.mono ?_
      rintro e w3 ⟨rfl, d⟩
      have T2 := hide (H2.out _ _ d).drop
      clear d H2 HC e0 e1 e2 T1
      go_wp2_with fail
      go_ret
      exact ⟨rfl, _, _, HK2.out, T2.out⟩
    · have q0 : (kd == 0) = false := by rw [beq_eq_false_iff_ne]; omega
      have q1 : (kd == 1) = true := by rw [beq_iff_eq]; omega
      obtain rfl : ok = false := hok.symm.trans q0
      clear z y hok
      go_enter Try.func11, Try.ntmps11
      go_upto_region 1 with fail
      generalize w.alloc (stO kd nw ho) = w1 at *
      generalize w.heap.size = ew at *
      obtain ⟨_, xb, _⟩ := T0.out.at0
      have e0 : w1.cell? ⟨ew, 0, none⟩ = some (.int .i64 kd) := cell_of xb.1 0
      have e1 : w1.cell? ⟨ew, 1, none⟩ = some (.int .i64 nw) := cell_of xb.1 1
      have e2 : w1.cell? ⟨ew, 2, none⟩ = some (.int .i64 ho) := cell_of xb.1 2
      clear xb
      obtain ⟨P, h1, h2⟩ := T0.out.at2
      have H2 := hide h2
      have HC := hide (result_u w1 P fl bs lo sh la nw ho K false L b g h1 HK.out hK)
      have HC2 := hide (fun V Q h => rresult_u V Q fl bs lo sh la nw ho K false L c gc h HK.out hK)
      have HK2 := hide (HK.out.rs hK nw ho false)
      generalize rsB fl sh la L nw ho false = xb at *
      generalize rsL fl bs lo sh la L nw ho false = L2 at *
      generalize askE L.length nw ho = ee at *
      generalize rsA L la nw ho = la2 at *
      clear h1 h2
      go_wp2_with fail
      refine HC.out.mono ?_
      rintro e w2 ⟨rfl, d⟩
      have T1 := hide (H2.out _ _ d)
      clear d H2 HC e0 e1 e2 T0
      obtain ⟨_, xb, _⟩ := T1.out.at0
      have e0 : w2.cell? ⟨ew, 0, none⟩ = some (.int .i64 kd) := cell_of xb.1 0
      have e1 : w2.cell? ⟨ew, 1, none⟩ = some (.int .i64 nw) := cell_of xb.1 1
      have e2 : w2.cell? ⟨ew, 2, none⟩ = some (.int .i64 ho) := cell_of xb.1 2
      obtain ⟨P, h1, h2⟩ := T1.out.at1
      have H2 := hide h2
      have HC := hide (HC2.out w2 P h1)
      clear xb h1 h2 HC2
      go_wp2_with fail
      refine HC.out.mono ?_
      rintro e w3 ⟨rfl, d⟩
      have T2 := hide (H2.out _ _ d).drop
      clear d H2 HC e0 e1 e2 T1
      go_wp2_with fail
      go_ret
      exact ⟨rfl, _, _, HK2.out, T2.out⟩
    · have q0 : (kd == 0) = false := by rw [beq_eq_false_iff_ne]; omega
      have q1 : (kd == 1) = false := by rw [beq_eq_false_iff_ne]; omega
      have q2 : (kd == 2) = true := by rw [beq_iff_eq]; omega
      obtain rfl : ok = false := hok.symm.trans q0
      clear z y x hok
      go_enter Try.func11, Try.ntmps11
      go_upto_region 1 with fail
      generalize w.alloc (stO kd nw ho) = w1 at *
      generalize w.heap.size = ew at *
      obtain ⟨_, xb, _⟩ := T0.out.at0
      have e0 : w1.cell? ⟨ew, 0, none⟩ = some (.int .i64 kd) := cell_of xb.1 0
      have e1 : w1.cell? ⟨ew, 1, none⟩ = some (.int .i64 nw) := cell_of xb.1 1
      have e2 : w1.cell? ⟨ew, 2, none⟩ = some (.int .i64 ho) := cell_of xb.1 2
      clear xb
      obtain ⟨P, h1, h2⟩ := T0.out.at2
      have H2 := hide h2
      have HC := hide (result_u w1 P fl bs lo sh la nw ho K false L b g h1 HK.out hK)
      have HC2 := hide (fun V Q h => rresult_u V Q fl bs lo sh la nw ho K false L c gc h HK.out hK)
      have HK2 := hide (HK.out.rs hK nw ho false)
      generalize rsB fl sh la L nw ho false = xb at *
      generalize rsL fl bs lo sh la L nw ho false = L2 at *
      generalize askE L.length nw ho = ee at *
      generalize rsA L la nw ho = la2 at *
      clear h1 h2
      go_wp2_with fail
      refine HC.out.mono ?_
      rintro e w2 ⟨rfl, d⟩
      have T1 := hide (H2.out _ _ d)
      clear d H2 HC e0 e1 e2 T0
      obtain ⟨_, xb, _⟩ := T1.out.at0
      have e0 : w2.cell? ⟨ew, 0, none⟩ = some (.int .i64 kd) := cell_of xb.1 0
      have e1 : w2.cell? ⟨ew, 1, none⟩ = some (.int .i64 nw) := cell_of xb.1 1
      have e2 : w2.cell? ⟨ew, 2, none⟩ = some (.int .i64 ho) := cell_of xb.1 2
      obtain ⟨P, h1, h2⟩ := T1.out.at1
      have H2 := hide h2
      have HC := hide (HC2.out w2 P h1)
      clear xb h1 h2 HC2
      go_wp2_with fail
      refine HC.out.mono ?_
      rintro e w3 ⟨rfl, d⟩
      have T2 := hide (H2.out _ _ d).drop
      clear d H2 HC e0 e1 e2 T1
      go_wp2_with fail
      go_ret
      exact ⟨rfl, _, _, HK2.out, T2.out⟩
  by_cases k1 : kd = 3 ∨ kd = 4
  · have hkk : (kd = 3) ∨ (¬ kd = 3 ∧ kd = 4) := by omega
    clear k1
    obtain ⟨ok, hok⟩ : ∃ ok, (kd == 3) = ok := ⟨_, rfl⟩
    rcases hkk with z | ⟨z, y⟩
    · have q0 : (kd == 0) = false := by rw [beq_eq_false_iff_ne]; omega
      have q1 : (kd == 1) = false := by rw [beq_eq_false_iff_ne]; omega
      have q2 : (kd == 2) = false := by rw [beq_eq_false_iff_ne]; omega
      have q3 : (kd == 3) = true := by rw [beq_iff_eq]; omega
      obtain rfl : ok = true := hok.symm.trans q3
      clear z k0 hok
      go_enter Try.func11, Try.ntmps11
      go_upto_region 1 with fail
      generalize w.alloc (stO kd nw ho) = w1 at *
      generalize w.heap.size = ew at *
      obtain ⟨_, xb, _⟩ := T0.out.at0
      have e0 : w1.cell? ⟨ew, 0, none⟩ = some (.int .i64 kd) := cell_of xb.1 0
      have e1 : w1.cell? ⟨ew, 1, none⟩ = some (.int .i64 nw) := cell_of xb.1 1
      have e2 : w1.cell? ⟨ew, 2, none⟩ = some (.int .i64 ho) := cell_of xb.1 2
      clear xb
      obtain ⟨P, h1, h2⟩ := T0.out.at2
      have H2 := hide h2
      have HC := hide (mark_u w1 P fl bs lo sh la nw ho true L b g h1 HK.out.n1)
      have HC2 := hide (fun V Q h => rmark_u V Q fl bs lo sh la nw ho true L c gc h HK.out.n1)
      have HK2 := hide (HK.out.mrk nw ho true)
      generalize mkB la L nw ho true = xb at *
      generalize mkL la L nw ho true = L2 at *
      generalize askE L.length nw ho = ee at *
      generalize rsA L la nw ho = la2 at *
      clear h1 h2
      go_wp2_with fail
      refine HC.out.mono ?_
      rintro e w2 ⟨rfl, d⟩
      have T1 := hide (H2.out _ _ d)
      clear d H2 HC e0 e1 e2 T0
      obtain ⟨_, xb, _⟩ := T1.out.at0
      have e0 : w2.cell? ⟨ew, 0, none⟩ = some (.int .i64 kd) := cell_of xb.1 0
      have e1 : w2.cell? ⟨ew, 1, none⟩ = some (.int .i64 nw) := cell_of xb.1 1
      have e2 : w2.cell? ⟨ew, 2, none⟩ = some (.int .i64 ho) := cell_of xb.1 2
      obtain ⟨P, h1, h2⟩ := T1.out.at1
      have H2 := hide h2
      have HC := hide (HC2.out w2 P h1)
      clear xb h1 h2 HC2
      go_wp2_with fail
      refine HC.out.mono ?_
      rintro e w3 ⟨rfl, d⟩
      have T2 := hide (H2.out _ _ d).drop
      clear d H2 HC e0 e1 e2 T1
      go_wp2_with fail
      go_ret
      exact ⟨rfl, _, _, HK2.out, T2.out⟩
    · have q0 : (kd == 0) = false := by rw [beq_eq_false_iff_ne]; omega
      have q1 : (kd == 1) = false := by rw [beq_eq_false_iff_ne]; omega
      have q2 : (kd == 2) = false := by rw [beq_eq_false_iff_ne]; omega
      have q3 : (kd == 3) = false := by rw [beq_eq_false_iff_ne]; omega
      have q4 : (kd == 4) = true := by rw [beq_iff_eq]; omega
      obtain rfl : ok = false := hok.symm.trans q3
      clear z y k0 hok
      go_enter Try.func11, Try.ntmps11
      go_upto_region 1 with fail
      generalize w.alloc (stO kd nw ho) = w1 at *
      generalize w.heap.size = ew at *
      obtain ⟨_, xb, _⟩ := T0.out.at0
      have e0 : w1.cell? ⟨ew, 0, none⟩ = some (.int .i64 kd) := cell_of xb.1 0
      have e1 : w1.cell? ⟨ew, 1, none⟩ = some (.int .i64 nw) := cell_of xb.1 1
      have e2 : w1.cell? ⟨ew, 2, none⟩ = some (.int .i64 ho) := cell_of xb.1 2
      clear xb
      obtain ⟨P, h1, h2⟩ := T0.out.at2
      have H2 := hide h2
      have HC := hide (mark_u w1 P fl bs lo sh la nw ho false L b g h1 HK.out.n1)
      have HC2 := hide (fun V Q h => rmark_u V Q fl bs lo sh la nw ho false L c gc h HK.out.n1)
      have HK2 := hide (HK.out.mrk nw ho false)
      generalize mkB la L nw ho false = xb at *
      generalize mkL la L nw ho false = L2 at *
      generalize askE L.length nw ho = ee at *
      generalize rsA L la nw ho = la2 at *
      clear h1 h2
      go_wp2_with fail
      refine HC.out.mono ?_
      rintro e w2 ⟨rfl, d⟩
      have T1 := hide (H2.out _ _ d)
      clear d H2 HC e0 e1 e2 T0
      obtain ⟨_, xb, _⟩ := T1.out.at0
      have e0 : w2.cell? ⟨ew, 0, none⟩ = some (.int .i64 kd) := cell_of xb.1 0
      have e1 : w2.cell? ⟨ew, 1, none⟩ = some (.int .i64 nw) := cell_of xb.1 1
      have e2 : w2.cell? ⟨ew, 2, none⟩ = some (.int .i64 ho) := cell_of xb.1 2
      obtain ⟨P, h1, h2⟩ := T1.out.at1
      have H2 := hide h2
      have HC := hide (HC2.out w2 P h1)
      clear xb h1 h2 HC2
      go_wp2_with fail
      refine HC.out.mono ?_
      rintro e w3 ⟨rfl, d⟩
      have T2 := hide (H2.out _ _ d).drop
      clear d H2 HC e0 e1 e2 T1
      go_wp2_with fail
      go_ret
      exact ⟨rfl, _, _, HK2.out, T2.out⟩
  by_cases k2 : kd = 5
  · have q0 : (kd == 0) = false := by rw [beq_eq_false_iff_ne]; omega
    have q1 : (kd == 1) = false := by rw [beq_eq_false_iff_ne]; omega
    have q2 : (kd == 2) = false := by rw [beq_eq_false_iff_ne]; omega
    have q3 : (kd == 3) = false := by rw [beq_eq_false_iff_ne]; omega
    have q4 : (kd == 4) = false := by rw [beq_eq_false_iff_ne]; omega
    have q5 : (kd == 5) = true := by rw [beq_iff_eq]; omega
    clear k0 k1 k2
    go_enter Try.func11, Try.ntmps11
    go_upto_region 1 with fail
    generalize w.alloc (stO kd nw ho) = w1 at *
    generalize w.heap.size = ew at *
    obtain ⟨_, xb, _⟩ := T0.out.at0
    have e0 : w1.cell? ⟨ew, 0, none⟩ = some (.int .i64 kd) := cell_of xb.1 0
    have e1 : w1.cell? ⟨ew, 1, none⟩ = some (.int .i64 nw) := cell_of xb.1 1
    have e2 : w1.cell? ⟨ew, 2, none⟩ = some (.int .i64 ho) := cell_of xb.1 2
    clear xb
    obtain ⟨P, h1, h2⟩ := T0.out.at2
    have H2 := hide h2
    have HC := hide (bring_u w1 P fl bs lo sh la nw L b g h1 HK.out.n1)
    have HC2 := hide (fun V Q h => rbring_u V Q fl bs lo sh la nw L c gc h HK.out.n1)
    have HK2 := hide ((HK.out.br nw).more (show K ≤ K + 1 by omega))
    have HLN := hide (brN_len la L nw HK.out.n1)
    generalize brN la L nw = us at *
    generalize brL la L nw = L2 at *
    generalize brA la nw = la2 at *
    generalize bE nw = ee at *
    clear h1 h2
    go_wp2_with fail
    refine HC.out.mono ?_
    rintro e w2 ⟨v1, rfl, d⟩
    have T1 := hide (H2.out _ _ d).assoc2
    clear d H2 HC e0 e1 e2 T0
    obtain ⟨a1, c1, rfl, g1, g2⟩ : ∃ a cap, v1 = .slice a us.length cap ∧ us.length ≤ cap ∧ cap ≤ 9223372036854775807 := by obtain ⟨_, x, _⟩ := T1.out.at2; exact x.get
    obtain ⟨_, xb, _⟩ := T1.out.at0
    have e1 : w2.cell? ⟨ew, 1, none⟩ = some (.int .i64 nw) := cell_of xb.1 1
    obtain ⟨P, h1, h2⟩ := T1.out.at1
    have H2 := hide h2
    have HC := hide (HC2.out w2 P h1)
    clear xb h1 h2 HC2
    go_wp2_with fail
    refine HC.out.mono ?_
    rintro e w3 ⟨v2, rfl, d⟩
    have T2 := hide (H2.out _ _ d).assoc1
    clear d H2 HC e1 T1
    obtain ⟨a2, c2, rfl, g3, g4⟩ : ∃ a cap, v2 = .slice a us.length cap ∧ us.length ≤ cap ∧ cap ≤ 9223372036854775807 := by obtain ⟨_, x, _⟩ := T2.out.at1; exact x.get
    have HII := hide (ints_any w3 (.slice a1 us.length c1) (.slice a2 us.length c2) us us (by obtain ⟨_, x, _⟩ := T2.out.at3; exact x.1) (by obtain ⟨_, x, _⟩ := T2.out.at1; exact x.1) HLN.out HLN.out)
    rw [decide_eq_true (rfl : us = us)] at HII
    generalize us.length = un at *
    go_wp2_with fail
    refine HII.out.mono ?_
    rintro e w4 ⟨rfl, q, rfl⟩
    have T3 := hide ((T2.out.same (Fr.drewN none' w3 q)).drop.drop.drop1)
    clear T2 HII
    generalize w3.drewN q = w4 at *
    go_wp2_with fail
    go_ret
    exact ⟨rfl, _, _, HK2.out, T3.out⟩
  have q0 : (kd == 0) = false := by rw [beq_eq_false_iff_ne]; omega
  have q1 : (kd == 1) = false := by rw [beq_eq_false_iff_ne]; omega
  have q2 : (kd == 2) = false := by rw [beq_eq_false_iff_ne]; omega
  have q3 : (kd == 3) = false := by rw [beq_eq_false_iff_ne]; omega
  have q4 : (kd == 4) = false := by rw [beq_eq_false_iff_ne]; omega
  have q5 : (kd == 5) = false := by rw [beq_eq_false_iff_ne]; omega
  clear k0 k1 k2
  go_enter Try.func11, Try.ntmps11
  go_upto_region 1 with fail
  generalize w.alloc (stO kd nw ho) = w1 at *
  generalize w.heap.size = ew at *
  obtain ⟨_, xb, _⟩ := T0.out.at0
  have e0 : w1.cell? ⟨ew, 0, none⟩ = some (.int .i64 kd) := cell_of xb.1 0
  have e1 : w1.cell? ⟨ew, 1, none⟩ = some (.int .i64 nw) := cell_of xb.1 1
  have e2 : w1.cell? ⟨ew, 2, none⟩ = some (.int .i64 ho) := cell_of xb.1 2
  clear xb
  obtain ⟨P, h1, h2⟩ := T0.out.at2
  have H2 := hide h2
  have HC := hide (usable_u w1 P fl bs lo sh la nw L b g h1 HK.out.n1)
  have HC2 := hide (fun V Q h => rusable_u V Q fl bs lo sh la nw L c gc h HK.out.n1)
  have HK2 := hide ((HK.out.br nw).more (show K ≤ K + 1 by omega))
  have HLN := hide (usN_len la L nw HK.out.n1)
  generalize usN la L nw = us at *
  generalize brL la L nw = L2 at *
  generalize brA la nw = la2 at *
  generalize bE nw = ee at *
  clear h1 h2
  go_wp2_with fail
  refine HC.out.mono ?_
  rintro e w2 ⟨v1, rfl, d⟩
  have T1 := hide (H2.out _ _ d).assoc2
  clear d H2 HC e0 e1 e2 T0
  obtain ⟨a1, c1, rfl, g1, g2⟩ : ∃ a cap, v1 = .slice a us.length cap ∧ us.length ≤ cap ∧ cap ≤ 9223372036854775807 := by obtain ⟨_, x, _⟩ := T1.out.at2; exact x.get
  obtain ⟨_, xb, _⟩ := T1.out.at0
  have e1 : w2.cell? ⟨ew, 1, none⟩ = some (.int .i64 nw) := cell_of xb.1 1
  obtain ⟨P, h1, h2⟩ := T1.out.at1
  have H2 := hide h2
  have HC := hide (HC2.out w2 P h1)
  clear xb h1 h2 HC2
  go_wp2_with fail
  refine HC.out.mono ?_
  rintro e w3 ⟨v2, rfl, d⟩
  have T2 := hide (H2.out _ _ d).assoc1
  clear d H2 HC e1 T1
  obtain ⟨a2, c2, rfl, g3, g4⟩ : ∃ a cap, v2 = .slice a us.length cap ∧ us.length ≤ cap ∧ cap ≤ 9223372036854775807 := by obtain ⟨_, x, _⟩ := T2.out.at1; exact x.get
  have HII := hide (ints_any w3 (.slice a1 us.length c1) (.slice a2 us.length c2) us us (by obtain ⟨_, x, _⟩ := T2.out.at3; exact x.1) (by obtain ⟨_, x, _⟩ := T2.out.at1; exact x.1) HLN.out HLN.out)
  rw [decide_eq_true (rfl : us = us)] at HII
  generalize us.length = un at *
  go_wp2_with fail
  refine HII.out.mono ?_
  rintro e w4 ⟨rfl, q, rfl⟩
  have T3 := hide ((T2.out.same (Fr.drewN none' w3 q)).drop.drop.drop1)
  clear T2 HII
  generalize w3.drewN q = w4 at *
  go_wp2_with fail
  go_ret
  exact ⟨rfl, _, _, HK2.out, T3.out⟩
end Go.Proofs.Ytobkgkcemdocnaa
