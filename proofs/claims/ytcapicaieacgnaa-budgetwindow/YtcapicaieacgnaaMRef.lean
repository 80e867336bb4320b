/- The document's budget: what its calls tell. -/
import Derived.Test.YtcapicaieacgnaaMSay
namespace Go.Proofs.Ytcapicaieacgnaa
open Go.ChangeShapes Go.WideShapes Go.ChangeAt Go.RowKit

/-- The document's. -/
abbrev Rb (pc mn wn la : Int) (rq rt : List Int) (b : Nat) : Thing := BdT 52 pc mn wn la rq rt b
structure ROk (pc mn wn la : Int) (rq rt : List Int) : Prop where
  p0 : 0 ≤ pc
  p1 : pc ≤ 100
  m0 : 0 ≤ mn
  m1 : mn ≤ 1000
  w0 : 1 ≤ wn
  w1 : wn ≤ 1000000
  l0 : 0 ≤ la
  l1 : la ≤ 4611686018427387904
  n1 : rq.length ≤ 100000
  n2 : rt.length ≤ 100000
theorem ROk.nx {pc mn wn la : Int} {rq rt : List Int} (h : ROk pc mn wn la rq rt) (now : Int) : ROk pc mn wn (nx la now) rq rt :=
  ⟨h.p0, h.p1, h.m0, h.m1, h.w0, h.w1, by have := nx_ge la now; have := h.l0; omega, nx_le h.l0 h.l1, h.n1, h.n2⟩
theorem Sr.cell {w : World} {v : Value} {l : List Int} (h : Sr w v l) {i : Nat} (hi : i < l.length) : ∃ g off cap, v = .slice (some ⟨g, off, none⟩) l.length cap ∧ w.cell? ⟨g, off + i, none⟩ = some (.int .i64 (l.getD i 0)) := by
  rcases h with ⟨rfl, rfl⟩ | ⟨g, off, cap, cur, rfl, hg, h1, h2, h3, h4⟩
  · simp at hi
  · exact ⟨g, off, cap, rfl, by rw [cell_of hg]; exact h4 i hi⟩
theorem late_take {x : Int} {l : List Int} {i : Nat} (hi : i < l.length) : (lateL x (l.take (i + 1))).length = (lateL x (l.take i)).length + (if x < l.getD i 0 then 1 else 0) := by
  rw [List.take_add_one, List.getElem?_eq_getElem hi]
  have e : l.getD i 0 = l[i] := by simp [List.getD, hi]
  rw [e]
  unfold lateL
  rw [List.filter_append, List.length_append]
  by_cases h : x < l[i]
  · simp [h]
  · simp [h]

set_option maxHeartbeats 1000000 in
theorem rcount_any (w : World) (b : Nat) (wn la : Int) (v : Value) (l : List Int) (c2 : w.cell? ⟨b, 2, none⟩ = some (.int .i64 wn)) (c3 : w.cell? ⟨b, 3, none⟩ = some (.int .i64 la)) (w0 : 1 ≤ wn) (w1 : wn ≤ 1000000) (l0 : 0 ≤ la) (l1 : la ≤ 4611686018427387904) (h : Sr w v l) (hl : l.length ≤ 100000) :
    Calls Try.prog 22 #[.pointer (some ⟨b, 0, none⟩), v] w fun e w' => e = .returned (.int .i64 ((lateL (la - wn) l).length : Int)) ∧ ∃ q, w' = w.drewN q := by
  obtain ⟨a, cap, rfl, hc1, hc2⟩ := h.shape
  have HS := hide h
  have HL := hide hl
  clear h hl
  obtain ⟨n, Hn⟩ : ∃ n, Hid (l.length = n) := ⟨_, hide rfl⟩
  rw [Hn.out] at hc1 HL HS ⊢
  have hn2 : n < 4611686018427387904 := by have := HL.out; omega
  go_enter Try.func22, Try.ntmps22
  go_wp2_with fail
  go_loopw [5, 10] (fun u v wr => ∃ (i m q : Nat), i ≤ n ∧ m ≤ i ∧ v = .int .i64 (i : Int) ∧ u = .int .i64 (m : Int) ∧ Hid ((lateL (la - wn) (l.take i)).length = m) ∧ wr = w.drewN q) (fun _ v _ => n - (intOf v).toNat)
  case atStart => exact ⟨0, 0, 0, Nat.zero_le _, Nat.zero_le _, rfl, rfl, hide rfl, rfl⟩
  case round =>
    obtain ⟨i, m, q, hi, hmi, rfl, rfl, HM, rfl⟩ := hrel
    by_cases hlt : i < n
    · have hli : i < l.length := by rw [Hn.out]; exact hlt
      obtain ⟨g, off, cap', ea, hci⟩ := HS.out.cell hli
      simp only [Value.slice.injEq] at ea
      obtain ⟨rfl, -, rfl⟩ := ea
      have HT := hide (late_take (x := la - wn) hli)
      rw [HM.out] at HT
      generalize l.getD i 0 = y at HT hci
      have e0 : (w.drewN q).cell? ⟨g, off + i, none⟩ = some (.int .i64 y) := hci
      by_cases hy : la - wn < y
      · rw [if_pos hy] at HT
        have hy1 : decide (la - wn < y) = true := decide_eq_true hy
        have hw : IntKind.i64.wrap (la - wn) = la - wn := IntWalk.i64_in _ (by omega)
        go_wp2_with fail
        go_quiet (fail)
        go_wp2_with fail
        go_roundw
        case rel => exact ⟨i + 1, m + 1, _, by omega, by omega, by go_num, by go_num, HT, rfl⟩
        case measure => simp [intOf]; omega
      · rw [if_neg hy] at HT
        have hy1 : decide (la - wn < y) = false := decide_eq_false hy
        have hw : IntKind.i64.wrap (la - wn) = la - wn := IntWalk.i64_in _ (by omega)
        go_wp2_with fail
        go_quiet (fail)
        go_wp2_with fail
        go_roundw
        case rel => exact ⟨i + 1, m, _, by omega, by omega, by go_num, rfl, HT, rfl⟩
        case measure => simp [intOf]; omega
    · obtain rfl : i = n := by omega
      have e : l.take i = l := by rw [← Hn.out]; exact List.take_length
      rw [e] at HM
      go_wp2_with fail
      go_ret
      exact ⟨ret_int (by rw [HM.out]), q, rfl⟩

theorem BdT.sr2 {T : TypeId} {pc mn wn la : Int} {rq rt : List Int} {b : Nat} {w : World} {P : Nat → Prop} (h : BdT T pc mn wn la rq rt b w P) : ∃ v1 v2, Bk T w b pc mn wn la v1 v2 ∧ Sr w v1 rq ∧ Sr w v2 rt := by
  obtain ⟨v1, v2, h1, h2, h3, h4, h5, h6⟩ := h
  exact ⟨v1, v2, h1, h2, h3⟩
theorem BdT.at {T : TypeId} {pc mn wn la : Int} {rq rt : List Int} {b : Nat} {w : World} {P : Nat → Prop} (h : BdT T pc mn wn la rq rt b w P) (t : Int) : Does (BdT T pc mn wn t rq rt b) P w (w.setCell ⟨b, 3, none⟩ (.int .i64 t)) := by
  obtain ⟨v1, v2, h1, h2, h3, h4, h5, h6⟩ := h
  have F1 : Fr (fun k => k = b) w (w.setCell ⟨b, 3, none⟩ (.int .i64 t)) := Fr.set _ _ _ _
  exact ⟨P, ⟨v1, v2, hp_set h1 3 _, h2.fr F1 (fun k hk => (h4 k hk).1), h3.fr F1 h5, h4, h5, h6⟩, F1.mono (fun k _ e => (h6 k).2 (.inl e)), fun k hk => .inl hk⟩
theorem nx_yes {la now : Int} (h0 : 0 ≤ la) (h1 : la ≤ 4611686018427387904) (hm : mom now = true) : nx la now = if la < now then now else la := by
  have := mom_iff.1 hm
  unfold nx untR
  split <;> split <;> omega

/-- Which row, and how many of it. -/
def Cnt (v1 v2 : Value) (m1 m2 : Nat) (v : Value) (m : Nat) : Prop := (v = v1 ∧ m = m1) ∨ (v = v2 ∧ m = m2)
set_option maxHeartbeats 1000000 in
theorem rlate_any (w : World) (P : Nat → Prop) (b : Nat) (pc mn wn la now : Int) (rq rt : List Int) (h : Rb pc mn wn la rq rt b w P) (k : ROk pc mn wn la rq rt) :
    Calls Try.prog 17 #[.pointer (some ⟨b, 0, none⟩), .int .i64 now] w fun e w' => e = .returned (.tuple #[.int .i64 (nN now (lateL (nx la now - wn) rq)), .int .i64 (nN now (lateL (nx la now - wn) rt)), .int .i64 (bE now)]) ∧ Does (Rb pc mn wn (nx la now) rq rt b) P w w' := by
  have HM := hide (moment_any now w)
  cases hm : mom now with
  | false =>
    have e0 : bE now = 1 := by unfold bE; rw [hm]; rfl
    have e1 : ∀ l, nN now l = 0 := fun l => by unfold nN; rw [hm]; rfl
    have e2 : nx la now = la := nx_no hm
    have HD := hide (Does.refl h)
    rw [hm] at HM
    rw [e0, e1, e1, e2]
    clear e0 e1 e2 h k hm
    go_enter Try.func17, Try.ntmps17
    go_wp2_with (go_at_call 18; refine HM.out.mono ?_; rintro e w' ⟨rfl, rfl⟩)
    go_ret3
    exact ⟨rfl, HD.out⟩
  | true =>
    have e0 : bE now = 0 := by unfold bE; rw [hm]; rfl
    have e1 : ∀ l, nN now l = (l.length : Int) := fun l => by unfold nN; rw [hm]; rfl
    have HE := hide (nx_yes k.l0 k.l1 hm)
    have HK := hide (k.nx now)
    rw [hm] at HM
    rw [e0, e1, e1]
    by_cases hq : la < now
    · rw [if_pos hq] at HE
      rw [HE.out] at HK ⊢
      obtain ⟨m1, Hm1⟩ : ∃ m1, Hid ((lateL (now - wn) rq).length = m1) := ⟨_, hide rfl⟩
      obtain ⟨m2, Hm2⟩ : ∃ m2, Hid ((lateL (now - wn) rt).length = m2) := ⟨_, hide rfl⟩
      rw [Hm1.out, Hm2.out]
      have HD := hide (h.at now)
      obtain ⟨_, _, _, _, c0, c1, c2, c3, c4, c5⟩ := h.cs
      have f3 : w.frozen? ⟨b, 3, none⟩ = false := by obtain ⟨v1, v2, x, _, _⟩ := h.sr2; exact frozen_of x 3
      clear e0 e1 k hm HE h
      go_enter Try.func17, Try.ntmps17
      go_upto_region 5 with (go_at_call 18; refine HM.out.mono ?_; rintro e w' ⟨rfl, rfl⟩)
      clear c0 c1 c2 c3 c4 c5 f3 HM
      generalize w.setCell ⟨b, 3, none⟩ (.int .i64 now) = W at *
      obtain ⟨P2, x1, -, -⟩ : ∃ P2, _ := HD.out
      obtain ⟨v1, v2, B1, S1, S2⟩ := x1.sr2
      obtain ⟨c0, c1, c2, c3, c4, c5, -, -, -⟩ := B1.cs
      have HC1 := hide (fun q => rcount_any (W.drewN q) b wn now v1 rq c2 c3 HK.out.w0 HK.out.w1 HK.out.l0 HK.out.l1 S1 HK.out.n1)
      have HC2 := hide (fun q => rcount_any (W.drewN q) b wn now v2 rt c2 c3 HK.out.w0 HK.out.w1 HK.out.l0 HK.out.l1 S2 HK.out.n2)
      obtain ⟨a1, cap1, rfl, q1, q2⟩ := S1.shape
      obtain ⟨a2, cap2, rfl, q3, q4⟩ := S2.shape
      clear x1 B1 S1 S2
      obtain ⟨l1, g1⟩ : ∃ l1, rq.length = l1 := ⟨_, rfl⟩
      obtain ⟨l2, g2⟩ : ∃ l2, rt.length = l2 := ⟨_, rfl⟩
      rw [g1, Hm1.out] at HC1
      rw [g1] at c4 q1
      rw [g2, Hm2.out] at HC2
      rw [g2] at c5 q3
      clear g1 g2
      have HC : Hid (∀ q v m, Cnt (.slice a1 l1 cap1) (.slice a2 l2 cap2) m1 m2 v m → Calls Try.prog 22 #[.pointer (some ⟨b, 0, none⟩), v] (W.drewN q) fun e w' => e = .returned (.int .i64 (m : Int)) ∧ ∃ q', w' = (W.drewN q).drewN q') := hide (by
        rintro q v m (⟨rfl, rfl⟩ | ⟨rfl, rfl⟩)
        · exact HC1.out q
        · exact HC2.out q)
      go_wp2_with fail
      go_quiet (first | (go_at_call 22; refine Calls.quiet_of (HC.out _ _ _ (by first | exact .inl ⟨rfl, rfl⟩ | exact .inr ⟨rfl, rfl⟩))))
      go_wp2_with fail
      go_ret3
      exact ⟨rfl, HD.out.e (Fr.drewN _ _ _)⟩
    · rw [if_neg hq] at HE
      rw [HE.out] at HK ⊢
      obtain ⟨m1, Hm1⟩ : ∃ m1, Hid ((lateL (la - wn) rq).length = m1) := ⟨_, hide rfl⟩
      obtain ⟨m2, Hm2⟩ : ∃ m2, Hid ((lateL (la - wn) rt).length = m2) := ⟨_, hide rfl⟩
      rw [Hm1.out, Hm2.out]
      have HD := hide (Does.refl h)
      obtain ⟨v1, v2, B1, S1, S2⟩ := h.sr2
      obtain ⟨c0, c1, c2, c3, c4, c5, -, -, -⟩ := B1.cs
      have HC1 := hide (fun q => rcount_any (w.drewN q) b wn la v1 rq c2 c3 HK.out.w0 HK.out.w1 HK.out.l0 HK.out.l1 S1 HK.out.n1)
      have HC2 := hide (fun q => rcount_any (w.drewN q) b wn la v2 rt c2 c3 HK.out.w0 HK.out.w1 HK.out.l0 HK.out.l1 S2 HK.out.n2)
      obtain ⟨a1, cap1, rfl, q1, q2⟩ := S1.shape
      obtain ⟨a2, cap2, rfl, q3, q4⟩ := S2.shape
      clear e0 e1 k hm HE h B1 S1 S2
      go_enter Try.func17, Try.ntmps17
      go_upto_region 5 with (go_at_call 18; refine HM.out.mono ?_; rintro e w' ⟨rfl, rfl⟩)
      obtain ⟨l1, g1⟩ : ∃ l1, rq.length = l1 := ⟨_, rfl⟩
      obtain ⟨l2, g2⟩ : ∃ l2, rt.length = l2 := ⟨_, rfl⟩
      rw [g1, Hm1.out] at HC1
      rw [g1] at c4 q1
      rw [g2, Hm2.out] at HC2
      rw [g2] at c5 q3
      clear g1 g2
      have HC : Hid (∀ q v m, Cnt (.slice a1 l1 cap1) (.slice a2 l2 cap2) m1 m2 v m → Calls Try.prog 22 #[.pointer (some ⟨b, 0, none⟩), v] (w.drewN q) fun e w' => e = .returned (.int .i64 (m : Int)) ∧ ∃ q', w' = (w.drewN q).drewN q') := hide (by
        rintro q v m (⟨rfl, rfl⟩ | ⟨rfl, rfl⟩)
        · exact HC1.out q
        · exact HC2.out q)
      go_wp2_with fail
      go_quiet (first | (go_at_call 22; refine Calls.quiet_of (HC.out _ _ _ (by first | exact .inl ⟨rfl, rfl⟩ | exact .inr ⟨rfl, rfl⟩))))
      go_wp2_with fail
      go_ret3
      exact ⟨rfl, HD.out.e (Fr.drewN _ _ _)⟩

set_option maxHeartbeats 1000000 in
theorem rcan_any (w : World) (P : Nat → Prop) (b : Nat) (pc mn wn la now : Int) (rq rt : List Int) (h : Rb pc mn wn la rq rt b w P) (k : ROk pc mn wn la rq rt) :
    Calls Try.prog 11 #[.pointer (some ⟨b, 0, none⟩), .int .i64 now] w fun e w' => e = .returned (.tuple #[.bool (canB pc mn now (lateL (nx la now - wn) rq).length (lateL (nx la now - wn) rt).length), .int .i64 (bE now)]) ∧ Does (Rb pc mn wn (nx la now) rq rt b) P w w' := by
  have HL := hide (rlate_any w P b pc mn wn la now rq rt h k)
  have HK := hide (k.nx now)
  cases hm : mom now with
  | false =>
    have e0 : bE now = 1 := by unfold bE; rw [hm]; rfl
    have e1 : ∀ l, nN now l = 0 := fun l => by unfold nN; rw [hm]; rfl
    have e2 : ∀ n m, canB pc mn now n m = false := fun n m => by unfold canB; rw [hm]; rfl
    rw [e0, e1, e1] at HL
    rw [e0, e2]
    clear e0 e1 e2 h k hm
    go_enter Try.func11, Try.ntmps11
    go_wp2_with fail
    refine HL.out.mono ?_
    rintro e w1 ⟨rfl, hd⟩
    have HD := hide hd
    clear hd
    go_wp2_with fail
    go_ret2
    exact ⟨rfl, HD.out⟩
  | true =>
    have e0 : bE now = 0 := by unfold bE; rw [hm]; rfl
    have e1 : ∀ l, nN now l = (l.length : Int) := fun l => by unfold nN; rw [hm]; rfl
    have e2 : ∀ n m, canB pc mn now n m = (decide ((m : Int) + 1 ≤ mn) || decide (((m : Int) + 1) * 100 ≤ pc * n)) := fun n m => by unfold canB; rw [hm]; rfl
    rw [e0, e1, e1] at HL
    rw [e0, e2]
    clear e0 e1 e2 h k hm
    have n1 := Nat.le_trans (lateL_le (nx la now - wn) rq) HK.out.n1
    have n2 := Nat.le_trans (lateL_le (nx la now - wn) rt) HK.out.n2
    generalize nx la now = t at *
    obtain ⟨n, hn⟩ : ∃ n, (lateL (t - wn) rq).length = n := ⟨_, rfl⟩
    obtain ⟨m, hmm⟩ : ∃ m, (lateL (t - wn) rt).length = m := ⟨_, rfl⟩
    rw [hn] at HL n1 ⊢
    rw [hmm] at HL n2 ⊢
    clear hn hmm
    have p0 := HK.out.p0
    have p1 := HK.out.p1
    have m0 := HK.out.m0
    have m1 := HK.out.m1
    have x0 : 0 ≤ pc * (n : Int) := Int.mul_nonneg p0 (by omega)
    have x1 : pc * (n : Int) ≤ 10000000 := by have := Int.mul_le_mul p1 (show (n : Int) ≤ 100000 by omega) (by omega) (by omega : (0:Int) ≤ 100); omega
    by_cases hq : (m : Int) + 1 ≤ mn
    · rw [decide_eq_true hq, Bool.true_or]
      go_enter Try.func11, Try.ntmps11
      go_wp2_with fail
      refine HL.out.mono ?_
      rintro e w1 ⟨rfl, hd⟩
      have HD := hide hd
      obtain ⟨P', hz, -, -⟩ := hd
      obtain ⟨_, _, _, _, c0, c1, c2, c3, c4, c5⟩ := hz.cs
      clear hz HL
      go_wp2_with fail
      go_ret2
      exact ⟨rfl, HD.out⟩
    · rw [decide_eq_false hq, Bool.false_or]
      obtain ⟨R, HR⟩ : ∃ R, Hid (decide (((m : Int) + 1) * 100 ≤ pc * n) = R) := ⟨_, hide rfl⟩
      rw [HR.out]
      go_enter Try.func11, Try.ntmps11
      go_wp2_with fail
      refine HL.out.mono ?_
      rintro e w1 ⟨rfl, hd⟩
      have HD := hide hd
      obtain ⟨P', hz, -, -⟩ := hd
      obtain ⟨_, _, _, _, c0, c1, c2, c3, c4, c5⟩ := hz.cs
      clear hz HL
      go_wp2_with fail
      go_ret2
      exact ⟨ret2_bi (by rw [decide_eq_false (by omega), Bool.false_or]; exact HR.out) rfl, HD.out⟩

set_option maxRecDepth 100000 in
set_option maxHeartbeats 2000000 in
theorem rallow_any (w : World) (P : Nat → Prop) (b : Nat) (pc mn wn la now : Int) (rq rt : List Int) (h : Rb pc mn wn la rq rt b w P) (k : ROk pc mn wn la rq rt) :
    Calls Try.prog 15 #[.pointer (some ⟨b, 0, none⟩), .int .i64 now] w fun e w' => e = .returned (.tuple #[.bool (canB pc mn now (lateL (nx la now - wn) rq).length (lateL (nx la now - wn) rt).length), .int .i64 (bE now)]) ∧ Does (Rb pc mn wn (nx la now) rq (alw (canB pc mn now (lateL (nx la now - wn) rq).length (lateL (nx la now - wn) rt).length) (nx la now) rt) b) P w w' := by
  have HC := hide (rcan_any w P b pc mn wn la now rq rt h k)
  have HK := hide (k.nx now)
  have HB : Hid (canB pc mn now (lateL (nx la now - wn) rq).length (lateL (nx la now - wn) rt).length = true → bE now = 0) := hide (fun h => by
    unfold canB at h; rw [Bool.and_eq_true] at h; unfold bE; rw [h.1]; rfl)
  clear h k
  generalize nx la now = t at *
  generalize canB pc mn now (lateL (t - wn) rq).length (lateL (t - wn) rt).length = cc at *
  cases cc with
  | false =>
    have e1 : alw false t rt = rt := rfl
    rw [e1]
    clear HB
    go_enter Try.func15, Try.ntmps15
    go_wp2_with fail
    refine HC.out.mono ?_
    rintro e w1 ⟨rfl, hd⟩
    have HD := hide hd
    clear hd
    go_wp2_with fail
    go_ret2
    exact ⟨rfl, HD.out⟩
  | true =>
    have e1 : alw true t rt = rt ++ [t] := rfl
    rw [e1]
    rw [HB.out rfl] at HC ⊢
    clear HB e1
    go_enter Try.func15, Try.ntmps15
    go_wp2_with fail
    refine HC.out.mono ?_
    rintro e w2 ⟨rfl, hd⟩
    obtain ⟨P2, HP, H1, H2⟩ : ∃ P2, Hid (Rb pc mn wn t rq rt b w2 P2) ∧ Hid (Fr P w w2) ∧ Hid (∀ k, P2 k → P k ∨ w.heap.size ≤ k) := hd
    obtain ⟨v1, v2, B1, S1, S2, h4, h5, h6⟩ := HP.out
    obtain ⟨c0, c1, c2, c3, c4, c5, f3, f4, f5⟩ := B1.cs
    obtain ⟨v', W, hrun, r1, F, o⟩ := append_sr w2.drew 46 v2 rt t S2 (by have := HK.out.n2; omega)
    obtain ⟨B2, D2⟩ := BdT.put2 (w := w2.drew) (W := W) (v' := v') (y := t) B1 S1 h4 h5 h6 r1 F o
    obtain ⟨a6, cap6, rfl, g7, g8⟩ := r1.shape
    obtain ⟨a4, cap4, rfl, g3, g4⟩ := S1.shape
    obtain ⟨a5, cap5, rfl, g5, g6⟩ := S2.shape
    have HD2 := hide D2
    obtain ⟨d0, d1, d2, d3, d4, d5, k3, k4, k5⟩ := B2.cs
    have A1 : Bk 52 (w2.alloc (.cells #[.int .i64 t] 3)) b pc mn wn t (.slice a4 rq.length cap4) (.slice a5 rt.length cap5) := (Fr.alloc none' w2 _).hd id B1
    obtain ⟨x0, x1, x2, x3, x4, x5, z3, z4, z5⟩ := A1.cs
    clear r1 F o B2 D2 B1 S1 S2 h4 h5 h6 HC A1 c0 c1 c2 c4 d0 d1 d2 d4 k3 k4 x0 x1 x2 x4 z3 z4 f3 f4
    generalize hn : (rt ++ [t]).length = n2 at *
    clear hn
    go_wp2_with fail
    go_region_law (refine step_append_is rfl (.tmp 21) (.tmp 26) 46 rfl (.slice a5 rt.length cap5) (.slice (some ⟨w2.heap.size, 0, none⟩) 1 1) (.slice a6 n2 cap6) (by simp [Act.eval]) (by simp [Act.eval]) hrun ?_)
    all_goals (
      go_wp2_with fail
      go_ret2
      exact ⟨rfl, Does.more H1.out.e H2.out HD2.out⟩)

set_option maxRecDepth 100000 in
set_option maxHeartbeats 2000000 in
theorem radmit_any (w : World) (P : Nat → Prop) (b : Nat) (pc mn wn la now : Int) (rq rt : List Int) (h : Rb pc mn wn la rq rt b w P) (k : ROk pc mn wn la rq rt) (hl : rq.length < 100000) :
    Calls Try.prog 13 #[.pointer (some ⟨b, 0, none⟩), .int .i64 now] w fun e w' => e = .returned (.int .i64 (bE now)) ∧ Does (Rb pc mn wn (nx la now) (adm now (nx la now) rq) rt b) P w w' := by
  have HC := hide (rlate_any w P b pc mn wn la now rq rt h k)
  have HK := hide (k.nx now)
  have HLL := hide (Nat.lt_of_le_of_lt (lateL_le (nx la now - wn) rq) hl)
  have HL := hide hl
  clear h k hl
  generalize nx la now = t at *
  cases hm : mom now with
  | false =>
    have e0 : bE now = 1 := by unfold bE; rw [hm]; rfl
    have e1 : ∀ l, nN now l = 0 := fun l => by unfold nN; rw [hm]; rfl
    have e2 : ∀ x l, adm now x l = l := fun x l => by unfold adm; rw [hm]; rfl
    rw [e0, e1, e1] at HC
    rw [e0, e2]
    clear e0 e1 e2 hm
    go_enter Try.func13, Try.ntmps13
    go_wp2_with fail
    refine HC.out.mono ?_
    rintro e w1 ⟨rfl, hd⟩
    have HD := hide hd
    clear hd
    go_wp2_with fail
    go_ret
    exact ⟨rfl, HD.out⟩
  | true =>
    have e0 : bE now = 0 := by unfold bE; rw [hm]; rfl
    have e1 : ∀ l, nN now l = (l.length : Int) := fun l => by unfold nN; rw [hm]; rfl
    have e2 : ∀ x l, adm now x l = l ++ [x] := fun x l => by unfold adm; rw [hm]; rfl
    rw [e0, e1, e1] at HC
    rw [e0, e2]
    clear e0 e1 e2 hm
    generalize (lateL (t - wn) rq).length = m1 at *
    generalize (lateL (t - wn) rt).length = m2 at *
    have hll2 : ¬ (100000 : Int) ≤ (m1 : Int) := by have := HLL.out; omega
    have hll3 : decide ((100000 : Int) ≤ (m1 : Int)) = false := decide_eq_false hll2
    go_enter Try.func13, Try.ntmps13
    go_wp2_with fail
    refine HC.out.mono ?_
    rintro e w2 ⟨rfl, hd⟩
    obtain ⟨P2, HP, H1, H2⟩ : ∃ P2, Hid (Rb pc mn wn t rq rt b w2 P2) ∧ Hid (Fr P w w2) ∧ Hid (∀ k, P2 k → P k ∨ w.heap.size ≤ k) := hd
    obtain ⟨v1, v2, B1, S1, S2, h4, h5, h6⟩ := HP.out
    obtain ⟨c0, c1, c2, c3, c4, c5, f3, f4, f5⟩ := B1.cs
    obtain ⟨v', W, hrun, r1, F, o⟩ := append_sr w2.drew 46 v1 rq t S1 (by have := HL.out; omega)
    obtain ⟨B2, D2⟩ := BdT.put1 (w := w2.drew) (W := W) (v' := v') (y := t) B1 S2 h4 h5 h6 r1 F o
    obtain ⟨a6, cap6, rfl, g7, g8⟩ := r1.shape
    obtain ⟨a4, cap4, rfl, g3, g4⟩ := S1.shape
    obtain ⟨a5, cap5, rfl, g5, g6⟩ := S2.shape
    have HD2 := hide D2
    obtain ⟨d0, d1, d2, d3, d4, d5, k3, k4, k5⟩ := B2.cs
    have A1 : Bk 52 (w2.alloc (.cells #[.int .i64 t] 3)) b pc mn wn t (.slice a4 rq.length cap4) (.slice a5 rt.length cap5) := (Fr.alloc none' w2 _).hd id B1
    obtain ⟨x0, x1, x2, x3, x4, x5, z3, z4, z5⟩ := A1.cs
    clear r1 F o B2 D2 B1 S1 S2 h4 h5 h6 HC A1 c0 c1 c2 c5 d0 d1 d2 d5 k3 k5 x0 x1 x2 x5 z3 z5 f3 f5
    generalize hn : (rq ++ [t]).length = n2 at *
    clear hn
    go_wp2_with fail
    go_region_law (refine step_append_is rfl (.tmp 24) (.tmp 29) 46 rfl (.slice a4 rq.length cap4) (.slice (some ⟨w2.heap.size, 0, none⟩) 1 1) (.slice a6 n2 cap6) (by simp [Act.eval]) (by simp [Act.eval]) hrun ?_)
    all_goals (
      go_wp2_with fail
      go_ret
      exact ⟨rfl, Does.more H1.out.e H2.out HD2.out⟩)

theorem rnew_any (w : World) (pc mn wn : Int) (h : okA pc mn wn) :
    Calls Try.prog 9 #[.int .i64 pc, .int .i64 mn, .int .i64 wn] w fun e w' => e = .returned (.tuple #[.pointer (some ⟨w.heap.size, 0, none⟩), .int .i64 0]) ∧ Does (Rb pc mn wn 0 [] [] w.heap.size) none' w w' := by
  obtain ⟨⟨a, b⟩, ⟨c, d⟩, e, f⟩ := h
  go_enter Try.func9, Try.ntmps9
  go_wp2
  go_ret2
  refine ⟨rfl, fun k => k = w.heap.size, ⟨_, _, hp_new _ _, .inl ⟨rfl, rfl⟩, .inl ⟨rfl, rfl⟩, fun k hk => by simp [Value.ownBlock] at hk, fun k hk => by simp [Value.ownBlock] at hk, fun k => by simp [Value.ownBlock]⟩, Fr.alloc _ _ _, fun k hk => .inr (by omega)⟩
theorem rnew_bad (w : World) (pc mn wn : Int) (h : ¬ okA pc mn wn) :
    Calls Try.prog 9 #[.int .i64 pc, .int .i64 mn, .int .i64 wn] w fun e w' => e = .returned (.tuple #[.pointer none, .int .i64 1]) ∧ w = w' := by
  by_cases a0 : pc < 0
  · clear h; go_enter Try.func9, Try.ntmps9
    go_wp2
    go_ret2
    exact ⟨rfl, rfl⟩
  by_cases a1 : 100 < pc
  · clear h; go_enter Try.func9, Try.ntmps9
    go_wp2
    go_ret2
    exact ⟨rfl, rfl⟩
  by_cases b0 : mn < 0
  · clear h; go_enter Try.func9, Try.ntmps9
    go_wp2
    go_ret2
    exact ⟨rfl, rfl⟩
  by_cases b1 : 1000 < mn
  · clear h; go_enter Try.func9, Try.ntmps9
    go_wp2
    go_ret2
    exact ⟨rfl, rfl⟩
  by_cases p0 : wn < 1
  · clear h; go_enter Try.func9, Try.ntmps9
    go_wp2
    go_ret2
    exact ⟨rfl, rfl⟩
  have p1 : 1000000 < wn := by
    have : ¬ wn ≤ 1000000 := fun x => h ⟨⟨by omega, by omega⟩, ⟨by omega, by omega⟩, by omega, x⟩
    omega
  clear h
  go_enter Try.func9, Try.ntmps9
  go_wp2
  go_ret2
  exact ⟨rfl, rfl⟩
end Go.Proofs.Ytcapicaieacgnaa
