/- BudgetMore, walked. -/
import Derived.Test.YtcapicaieacgnaaMSay
namespace Go.Proofs.Ytcapicaieacgnaa
open Go.ChangeShapes Go.WideShapes Go.ChangeAt Go.RowKit

abbrev askO (pc mn wn : Int) : Obj := .cells #[.int .i64 pc, .int .i64 mn, .int .i64 wn] 23 (0, 0)
abbrev stO (kd nw : Int) : Obj := .cells #[.int .i64 kd, .int .i64 nw] 34 (0, 0)
theorem nx_nx {la now : Int} (h0 : 0 ≤ la) (h1 : la ≤ 4611686018427387904) : nx (nx la now) now = nx la now := by
  cases hm : mom now with
  | false => rw [nx_no hm, nx_no hm]
  | true =>
    have := mom_iff.1 hm
    unfold nx untR
    split <;> split <;> omega
theorem can_more {pc mn now : Int} {n m : Nat} (p0 : 0 ≤ pc) (h : canB pc mn now n m = true) : canB pc mn now (n + 1) m = true := by
  unfold canB at h ⊢
  rw [Bool.and_eq_true, Bool.or_eq_true, decide_eq_true_eq, decide_eq_true_eq] at h ⊢
  refine ⟨h.1, ?_⟩
  rcases h.2 with x | x
  · exact .inl x
  · right
    have e : pc * ((n + 1 : Nat) : Int) = pc * (n : Int) + pc := by rw [Int.natCast_add, Int.mul_add]; simp
    omega

set_option maxHeartbeats 4000000 in
set_option maxRecDepth 100000 in
theorem more_walk (pc mn wn now : Int) (ad : Option Addr) (len cap : Nat) (W : World) (hlen : len < 17592186044416)
    (hst : Hid (∀ i, i < len → ∃ b off, ∃ (x0 : Int) (x1 : Int), ad = some ⟨b, off, none⟩ ∧ (W.cell? ⟨b, off + i * 2, none⟩ = some (.int .i64 x0) ∧ W.cell? ⟨b, off + i * 2 + 1, none⟩ = some (.int .i64 x1)) ∧ b < W.heap.size ∧ (-9223372036854775808 ≤ x0 ∧ x0 ≤ 9223372036854775807) ∧ (-9223372036854775808 ≤ x1 ∧ x1 ≤ 9223372036854775807))) :
    Calls Try.prog 6 #[.agg #[.int .i64 pc, .int .i64 mn, .int .i64 wn], .slice ad len cap, .int .i64 now] W fun e w' => e = .returned (.bool true) ∧ Below W.heap.size W w' := by
  by_cases h1000 : 1000 < len
  · have hh : (1000 : Int) < (len : Int) := by omega
    go_enter Try.func6, Try.ntmps6
    go_wp2_with (go_at_call 7; refine (speaks_any _).mono ?_; rintro e w9 ⟨rfl, HG⟩)
    go_ret
    exact ⟨rfl, ((Fr.alloc none' W _).trans HG (fun _ _ x => x)).below (Nat.le_refl _) (fun _ _ x => x)⟩
  have hh : ¬ (1000 : Int) < (len : Int) := by omega
  by_cases hA : okA pc mn wn
  · have HN := hide (fun V => new_any V pc mn wn hA)
    have K0 := hide hA.ok
    clear hA
    go_enter Try.func6, Try.ntmps6
    go_wp2_with fail
    have T0 : Hid (Top (Two (Blk W.heap.size (askO pc mn wn)) Nil) W (W.alloc (askO pc mn wn))) := hide ((Top.nil W).put (Blk.new W _))
    generalize W.alloc (askO pc mn wn) = W1 at T0 ⊢
    obtain ⟨a, Ha⟩ : ∃ a, Hid (W.heap.size = a) := ⟨_, hide rfl⟩
    rw [Ha.out] at T0 ⊢
    refine (HN.out W1).mono ?_
    rintro e w1 ⟨rfl, d⟩
    have T1 := hide (T0.out.put d)
    clear d T0
    generalize W1.heap.size = b at *
    have A1 : w1.heap[a]? = some (askO pc mn wn) := by obtain ⟨_, x, _⟩ := T1.out.at1; exact x.1
    have c0 : w1.cell? ⟨a, 0, none⟩ = some (.int .i64 pc) := cell_of A1 0
    have c1 : w1.cell? ⟨a, 1, none⟩ = some (.int .i64 mn) := cell_of A1 1
    have c2 : w1.cell? ⟨a, 2, none⟩ = some (.int .i64 wn) := cell_of A1 2
    clear A1
    go_wp2_with fail
    refine (HN.out w1).mono ?_
    rintro e w2 ⟨rfl, d⟩
    have T2 := hide (T1.out.put d)
    clear d T1 c0 c1 c2 HN
    generalize w1.heap.size = c at *
    go_wp2_with fail
    go_loopw [72] (fun v wr => ∃ (k : Nat) (la : Int) (rq rt : List Int), k ≤ len ∧ v = .int .i64 (k : Int) ∧ Hid (rq.length ≤ k) ∧ Hid (Ok pc mn wn la rq rt) ∧ Hid (Top (Two (Bd pc mn wn la rq rt c) (Two (Bd pc mn wn la rq rt b) (Two (Blk a (askO pc mn wn)) Nil))) W wr)) (fun v _ => len - (intOf v).toNat)
    case atStart => exact ⟨0, 0, [], [], Nat.zero_le _, rfl, hide (Nat.zero_le _), K0, T2⟩
    case round =>
      clear T2 K0
      obtain ⟨k, la, rq, rt, hk, rfl, HR, HK, HI⟩ := hrel
      by_cases hlt : k < len
      · obtain ⟨pb, off, kd, nw, rfl, ⟨hc0, hc1⟩, hb, -, hn0, hn1⟩ := hst.out k hlt
        have e0 : wr.cell? ⟨pb, off + k * 2, none⟩ = some (.int .i64 kd) := (World.cell?_of_block (HI.out.fr.block pb hb id)).trans hc0
        have e1 : wr.cell? ⟨pb, off + k * 2 + 1, none⟩ = some (.int .i64 nw) := (World.cell?_of_block (HI.out.fr.block pb hb id)).trans hc1
        clear hc0 hc1 hst hb
        go_upto_region 10 with fail
        have T3 : Hid (Top (Two (Blk wr.heap.size (stO kd nw)) (Two (Bd pc mn wn la rq rt c) (Two (Bd pc mn wn la rq rt b) (Two (Blk a (askO pc mn wn)) Nil)))) W (wr.alloc (stO kd nw))) := hide (HI.out.put (Blk.new wr _))
        generalize wr.alloc (stO kd nw) = w3 at T3 ⊢
        generalize wr.heap.size = ew at *
        clear e0 e1 HI
        have A1 : w3.heap[ew]? = some (stO kd nw) := by obtain ⟨_, x, _⟩ := T3.out.at0; exact x.1
        have e0 : w3.cell? ⟨ew, 0, none⟩ = some (.int .i64 kd) := cell_of A1 0
        have e1 : w3.cell? ⟨ew, 1, none⟩ = some (.int .i64 nw) := cell_of A1 1
        clear A1
        have hrl : rq.length < 100000 := by have := HR.out; omega
        have hl2 : (lateL (nx la nw - wn) rq).length ≤ k := Nat.le_trans (lateL_le _ _) HR.out
        by_cases k0 : kd = 0
        · subst k0
          obtain ⟨P, h1, h2⟩ := T3.out.at2
          have H2 := hide h2
          have HC := hide (admit_any w3 P b pc mn wn la nw rq rt h1 HK.out hrl)
          have HC2 := hide (fun w P h => admit_any w P c pc mn wn la nw rq rt h HK.out hrl)
          have K2 := hide ((HK.out.nx nw).adm nw (by omega))
          have R2 : Hid ((adm nw (nx la nw) (lateL (nx la nw - wn) rq)).length ≤ k + 1) := hide (by unfold adm; split <;> (first | omega | (simp; omega)))
          generalize nx la nw = la2 at *
          generalize adm nw la2 (lateL (la2 - wn) rq) = rq2 at *
          generalize lateL (la2 - wn) rt = rt2 at *
          clear h1 h2 hrl hl2 T3
          go_wp2_with fail
          refine HC.out.mono ?_
          rintro e w4 ⟨rfl, d⟩
          have T4 := hide (H2.out _ _ d)
          clear d e0 e1 H2 HC
          have A1 : w4.heap[ew]? = some (stO 0 nw) := by obtain ⟨_, x, _⟩ := T4.out.at0; exact x.1
          have e1 : w4.cell? ⟨ew, 1, none⟩ = some (.int .i64 nw) := cell_of A1 1
          clear A1
          obtain ⟨P, h1, h2⟩ := T4.out.at1
          have H2 := hide h2
          have HC := hide (HC2.out w4 P h1)
          clear h1 h2 HC2
          go_wp2_with fail
          refine HC.out.mono ?_
          rintro e w5 ⟨rfl, d⟩
          have T5 := hide (H2.out _ _ d).drop
          clear d e1 H2 HC T4
          go_wp2_with fail
          go_roundw
          case rel => exact ⟨k + 1, la2, rq2, rt2, by omega, by go_num, R2, K2, T5⟩
          case measure => simp [intOf]; omega
        · have k0' : (kd == 0) = false := by simpa using k0
          obtain ⟨P, h1, h2⟩ := T3.out.at2
          have H2 := hide h2
          have HC := hide (allow_any w3 P b pc mn wn la nw rq rt h1 HK.out)
          have HC2 := hide (fun w P h => allow_any w P c pc mn wn la nw rq rt h HK.out)
          have K2 := hide ((HK.out.nx nw).alw (now := nw))
          have R2 : Hid ((lateL (nx la nw - wn) rq).length ≤ k + 1) := hide (by omega)
          generalize nx la nw = la2 at *
          generalize lateL (la2 - wn) rq = rq2 at *
          generalize lateL (la2 - wn) rt = rt1 at *
          generalize canB pc mn nw rq2.length rt1.length = cc at *
          generalize alw cc la2 rt1 = rt2 at *
          clear h1 h2 hrl hl2 T3
          go_wp2_with fail
          refine HC.out.mono ?_
          rintro e w4 ⟨rfl, d⟩
          have T4 := hide (H2.out _ _ d)
          clear d e0 e1 H2 HC
          have A1 : w4.heap[ew]? = some (stO kd nw) := by obtain ⟨_, x, _⟩ := T4.out.at0; exact x.1
          have e1 : w4.cell? ⟨ew, 1, none⟩ = some (.int .i64 nw) := cell_of A1 1
          clear A1
          obtain ⟨P, h1, h2⟩ := T4.out.at1
          have H2 := hide h2
          have HC := hide (HC2.out w4 P h1)
          clear h1 h2 HC2
          go_wp2_with fail
          refine HC.out.mono ?_
          rintro e w5 ⟨rfl, d⟩
          have T5 := hide (H2.out _ _ d).drop
          clear d e1 H2 HC T4
          go_wp2_with fail
          go_roundw
          case rel => exact ⟨k + 1, la2, rq2, rt2, by omega, by go_num, R2, K2, T5⟩
          case measure => simp [intOf]; omega
      · have ek : k = len := by omega
        subst ek
        have hrl : rq.length < 100000 := by have := HR.out; omega
        have hl2 := lateL_le (nx la now - wn) rq
        have KN := HK.out.nx now
        obtain ⟨P, h1, h2⟩ := HI.out.at0
        have H2 := hide h2
        have HC := hide (admit_any wr P c pc mn wn la now rq rt h1 HK.out hrl)
        have HC2 := hide (fun w P h => can_any w P b pc mn wn la now rq rt h HK.out)
        have K2 := KN.adm now (by omega)
        have HC3 := hide (fun w P h => can_any w P c pc mn wn _ now _ _ h K2)
        rw [nx_nx HK.out.l0 HK.out.l1, K2.keep.1, K2.keep.2] at HC3
        have HM : Hid (canB pc mn now (lateL (nx la now - wn) rq).length (lateL (nx la now - wn) rt).length = true → canB pc mn now (adm now (nx la now) (lateL (nx la now - wn) rq)).length (lateL (nx la now - wn) rt).length = true) := hide (by
          intro h
          have hm : mom now = true := by unfold canB at h; rw [Bool.and_eq_true] at h; exact h.1
          have e : (adm now (nx la now) (lateL (nx la now - wn) rq)).length = (lateL (nx la now - wn) rq).length + 1 := by unfold adm; rw [hm]; simp
          rw [e]
          exact can_more KN.p0 h)
        have hq : bE now = 0 ∨ bE now = 1 := by unfold bE; split <;> simp
        generalize canB pc mn now (lateL (nx la now - wn) rq).length (lateL (nx la now - wn) rt).length = x at *
        generalize canB pc mn now (adm now (nx la now) (lateL (nx la now - wn) rq)).length (lateL (nx la now - wn) rt).length = y at *
        generalize nx la now = la2 at *
        generalize adm now la2 (lateL (la2 - wn) rq) = rq2 at *
        generalize lateL (la2 - wn) rt = rt2 at *
        generalize bE now = ee at *
        clear h1 h2 hrl hl2 K2 KN hst
        go_wp2_with fail
        refine HC.out.mono ?_
        rintro e w4 ⟨rfl, d⟩
        obtain ⟨P, h1, h2⟩ := (H2.out _ _ d).at1
        have H3 := hide h2
        have HD := hide (HC2.out w4 P h1)
        clear d h1 h2 H2 HC HC2
        go_wp2_with fail
        refine HD.out.mono ?_
        rintro e w5 ⟨rfl, d⟩
        obtain ⟨P, h1, h2⟩ := (H3.out _ _ d).at0
        have H4 := hide h2
        have HE := hide (HC3.out w5 P h1)
        clear d h1 h2 H3 HD HC3 HI
        go_wp2_with fail
        refine HE.out.mono ?_
        rintro e w6 ⟨rfl, d⟩
        have T5 := hide (H4.out _ _ d).fr
        clear d H4 HE
        rcases hq with rfl | rfl
        all_goals
          cases x with
          | true =>
            obtain rfl := HM.out rfl
            clear HM
            go_wp2_with (go_at_call 7; refine (speaks_any _).mono ?_; rintro e w9 ⟨rfl, HG⟩)
            go_ret
            exact ⟨rfl, (T5.out.trans HG (fun _ _ x => x)).below (Nat.le_refl _) (fun _ _ x => x)⟩
          | false =>
            clear HM
            go_wp2_with (go_at_call 7; refine (speaks_any _).mono ?_; rintro e w9 ⟨rfl, HG⟩)
            go_ret
            exact ⟨rfl, (T5.out.trans HG (fun _ _ x => x)).below (Nat.le_refl _) (fun _ _ x => x)⟩
  · have HN := hide (fun V => new_bad V pc mn wn hA)
    clear hA
    go_enter Try.func6, Try.ntmps6
    go_wp2_with (first | (go_at_call 8; refine (HN.out _).mono ?_; rintro e w' ⟨rfl, rfl⟩) | (go_at_call 7; refine (speaks_any _).mono ?_; rintro e w9 ⟨rfl, HG⟩))
    go_ret
    exact ⟨rfl, ((Fr.alloc none' W _).trans HG (fun _ _ x => x)).below (Nat.le_refl _) (fun _ _ x => x)⟩
end Go.Proofs.Ytcapicaieacgnaa
