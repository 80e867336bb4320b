/- BudgetSteps, walked. -/
import Derived.Test.YtcapicaieacgnaaMRef
import Derived.Test.YtcapicaieacgnaaMMore
namespace Go.Proofs.Ytcapicaieacgnaa
open Go.ChangeShapes Go.WideShapes Go.ChangeAt Go.RowKit

theorem late_late {x y : Int} (h : x ≤ y) (l : List Int) : lateL y (lateL x l) = lateL y l := by
  unfold lateL
  rw [List.filter_filter]
  congr 1
  funext z
  by_cases hz : y < z
  · have : x < z := by omega
    simp [hz, this]
  · simp [hz]
theorem late_adm {now t wn : Int} (h : 1 ≤ wn) (l : List Int) : adm now t (lateL (t - wn) l) = lateL (t - wn) (adm now t l) := by
  unfold adm
  split
  · unfold lateL
    rw [List.filter_append]
    have : t - wn < t := by omega
    simp [this]
  · rfl
theorem late_alw {c : Bool} {t wn : Int} (h : 1 ≤ wn) (l : List Int) : alw c t (lateL (t - wn) l) = lateL (t - wn) (alw c t l) := by
  unfold alw
  split
  · unfold lateL
    rw [List.filter_append]
    have : t - wn < t := by omega
    simp [this]
  · rfl
theorem adm_len (now t : Int) (l : List Int) : (adm now t l).length ≤ l.length + 1 := by unfold adm; split <;> (first | omega | (simp; done))
theorem alw_len (c : Bool) (t : Int) (l : List Int) : (alw c t l).length ≤ l.length + 1 := by unfold alw; split <;> (first | omega | (simp; done))

/-- The program's budget and the document's, side by side. -/
abbrev DuT (pc mn wn la : Int) (r1 r2 RQ RT : List Int) (a b c : Nat) : Thing := Two (Rb pc mn wn la RQ RT c) (Two (Bd pc mn wn la r1 r2 b) (Two (Blk a (askO pc mn wn)) Nil))
structure Du (pc mn wn la : Int) (RQ RT : List Int) (k : Nat) : Prop where
  o : Ok pc mn wn la (lateL (la - wn) RQ) (lateL (la - wn) RT)
  r : ROk pc mn wn la RQ RT
  k1 : RQ.length ≤ k
  k2 : RT.length ≤ k
theorem Du.nx_ {pc mn wn la : Int} {RQ RT : List Int} {k : Nat} (h : Du pc mn wn la RQ RT k) (now : Int) : Du pc mn wn (nx la now) RQ RT k ∧ lateL (nx la now - wn) (lateL (la - wn) RQ) = lateL (nx la now - wn) RQ ∧ lateL (nx la now - wn) (lateL (la - wn) RT) = lateL (nx la now - wn) RT := by
  have g := nx_ge la now
  have e1 := late_late (show la - wn ≤ nx la now - wn by omega) RQ
  have e2 := late_late (show la - wn ≤ nx la now - wn by omega) RT
  have o := h.o.nx now
  rw [e1, e2] at o
  exact ⟨⟨o, h.r.nx now, h.k1, h.k2⟩, e1, e2⟩
theorem Du.adm_ {pc mn wn la : Int} {RQ RT : List Int} {k : Nat} (h : Du pc mn wn la RQ RT k) (hk : k < 90000) (now : Int) : Du pc mn wn la (adm now la RQ) RT (k + 1) := by
  have o := h.o.adm now (by have := lateL_le (la - wn) RQ; have := h.k1; omega)
  rw [late_adm h.o.w0] at o
  have := adm_len now la RQ
  have := h.k1
  have := h.k2
  exact ⟨o, ⟨h.r.p0, h.r.p1, h.r.m0, h.r.m1, h.r.w0, h.r.w1, h.r.l0, h.r.l1, by omega, by omega⟩, by omega, by omega⟩
theorem Du.alw_ {pc mn wn la now : Int} {RQ RT : List Int} {k : Nat} (h : Du pc mn wn la RQ RT k) (hk : k < 90000) : Du pc mn wn la RQ (alw (canB pc mn now (lateL (la - wn) RQ).length (lateL (la - wn) RT).length) la RT) (k + 1) := by
  have o := h.o.alw (now := now)
  rw [late_alw h.o.w0] at o
  have := alw_len (canB pc mn now (lateL (la - wn) RQ).length (lateL (la - wn) RT).length) la RT
  have := h.k1
  have := h.k2
  exact ⟨o, ⟨h.r.p0, h.r.p1, h.r.m0, h.r.m1, h.r.w0, h.r.w1, h.r.l0, h.r.l1, by omega, by omega⟩, by omega, by omega⟩
def pk (x : Bool) (l1 l2 : List Int) : List Int := if x then l1 else l2
/-- Which of the two were told of the request already. -/
def S2 (W : World) (pc mn wn la kd nw : Int) (q1 q2 RT R1 R2 r2 : List Int) (a b c ew : Nat) (x y : Bool) (w : World) : Prop := Top (Two (Blk ew (stO kd nw)) (DuT pc mn wn la (pk x q2 q1) r2 (pk y R2 R1) RT a b c)) W w
theorem S2.cell {W : World} {pc mn wn la kd nw : Int} {q1 q2 RT R1 R2 r2 : List Int} {a b c ew : Nat} {x y : Bool} {w : World} (h : S2 W pc mn wn la kd nw q1 q2 RT R1 R2 r2 a b c ew x y w) : w.cell? ⟨ew, 1, none⟩ = some (.int .i64 nw) := by
  obtain ⟨_, z, _⟩ := h.at0
  exact cell_of z.1 1

set_option maxHeartbeats 4000000 in
set_option maxRecDepth 100000 in
theorem steps_walk (pc mn wn : Int) (ad : Option Addr) (len cap : Nat) (W : World) (hlen : len < 17592186044416)
    (hst : Hid (∀ i, i < len → ∃ b off, ∃ (x0 : Int) (x1 : Int), ad = some ⟨b, off, none⟩ ∧ (W.cell? ⟨b, off + i * 2, none⟩ = some (.int .i64 x0) ∧ W.cell? ⟨b, off + i * 2 + 1, none⟩ = some (.int .i64 x1)) ∧ b < W.heap.size ∧ (-9223372036854775808 ≤ x0 ∧ x0 ≤ 9223372036854775807) ∧ (-9223372036854775808 ≤ x1 ∧ x1 ≤ 9223372036854775807))) :
    Calls Try.prog 3 #[.agg #[.int .i64 pc, .int .i64 mn, .int .i64 wn], .slice ad len cap] W fun e w' => e = .returned (.bool true) ∧ Below W.heap.size W w' := by
  by_cases h1000 : 2000 < len
  · have hh : (2000 : Int) < (len : Int) := by omega
    go_enter Try.func3, Try.ntmps3
    go_wp2_with (go_at_call 7; refine (speaks_any _).mono ?_; rintro e w9 ⟨rfl, HG⟩)
    go_ret
    exact ⟨rfl, ((Fr.alloc none' W _).trans HG (fun _ _ x => x)).below (Nat.le_refl _) (fun _ _ x => x)⟩
  have hh : ¬ (2000 : Int) < (len : Int) := by omega
  by_cases hA : okA pc mn wn
  · have HN := hide (fun V => new_any V pc mn wn hA)
    have HN2 := hide (fun V => rnew_any V pc mn wn hA)
    have D0 : Hid (Du pc mn wn 0 [] [] 0) := hide ⟨hA.ok, ⟨hA.1.1, hA.1.2, hA.2.1.1, hA.2.1.2, hA.2.2.1, hA.2.2.2, by omega, by omega, by simp, by simp⟩, by simp, by simp⟩
    clear hA
    go_enter Try.func3, Try.ntmps3
    go_wp2_with fail
    have T0 : Hid (Top (Two (Blk W.heap.size (askO pc mn wn)) Nil) W (W.alloc (askO pc mn wn))) := hide ((Top.nil W).put (Blk.new W _))
    generalize W.alloc (askO pc mn wn) = W1 at T0 ⊢
    obtain ⟨a, Ha⟩ : ∃ a, Hid (W.heap.size = a) := ⟨_, hide rfl⟩
    rw [Ha.out] at T0 ⊢
    refine (HN.out W1).mono ?_
    rintro e w1 ⟨rfl, d⟩
    have T1 := hide (T0.out.put d)
    clear d T0
    generalize W1.heap.size = b at *
    have A1 : w1.heap[a]? = some (askO pc mn wn) := by obtain ⟨_, x, _⟩ := T1.out.at1; exact x.1
    have c0 : w1.cell? ⟨a, 0, none⟩ = some (.int .i64 pc) := cell_of A1 0
    have c1 : w1.cell? ⟨a, 1, none⟩ = some (.int .i64 mn) := cell_of A1 1
    have c2 : w1.cell? ⟨a, 2, none⟩ = some (.int .i64 wn) := cell_of A1 2
    clear A1
    go_wp2_with fail
    refine (HN2.out w1).mono ?_
    rintro e w2 ⟨rfl, d⟩
    have T2 := hide (T1.out.put d)
    clear d T1 c0 c1 c2 HN
    generalize w1.heap.size = c at *
    go_wp2_with fail
    go_loopw [64] (fun v wr => ∃ (k : Nat) (la : Int) (RQ RT : List Int), k ≤ len ∧ v = .int .i64 (k : Int) ∧ Hid (Du pc mn wn la RQ RT k) ∧ Hid (Top (DuT pc mn wn la (lateL (la - wn) RQ) (lateL (la - wn) RT) RQ RT a b c) W wr)) (fun v _ => len - (intOf v).toNat)
    case atStart => exact ⟨0, 0, [], [], Nat.zero_le _, rfl, D0, T2⟩
    case round =>
      clear T2 D0
      obtain ⟨k, la, RQ, RT, hk, rfl, HD, HI⟩ := hrel
      by_cases hlt : k < len
      · obtain ⟨pb, off, kd, nw, rfl, ⟨hc0, hc1⟩, hb, -, hn0, hn1⟩ := hst.out k hlt
        have e0 : wr.cell? ⟨pb, off + k * 2, none⟩ = some (.int .i64 kd) := (World.cell?_of_block (HI.out.fr.block pb hb id)).trans hc0
        have e1 : wr.cell? ⟨pb, off + k * 2 + 1, none⟩ = some (.int .i64 nw) := (World.cell?_of_block (HI.out.fr.block pb hb id)).trans hc1
        clear hc0 hc1 hst hb
        go_upto_region 12 with fail
        have T3 : Hid (Top (Two (Blk wr.heap.size (stO kd nw)) (DuT pc mn wn la (lateL (la - wn) RQ) (lateL (la - wn) RT) RQ RT a b c)) W (wr.alloc (stO kd nw))) := hide (HI.out.put (Blk.new wr _))
        generalize wr.alloc (stO kd nw) = w3 at T3 ⊢
        generalize wr.heap.size = ew at *
        clear e0 e1 HI
        have A1 : w3.heap[ew]? = some (stO kd nw) := by obtain ⟨_, x, _⟩ := T3.out.at0; exact x.1
        have e1 : w3.cell? ⟨ew, 1, none⟩ = some (.int .i64 nw) := cell_of A1 1
        clear A1
        obtain ⟨P, h1, h2⟩ := T3.out.at2
        have H2 := hide h2
        obtain ⟨D1, q1, q2⟩ := HD.out.nx_ nw
        have HC := hide (can_any w3 P b pc mn wn la nw _ _ h1 HD.out.o)
        rw [q1, q2] at HC
        have HC2 := hide (fun w P h => rcan_any w P c pc mn wn la nw RQ RT h HD.out.r)
        have HD1 := hide D1
        have HNN := hide (nx_nx (now := nw) HD.out.r.l0 HD.out.r.l1)
        generalize canB pc mn nw (lateL (nx la nw - wn) RQ).length (lateL (nx la nw - wn) RT).length = cc at *
        generalize nx la nw = la2 at *
        have HEE : Hid (bE nw = bE nw) := hide rfl
        clear h1 h2 T3 HD D1 q1 q2 HEE
        go_wp2_with fail
        refine HC.out.mono ?_
        rintro e w4 ⟨rfl, d⟩
        have T4 := hide (H2.out _ _ d)
        clear d e1 H2 HC
        have A1 : w4.heap[ew]? = some (stO kd nw) := by obtain ⟨_, x, _⟩ := T4.out.at0; exact x.1
        have e1 : w4.cell? ⟨ew, 1, none⟩ = some (.int .i64 nw) := cell_of A1 1
        clear A1
        obtain ⟨P, h1, h2⟩ := T4.out.at1
        have H2 := hide h2
        have HC := hide (HC2.out w4 P h1)
        clear h1 h2 HC2
        go_wp2_with fail
        refine HC.out.mono ?_
        rintro e w5 ⟨rfl, d⟩
        have T5 := hide (H2.out _ _ d)
        clear d e1 H2 HC T4
        have A1 : w5.heap[ew]? = some (stO kd nw) := by obtain ⟨_, x, _⟩ := T5.out.at0; exact x.1
        have e0 : w5.cell? ⟨ew, 0, none⟩ = some (.int .i64 kd) := cell_of A1 0
        have e1 : w5.cell? ⟨ew, 1, none⟩ = some (.int .i64 nw) := cell_of A1 1
        clear A1
        have hk9 : k < 90000 := by omega
        obtain ⟨ee, HEE⟩ : ∃ ee, Hid (bE nw = ee) := ⟨_, hide rfl⟩
        rw [HEE.out]
        by_cases k0 : kd = 0
        · subst k0
          have HD2 := hide (HD1.out.adm_ hk9 nw)
          have HX := hide (fun (w : World) (P : Nat → Prop) h => admit_any w P b pc mn wn la2 nw (lateL (la2 - wn) RQ) (lateL (la2 - wn) RT) h HD1.out.o (by have := lateL_le (la2 - wn) RQ; have := HD1.out.k1; omega))
          rw [HNN.out, HD1.out.o.keep.1, HD1.out.o.keep.2, late_adm HD1.out.o.w0, HEE.out] at HX
          have HY := hide (fun (w : World) (P : Nat → Prop) h => radmit_any w P c pc mn wn la2 nw RQ RT h HD1.out.r (by have := HD1.out.k1; omega))
          rw [HNN.out, HEE.out] at HY
          have HC : Hid (∀ w y, S2 W pc mn wn la2 0 nw (lateL (la2 - wn) RQ) (lateL (la2 - wn) (adm nw la2 RQ)) RT RQ (adm nw la2 RQ) (lateL (la2 - wn) RT) a b c ew false y w → Calls Try.prog 12 #[.pointer (some ⟨b, 0, none⟩), .int .i64 nw] w (fun e w' => ∃ r, e = .returned r ∧ (r = .int .i64 ee ∧ S2 W pc mn wn la2 0 nw (lateL (la2 - wn) RQ) (lateL (la2 - wn) (adm nw la2 RQ)) RT RQ (adm nw la2 RQ) (lateL (la2 - wn) RT) a b c ew true y w'))) := hide (by
            intro w y h
            obtain ⟨P, h1, h2⟩ := Top.at2 h
            refine (HX.out w P h1).mono ?_
            rintro e w' ⟨rfl, d⟩
            exact ⟨_, rfl, rfl, h2 _ _ d⟩)
          have HR : Hid (∀ w x, S2 W pc mn wn la2 0 nw (lateL (la2 - wn) RQ) (lateL (la2 - wn) (adm nw la2 RQ)) RT RQ (adm nw la2 RQ) (lateL (la2 - wn) RT) a b c ew x false w → Calls Try.prog 13 #[.pointer (some ⟨c, 0, none⟩), .int .i64 nw] w (fun e w' => ∃ r, e = .returned r ∧ (r = .int .i64 ee ∧ S2 W pc mn wn la2 0 nw (lateL (la2 - wn) RQ) (lateL (la2 - wn) (adm nw la2 RQ)) RT RQ (adm nw la2 RQ) (lateL (la2 - wn) RT) a b c ew x true w'))) := hide (by
            intro w x h
            obtain ⟨P, h1, h2⟩ := Top.at1 h
            refine (HY.out w P h1).mono ?_
            rintro e w' ⟨rfl, d⟩
            exact ⟨_, rfl, rfl, h2 _ _ d⟩)
          have HG : Hid (S2 W pc mn wn la2 0 nw (lateL (la2 - wn) RQ) (lateL (la2 - wn) (adm nw la2 RQ)) RT RQ (adm nw la2 RQ) (lateL (la2 - wn) RT) a b c ew false false w5.drew) := hide (Top.same T5.out (Fr.drew _ _))
          clear HX HY T5 HD1 HNN HEE
          generalize adm nw la2 RQ = R2 at *
          go_wp2_with fail
          go_region_law (first
            | (refine step_call rfl 12 _ _ rfl (enters_of Try.func12 (by kernel_rfl) rfl) #[.pointer (some ⟨b, 0, none⟩), .int .i64 nw] (by simp [Act.eval]) _ (HC.out _ _ HG.out) ?_; rintro r W9 ⟨rfl, hg⟩; have e1 := hg.cell; replace HG := hide hg; clear hg)
            | (refine step_call rfl 13 _ _ rfl (enters_of Try.func13 (by kernel_rfl) rfl) #[.pointer (some ⟨c, 0, none⟩), .int .i64 nw] (by simp [Act.eval]) _ (HR.out _ _ HG.out) ?_; rintro r W9 ⟨rfl, hg⟩; have e1 := hg.cell; replace HG := hide hg; clear hg))
          all_goals (
            have T7 := hide (Top.drop HG.out)
            clear HG HC HR e0 e1
            go_wp2_with fail
            go_roundw
            case rel => exact ⟨k + 1, la2, R2, RT, by omega, by go_num, HD2, T7⟩
            case measure => simp [intOf]; omega)
        by_cases k1 : kd = 1
        · have k0' : (kd == 0) = false := by simpa using k0
          have k1' : (kd == 1) = true := by simpa using k1
          have HD2 := hide (HD1.out.alw_ (now := nw) hk9)
          have HX := hide (fun (w : World) (P : Nat → Prop) h => allow_any w P b pc mn wn la2 nw (lateL (la2 - wn) RQ) (lateL (la2 - wn) RT) h HD1.out.o)
          rw [HNN.out, HD1.out.o.keep.1, HD1.out.o.keep.2, late_alw HD1.out.o.w0, HEE.out] at HX
          have HY := hide (fun (w : World) (P : Nat → Prop) h => rallow_any w P c pc mn wn la2 nw RQ RT h HD1.out.r)
          rw [HNN.out, HEE.out] at HY
          clear HD1 HNN HEE
          generalize canB pc mn nw (lateL (la2 - wn) RQ).length (lateL (la2 - wn) RT).length = c2 at *
          generalize alw c2 la2 RT = R2 at *
          go_wp2_with fail
          obtain ⟨P, h1, h2⟩ := T5.out.at2
          have H2 := hide h2
          have HC := hide (HX.out w5 P h1)
          clear h1 h2 HX
          refine HC.out.mono ?_
          rintro e w6 ⟨rfl, d⟩
          have T6 := hide (H2.out _ _ d)
          clear d e0 e1 H2 HC
          have A1 : w6.heap[ew]? = some (stO kd nw) := by obtain ⟨_, x, _⟩ := T6.out.at0; exact x.1
          have e1 : w6.cell? ⟨ew, 1, none⟩ = some (.int .i64 nw) := cell_of A1 1
          clear A1
          obtain ⟨P, h1, h2⟩ := T6.out.at1
          have H2 := hide h2
          have HC := hide (HY.out w6 P h1)
          clear h1 h2 HY
          go_wp2_with fail
          refine HC.out.mono ?_
          rintro e w7 ⟨rfl, d⟩
          have T7 := hide (H2.out _ _ d).drop
          clear d e1 H2 HC T6
          go_wp2_with fail
          go_roundw
          case rel => exact ⟨k + 1, la2, RQ, R2, by omega, by go_num, HD2, T7⟩
          case measure => simp [intOf]; omega
        · have k0' : (kd == 0) = false := by simpa using k0
          have k1' : (kd == 1) = false := by simpa using k1
          have HD2 : Hid (Du pc mn wn la2 RQ RT (k + 1)) := hide ⟨HD1.out.o, HD1.out.r, by have := HD1.out.k1; omega, by have := HD1.out.k2; omega⟩
          have HX := hide (fun (w : World) (P : Nat → Prop) h => latet_any w P b pc mn wn la2 nw (lateL (la2 - wn) RQ) (lateL (la2 - wn) RT) h HD1.out.o)
          rw [HNN.out, HD1.out.o.keep.1, HD1.out.o.keep.2, HEE.out] at HX
          have HY := hide (fun (w : World) (P : Nat → Prop) h => rlate_any w P c pc mn wn la2 nw RQ RT h HD1.out.r)
          rw [HNN.out, HEE.out] at HY
          clear HD1 HNN HEE
          generalize nN nw (lateL (la2 - wn) RQ) = n1 at *
          generalize nN nw (lateL (la2 - wn) RT) = n2 at *
          go_wp2_with fail
          obtain ⟨P, h1, h2⟩ := T5.out.at2
          have H2 := hide h2
          have HC := hide (HX.out w5 P h1)
          clear h1 h2 HX
          refine HC.out.mono ?_
          rintro e w6 ⟨rfl, d⟩
          have T6 := hide (H2.out _ _ d)
          clear d e0 e1 H2 HC
          have A1 : w6.heap[ew]? = some (stO kd nw) := by obtain ⟨_, x, _⟩ := T6.out.at0; exact x.1
          have e1 : w6.cell? ⟨ew, 1, none⟩ = some (.int .i64 nw) := cell_of A1 1
          clear A1
          obtain ⟨P, h1, h2⟩ := T6.out.at1
          have H2 := hide h2
          have HC := hide (HY.out w6 P h1)
          clear h1 h2 HY
          go_wp2_with fail
          refine HC.out.mono ?_
          rintro e w7 ⟨rfl, d⟩
          have T7 := hide (H2.out _ _ d).drop
          clear d e1 H2 HC T6
          go_wp2_with fail
          go_roundw
          case rel => exact ⟨k + 1, la2, RQ, RT, by omega, by go_num, HD2, T7⟩
          case measure => simp [intOf]; omega
      · have ek : k = len := by omega
        subst ek
        go_wp2_with (go_at_call 7; refine (speaks_any _).mono ?_; rintro e w9 ⟨rfl, HG⟩)
        go_ret
        exact ⟨rfl, (HI.out.fr.trans HG (fun _ _ x => x)).below (Nat.le_refl _) (fun _ _ x => x)⟩
  · have HN := hide (fun V => new_bad V pc mn wn hA)
    have HN2 := hide (fun V => rnew_bad V pc mn wn hA)
    clear hA
    go_enter Try.func3, Try.ntmps3
    go_wp2_with (first | (go_at_call 8; refine (HN.out _).mono ?_; rintro e w' ⟨rfl, rfl⟩) | (go_at_call 9; refine (HN2.out _).mono ?_; rintro e w' ⟨rfl, rfl⟩) | (go_at_call 7; refine (speaks_any _).mono ?_; rintro e w9 ⟨rfl, HG⟩))
    go_ret
    exact ⟨rfl, ((Fr.alloc none' W _).trans HG (fun _ _ x => x)).below (Nat.le_refl _) (fun _ _ x => x)⟩
end Go.Proofs.Ytcapicaieacgnaa
