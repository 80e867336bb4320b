/- BudgetWindow, walked. -/
import Derived.Test.YtcapicaieacgnaaMSteps
namespace Go.Proofs.Ytcapicaieacgnaa
open Go.ChangeShapes Go.WideShapes Go.ChangeAt Go.RowKit

/-- A row that the statement itself keeps. -/
def Row (v : Value) (l : List Int) : Thing := fun w P => Sr w v l ∧ ∀ k, P k ↔ v.ownBlock = some k
instance Row.ob (v : Value) (l : List Int) : Ob (Row v l) := ⟨fun _ _ _ _ h F d => ⟨h.1.fr F (fun k hk => d k ((h.2 k).2 hk)), h.2⟩, fun _ _ k h hk => h.1.lt ((h.2 k).1 hk)⟩
theorem Row.new (w : World) : Does (Row (.slice none 0 0) []) none' w w := ⟨fun _ => False, ⟨.inl ⟨rfl, rfl⟩, fun k => by simp [Value.ownBlock]⟩, Fr.refl _ _, fun k hk => hk.elim⟩
theorem Row.app {v v' : Value} {l l' : List Int} {w w' : World} {P : Nat → Prop} (h : Row v l w P) (s : Sr w' v' l') (F : Fr (fun k => v.ownBlock = some k) w w') (o : ∀ k, v'.ownBlock = some k → v.ownBlock = some k ∨ w.heap.size ≤ k) : Does (Row v' l') P w w' :=
  ⟨fun k => v'.ownBlock = some k, ⟨s, fun _ => Iff.rfl⟩, F.mono (fun k _ hk => (h.2 k).2 hk), fun k hk => (o k hk).imp (h.2 k).2 id⟩
abbrev WT (pc mn wn la : Int) (RQ RT : List Int) (v1 v2 : Value) (a b : Nat) : Thing := Two (Row v2 RT) (Two (Row v1 RQ) (Two (Bd pc mn wn la (lateL (la - wn) RQ) (lateL (la - wn) RT) b) (Two (Blk a (askO pc mn wn)) Nil)))
theorem nx_up {la now : Int} (h0 : 0 ≤ la) (h1 : la ≤ now) (h2 : now ≤ 2305843009213693952) : nx la now = now := by
  unfold nx untR; split <;> omega
theorem can_at {pc mn now : Int} {n m : Nat} (hm : mom now = true) : canB pc mn now n m = (decide ((m : Int) + 1 ≤ mn) || decide (((m : Int) + 1) * 100 ≤ pc * n)) := by unfold canB; rw [hm]; rfl
theorem Row.get {v : Value} {l : List Int} {w : World} {P : Nat → Prop} (h : Row v l w P) : ∃ a cap, v = .slice a l.length cap ∧ l.length ≤ cap ∧ cap ≤ 9223372036854775807 := h.1.shape

set_option maxHeartbeats 16000000 in
set_option maxRecDepth 100000 in
theorem window_walk (pc mn wn : Int) (ad : Option Addr) (len cap : Nat) (W : World) (hlen : len < 17592186044416)
    (hst : Hid (∀ i, i < len → ∃ b off, ∃ (x0 : Int) (x1 : Int), ad = some ⟨b, off, none⟩ ∧ (W.cell? ⟨b, off + i * 2, none⟩ = some (.int .i64 x0) ∧ W.cell? ⟨b, off + i * 2 + 1, none⟩ = some (.int .i64 x1)) ∧ b < W.heap.size ∧ (-9223372036854775808 ≤ x0 ∧ x0 ≤ 9223372036854775807) ∧ (-9223372036854775808 ≤ x1 ∧ x1 ≤ 9223372036854775807))) :
    Calls Try.prog 4 #[.agg #[.int .i64 pc, .int .i64 mn, .int .i64 wn], .slice ad len cap] W fun e w' => e = .returned (.bool true) ∧ Below W.heap.size W w' := by
  by_cases h1000 : 2000 < len
  · have hh : (2000 : Int) < (len : Int) := by omega
    go_enter Try.func4, Try.ntmps4
    go_wp2_with (go_at_call 7; refine (speaks_any _).mono ?_; rintro e w9 ⟨rfl, HG⟩)
    go_ret
    exact ⟨rfl, ((Fr.alloc none' W _).trans HG (fun _ _ x => x)).below (Nat.le_refl _) (fun _ _ x => x)⟩
  have hh : ¬ (2000 : Int) < (len : Int) := by omega
  by_cases hA : okA pc mn wn
  · have HN := hide (fun V => new_any V pc mn wn hA)
    have D0 : Hid (Du pc mn wn 0 [] [] 0) := hide ⟨hA.ok, ⟨hA.1.1, hA.1.2, hA.2.1.1, hA.2.1.2, hA.2.2.1, hA.2.2.2, by omega, by omega, by simp, by simp⟩, by simp, by simp⟩
    clear hA
    go_enter Try.func4, Try.ntmps4
    go_wp2_with fail
    have T0 : Hid (Top (Two (Blk W.heap.size (askO pc mn wn)) Nil) W (W.alloc (askO pc mn wn))) := hide ((Top.nil W).put (Blk.new W _))
    generalize W.alloc (askO pc mn wn) = W1 at T0 ⊢
    obtain ⟨a, Ha⟩ : ∃ a, Hid (W.heap.size = a) := ⟨_, hide rfl⟩
    rw [Ha.out] at T0 ⊢
    refine (HN.out W1).mono ?_
    rintro e w1 ⟨rfl, d⟩
    have T1 : Hid (Top (WT pc mn wn 0 [] [] (.slice none 0 0) (.slice none 0 0) a W1.heap.size) W w1) := hide (((T0.out.put d).put (Row.new w1)).put (Row.new w1))
    clear d T0 HN
    generalize W1.heap.size = b at *
    go_wp2_with fail
    go_loopw [7, 8, 9, 47] (fun s7 s8 s9 v wr => ∃ (k : Nat) (la now : Int) (RQ RT : List Int), k ≤ len ∧ v = .int .i64 (k : Int) ∧ s7 = .int .i64 now ∧ Hid (0 ≤ la ∧ la ≤ now ∧ now ≤ 2305843009213693952) ∧ Hid (RQ.length ≤ 1000) ∧ Hid (Du pc mn wn la RQ RT k) ∧ Hid (Top (WT pc mn wn la RQ RT s8 s9 a b) W wr)) (fun _ _ _ v _ => len - (intOf v).toNat)
    case atStart => exact ⟨0, 0, 0, [], [], Nat.zero_le _, rfl, rfl, hide ⟨by omega, by omega, by omega⟩, hide (Nat.zero_le _), D0, T1⟩
    case round =>
      clear T1 D0
      obtain ⟨k, la, now, RQ, RT, hk, rfl, rfl, HL, HR, HD, HI⟩ := hrel
      obtain ⟨a1, cap1, rfl, g1, g2⟩ : ∃ a cap, u8 = .slice a RQ.length cap ∧ RQ.length ≤ cap ∧ cap ≤ 9223372036854775807 := by obtain ⟨_, x, _⟩ := HI.out.at1; exact x.get
      obtain ⟨a2, cap2, rfl, g3, g4⟩ : ∃ a cap, u9 = .slice a RT.length cap ∧ RT.length ≤ cap ∧ cap ≤ 9223372036854775807 := by obtain ⟨_, x, _⟩ := HI.out.at0; exact x.get
      by_cases hlt : k < len
      · obtain ⟨pb, off, kd, nw, rfl, ⟨hc0, hc1⟩, hb, -, hn0, hn1⟩ := hst.out k hlt
        have e0 : wr.cell? ⟨pb, off + k * 2, none⟩ = some (.int .i64 kd) := (World.cell?_of_block (HI.out.fr.block pb hb id)).trans hc0
        have e1 : wr.cell? ⟨pb, off + k * 2 + 1, none⟩ = some (.int .i64 nw) := (World.cell?_of_block (HI.out.fr.block pb hb id)).trans hc1
        clear hc0 hc1 hst hb
        go_upto_region 11 with fail
        have T3 : Hid (Top (Two (Blk wr.heap.size (stO kd nw)) (WT pc mn wn la RQ RT (.slice a1 RQ.length cap1) (.slice a2 RT.length cap2) a b)) W (wr.alloc (stO kd nw))) := hide (HI.out.put (Blk.new wr _))
        generalize wr.alloc (stO kd nw) = w3 at T3 ⊢
        generalize wr.heap.size = ew at *
        clear e0 e1 HI
        have A1 : w3.heap[ew]? = some (stO kd nw) := by obtain ⟨_, x, _⟩ := T3.out.at0; exact x.1
        have e0 : w3.cell? ⟨ew, 0, none⟩ = some (.int .i64 kd) := cell_of A1 0
        have e1 : w3.cell? ⟨ew, 1, none⟩ = some (.int .i64 nw) := cell_of A1 1
        clear A1
        have hk9 : k < 90000 := by omega
        have hq : ∃ t, (la ≤ t ∧ t ≤ 2305843009213693952) ∧ ((now < nw ∧ nw ≤ 2305843009213693952 ∧ t = nw) ∨ (nw ≤ now ∧ t = now) ∨ (now < nw ∧ 2305843009213693952 < nw ∧ t = now)) := by
          have := HL.out
          by_cases x : now < nw
          · by_cases y : nw ≤ 2305843009213693952
            · exact ⟨nw, by omega, .inl ⟨x, y, rfl⟩⟩
            · exact ⟨now, by omega, .inr (.inr ⟨x, by omega, rfl⟩)⟩
          · exact ⟨now, by omega, .inr (.inl ⟨by omega, rfl⟩)⟩
        obtain ⟨t, ⟨t0, t1⟩, hq⟩ := hq
        have l0 := HL.out.1
        have HNX := hide (nx_up l0 t0 t1)
        have hmt : mom t = true := mom_yes (by omega) (by omega)
        have HBE : Hid (bE t = 0) := hide (by unfold bE; rw [hmt]; rfl)
        have HMT := hide hmt
        have HTT : Hid (0 ≤ t ∧ t ≤ t ∧ t ≤ 2305843009213693952) := hide ⟨by omega, by omega, t1⟩
        obtain ⟨DD, q1, q2⟩ := HD.out.nx_ t
        rw [HNX.out] at DD q1 q2
        have HDD := hide DD
        have HQ1 := hide q1
        have HQ2 := hide q2
        clear DD q1 q2 hmt HL
        by_cases k0 : kd = 0
        · subst k0
          by_cases hr : RQ.length < 1000
          · have hr2 : ((RQ.length : Nat) : Int) < 1000 := by omega
            have HD2 := hide (HDD.out.adm_ hk9 t)
            have HX := hide (fun (w : World) (P : Nat → Prop) h => admit_any w P b pc mn wn la t (lateL (la - wn) RQ) (lateL (la - wn) RT) h HD.out.o (by have := lateL_le (la - wn) RQ; omega))
            rw [HNX.out, HQ1.out, HQ2.out, late_adm HDD.out.o.w0, HBE.out] at HX
            have eA : adm t t RQ = RQ ++ [t] := by unfold adm; rw [HMT.out]; rfl
            rw [eA] at HX HD2
            have HR2 : Hid ((RQ ++ [t]).length ≤ 1000) := hide (by simp; omega)
            have hr3 : RQ.length < 1000000 := by omega
            obtain ⟨n1, Hn1⟩ : ∃ n1, Hid (RQ.length = n1) := ⟨_, hide rfl⟩
            rw [Hn1.out] at T3 hr2 g1 ⊢
            have Hr3 := hide hr3
            clear hr3 eA HDD HQ1 HQ2 HMT HBE HNX hr
            rcases hq with ⟨y0, y1, rfl⟩ | ⟨y0, rfl⟩ | ⟨y0, y1, rfl⟩
            all_goals
              go_wp2_with fail
              obtain ⟨P, h1, h2⟩ := T3.out.at3
              have H2 := hide h2
              have HC := hide (HX.out w3 P h1)
              clear h1 h2 HX
              refine HC.out.mono ?_
              rintro e w5 ⟨rfl, d⟩
              have T5 := hide (H2.out _ _ d).drop
              clear d H2 HC e0 e1 T3
              obtain ⟨P, h1, h2⟩ := T5.out.at1
              have HS := hide h1.1
              have H2 := hide h2
              have H1 := hide h1
              clear h1 h2
              go_wp2_with (at_builtin; apply Hid.out)
              unfold Hid
              refine wpList_append_sr rfl _ _ rfl w5 (.slice a1 n1 cap1) RQ _ rfl (by simp [Act.eval, go_sem]) HS.out Hr3.out ?_
              intro v' W6 r1 F o
              have T6 := hide (H2.out _ _ (H1.out.app r1 F o))
              clear r1 F o H1 H2 HS T5
              go_wp2_with fail
              go_roundw
              case rel => exact ⟨k + 1, _, _, _, _, by omega, by go_num, rfl, HTT, HR2, HD2, T6⟩
              case measure => simp [intOf]; omega
          · have hr2 : ¬ ((RQ.length : Nat) : Int) < 1000 := by omega
            have HLL : Hid (0 ≤ la ∧ la ≤ t ∧ t ≤ 2305843009213693952) := hide ⟨l0, t0, t1⟩
            have HD2 : Hid (Du pc mn wn la RQ RT (k + 1)) := hide ⟨HD.out.o, HD.out.r, by have := HD.out.k1; omega, by have := HD.out.k2; omega⟩
            have T4 := hide T3.out.drop
            obtain ⟨n1, Hn1⟩ : ∃ n1, Hid (RQ.length = n1) := ⟨_, hide rfl⟩
            rw [Hn1.out] at T4 T3 hr2 g1 ⊢
            clear HDD HQ1 HQ2 HMT HBE HNX hr T3
            rcases hq with ⟨y0, y1, rfl⟩ | ⟨y0, rfl⟩ | ⟨y0, y1, rfl⟩
            all_goals
              go_wp2_with fail
              go_roundw
              case rel => exact ⟨k + 1, _, _, _, _, by omega, by go_num, rfl, HLL, HR, HD2, T4⟩
              case measure => simp [intOf]; omega
        · have k0' : (kd == 0) = false := by simpa using k0
          have HD2 := hide (HDD.out.alw_ (now := t) hk9)
          have HX := hide (fun (w : World) (P : Nat → Prop) h => allow_any w P b pc mn wn la t (lateL (la - wn) RQ) (lateL (la - wn) RT) h HD.out.o)
          rw [HNX.out, HQ1.out, HQ2.out, late_alw HDD.out.o.w0, HBE.out] at HX
          have HCA := hide (can_at (pc := pc) (mn := mn) (n := (lateL (t - wn) RQ).length) (m := (lateL (t - wn) RT).length) HMT.out)
          have HTK1 := hide (fun i (hi : i < RQ.length) => late_take (x := t - wn) hi)
          have HTK2 := hide (fun i (hi : i < RT.length) => late_take (x := t - wn) hi)
          have w0 := HD.out.r.w0
          have w1 := HD.out.r.w1
          have p0 := HD.out.r.p0
          have p1 := HD.out.r.p1
          have m0 := HD.out.r.m0
          have m1 := HD.out.r.m1
          have z1 := HDD.out.k1
          have z2 := HDD.out.k2
          clear HDD HQ1 HQ2 HMT HBE HNX HD
          obtain ⟨cc, HCC⟩ : ∃ cc, Hid (canB pc mn t (lateL (t - wn) RQ).length (lateL (t - wn) RT).length = cc) := ⟨_, hide rfl⟩
          rw [HCC.out] at HX HD2 HCA
          rcases hq with ⟨y0, y1, rfl⟩ | ⟨y0, rfl⟩ | ⟨y0, y1, rfl⟩
          all_goals
            go_wp2_with fail
            obtain ⟨P, h1, h2⟩ := T3.out.at3
            have H2 := hide h2
            have HC := hide (HX.out w3 P h1)
            clear h1 h2 HX
            refine HC.out.mono ?_
            rintro e w5 ⟨rfl, d⟩
            have T5 := hide (H2.out _ _ d).drop
            clear d H2 HC e0 e1 T3
            have A1 : w5.heap[a]? = some (askO pc mn wn) := by obtain ⟨_, x, _⟩ := T5.out.at3; exact x.1
            have c0 : w5.cell? ⟨a, 0, none⟩ = some (.int .i64 pc) := cell_of A1 0
            have c1 : w5.cell? ⟨a, 1, none⟩ = some (.int .i64 mn) := cell_of A1 1
            have c2 : w5.cell? ⟨a, 2, none⟩ = some (.int .i64 wn) := cell_of A1 2
            clear A1
            have HS1 : Hid (Sr w5 (.slice a1 RQ.length cap1) RQ) := by obtain ⟨_, x, _⟩ := T5.out.at1; exact hide x.1
            have HS2 : Hid (Sr w5 (.slice a2 RT.length cap2) RT) := by obtain ⟨_, x, _⟩ := T5.out.at0; exact hide x.1
            obtain ⟨n1, Hn1⟩ : ∃ n1, Hid (RQ.length = n1) := ⟨_, hide rfl⟩
            obtain ⟨n2, Hn2⟩ : ∃ n2, Hid (RT.length = n2) := ⟨_, hide rfl⟩
            rw [Hn1.out] at HS1 T5 g1 z1 ⊢
            rw [Hn2.out] at HS2 T5 g3 z2 ⊢
            go_wp2_with fail
            go_loopw [14, 86] (fun u v wx => ∃ (i m : Nat), i ≤ n1 ∧ m ≤ i ∧ v = .int .i64 (i : Int) ∧ u = .int .i64 (m : Int) ∧ Hid ((lateL (t - wn) (RQ.take i)).length = m) ∧ w5 = wx) (fun _ v _ => n1 - (intOf v).toNat)
            case atStart => exact ⟨0, 0, Nat.zero_le _, Nat.zero_le _, rfl, rfl, hide rfl, rfl⟩
            case round =>
              obtain ⟨i, m, hi, hmi, rfl, rfl, HM, rfl⟩ := hrel
              by_cases hlti : i < n1
              · have hli : i < RQ.length := by rw [Hn1.out]; exact hlti
                obtain ⟨g, off, cap', ea, hci⟩ := HS1.out.cell hli
                simp only [Value.slice.injEq] at ea
                obtain ⟨rfl, -, rfl⟩ := ea
                have HT := hide (HTK1.out i hli)
                rw [HM.out] at HT
                generalize RQ.getD i 0 = y at HT hci
                by_cases hy : t - wn < y
                · rw [if_pos hy] at HT
                  go_wp2_with fail
                  go_roundw
                  case rel => exact ⟨i + 1, m + 1, by omega, by omega, by go_num, by go_num, HT, trivial⟩
                  case measure => simp [intOf]; omega
                · rw [if_neg hy] at HT
                  go_wp2_with fail
                  go_roundw
                  case rel => exact ⟨i + 1, m, by omega, by omega, by go_num, by go_num, HT, trivial⟩
                  case measure => simp [intOf]; omega
              · obtain rfl : i = n1 := by omega
                have e : RQ.take i = RQ := by rw [← Hn1.out]; exact List.take_length
                rw [e] at HM
                clear e hlti hi
                obtain ⟨N1, eN⟩ : ∃ N1, N1 = m := ⟨_, rfl⟩
                subst eN
                have HM2 := hide HM.out
                clear HM
                go_wp2_with fail
                go_loopw [17, 101] (fun u v wx => ∃ (j l : Nat), j ≤ n2 ∧ l ≤ j ∧ v = .int .i64 (j : Int) ∧ u = .int .i64 ((l : Int) + 1) ∧ Hid ((lateL (t - wn) (RT.take j)).length = l) ∧ w5 = wx) (fun _ v _ => n2 - (intOf v).toNat)
                case atStart => exact ⟨0, 0, Nat.zero_le _, Nat.zero_le _, rfl, by go_num, hide rfl, rfl⟩
                case round =>
                  obtain ⟨j, l, hj, hlj, rfl, rfl, HM, rfl⟩ := hrel
                  by_cases hlti : j < n2
                  · have hli : j < RT.length := by rw [Hn2.out]; exact hlti
                    obtain ⟨g2, off2, cap'', ea, hci⟩ := HS2.out.cell hli
                    simp only [Value.slice.injEq] at ea
                    obtain ⟨rfl, -, rfl⟩ := ea
                    have HT := hide (HTK2.out j hli)
                    rw [HM.out] at HT
                    generalize RT.getD j 0 = y at HT hci
                    by_cases hy : t - wn < y
                    · rw [if_pos hy] at HT
                      go_wp2_with fail
                      go_roundw
                      case rel => exact ⟨j + 1, l + 1, by omega, by omega, by go_num, by go_num, HT, trivial⟩
                      case measure => simp [intOf]; omega
                    · rw [if_neg hy] at HT
                      go_wp2_with fail
                      go_roundw
                      case rel => exact ⟨j + 1, l, by omega, by omega, by go_num, by go_num, HT, trivial⟩
                      case measure => simp [intOf]; omega
                  · obtain rfl : j = n2 := by omega
                    have e : RT.take j = RT := by rw [← Hn2.out]; exact List.take_length
                    rw [e] at HM
                    clear e hlti hj
                    rw [HM.out, HM2.out] at HCA
                    have x0 : 0 ≤ pc * (N1 : Int) := Int.mul_nonneg p0 (by omega)
                    have x1 : pc * (N1 : Int) ≤ 10000000 := by have := Int.mul_le_mul p1 (show (N1 : Int) ≤ 100000 by omega) (by omega) (by omega : (0:Int) ≤ 100); omega
                    have b1 : l ≤ 2000 := by omega
                    have hl3 : Hid (RT.length < 1000000) := hide (by rw [Hn2.out]; omega)
                    by_cases q1 : (l : Int) + 1 ≤ mn
                    · obtain rfl : cc = true := by rw [HCA.out, decide_eq_true q1]; rfl
                      clear HCA HCC
                      obtain ⟨P, h1, h2⟩ := T5.out.at0
                      have H2 := hide h2
                      have H1 := hide h1
                      have HD3 : Hid (Du pc mn wn t RQ (RT ++ [t]) (k + 1)) := HD2
                      clear h1 h2 T5 HD2
                      go_wp2_with (at_builtin; apply Hid.out)
                      unfold Hid
                      refine wpList_append_sr rfl _ _ rfl w5 (.slice a2 j cap2) RT t rfl (by simp [Act.eval, go_sem]) HS2.out hl3.out ?_
                      intro v' W6 r1 F o
                      have T6 : Hid (Top (WT pc mn wn t RQ (RT ++ [t]) (.slice a1 i cap1) v' a b) W W6) := hide (H2.out _ _ (H1.out.app r1 F o))
                      clear r1 F o H1 H2
                      go_wp2_with fail
                      go_roundw
                      case rel => exact ⟨k + 1, t, t, RQ, RT ++ [t], by omega, by go_num, rfl, HTT, HR, HD3, T6⟩
                      case measure => simp [intOf]; omega
                    · by_cases q2 : 100 * ((l : Int) + 1) ≤ pc * (N1 : Int)
                      · obtain rfl : cc = true := by rw [HCA.out, decide_eq_true (show ((l : Int) + 1) * 100 ≤ pc * (N1 : Int) by omega), Bool.or_true]
                        have q1d : decide ((l : Int) + 1 ≤ mn) = false := decide_eq_false q1
                        have q2d : decide (100 * ((l : Int) + 1) ≤ pc * (N1 : Int)) = true := decide_eq_true q2
                        clear HCA HCC
                        obtain ⟨P, h1, h2⟩ := T5.out.at0
                        have H2 := hide h2
                        have H1 := hide h1
                        have HD3 : Hid (Du pc mn wn t RQ (RT ++ [t]) (k + 1)) := HD2
                        clear h1 h2 T5 HD2
                        go_wp2_with (at_builtin; apply Hid.out)
                        unfold Hid
                        refine wpList_append_sr rfl _ _ rfl w5 (.slice a2 j cap2) RT t rfl (by simp [Act.eval, go_sem]) HS2.out hl3.out ?_
                        intro v' W6 r1 F o
                        have T6 : Hid (Top (WT pc mn wn t RQ (RT ++ [t]) (.slice a1 i cap1) v' a b) W W6) := hide (H2.out _ _ (H1.out.app r1 F o))
                        clear r1 F o H1 H2
                        go_wp2_with fail
                        go_roundw
                        case rel => exact ⟨k + 1, t, t, RQ, RT ++ [t], by omega, by go_num, rfl, HTT, HR, HD3, T6⟩
                        case measure => simp [intOf]; omega
                      · obtain rfl : cc = false := by rw [HCA.out, decide_eq_false q1, decide_eq_false (show ¬ ((l : Int) + 1) * 100 ≤ pc * (N1 : Int) by omega)]; rfl
                        have q1d : decide ((l : Int) + 1 ≤ mn) = false := decide_eq_false q1
                        have q2d : decide (100 * ((l : Int) + 1) ≤ pc * (N1 : Int)) = false := decide_eq_false q2
                        have T6 : Hid (Top (WT pc mn wn t RQ RT (.slice a1 i cap1) (.slice a2 j cap2) a b) W w5) := T5
                        have HD3 : Hid (Du pc mn wn t RQ RT (k + 1)) := HD2
                        clear HCA HCC T5 HD2
                        go_wp2_with fail
                        go_roundw
                        case rel => exact ⟨k + 1, t, t, RQ, RT, by omega, by go_num, rfl, HTT, HR, HD3, T6⟩
                        case measure => simp [intOf]; omega
      · have ek : k = len := by omega
        subst ek
        go_wp2_with (go_at_call 7; refine (speaks_any _).mono ?_; rintro e w9 ⟨rfl, HG⟩)
        go_ret
        exact ⟨rfl, (HI.out.fr.trans HG (fun _ _ x => x)).below (Nat.le_refl _) (fun _ _ x => x)⟩
  · have HN := hide (fun V => new_bad V pc mn wn hA)
    clear hA
    go_enter Try.func4, Try.ntmps4
    go_wp2_with (first | (go_at_call 8; refine (HN.out _).mono ?_; rintro e w' ⟨rfl, rfl⟩) | (go_at_call 7; refine (speaks_any _).mono ?_; rintro e w9 ⟨rfl, HG⟩))
    go_ret
    exact ⟨rfl, ((Fr.alloc none' W _).trans HG (fun _ _ x => x)).below (Nat.le_refl _) (fun _ _ x => x)⟩
end Go.Proofs.Ytcapicaieacgnaa
