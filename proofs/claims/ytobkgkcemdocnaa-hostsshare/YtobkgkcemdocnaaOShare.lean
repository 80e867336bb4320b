/- HostsShare, walked. -/
import Derived.Test.YtobkgkcemdocnaaOShP
import Derived.Deep.CutRange
namespace Go.Proofs.Ytobkgkcemdocnaa
open Go.ChangeShapes Go.WideShapes Go.ChangeAt Go.RowKit
set_option linter.unusedVariables false

abbrev ShT (n' : Nat) (fl bs lo sh la : Int) (L : List HR) (O : List Int) (a b g o : Nat) : Thing := Two (Blk o (outO O)) (Two (Hs fl bs lo sh la L b g) (Two (Blk a (askO n' fl bs lo sh)) Nil))
theorem mx_up {la t : Int} (h : la ≤ t) : mx la t = t := by unfold mx; split <;> omega
theorem ask_at {n i : Nat} {t : Int} (hm : mom t = true) (hi : i < n) : askE n t (i : Int) = 0 := by
  unfold askE hasB
  rw [hm, if_pos rfl, if_pos (by simp; omega)]

set_option maxHeartbeats 16000000 in
set_option maxRecDepth 100000 in
theorem share_walk (n fl bs lo sh : Int) (ad : Option Addr) (len cap : Nat) (W : World) (hlen : len < 8796093022207)
    (hst : Hid (∀ i, i < len → ∃ b off, ∃ (x0 : Int) (x1 : Int) (x2 : Int), ad = some ⟨b, off, none⟩ ∧ (W.cell? ⟨b, off + i * 3, none⟩ = some (.int .i64 x0) ∧ W.cell? ⟨b, off + i * 3 + 1, none⟩ = some (.int .i64 x1) ∧ W.cell? ⟨b, off + i * 3 + 2, none⟩ = some (.int .i64 x2)) ∧ b < W.heap.size ∧ (-9223372036854775808 ≤ x0 ∧ x0 ≤ 9223372036854775807) ∧ (-9223372036854775808 ≤ x1 ∧ x1 ≤ 9223372036854775807) ∧ (-9223372036854775808 ≤ x2 ∧ x2 ≤ 9223372036854775807))) :
    Calls Try.prog 4 #[.agg #[.int .i64 n, .int .i64 fl, .int .i64 bs, .int .i64 lo, .int .i64 sh], .slice ad len cap] W fun e w' => e = .returned (.bool true) ∧ Below W.heap.size W w' := by
  by_cases hA : okN n fl bs lo sh
  · obtain ⟨n', rfl⟩ := Int.eq_ofNat_of_zero_le (show 0 ≤ n by have := hA.1.1; omega)
    have HN := hide (fun V => new_any V n' fl bs lo sh hA)
    have K0 := hide hA.ok
    obtain ⟨⟨m0, m1⟩, ⟨a0, a1⟩, ⟨b0, b1⟩, ⟨o0, o1⟩, d0, d1⟩ := hA
    have hn16 : n' ≤ 16 := by omega
    have x0 : 0 ≤ sh * (n' : Int) := Int.mul_nonneg d0 (by omega)
    have x1 : sh * (n' : Int) ≤ 1600 := by have := Int.mul_le_mul d1 m1 (by omega) (by omega : (0:Int) ≤ 100); omega
    have J0 : Hid (Jn n' sh 0 (List.replicate n' (z0 true)) (List.replicate 16 0)) := hide ⟨by simp, by simp, fun i r hr => by left; rw [List.getD_eq_getElem?_getD, List.getElem?_replicate]; split <;> exact Int.le_refl 0, by
      have : nE (List.replicate n' (z0 true)) = 0 := by unfold nE; rw [List.countP_eq_zero]; intro x hx; rw [List.eq_of_mem_replicate hx]; simp [z0]
      rw [this]; simpa using x0⟩
    go_enter Try.func4, Try.ntmps4
    go_wp2_with fail
    have T0 : Hid (Top (Two (Blk W.heap.size (askO n' fl bs lo sh)) Nil) W (W.alloc (askO n' fl bs lo sh))) := hide ((Top.nil W).put (Blk.new W _))
    generalize W.alloc (askO n' fl bs lo sh) = W1 at T0 ⊢
    obtain ⟨a, Ha⟩ : ∃ a, Hid (W.heap.size = a) := ⟨_, hide rfl⟩
    rw [Ha.out] at T0 ⊢
    refine (HN.out W1).mono ?_
    rintro e w1 ⟨rfl, d⟩
    have T1 := hide (T0.out.put d)
    clear d T0 HN
    generalize W1.heap.size = g at *
    obtain ⟨b, Hb⟩ : ∃ b, Hid (g + 1 = b) := ⟨_, hide rfl⟩
    rw [Hb.out] at T1 ⊢
    go_upto_region 6 with fail
    have T2 : Hid (Top (ShT n' fl bs lo sh 0 (List.replicate n' (z0 true)) (List.replicate 16 0) a b g w1.heap.size) W (w1.alloc (outO (List.replicate 16 0)))) := hide (T1.out.put (Blk.new w1 _))
    clear T1
    have eO : outO (List.replicate 16 0) = .cells #[.int .i64 0, .int .i64 0, .int .i64 0, .int .i64 0, .int .i64 0, .int .i64 0, .int .i64 0, .int .i64 0, .int .i64 0, .int .i64 0, .int .i64 0, .int .i64 0, .int .i64 0, .int .i64 0, .int .i64 0, .int .i64 0] 40 (0, 0) := rfl
    have T3 : Hid (∃ w2, w1.alloc (.cells #[.int .i64 0, .int .i64 0, .int .i64 0, .int .i64 0, .int .i64 0, .int .i64 0, .int .i64 0, .int .i64 0, .int .i64 0, .int .i64 0, .int .i64 0, .int .i64 0, .int .i64 0, .int .i64 0, .int .i64 0, .int .i64 0] 40 (0, 0)) = w2 ∧ Hid (Top (ShT n' fl bs lo sh 0 (List.replicate n' (z0 true)) (List.replicate 16 0) a b g w1.heap.size) W w2)) := hide ⟨_, rfl, by rw [← eO]; exact T2⟩
    obtain ⟨w2, ew2, T4⟩ := T3.out
    rw [ew2]
    clear T2 T3 eO ew2
    generalize w1.heap.size = o at *
    go_wp2_with fail
    go_loopw [7, 46] (fun s7 v wr => ∃ (k : Nat) (now : Int) (L : List HR) (O : List Int), k ≤ len ∧ v = .int .i64 (k : Int) ∧ s7 = .int .i64 now ∧ Hid (0 ≤ now ∧ now ≤ 2305843009213693952) ∧ Hid (HOk fl bs lo sh now (k : Int) L) ∧ Hid (Jn n' sh now L O) ∧ Hid (Top (ShT n' fl bs lo sh now L O a b g o) W wr)) (fun _ v _ => len - (intOf v).toNat)
    case atStart => exact ⟨0, 0, _, _, Nat.zero_le _, rfl, rfl, hide ⟨by omega, by omega⟩, K0, J0, T4⟩
    case round =>
      clear T4 K0 J0
      obtain ⟨k, now, L, O, hk, rfl, rfl, HNO, HK, HJ, HI⟩ := hrel
      by_cases hlt : k < len
      · obtain ⟨pb, off, kd, nw, ho, rfl, ⟨hc0, hc1, hc2⟩, hb, -, -, -⟩ := hst.out k hlt
        have e0 : wr.cell? ⟨pb, off + k * 3, none⟩ = some (.int .i64 kd) := (World.cell?_of_block (HI.out.fr.block pb hb id)).trans hc0
        have e1 : wr.cell? ⟨pb, off + k * 3 + 1, none⟩ = some (.int .i64 nw) := (World.cell?_of_block (HI.out.fr.block pb hb id)).trans hc1
        have e2 : wr.cell? ⟨pb, off + k * 3 + 2, none⟩ = some (.int .i64 ho) := (World.cell?_of_block (HI.out.fr.block pb hb id)).trans hc2
        clear hc0 hc1 hc2 hst hb
        go_upto_region 9 with fail
        have T3 : Hid (Top (Two (Blk wr.heap.size (stO kd nw ho)) (ShT n' fl bs lo sh now L O a b g o)) W (wr.alloc (stO kd nw ho))) := hide (HI.out.put (Blk.new wr _))
        generalize wr.alloc (stO kd nw ho) = w3 at T3 ⊢
        generalize wr.heap.size = ew at *
        clear e0 e1 e2 HI
        have A1 : w3.heap[ew]? = some (stO kd nw ho) := by obtain ⟨_, x, _⟩ := T3.out.at0; exact x.1
        have e0 : w3.cell? ⟨ew, 0, none⟩ = some (.int .i64 kd) := cell_of A1 0
        have e1 : w3.cell? ⟨ew, 1, none⟩ = some (.int .i64 nw) := cell_of A1 1
        have e2 : w3.cell? ⟨ew, 2, none⟩ = some (.int .i64 ho) := cell_of A1 2
        have c0 : w3.cell? ⟨a, 0, none⟩ = some (.int .i64 (n' : Int)) := by obtain ⟨_, x, _⟩ := T3.out.at3; exact cell_of x.1 0
        clear A1
        obtain ⟨no0, no1⟩ := HNO.out
        have KNO := hide (show True from trivial)
        go_cut [46, 58] from 46 to 173 (fun v c wc => v = .int .i64 (k : Int) ∧ w3 = wc ∧ c = .bool (decide (now < nw ∧ nw ≤ 2305843009213693952)))
        case first =>
          go_wp2_with fail
          all_goals go_meet
          all_goals exact ⟨rfl, rfl, congrArg Value.bool (by first | rfl | (apply decide_eq_decide.2; omega) | (simp; omega))⟩
        case rest =>
        obtain ⟨rfl, rfl, rfl⟩ := hcut
        obtain ⟨cc, Hcc⟩ : ∃ cc, Hid (decide (now < nw ∧ nw ≤ 2305843009213693952) = cc) := ⟨_, hide rfl⟩
        rw [Hcc.out]
        go_upto_if 58 with fail
        go_cut [7, 46] from 46 to 173 (fun u v wc => v = .int .i64 (k : Int) ∧ w3 = wc ∧ ∃ t : Int, u = .int .i64 t ∧ now ≤ t ∧ t ≤ 2305843009213693952)
        case first =>
          cases cc with
          | true =>
            obtain ⟨y0, y1⟩ := of_decide_eq_true Hcc.out
            go_wp2_with fail
            go_meet
            exact ⟨rfl, rfl, _, rfl, by omega, by omega⟩
          | false =>
            go_wp2_with fail
            go_meet
            exact ⟨rfl, rfl, _, rfl, by omega, by omega⟩
        case rest =>
        obtain ⟨rfl, rfl, t, rfl, t0, t1⟩ := hcut
        clear Hcc KNO
        have HMT := hide (mom_yes (t := t) (by omega) (by omega))
        have HNT : Hid (0 ≤ t ∧ t ≤ 2305843009213693952) := hide ⟨by omega, t1⟩
        have HMX := hide (mx_up t0)
        have HJ1 := hide (HJ.out.br t0)
        clear HNO
        go_upto_region 11 with fail
        go_cut [46, 75] from 46 to 173 (fun v c wc => v = .int .i64 (k : Int) ∧ w3 = wc ∧ c = .bool (decide (kd < 3 ∧ 0 ≤ ho ∧ ho < (n' : Int))))
        case first =>
          go_wp2_with fail
          all_goals go_meet
          all_goals exact ⟨rfl, rfl, congrArg Value.bool (by first | rfl | (apply decide_eq_decide.2; omega) | (simp; omega))⟩
        case rest =>
        obtain ⟨rfl, rfl, rfl⟩ := hcut
        obtain ⟨cc, Hcc⟩ : ∃ cc, Hid (decide (kd < 3 ∧ 0 ≤ ho ∧ ho < (n' : Int)) = cc) := ⟨_, hide rfl⟩
        rw [Hcc.out]
        go_upto_if 75 with fail
        go_cut [46] from 46 to 173 (fun v wc => v = .int .i64 (k : Int) ∧ Hid (∃ (la : Int) (L2 : List HR) (O2 : List Int), Hid (la ≤ t) ∧ Hid (HOk fl bs lo sh la ((k : Int) + 1) L2) ∧ Hid (Jn n' sh la L2 O2) ∧ Hid (Top (ShT n' fl bs lo sh la L2 O2 a b g o) W wc)))
        case first =>
          cases cc with
          | false =>
            have T5 := hide T3.out.drop
            have HKL : Hid (HOk fl bs lo sh now ((k : Int) + 1) L) := hide (HK.out.more (by omega))
            go_wp2_with fail
            go_meet
            exact ⟨rfl, hide ⟨now, L, O, hide t0, HKL, HJ, T5⟩⟩
          | true =>
            obtain ⟨ca, cb, cd⟩ := of_decide_eq_true Hcc.out
            clear Hcc
            obtain ⟨i, rfl⟩ := Int.eq_ofNat_of_zero_le cb
            have hi : i < n' := by omega
            have hiL : i < L.length := by rw [HJ.out.len]; exact hi
            have hrow := row_at (m := t) hiL
            have hkd : ∃ ok, (kd == 0) = ok := ⟨_, rfl⟩
            obtain ⟨ok, hok⟩ := hkd
            obtain ⟨P, h1, h2⟩ := T3.out.at2
            have H2 := hide h2
            have HC := hide (result_any w3 P fl bs lo sh now t (k : Int) ok i _ L b g h1 HK.out (by omega) HMT.out (by rw [HMX.out]; exact hrow))
            rw [HMX.out] at HC
            have HKB := HK.out.bring HMT.out
            rw [HMX.out] at HKB
            have HK2 := hide (HKB.res (by omega) hrow ok)
            have HRX := HJ1.out.res (fl := fl) (bs := bs) (lo := lo) hrow hn16 ok
            have HJ2 := hide HRX.1
            have HX2 := hide HRX.2
            have HRB := hide (HKB.rows _ (List.mem_of_getElem? hrow))
            have HO16 := hide HJ.out.on
            have HUNF : Hid (resB fl sh (brS t L) (rowAt (brS t L) (i : Int)) ok = true → untN ((brS t L).set i (resR fl bs lo sh t (brS t L) (rowAt (brS t L) (i : Int)) ok)) (i : Int) = latI t (span bs lo ((rowAt (brS t L) (i : Int)).t + 1)) ∧ untB ((brS t L).set i (resR fl bs lo sh t (brS t L) (rowAt (brS t L) (i : Int)) ok)) (i : Int) = true) := hide (fun hx => by
              obtain ⟨-, -, z3⟩ := HRX.2 hx
              rw [z3]
              unfold untN untB
              rw [if_pos (by omega), if_pos (by omega), Int.toNat_natCast, List.getElem?_set_self (by rw [brS_len]; exact hiL)]
              exact ⟨rfl, rfl⟩)
            generalize rowAt (brS t L) (i : Int) = r at *
            generalize resR fl bs lo sh t (brS t L) r ok = r2 at *
            generalize (brS t L).set i r2 = L2 at *
            cases hx : resB fl sh (brS t L) r ok with
            | false =>
              rw [hx] at HC HJ2
              rw [if_neg (by simp)] at HJ2
              clear h1 h2 T3 HRX HX2 hrow HKB HJ HJ1 HRB
              go_wp2_with fail
              refine HC.out.mono ?_
              rintro e w4 ⟨rfl, d⟩
              have T5 := hide (H2.out _ _ d).drop
              clear d H2 HC e0 e1 e2 c0
              go_wp2_with fail
              go_meet
              exact ⟨rfl, hide ⟨t, L2, O, hide (Int.le_refl t), HK2, HJ2, T5⟩⟩
            | true =>
              obtain ⟨z1, z2, z3⟩ := HX2.out hx
              subst z1
              rw [hx] at HC HJ2
              rw [if_pos rfl] at HJ2
              obtain ⟨⟨-, -⟩, ⟨rt0, rt1⟩, -⟩ := HRB.out
              obtain ⟨s0, s1⟩ := span_bd (t := r.t + 1) (K := (k : Int) + 1) b0 b1 o0 (by omega) (by omega) (by omega)
              have hla : latI t (span bs lo (r.t + 1)) = t + span bs lo (r.t + 1) := by unfold latI; rw [if_neg (by omega)]
              have HUN0 := HUNF.out hx
              rw [hla] at HUN0 HJ2
              have HUN := hide HUN0
              clear HUN0 HUNF
              generalize span bs lo (r.t + 1) = sp at *
              clear h1 h2 T3 HRX HX2 hrow HKB HJ HJ1 HRB hla z3
              go_wp2_with fail
              refine HC.out.mono ?_
              rintro e w4 ⟨rfl, d⟩
              have T4 := hide (H2.out _ _ d)
              clear d H2 HC e0 e1 e2 c0
              obtain ⟨nz, A1⟩ : ∃ nz, w4.heap[ew]? = some (stO kd nz (i : Int)) := by obtain ⟨_, x, _⟩ := T4.out.at0; exact ⟨_, x.1⟩
              have e0 : w4.cell? ⟨ew, 0, none⟩ = some (.int .i64 kd) := cell_of A1 0
              have e2 : w4.cell? ⟨ew, 2, none⟩ = some (.int .i64 (i : Int)) := cell_of A1 2
              have c3 : w4.cell? ⟨a, 3, none⟩ = some (.int .i64 lo) := by obtain ⟨_, x, _⟩ := T4.out.at3; exact cell_of x.1 3
              have hxo : w4.heap[o]? = some (outO O) := by obtain ⟨_, x, _⟩ := T4.out.at1; exact x.1
              have k9 : w4.cell? ⟨o, i, none⟩ = some (.int .i64 (O.getD i 0)) := out_cell hxo (by rw [HO16.out]; omega)
              have f9 : w4.frozen? ⟨o, i, none⟩ = false := frozen_of hxo i
              have hi16 : (i : Int) < 16 := by omega
              generalize O.getD i 0 = ov at *
              have hovd : decide (t < ov) = false := decide_eq_false (by omega)
              have HUC : Hid (Calls Try.prog 12 #[.pointer (some ⟨b, 0, none⟩), .int .i64 (i : Int)] w4 fun e w' => e = .returned (.tuple #[.int .i64 (t + sp), .bool true]) ∧ w4 = w') := by
                obtain ⟨_, x, _⟩ := T4.out.at2
                have := until_h w4 fl bs lo sh t (i : Int) L2 b g x.1
                rw [HUN.out.1, HUN.out.2] at this
                exact hide this
              have T5 : Hid (Top (Two (Blk o (outO (O.set i (t + sp)))) (Two (Hs fl bs lo sh t L2 b g) (Two (Blk a (askO n' fl bs lo sh)) Nil))) W (w4.setCell ⟨o, i, none⟩ (.int .i64 (t + sp)))) := by
                obtain ⟨_, x, hx2⟩ := T4.out.at1
                exact hide (hx2 _ _ (out_set x i (t + sp))).drop
              clear A1 hxo T4 HUN
              go_wp2_with (go_at_call 12; refine HUC.out.mono ?_; rintro e w' ⟨rfl, rfl⟩)
              go_meet
              exact ⟨rfl, hide ⟨t, L2, _, hide (Int.le_refl t), HK2, HJ2, T5⟩⟩
        case rest =>
        obtain ⟨rfl, hq9⟩ := hcut
        obtain ⟨la, L2, O2, HLA, HK2, HJ2, T5⟩ := hq9.out
        clear hq9 Hcc HJ HJ1 HK HMX T3 e0 e1 e2 c0
        have HLN := hide HJ2.out.len
        have HK3 := HK2.out.bring HMT.out
        rw [mx_up HLA.out] at HK3
        have HK3 := hide HK3
        have HJ3 := hide (HJ2.out.br HLA.out)
        obtain ⟨P, h1, h2⟩ := T5.out.at1
        have H3 := hide h2
        have HUS := hide (usable_any wc P fl bs lo sh la t L2 b g h1 HK2.out.n1 HMT.out)
        rw [mx_up HLA.out, HLN.out] at HUS
        clear h1 h2
        clear HK2 HJ2 HLA
        generalize brS t L2 = L3 at *
        have HUL := hide (nums_len usa L3 n')
        have HUSE := hide (fun j hj => HJ3.out.use (j := j) hj)
        generalize nums usa L3 n' = us at *
        go_wp2_with fail
        refine HUS.out.mono ?_
        rintro e w5 ⟨v, rfl, d⟩
        have T6 := hide (H3.out _ _ d).assoc1
        clear d H3 HUS T5
        obtain ⟨a9, cap9, rfl, g1, g2⟩ : ∃ a cap, v = .slice a us.length cap ∧ us.length ≤ cap ∧ cap ≤ 9223372036854775807 := by obtain ⟨_, x, _⟩ := T6.out.at1; exact x.get
        obtain ⟨_, xh, _⟩ := T6.out.at2
        have HE := hide (fun q => (ejected_any (w5.drewN q) fl bs lo sh t L3 b g (xh.1.fr (Fr.drewN _ _ _)) HK3.out.n1).mono (R' := fun e w' => e = .returned (.int .i64 (nE L3 : Int)) ∧ w' = w5.drewN q) (fun e w' ⟨x, y⟩ => ⟨x, y.symm⟩))
        obtain ⟨_, xa, _⟩ := T6.out.at3
        have c0 : w5.cell? ⟨a, 0, none⟩ = some (.int .i64 (n' : Int)) := cell_of xa.1 0
        have c4 : w5.cell? ⟨a, 4, none⟩ = some (.int .i64 sh) := cell_of xa.1 4
        have few := HJ3.out.few
        have he16 : nE L3 ≤ 16 := Nat.le_trans (nE_le L3) HK3.out.n1
        have fewd : decide (sh * (n' : Int) < 100 * (nE L3 : Int)) = false := decide_eq_false (by omega)
        clear xh xa
        generalize nE L3 = m9 at *
        obtain ⟨un, Hun⟩ : ∃ un, Hid (us.length = un) := ⟨_, hide rfl⟩
        rw [Hun.out] at g1 HUL T6 ⊢
        go_wp2_with fail
        go_quiet (first | (go_at_call 14; refine Calls.quiet_of_same (HE.out _)))
        have T7 := hide (T6.out.same (Fr.drewN none' w5 nq))
        clear c0 c4 T6 HE few fewd
        generalize w5.drewN nq = w6 at *
        obtain ⟨_, xr, _⟩ := T7.out.at1
        have HSR := hide xr.1
        obtain ⟨_, xa, _⟩ := T7.out.at3
        have c0 : w6.cell? ⟨a, 0, none⟩ = some (.int .i64 (n' : Int)) := cell_of xa.1 0
        obtain ⟨_, xo, _⟩ := T7.out.at0
        have HXO := hide xo.1
        have HON := hide HJ3.out.on
        have T8 := hide T7.out.drop1
        clear xr xa xo T7
        go_wp2_with fail
        go_loopw [153] (fun v wx => ∃ (j : Nat), j ≤ un ∧ v = .int .i64 (j : Int) ∧ w6 = wx) (fun v _ => un - (intOf v).toNat)
        case atStart => exact ⟨0, Nat.zero_le _, rfl, rfl⟩
        case round =>
          obtain ⟨j, hj, rfl, rfl⟩ := hrel
          by_cases hju : j < un
          · have hjl : j < us.length := by rw [Hun.out]; exact hju
            obtain ⟨i9, hi9, hu9, ho9⟩ := HUSE.out j hjl
            obtain ⟨gr, offr, capr, er, hcr⟩ := HSR.out.cell hjl
            simp only [Value.slice.injEq] at er
            obtain ⟨rfl, -, rfl⟩ := er
            rw [hu9] at hcr
            have hco : w6.cell? ⟨o, i9, none⟩ = some (.int .i64 (O2.getD i9 0)) := out_cell HXO.out (by rw [HON.out]; omega)
            have hi9i : (i9 : Int) < (n' : Int) := by omega
            generalize O2.getD i9 0 = ov at *
            have hov : decide (t < ov) = false := decide_eq_false (by omega)
            clear hu9
            go_wp2_with fail
            go_roundw
            case rel => exact ⟨j + 1, by omega, by go_num, trivial⟩
            case measure => simp [intOf]; omega
          · obtain rfl : j = un := by omega
            clear c0
            go_wp2_with fail
            go_roundw
            case rel => exact ⟨k + 1, t, L3, O2, by omega, by go_num, rfl, HNT, HK3, HJ3, T8⟩
            case measure => simp [intOf]; omega
      · have ek : k = len := by omega
        subst ek
        go_wp2_with (go_at_call 10; refine (speaks_any _).mono ?_; rintro e w9 ⟨rfl, HG⟩)
        go_ret
        exact ⟨rfl, (HI.out.fr.trans HG (fun _ _ x => x)).below (Nat.le_refl _) (fun _ _ x => x)⟩
  · have HN := hide (fun V => new_bad V n fl bs lo sh hA)
    clear hA
    go_enter Try.func4, Try.ntmps4
    go_wp2_with (first | (go_at_call 8; refine (HN.out _).mono ?_; rintro e w' ⟨rfl, rfl⟩) | (go_at_call 10; refine (speaks_any _).mono ?_; rintro e w9 ⟨rfl, HG⟩))
    go_ret
    exact ⟨rfl, ((Fr.alloc none' W _).trans HG (fun _ _ x => x)).below (Nat.le_refl _) (fun _ _ x => x)⟩
end Go.Proofs.Ytobkgkcemdocnaa
