/- BucketRate, walked. -/
import Derived.Test.YtcgkgncfmiaonaaRow
namespace Go.Proofs.Ytcgkgncfmiaonaa
open Go.ChangeShapes Go.WideShapes Go.ChangeAt Go.RowKit

theorem nl_up {rt full lv g : Int} : nl rt full lv g ≤ lv + rt * g := by unfold nl; split <;> omega
structure RI (W wr : World) (a b base : Nat) (rt pe bu now lv t : Int) (l : List Int) (u : Value) (k : Nat) : Prop where
  s : S1 W wr a b rt pe bu now lv t
  p : PI rt pe bu lv t l
  row : wr.ownsRow base 3 1 u l.length (l.map fun x => Value.int .i64 x)
  len : l.length ≤ k
  top : t ≤ 10100000
  lo : a < base ∧ b < base ∧ base ≤ wr.heap.size
theorem RI.take {W wr w2 : World} {a b base : Nat} {rt pe bu now lv t t' : Int} {l : List Int} {u : Value} {k : Nat} (h : RI W wr a b base rt pe bu now lv t l u k) (ht : t ≤ t') (ht2 : t' ≤ 10100000)
    (K : Bk 54 w2 b rt pe bu (tkL rt pe (bu * pe) lv t t') (bA t t')) (F : Fr (fun k => k = b) wr w2) : S1 W w2 a b rt pe bu now (tkL rt pe (bu * pe) lv t t') t' ∧ w2.ownsRow base 3 1 u l.length (l.map fun x => Value.int .i64 x) ∧ PI rt pe bu (bL rt (bu * pe) lv t t') t' l := by
  have a0 := h.s.L.a0
  have mo : mom t' = true := mom_yes (by omega) (by omega)
  have hu : untR t t' = t' - t := by unfold untR; rw [if_pos ⟨⟨a0, by omega⟩, ⟨by omega, by omega⟩, ht⟩]
  have eA : bA t t' = t' := by unfold bA; rw [if_pos mo, hu]; omega
  have L := h.s.L.take t'
  rw [eA] at K L
  refine ⟨h.s.put K L F, owns_frame h.row F (fun g hg e => by have := (owns_block h.row hg).1; have := h.lo; omega), h.p.pass ht ?_⟩
  unfold bL
  rw [if_pos mo, hu]
  exact nl_up
theorem RI.no {W wr w2 : World} {a b base : Nat} {rt pe bu now lv t t' : Int} {l : List Int} {u : Value} {k : Nat} (h : RI W wr a b base rt pe bu now lv t l u k) (ht : t ≤ t') (ht2 : t' ≤ 10100000)
    (K : Bk 54 w2 b rt pe bu (tkL rt pe (bu * pe) lv t t') (bA t t')) (F : Fr (fun k => k = b) wr w2) (hb : tkB rt pe (bu * pe) lv t t' = false) : RI W w2 a b base rt pe bu now (tkL rt pe (bu * pe) lv t t') t' l u (k + 1) := by
  obtain ⟨s, r, p⟩ := h.take ht ht2 K F
  have e : tkL rt pe (bu * pe) lv t t' = bL rt (bu * pe) lv t t' := by unfold tkL; rw [hb, if_neg (by simp)]
  rw [e] at s ⊢
  exact ⟨s, p, r, by have := h.len; omega, ht2, h.lo.1, h.lo.2.1, Nat.le_trans h.lo.2.2 F.size⟩
theorem RI.yes {W wr w2 w3 : World} {a b base : Nat} {rt pe bu now lv t t' : Int} {l : List Int} {u v : Value} {k : Nat} (h : RI W wr a b base rt pe bu now lv t l u k) (ht : t ≤ t') (ht2 : t' ≤ 10100000)
    (K : Bk 54 w2 b rt pe bu (tkL rt pe (bu * pe) lv t t') (bA t t')) (F : Fr (fun k => k = b) wr w2) (hb : tkB rt pe (bu * pe) lv t t' = true)
    (r3 : w3.ownsRow base 3 1 v (l.length + 1) ((l.map fun x => Value.int .i64 x) ++ [.int .i64 t'])) (F3 : Fr (fun k => some k = u.ownBlock) w2 w3) : RI W w3 a b base rt pe bu now (tkL rt pe (bu * pe) lv t t') t' (l ++ [t']) v (k + 1) := by
  obtain ⟨s, r, p⟩ := h.take ht ht2 K F
  have a0 := h.s.L.a0
  have e : tkL rt pe (bu * pe) lv t t' = bL rt (bu * pe) lv t t' - pe := by unfold tkL; rw [hb, if_pos rfl]
  have na : ∀ g, g < base → ¬ some g = u.ownBlock := fun g hg e => by have := (owns_block r e.symm).1; omega
  refine ⟨⟨F3.hd (na a h.lo.1) s.A, s.B.fr F3 (na b h.lo.2.1), s.L, s.F.trans F3 (fun i hi e => na i (by have := h.lo; have := h.s.lo; omega) e), s.ab, s.lo⟩, ?_, by simpa using r3, by have := h.len; simp; omega, ht2, h.lo.1, h.lo.2.1, Nat.le_trans (Nat.le_trans h.lo.2.2 F.size) F3.size⟩
  exact p.put (by omega) e s.L.l0 (by have := (h.s.L.bring t').l1; exact this)

set_option maxHeartbeats 4000000 in
set_option maxRecDepth 100000 in
theorem rate_walk (rt pe bu now : Int) (ad : Option Addr) (len cap : Nat) (W : World) (hlen : len < 17592186044416)
    (hst : Hid (∀ i, i < len → ∃ b off, ∃ (x0 : Int), ad = some ⟨b, off, none⟩ ∧ (W.cell? ⟨b, off + i, none⟩ = some (.int .i64 x0)) ∧ b < W.heap.size ∧ (-9223372036854775808 ≤ x0 ∧ x0 ≤ 9223372036854775807))) :
    Calls Try.prog 4 #[.agg #[.int .i64 rt, .int .i64 pe, .int .i64 bu, .int .i64 now], .slice ad len cap] W fun e w' => e = .returned (.bool true) ∧ Below W.heap.size W w' := by
  by_cases hA : okA rt pe bu 0
  · have HN := hide (fun V => new_any V rt pe bu 0 hA)
    have HZ := hide hA.lim
    have p0 := hA.2.1.1
    have p1 := hA.2.1.2
    have r0 := hA.1.1
    have r1 := hA.1.2
    have b0 := hA.2.2.1.1
    have b1 := hA.2.2.1.2
    clear hA
    go_enter Try.func4, Try.ntmps4
    go_wp2_with fail
    have A0 : (W.alloc (.cells #[.int .i64 rt, .int .i64 pe, .int .i64 bu, .int .i64 now] 23)).heap[W.heap.size]? = some (.cells #[.int .i64 rt, .int .i64 pe, .int .i64 bu, .int .i64 now] 23 (0, 0)) := hp_new _ _
    have F0 := Fr.alloc none' W (.cells #[.int .i64 rt, .int .i64 pe, .int .i64 bu, .int .i64 now] 23)
    have Z0 : Hid (W.heap.size < (W.alloc (.cells #[.int .i64 rt, .int .i64 pe, .int .i64 bu, .int .i64 now] 23)).heap.size) := hide (by simp)
    generalize W.alloc (.cells #[.int .i64 rt, .int .i64 pe, .int .i64 bu, .int .i64 now] 23) = W1 at A0 F0 Z0 ⊢
    refine (HN.out W1).mono ?_
    rintro e w1 ⟨rfl, K1, F1, z1⟩
    have I0 : Hid (RI W w1 W.heap.size W1.heap.size w1.heap.size rt pe bu now (bu * pe) 0 [] (.slice none 0 0) 0) := hide ⟨⟨F1.hd id A0, K1, HZ.out, F0.trans F1 (fun _ _ x => x), by have := Z0.out; omega, Nat.le_refl _, by have := Z0.out; omega⟩,
      ⟨fun i hi => by simp at hi, fun i hi => by simp at hi, fun i k _ hk => by simp at hk⟩, ⟨rfl, .inl ⟨rfl, rfl⟩⟩, Nat.le_refl _, by omega, by have := Z0.out; omega, by omega, Nat.le_refl _⟩
    clear K1 F1 z1 HN A0 F0 HZ Z0
    go_wp2_with fail
    generalize hb1 : W1.heap.size = b at *
    generalize hb2 : w1.heap.size = base at *
    clear hb1 hb2
    obtain ⟨a, Ha⟩ : ∃ a, Hid (W.heap.size = a) := ⟨_, hide rfl⟩
    rw [Ha.out] at I0 ⊢
    go_loopw [7, 8, 38] (fun u s v wr => ∃ (k : Nat) (lv t : Int) (l : List Int), k ≤ len ∧ v = .int .i64 (k : Int) ∧ u = .int .i64 t ∧ Hid (RI W wr a b base rt pe bu now lv t l s k)) (fun _ _ v _ => len - (intOf v).toNat)
    case atStart => exact ⟨0, _, _, _, Nat.zero_le _, rfl, rfl, I0⟩
    case round =>
      clear I0
      obtain ⟨k, lv, t, l, hk, rfl, rfl, HI⟩ := hrel
      obtain ⟨ra, rc, hu, hrc, hrow⟩ := row_cells HI.out.row
      subst hu
      have t0 := HI.out.s.L.a0
      have t1 := HI.out.top
      by_cases hlt : k < len
      · obtain ⟨pb, off, x, rfl, hc, hb, hx0, hx1⟩ := hst.out k hlt
        have e0 : wr.cell? ⟨pb, off + k, none⟩ = some (.int .i64 x) := (World.cell?_of_block (HI.out.s.F.block pb hb id)).trans hc
        clear hc hst hb hrow
        have hn : l.length < 17592186044416 := by have := HI.out.len; omega
        by_cases hq : 0 ≤ x ∧ x ≤ 100000 ∧ t < 10000000
        · obtain ⟨q0, q1, q2⟩ := hq
          have HT := hide (take_any wr b rt pe bu lv t (t + x) HI.out.s.B HI.out.s.L)
          rw [bE_mom (mom_yes (by omega) (by omega))] at HT
          have HY := hide (fun (w2 w3 : World) (v : Value) K F hb r3 F3 => RI.yes (w2 := w2) (w3 := w3) (v := v) HI.out (show t ≤ t + x by omega) (by omega) K F hb r3 F3)
          have HO := hide (fun (w2 : World) K F hb => RI.no (w2 := w2) HI.out (show t ≤ t + x by omega) (by omega) K F hb)
          have HB := hide HI.out.lo.2.2
          by_cases hk2 : tkB rt pe (bu * pe) lv t (t + x) = true
          · have HYY : Hid (∀ (w2 w3 : World) (v : Value), Bk 54 w2 b rt pe bu (tkL rt pe (bu * pe) lv t (t + x)) (bA t (t + x)) → Fr (fun k => k = b) wr w2 → w3.ownsRow base 3 1 v (l.length + 1) ((l.map fun x => Value.int .i64 x) ++ [.int .i64 (t + x)]) → Fr (fun k => some k = (Value.slice ra l.length rc).ownBlock) w2 w3 → RI W w3 a b base rt pe bu now (tkL rt pe (bu * pe) lv t (t + x)) (t + x) (l ++ [t + x]) v (k + 1)) := hide (fun w2 w3 v K F r3 F3 => HY.out w2 w3 v K F hk2 r3 F3)
            have HRow := hide (fun (w2 : World) K F => (HI.out.take (w2 := w2) (t' := t + x) (by omega) (by omega) K F).2.1)
            rw [hk2] at HT
            clear HY HO hk2
            go_wp2_with fail
            refine HT.out.mono ?_
            rintro e w2 ⟨rfl, K2, F2⟩
            have HR2 := hide (HRow.out w2 K2 F2)
            have HY2 := hide (fun w3 v => HYY.out w2 w3 v K2 F2)
            have HB2 := hide (Nat.le_trans HB.out F2.size)
            clear K2 F2 HRow HYY HT
            go_wp2_with (at_builtin; apply Hid.out)
            unfold Hid
            refine wpList_append_int rfl _ _ rfl w2 base (.slice ra l.length rc) l.length _ (t + x) rfl (by simp [Act.eval, go_sem]) HR2.out hn HB2.out ?_
            intro v3 w3 o3 f3
            have HI3 := hide (HY2.out w3 v3 o3 f3)
            clear o3 f3 HR2 HY2 HB2
            go_wp2_with fail
            go_roundw
            case rel => exact ⟨k + 1, _, _, _, by omega, by go_num, rfl, HI3⟩
            case measure => simp [intOf]; omega
          · have hk3 : tkB rt pe (bu * pe) lv t (t + x) = false := by simpa using hk2
            have HOO : Hid (∀ (w2 : World), Bk 54 w2 b rt pe bu (tkL rt pe (bu * pe) lv t (t + x)) (bA t (t + x)) → Fr (fun k => k = b) wr w2 → RI W w2 a b base rt pe bu now (tkL rt pe (bu * pe) lv t (t + x)) (t + x) l (.slice ra l.length rc) (k + 1)) := hide (fun w2 K F => HO.out w2 K F hk3)
            rw [hk3] at HT
            clear HY HO hk2 hk3
            go_wp2_with fail
            refine HT.out.mono ?_
            rintro e w2 ⟨rfl, K2, F2⟩
            have HI3 := hide (HOO.out w2 K2 F2)
            clear K2 F2 HOO HT
            go_wp2_with fail
            go_roundw
            case rel => exact ⟨k + 1, _, _, _, by omega, by go_num, rfl, HI3⟩
            case measure => simp [intOf]; omega
        · have hq2 : x < 0 ∨ (0 ≤ x ∧ 100000 < x) ∨ (0 ≤ x ∧ x ≤ 100000 ∧ ¬ t < 10000000) := by omega
          have HT := hide (take_any wr b rt pe bu lv t t HI.out.s.B HI.out.s.L)
          rw [bE_mom (mom_yes (by omega) (by omega))] at HT
          have HY := hide (fun (w2 w3 : World) (v : Value) K F hb r3 F3 => RI.yes (w2 := w2) (w3 := w3) (v := v) HI.out (show t ≤ t by omega) (by omega) K F hb r3 F3)
          have HO := hide (fun (w2 : World) K F hb => RI.no (w2 := w2) HI.out (show t ≤ t by omega) (by omega) K F hb)
          have HB := hide HI.out.lo.2.2
          clear hq
          rcases hq2 with q0 | ⟨q0, q1⟩ | ⟨q0, q1, q2⟩
          all_goals
            by_cases hk2 : tkB rt pe (bu * pe) lv t (t) = true
            · have HYY : Hid (∀ (w2 w3 : World) (v : Value), Bk 54 w2 b rt pe bu (tkL rt pe (bu * pe) lv t (t)) (bA t (t)) → Fr (fun k => k = b) wr w2 → w3.ownsRow base 3 1 v (l.length + 1) ((l.map fun x => Value.int .i64 x) ++ [.int .i64 (t)]) → Fr (fun k => some k = (Value.slice ra l.length rc).ownBlock) w2 w3 → RI W w3 a b base rt pe bu now (tkL rt pe (bu * pe) lv t (t)) (t) (l ++ [t]) v (k + 1)) := hide (fun w2 w3 v K F r3 F3 => HY.out w2 w3 v K F hk2 r3 F3)
              have HRow := hide (fun (w2 : World) K F => (HI.out.take (w2 := w2) (t' := t) (by omega) (by omega) K F).2.1)
              rw [hk2] at HT
              clear HY HO hk2
              go_wp2_with fail
              refine HT.out.mono ?_
              rintro e w2 ⟨rfl, K2, F2⟩
              have HR2 := hide (HRow.out w2 K2 F2)
              have HY2 := hide (fun w3 v => HYY.out w2 w3 v K2 F2)
              have HB2 := hide (Nat.le_trans HB.out F2.size)
              clear K2 F2 HRow HYY HT
              go_wp2_with (at_builtin; apply Hid.out)
              unfold Hid
              refine wpList_append_int rfl _ _ rfl w2 base (.slice ra l.length rc) l.length _ (t) rfl (by simp [Act.eval, go_sem]) HR2.out hn HB2.out ?_
              intro v3 w3 o3 f3
              have HI3 := hide (HY2.out w3 v3 o3 f3)
              clear o3 f3 HR2 HY2 HB2
              go_wp2_with fail
              go_roundw
              case rel => exact ⟨k + 1, _, _, _, by omega, by go_num, rfl, HI3⟩
              case measure => simp [intOf]; omega
            · have hk3 : tkB rt pe (bu * pe) lv t (t) = false := by simpa using hk2
              have HOO : Hid (∀ (w2 : World), Bk 54 w2 b rt pe bu (tkL rt pe (bu * pe) lv t (t)) (bA t (t)) → Fr (fun k => k = b) wr w2 → RI W w2 a b base rt pe bu now (tkL rt pe (bu * pe) lv t (t)) (t) l (.slice ra l.length rc) (k + 1)) := hide (fun w2 K F => HO.out w2 K F hk3)
              rw [hk3] at HT
              clear HY HO hk2 hk3
              go_wp2_with fail
              refine HT.out.mono ?_
              rintro e w2 ⟨rfl, K2, F2⟩
              have HI3 := hide (HOO.out w2 K2 F2)
              clear K2 F2 HOO HT
              go_wp2_with fail
              go_roundw
              case rel => exact ⟨k + 1, _, _, _, by omega, by go_num, rfl, HI3⟩
              case measure => simp [intOf]; omega
      · have ek : k = len := by omega
        subst ek
        have HP := hide HI.out.p
        have HF0 := hide HI.out.s.F
        have HR := hide hrow
        have HA := hide HI.out.s.A
        have hn : l.length < 17592186044416 := by have := HI.out.len; omega
        clear hrow HI hst t0 hlt
        obtain ⟨m, Hm⟩ : ∃ m, Hid (l.length = m) := ⟨_, hide rfl⟩
        rw [Hm.out] at hrc hn HR ⊢
        obtain ⟨wf, ew⟩ : ∃ wf, wf = wr := ⟨wr, rfl⟩
        subst ew
        go_wp2_with fail
        go_loopw [71] (fun v ws => ∃ (i : Nat), i ≤ m ∧ v = .int .i64 (i : Int) ∧ Hid (Fr none' wf ws)) (fun v _ => m - (intOf v).toNat)
        case atStart => exact ⟨0, Nat.zero_le _, rfl, hide (Fr.refl _ _)⟩
        case round =>
          obtain ⟨i, hi, rfl, HF⟩ := hrel
          by_cases hlt : i < m
          · go_wp2_with fail
            go_loopw [14] (fun v wt => ∃ (k : Nat), i ≤ k ∧ k ≤ m ∧ v = .int .i64 (k : Int) ∧ Hid (Fr none' wf wt)) (fun v _ => m - (intOf v).toNat)
            case atStart => exact ⟨i, Nat.le_refl _, hi, rfl, HF⟩
            case round =>
              obtain ⟨k2, hik, hkm, rfl, HF2⟩ := hrel
              by_cases h1 : k2 < m
              · by_cases h2 : k2 < i + 200
                · have h1i : (k2 : Int) < (m : Int) := by omega
                  have h2i : (k2 : Int) < (i : Int) + 200 := by omega
                  obtain ⟨g, rfl, hcr⟩ := HR.out k2 h1
                  obtain ⟨g', eg, hci⟩ := HR.out i hlt
                  simp only [Option.some.injEq, Addr.mk.injEq, and_true] at eg
                  subst eg
                  have hg := World.block_lt_of_cell? wf _ hcr
                  have d1 : wr.cell? ⟨g, k2, none⟩ = some (.int .i64 (l.getD k2 0)) := (World.cell?_of_block (HF2.out.block g hg id)).trans hcr
                  have d2 : wr.cell? ⟨g, i, none⟩ = some (.int .i64 (l.getD i 0)) := (World.cell?_of_block (HF2.out.block g hg id)).trans hci
                  have A2 := HF2.out.hd id HA.out
                  have k0 : wr.cell? ⟨a, 0, none⟩ = some (.int .i64 rt) := cell_of A2 0
                  have k1 : wr.cell? ⟨a, 1, none⟩ = some (.int .i64 pe) := cell_of A2 1
                  have k2' : wr.cell? ⟨a, 2, none⟩ = some (.int .i64 bu) := cell_of A2 2
                  obtain ⟨o1, o2⟩ := HP.out.two i k2 hik (by rw [Hm.out]; exact h1)
                  have o3 := (HP.out.lo i (by rw [Hm.out]; exact hlt)).1
                  have o4 := (HP.out.lo k2 (by rw [Hm.out]; exact h1)).2
                  generalize l.getD k2 0 = y at *
                  generalize l.getD i 0 = x at *
                  have v0 : 0 ≤ rt * (y - x) := Int.mul_nonneg r0 (by omega)
                  have v1 : rt * (y - x) ≤ 1000000 * 10100000 := Int.mul_le_mul r1 (by omega) (by omega) (by omega)
                  have hok := rate_ok p0 v0 o2
                  obtain ⟨d0, d9⟩ := div_bd (x := rt * (y - x)) (rt := pe) v0 (by omega)
                  have s1 : IntKind.i64.wrap (y - x) = y - x := IntWalk.i64_in _ (by omega)
                  have s2 : IntKind.i64.wrap (rt * (y - x)) = rt * (y - x) := IntWalk.i64_in _ (by omega)
                  have s3 : IntKind.i64.wrap ((rt * (y - x)).tdiv pe) = (rt * (y - x)).tdiv pe := IntWalk.i64_in _ (by omega)
                  have s4 : IntKind.i64.wrap (bu + (rt * (y - x)).tdiv pe) = bu + (rt * (y - x)).tdiv pe := IntWalk.i64_in _ (by omega)
                  have s5 : IntKind.i64.wrap (bu + (rt * (y - x)).tdiv pe + 1) = bu + (rt * (y - x)).tdiv pe + 1 := IntWalk.i64_in _ (by omega)
                  have s6 : IntKind.i64.wrap ((k2 : Int) - (i : Int)) = (k2 : Int) - (i : Int) := IntWalk.i64_in _ (by omega)
                  have s7 : IntKind.i64.wrap ((k2 : Int) - (i : Int) + 1) = (k2 : Int) - (i : Int) + 1 := IntWalk.i64_in _ (by omega)
                  have hp : ¬ pe = 0 := by omega
                  have hd : decide (bu + (rt * (y - x)).tdiv pe + 1 < (k2 : Int) - (i : Int) + 1) = false := decide_eq_false (by omega)
                  have hd2 : decide (bu + (rt * (y - x)).tdiv pe < (k2 : Int) - (i : Int)) = false := decide_eq_false (by omega)
                  have hd3 : ¬ bu + (rt * (y - x)).tdiv pe < (k2 : Int) - (i : Int) := by omega
                  clear hcr hci A2 o2 hok
                  go_wp2_with fail
                  go_quiet (fail)
                  have HF3 := hide (HF2.out.d nq)
                  go_wp2_with fail
                  go_roundw
                  case rel => exact ⟨k2 + 1, by omega, by omega, by go_num, HF3⟩
                  case measure => simp [intOf]; omega
                · have h1i : (k2 : Int) < (m : Int) := by omega
                  have h2i : ¬ (k2 : Int) < (i : Int) + 200 := by omega
                  go_wp2_with fail
                  go_roundw
                  case rel => exact ⟨i + 1, by omega, by go_num, HF2⟩
                  case measure => simp [intOf]; omega
              · have h1i : ¬ (k2 : Int) < (m : Int) := by omega
                go_wp2_with fail
                go_roundw
                case rel => exact ⟨i + 1, by omega, by go_num, HF2⟩
                case measure => simp [intOf]; omega
          · have ei : i = m := by omega
            subst ei
            go_wp2_with (go_at_call 11; refine (speaks_any _).mono ?_; rintro e w9 ⟨rfl, HG⟩)
            go_ret
            exact ⟨rfl, ((HF0.out.trans HF.out (fun _ _ x => x)).trans HG (fun _ _ x => x)).below (by have := Ha.out; omega) (fun _ _ x => x)⟩
  · have HN := hide (fun V => new_bad V rt pe bu 0 hA)
    clear hA
    go_enter Try.func4, Try.ntmps4
    go_wp2_with (first | (go_at_call 9; refine (HN.out _).mono ?_; rintro e w' ⟨rfl, rfl⟩) | (go_at_call 11; refine (speaks_any _).mono ?_; rintro e w9 ⟨rfl, HG⟩))
    go_ret
    exact ⟨rfl, ((Fr.alloc none' W _).trans HG (fun _ _ x => x)).below (Nat.le_refl _) (fun _ _ x => x)⟩
end Go.Proofs.Ytcgkgncfmiaonaa
