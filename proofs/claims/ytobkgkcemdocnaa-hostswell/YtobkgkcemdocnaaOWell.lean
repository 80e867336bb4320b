/- HostsWell, walked. -/
import Derived.Test.YtobkgkcemdocnaaOTot
namespace Go.Proofs.Ytobkgkcemdocnaa
open Go.ChangeShapes Go.WideShapes Go.ChangeAt Go.RowKit

/-- The first host is well. -/
def Well (L : List HR) : Prop := ∃ r, L[0]? = some r ∧ r.h = true ∧ r.e = false
theorem Well.br {L : List HR} (h : Well L) (m : Int) : Well (brS m L) := by
  obtain ⟨r, h1, h2, h3⟩ := h
  refine ⟨brR m r, by unfold brS; rw [List.getElem?_map, h1]; rfl, ?_, ?_⟩
  · unfold brR; split <;> exact h2
  · unfold brR; split
    · rfl
    · exact h3
theorem Well.rs {fl bs lo sh la : Int} {L : List HR} (h : Well L) (now host : Int) {ok : Bool} (hok : host = 0 → ok = true) : Well (rsL fl bs lo sh la L now host ok) ∧ (host = 0 → rsB fl sh la L now host ok = false) := by
  unfold rsL rsB
  by_cases hb : askE L.length now host = 0
  · rw [if_pos hb]
    obtain ⟨hm, i, hi, rfl⟩ := ask_ok hb
    have hw := h.br (mx la now)
    by_cases h0 : i = 0
    · subst h0
      obtain rfl := hok rfl
      obtain ⟨r, h1, h2, h3⟩ := hw
      have hr := row_at (m := mx la now) hi
      rw [h1] at hr
      simp only [Option.some.injEq] at hr
      refine ⟨⟨_, by rw [Int.toNat_natCast, List.getElem?_set_self (by rw [brS_len]; exact hi)], ?_, ?_⟩, fun _ => ?_⟩
      · rw [← hr]; unfold resR; rw [h3]; exact h2
      · rw [← hr]; unfold resR; rw [h3]; rfl
      · unfold resB; simp
    · refine ⟨?_, fun x => absurd x (by omega)⟩
      obtain ⟨r, h1, h2, h3⟩ := hw
      exact ⟨r, by rw [Int.toNat_natCast, List.getElem?_set_ne h0]; exact h1, h2, h3⟩
  · rw [if_neg hb]
    exact ⟨h, fun _ => by rw [decide_eq_false hb]; rfl⟩
theorem Well.until {L : List HR} (h : Well L) : untB L 0 = false := by
  obtain ⟨r, h1, h2, h3⟩ := h
  unfold untB
  rw [if_pos (by omega), show (0 : Int).toNat = 0 from rfl, h1]
  exact h3
theorem nums_head {p : HR → Bool} {L : List HR} {r : HR} (h : L[0]? = some r) (hp : p r = true) : ∀ n, 1 ≤ n → ∃ l, nums p L n = 0 :: l
  | 0, h0 => by omega
  | 1, _ => by
    refine ⟨[], ?_⟩
    rw [nums_succ h, hp]
    rfl
  | n + 2, _ => by
    obtain ⟨l, hl⟩ := nums_head h hp (n + 1) (by omega)
    obtain ⟨X, hX⟩ : ∃ X, nums p L (n + 2) = nums p L (n + 1) ++ X := ⟨_, rfl⟩
    exact ⟨l ++ X, by rw [hX, hl, List.cons_append]⟩
set_option maxHeartbeats 4000000 in
set_option maxRecDepth 100000 in
theorem well_walk (n fl bs lo sh : Int) (ad : Option Addr) (len cap : Nat) (W : World) (hlen : len < 8796093022207)
    (hst : Hid (∀ i, i < len → ∃ b off, ∃ (x0 : Int) (x1 : Int) (x2 : Int), ad = some ⟨b, off, none⟩ ∧ (W.cell? ⟨b, off + i * 3, none⟩ = some (.int .i64 x0) ∧ W.cell? ⟨b, off + i * 3 + 1, none⟩ = some (.int .i64 x1) ∧ W.cell? ⟨b, off + i * 3 + 2, none⟩ = some (.int .i64 x2)) ∧ b < W.heap.size ∧ (-9223372036854775808 ≤ x0 ∧ x0 ≤ 9223372036854775807) ∧ (-9223372036854775808 ≤ x1 ∧ x1 ≤ 9223372036854775807) ∧ (-9223372036854775808 ≤ x2 ∧ x2 ≤ 9223372036854775807))) :
    Calls Try.prog 7 #[.agg #[.int .i64 n, .int .i64 fl, .int .i64 bs, .int .i64 lo, .int .i64 sh], .slice ad len cap] W fun e w' => e = .returned (.bool true) ∧ Below W.heap.size W w' := by
  by_cases hA : okN n fl bs lo sh
  · obtain ⟨n', rfl⟩ := Int.eq_ofNat_of_zero_le (show 0 ≤ n by have := hA.1.1; omega)
    have HN := hide (fun V => new_any V n' fl bs lo sh hA)
    have K0 := hide hA.ok
    have W0 : Hid (Well (List.replicate n' (z0 true))) := hide ⟨z0 true, by rw [List.getElem?_replicate, if_pos (by have := hA.1.1; omega)], rfl, rfl⟩
    clear hA
    go_enter Try.func7, Try.ntmps7
    go_wp2_with fail
    have T0 : Hid (Top (Two (Blk W.heap.size (askO n' fl bs lo sh)) Nil) W (W.alloc (askO n' fl bs lo sh))) := hide ((Top.nil W).put (Blk.new W _))
    generalize W.alloc (askO n' fl bs lo sh) = W1 at T0 ⊢
    obtain ⟨a, Ha⟩ : ∃ a, Hid (W.heap.size = a) := ⟨_, hide rfl⟩
    rw [Ha.out] at T0 ⊢
    refine (HN.out W1).mono ?_
    rintro e w1 ⟨rfl, d⟩
    have T1 := hide (T0.out.put d)
    clear d T0 HN
    generalize W1.heap.size = g at *
    obtain ⟨b, Hb⟩ : ∃ b, Hid (g + 1 = b) := ⟨_, hide rfl⟩
    rw [Hb.out] at T1 ⊢
    go_wp2_with fail
    go_loopw [42] (fun v wr => ∃ (k : Nat) (la : Int) (L : List HR), k ≤ len ∧ v = .int .i64 (k : Int) ∧ Hid (HOk fl bs lo sh la (k : Int) L) ∧ Hid (Well L) ∧ Hid (Top (Two (Hs fl bs lo sh la L b g) (Two (Blk a (askO n' fl bs lo sh)) Nil)) W wr)) (fun v _ => len - (intOf v).toNat)
    case atStart => exact ⟨0, 0, _, Nat.zero_le _, rfl, K0, W0, T1⟩
    case round =>
      clear T1 K0 W0
      obtain ⟨k, la, L, hk, rfl, HK, HW, HI⟩ := hrel
      by_cases hlt : k < len
      · obtain ⟨pb, off, kd, nw, ho, rfl, ⟨hc0, hc1, hc2⟩, hb, -, -, -⟩ := hst.out k hlt
        have e0 : wr.cell? ⟨pb, off + k * 3, none⟩ = some (.int .i64 kd) := (World.cell?_of_block (HI.out.fr.block pb hb id)).trans hc0
        have e1 : wr.cell? ⟨pb, off + k * 3 + 1, none⟩ = some (.int .i64 nw) := (World.cell?_of_block (HI.out.fr.block pb hb id)).trans hc1
        have e2 : wr.cell? ⟨pb, off + k * 3 + 2, none⟩ = some (.int .i64 ho) := (World.cell?_of_block (HI.out.fr.block pb hb id)).trans hc2
        clear hc0 hc1 hc2 hst hb
        go_upto_region 7 with fail
        have T3 : Hid (Top (Two (Blk wr.heap.size (stO kd nw ho)) (Two (Hs fl bs lo sh la L b g) (Two (Blk a (askO n' fl bs lo sh)) Nil))) W (wr.alloc (stO kd nw ho))) := hide (HI.out.put (Blk.new wr _))
        generalize wr.alloc (stO kd nw ho) = w3 at T3 ⊢
        generalize wr.heap.size = ew at *
        clear e0 e1 e2 HI
        have A1 : w3.heap[ew]? = some (stO kd nw ho) := by obtain ⟨_, x, _⟩ := T3.out.at0; exact x.1
        have e0 : w3.cell? ⟨ew, 0, none⟩ = some (.int .i64 kd) := cell_of A1 0
        have e1 : w3.cell? ⟨ew, 1, none⟩ = some (.int .i64 nw) := cell_of A1 1
        have e2 : w3.cell? ⟨ew, 2, none⟩ = some (.int .i64 ho) := cell_of A1 2
        clear A1
        have hq : ∃ ok, (ho = 0 → ok = true) ∧ ((kd = 0 ∧ ok = true) ∨ (¬ kd = 0 ∧ ho = 0 ∧ ok = true) ∨ (¬ kd = 0 ∧ ¬ ho = 0 ∧ ok = false)) := by
          by_cases x : kd = 0
          · exact ⟨true, fun _ => rfl, .inl ⟨x, rfl⟩⟩
          · by_cases y : ho = 0
            · exact ⟨true, fun _ => rfl, .inr (.inl ⟨x, y, rfl⟩)⟩
            · exact ⟨false, fun z => absurd z y, .inr (.inr ⟨x, y, rfl⟩)⟩
        obtain ⟨ok, hok, hq⟩ := hq
        obtain ⟨P, h1, h2⟩ := T3.out.at1
        have H2 := hide h2
        have HC := hide (result_u w3 P fl bs lo sh la nw ho (k : Int) ok L b g h1 HK.out (by omega))
        have K2 := hide (HK.out.rs (by omega) nw ho ok)
        have HW2 := HW.out.rs (fl := fl) (bs := bs) (lo := lo) (sh := sh) (la := la) nw ho hok
        have W2 := hide HW2.1
        have X2 := hide HW2.2
        generalize rsL fl bs lo sh la L nw ho ok = L2 at *
        generalize rsA L la nw ho = la2 at *
        generalize rsB fl sh la L nw ho ok = xb at *
        generalize askE L.length nw ho = ee at *
        clear h1 h2 T3 HW2 hok HK HW
        have HU := hide (fun V (x : Hp fl bs lo sh la2 L2 b g V) => until_h V fl bs lo sh la2 0 L2 b g x)
        rw [W2.out.until] at HU
        generalize untN L2 0 = un at HU
        have hx : (ho = 0 ∧ xb = false) ∨ ¬ ho = 0 := by
          by_cases x : ho = 0
          · exact .inl ⟨x, X2.out x⟩
          · exact .inr x
        clear X2
        rcases hq with ⟨x, rfl⟩ | ⟨x, y, rfl⟩ | ⟨x, y, rfl⟩
        all_goals
          first
          | (have x1 : (kd == 0) = true := by simpa using x)
          | (have x1 : (kd == 0) = false := by simpa using x)
          try have y1 : (ho == 0) = true := by simpa using y
          try have y1 : (ho == 0) = false := by simpa using y
          try clear y
          clear x
          go_wp2_with fail
          refine HC.out.mono ?_
          rintro e w4 ⟨rfl, d⟩
          have T4 := hide (H2.out _ _ d)
          clear d e0 e1 e2 H2 HC
          have A1 : w4.heap[ew]? = some (stO kd nw ho) := by obtain ⟨_, x, _⟩ := T4.out.at0; exact x.1
          have e2 : w4.cell? ⟨ew, 2, none⟩ = some (.int .i64 ho) := cell_of A1 2
          clear A1
          have HV := hide (HU.out w4 (by obtain ⟨_, x, _⟩ := T4.out.at1; exact x.1))
          have T5 := hide T4.out.drop
          clear T4
          rcases hx with ⟨hx, rfl⟩ | hx
          · have hx1 : (ho == 0) = true := by simpa using hx
            clear hx
            first
            | exact absurd (y1.symm.trans hx1) (by decide)
            | (go_wp2_with (go_at_call 12; refine HV.out.mono ?_; rintro e w' ⟨rfl, rfl⟩)
               go_roundw
               case rel => exact ⟨k + 1, la2, L2, by omega, by go_num, K2, W2, T5⟩
               case measure => simp [intOf]; omega)
          · have hx1 : (ho == 0) = false := by simpa using hx
            clear hx
            cases xb with
            | false =>
              first
              | exact absurd (y1.symm.trans hx1) (by decide)
              | (go_wp2_with (go_at_call 12; refine HV.out.mono ?_; rintro e w' ⟨rfl, rfl⟩)
                 go_roundw
                 case rel => exact ⟨k + 1, la2, L2, by omega, by go_num, K2, W2, T5⟩
                 case measure => simp [intOf]; omega)
            | true =>
              first
              | exact absurd (y1.symm.trans hx1) (by decide)
              | (go_wp2_with (go_at_call 12; refine HV.out.mono ?_; rintro e w' ⟨rfl, rfl⟩)
                 go_roundw
                 case rel => exact ⟨k + 1, la2, L2, by omega, by go_num, K2, W2, T5⟩
                 case measure => simp [intOf]; omega)
      · have ek : k = len := by omega
        subst ek
        obtain ⟨P, h1, h2⟩ := HI.out.at0
        have H2 := hide h2
        have HC := hide (usable_any wr P fl bs lo sh la 0 L b g h1 HK.out.n1 (by decide))
        have HX : Hid (∃ l, nums usa (brS (mx la 0) L) L.length = 0 :: l) := hide (by
          obtain ⟨r, x1, x2, x3⟩ := HW.out.br (mx la 0)
          exact nums_head x1 (by unfold usa; rw [x2, x3]; rfl) _ HK.out.n0)
        have HLN := hide (nums_len usa (brS (mx la 0) L) L.length)
        have HLN2 := hide HK.out.n1
        generalize nums usa (brS (mx la 0) L) L.length = xs at *
        generalize brS (mx la 0) L = L2 at *
        clear h1 h2 HI
        go_wp2_with fail
        refine HC.out.mono ?_
        rintro e w4 ⟨v, rfl, d⟩
        have T4 := hide (H2.out _ _ d).assoc
        clear d H2 HC
        obtain ⟨l, hl⟩ := HX.out
        obtain ⟨_, x, _⟩ := T4.out.at0
        obtain ⟨g1, o1, c1, ev, kc⟩ := x.1.cell (i := 0) (by rw [hl]; simp)
        rw [hl] at kc ev HLN
        subst ev
        have e9 : w4.cell? ⟨g1, o1, none⟩ = some (.int .i64 0) := kc
        have HQ := hide (show (0 :: l).length ≤ 16 by have := HLN.out; have := HLN2.out; omega)
        have hlp : 0 < (0 :: l).length := by simp
        clear x kc hl HX
        generalize (0 :: l).length = nl at *
        have hlp2 : (0 : Int) < (nl : Int) := by omega
        go_wp2_with (go_at_call 10; refine (speaks_any _).mono ?_; rintro e w9 ⟨rfl, HG⟩)
        go_ret
        exact ⟨rfl, (T4.out.fr.trans HG (fun _ _ x => x)).below (Nat.le_refl _) (fun _ _ x => x)⟩
  · have HN := hide (fun V => new_bad V n fl bs lo sh hA)
    clear hA
    go_enter Try.func7, Try.ntmps7
    go_wp2_with (first | (go_at_call 8; refine (HN.out _).mono ?_; rintro e w' ⟨rfl, rfl⟩) | (go_at_call 10; refine (speaks_any _).mono ?_; rintro e w9 ⟨rfl, HG⟩))
    go_ret
    exact ⟨rfl, ((Fr.alloc none' W _).trans HG (fun _ _ x => x)).below (Nat.le_refl _) (fun _ _ x => x)⟩
end Go.Proofs.Ytobkgkcemdocnaa
