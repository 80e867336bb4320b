/- ProbeTurns, walked. -/
import Derived.Test.YtlnckiknikaifaaQOn
namespace Go.Proofs.Ytlnckiknikaifaa
open Go.ChangeShapes Go.WideShapes Go.ChangeAt Go.RowKit
set_option linter.unusedVariables false

structure TuP (hl last : Bool) (row la now : Int) (k : Nat) (r : HR) : Prop where
  h : r.h = hl
  e : r.e = false
  u : r.u ≤ now
  l0 : 0 ≤ la
  l1 : la ≤ now
  z : k = 0 → r.f = 0 ∧ r.t = 0
  y : k ≠ 0 → last = true → r.f = row ∧ r.t = 0
  n : k ≠ 0 → last = false → r.t = row ∧ r.f = 0
  f : 0 ≤ r.f ∧ r.f ≤ k
  t : 0 ≤ r.t ∧ r.t ≤ k
/-- How many answers of that kind were in a row. -/
def rw0 (ok : Bool) (r : HR) : Int := if ok then r.f else r.t
theorem TuP.rw {hl last : Bool} {row la now : Int} {k : Nat} {r : HR} (h : TuP hl last row la now k r) (ok : Bool) : (k = 0 ∨ ok ≠ last → rw0 ok r = 0) ∧ (¬ (k = 0 ∨ ok ≠ last) → rw0 ok r = row) := by
  unfold rw0
  constructor
  · intro hk
    by_cases h0 : k = 0
    · have := h.z h0
      cases ok
      · exact this.2
      · exact this.1
    · have hne := hk.resolve_left h0
      cases last with
      | true =>
        have := h.y h0 rfl
        cases ok
        · exact this.2
        · exact absurd rfl hne
      | false =>
        have := h.n h0 rfl
        cases ok
        · exact absurd rfl hne
        · exact this.2
  · intro hk
    have h0 : k ≠ 0 := fun x => hk (.inl x)
    have he : ok = last := by cases ok <;> cases last <;> simp_all
    subst he
    cases ok
    · exact (h.n h0 rfl).1
    · exact (h.y h0 rfl).1
theorem TuP.nxt {hl last : Bool} {row la now ev ti up dn : Int} {k : Nat} {r : HR} (h : TuP hl last row la now k r) (ok h2 : Bool) (hh : anH up dn ok (stR now ti r) = h2) (n0 : 0 ≤ now) (n1 : now ≤ 1152921504606846976) (e0 : 0 ≤ ev) (e1 : ev ≤ 1000000) :
    TuP h2 ok (rw0 ok r + 1) now (now + ev) (k + 1) (anR ev up dn now ok (stR now ti r)) := by
  have hf := h.f
  have ht := h.t
  refine ⟨hh, rfl, ?_, n0, by omega, fun x => by omega, fun _ x => ?_, fun _ x => ?_, ?_, ?_⟩
  · show latI now ev ≤ now + ev
    unfold latI; split <;> omega
  · subst x; exact ⟨rfl, rfl⟩
  · subst x; exact ⟨rfl, rfl⟩
  · show 0 ≤ ctF ok (stR now ti r) ∧ ctF ok (stR now ti r) ≤ _
    unfold ctF stR; split <;> simp <;> omega
  · show 0 ≤ ctT ok (stR now ti r) ∧ ctT ok (stR now ti r) ≤ _
    unfold ctT stR; split <;> simp <;> omega

set_option maxHeartbeats 8000000 in
set_option maxRecDepth 100000 in
theorem turns_walk (ev ti up dn : Int) (ad : Option Addr) (len cap : Nat) (W : World) (hlen : len < 4611686018427387904)
    (hst : Hid (∀ i, i < len → ∃ b off, ∃ (x0 : Bool), ad = some ⟨b, off, none⟩ ∧ (W.cell? ⟨b, off + i, none⟩ = some (.bool x0)) ∧ b < W.heap.size ∧ True)) :
    Calls Try.prog 4 #[.agg #[.int .i64 ev, .int .i64 ti, .int .i64 up, .int .i64 dn], .slice ad len cap] W fun e w' => e = .returned (.bool true) ∧ Below W.heap.size W w' := by
  cases hA : okA ev ti up dn with
  | true =>
    have HN := hide (fun V => new_any V 1 ev ti up dn 0 (by omega) (by omega) hA (by decide))
    obtain ⟨e0, e1, i0, i1, p0, q0⟩ : 0 ≤ ev ∧ ev ≤ 1000000 ∧ 1 ≤ ti ∧ ti ≤ 1000000 ∧ 1 ≤ up ∧ 1 ≤ dn := by simp [okA] at hA; omega
    clear hA
    by_cases hev : ev = 0
    · have hz : (ev == 0) = true := by simpa using hev
      clear hev
      go_enter Try.func4, Try.ntmps4
      go_wp2_with fail
      have T0 : Hid (Top (Two (Blk W.heap.size (askO ev ti up dn)) Nil) W (W.alloc (askO ev ti up dn))) := hide ((Top.nil W).put (Blk.new W _))
      generalize W.alloc (askO ev ti up dn) = W1 at T0 ⊢
      obtain ⟨a, Ha⟩ : ∃ a, Hid (W.heap.size = a) := ⟨_, hide rfl⟩
      rw [Ha.out] at T0 ⊢
      refine (HN.out W1).mono ?_
      rintro e w1 ⟨b, g, rfl, d⟩
      have T1 : Hid (Top (Two (Hs ev ti up dn 0 [zn 0] b g) (Two (Blk a (askO ev ti up dn)) Nil)) W w1) := hide (T0.out.put d)
      have ce : w1.cell? ⟨a, 0, none⟩ = some (.int .i64 ev) := by obtain ⟨_, x, _⟩ := T1.out.at1; exact cell_of x.1 0
      clear d T0 HN
      go_wp2_with (go_at_call 8; refine (speaks_any _).mono ?_; rintro e w3 ⟨rfl, HG⟩)
      go_ret
      exact ⟨rfl, (T1.out.fr.trans HG (fun _ _ x => x)).below (Nat.le_refl _) (fun _ _ x => x)⟩
    have hev1 : ¬ ev = 0 := hev
    have hev2 : (ev == 0) = false := by simpa using hev
    clear hev
    go_enter Try.func4, Try.ntmps4
    go_wp2_with fail
    have T0 : Hid (Top (Two (Blk W.heap.size (askO ev ti up dn)) Nil) W (W.alloc (askO ev ti up dn))) := hide ((Top.nil W).put (Blk.new W _))
    generalize W.alloc (askO ev ti up dn) = W1 at T0 ⊢
    obtain ⟨a, Ha⟩ : ∃ a, Hid (W.heap.size = a) := ⟨_, hide rfl⟩
    rw [Ha.out] at T0 ⊢
    refine (HN.out W1).mono ?_
    rintro e w1 ⟨b, g, rfl, d⟩
    have T1 : Hid (Top (Two (Hs ev ti up dn 0 [zn 0] b g) (Two (Blk a (askO ev ti up dn)) Nil)) W w1) := hide (T0.out.put d)
    have ce : w1.cell? ⟨a, 0, none⟩ = some (.int .i64 ev) := by obtain ⟨_, x, _⟩ := T1.out.at1; exact cell_of x.1 0
    clear d T0 HN
    go_wp2_with fail
    clear ce
    go_loopw [7, 8, 9, 10, 37] (fun u7 u8 u9 u10 v wr => ∃ (k : Nat) (now row la : Int) (hl last : Bool) (r : HR), k ≤ len ∧ v = .int .i64 (k : Int) ∧ u7 = .int .i64 now ∧ u8 = .bool hl ∧ u9 = .int .i64 row ∧ u10 = .bool last ∧ (0 ≤ now ∧ now ≤ 1152921504606846976) ∧ Hid (TuP hl last row la now k r) ∧ Hid (Top (Two (Hs ev ti up dn la [r] b g) (Two (Blk a (askO ev ti up dn)) Nil)) W wr)) (fun _ _ _ _ v _ => len - (intOf v).toNat)
    case atStart => exact ⟨0, 0, 0, 0, true, false, zn 0, Nat.zero_le _, rfl, rfl, rfl, rfl, rfl, by omega, hide ⟨rfl, rfl, by simp [zn], by omega, by omega, fun _ => ⟨rfl, rfl⟩, fun x => absurd rfl x, fun x => absurd rfl x, by simp [zn], by simp [zn]⟩, T1⟩
    case round =>
      clear T1
      obtain ⟨k, now, row, la, hl, last, r, hk, rfl, rfl, rfl, rfl, rfl, ⟨n0, n1⟩, HP, HI⟩ := hrel
      by_cases hlt : k < len
      · obtain ⟨b2, off, ok, rfl, hc, hb, -⟩ := hst.out k hlt
        have c9 : wr.cell? ⟨b2, off + k, none⟩ = some (.bool ok) := (World.cell?_of_block (HI.out.fr.block b2 hb id)).trans hc
        clear hc hst
        have hmn : mom now = true := mom_yes (by omega) (by omega)
        obtain ⟨P, x, kk⟩ := HI.out.at0
        have HD := hide (due_any wr P ev ti up dn la now [r] b g x (by simp) hmn HP.out.l0 (by have := HP.out.l1; omega) (by omega) i1)
        obtain ⟨q1, q2⟩ := due_yes (ti := ti) hev1 HP.out.e HP.out.u
        rw [mx_le HP.out.l1, q1, q2] at HD
        have HK := hide kk
        clear x kk HI q1 q2
        go_wp2_with fail
        refine HD.out.mono ?_
        rintro e w2 ⟨v, rfl, d2⟩
        obtain ⟨a2, cap2, rfl, -, q3⟩ : ∃ a cap, v = .slice a 1 cap ∧ 1 ≤ cap ∧ cap ≤ 9223372036854775807 := by obtain ⟨_, x⟩ := d2.fst_of; exact x.get
        have T2 := hide (HK.out _ _ d2.snd)
        clear d2 HD HK c9
        have c2 : w2.cell? ⟨a, 2, none⟩ = some (.int .i64 up) := by obtain ⟨_, x, _⟩ := T2.out.at1; exact cell_of x.1 2
        have c3 : w2.cell? ⟨a, 3, none⟩ = some (.int .i64 dn) := by obtain ⟨_, x, _⟩ := T2.out.at1; exact cell_of x.1 3
        go_upto_region 14 with fail
        go_cut [37, 61] from 37 to 114 (fun v c wc => v = .int .i64 (k : Int) ∧ w2 = wc ∧ c = .bool (decide (k = 0 ∨ ok ≠ last)))
        case first =>
          by_cases h0 : k = 0
          · have h01 : ((k : Int) == 0) = true := by simp; omega
            have h02 : Hid (decide (k = 0 ∨ ok ≠ last) = true) := hide (decide_eq_true (.inl h0))
            clear h0
            go_wp2_with fail
            go_meet
            exact ⟨rfl, rfl, congrArg Value.bool h02.out.symm⟩
          · have h01 : ((k : Int) == 0) = false := by simp; omega
            have h02 : Hid (decide (k = 0 ∨ ok ≠ last) = (ok != last)) := hide (by cases ok <;> cases last <;> simp [h0])
            go_wp2_with fail
            go_meet
            exact ⟨rfl, rfl, congrArg Value.bool h02.out.symm⟩
        case rest =>
        obtain ⟨rfl, rfl, rfl⟩ := hcut
        obtain ⟨Y, Z⟩ := HP.out.rw ok
        have HY := hide Y
        have HZ := hide Z
        clear Y Z
        obtain ⟨cc, Hcc⟩ : ∃ cc, Hid (decide (k = 0 ∨ ok ≠ last) = cc) := ⟨_, hide rfl⟩
        rw [Hcc.out]
        go_upto_if 61 with fail
        go_cut [9, 37] from 37 to 114 (fun u v wc => v = .int .i64 (k : Int) ∧ w2 = wc ∧ u = .int .i64 (rw0 ok r))
        case first =>
          cases cc with
          | true =>
            go_wp2_with fail
            go_meet
            exact ⟨rfl, rfl, congrArg (Value.int .i64) (HY.out (of_decide_eq_true Hcc.out)).symm⟩
          | false =>
            go_wp2_with fail
            go_meet
            exact ⟨rfl, rfl, congrArg (Value.int .i64) (HZ.out (of_decide_eq_false Hcc.out)).symm⟩
        case rest =>
        obtain ⟨rfl, rfl, rfl⟩ := hcut
        clear HY HZ Hcc
        obtain ⟨P2, x2, kk2⟩ := T2.out.at0
        have hf := HP.out.f
        have ht := HP.out.t
        have HA := hide (answer_any w2 P2 ev ti up dn now now 0 (stR now ti r) ok [stR now ti r] b g x2 (by simp) hmn (by omega) (by omega) e0 e1 rfl rfl hf.1 (by simp only [stR]; omega) ht.1 (by simp only [stR]; omega))
        rw [mx_le (Int.le_refl now), show ((0 : Nat) : Int) = 0 from rfl] at HA
        simp only [List.set_cons_zero] at HA
        have HK2 := hide kk2
        have HX := hide (fun h2 hh => HP.out.nxt (ev := ev) (ti := ti) (up := up) (dn := dn) ok h2 hh n0 n1 e0 e1)
        have hhl := HP.out.h
        have hrb : 0 ≤ rw0 ok r ∧ rw0 ok r ≤ k := by unfold rw0; split <;> assumption
        have HN1 : Hid (anN up dn ok (stR now ti r) = (if r.h then (if ok then 0 else if dn ≤ rw0 ok r + 1 then 2 else 0) else (if ok then (if up ≤ rw0 ok r + 1 then 1 else 0) else 0))) := hide (by
          unfold anN ctT ctF rw0 stR
          cases ok <;> cases r.h <;> simp <;> omega)
        have HH1 : Hid (anH up dn ok (stR now ti r) = (if r.h then (if ok then true else !decide (dn ≤ rw0 ok r + 1)) else (if ok then decide (up ≤ rw0 ok r + 1) else false))) := hide (by
          unfold anH ctT ctF rw0 stR
          cases ok <;> cases r.h <;> simp <;> omega)
        have HL1 : Hid (hlB [anR ev up dn now ok (stR now ti r)] 0 = anH up dn ok (stR now ti r)) := hide rfl
        rw [hhl] at HN1 HH1
        clear x2 kk2 T2 HP hf ht hhl
        generalize anR ev up dn now ok (stR now ti r) = r3 at *
        generalize anN up dn ok (stR now ti r) = nn at *
        generalize anH up dn ok (stR now ti r) = hh at *
        generalize rw0 ok r = rw at *
        obtain ⟨rb0, rb1⟩ := hrb
        cases ok with
        | true =>
          cases hl with
          | true =>
            have en : nn = 0 := by rw [HN1.out]; simp
            have eh : hh = true := by rw [HH1.out]; simp
            subst en eh
            clear HN1 HH1
            go_wp2_with fail
            refine HA.out.mono ?_
            rintro e w3 ⟨rfl, d3⟩
            have T3 := hide (HK2.out _ _ d3)
            obtain ⟨_, x3, -⟩ := T3.out.at0
            have HL := hide (healthy_any w3 ev ti up dn now 0 _ b g x3.1)
            rw [HL1.out] at HL
            have HP3 := hide (HX.out _ rfl)
            have ce3 : w3.cell? ⟨a, 0, none⟩ = some (.int .i64 ev) := by obtain ⟨_, x, _⟩ := T3.out.at1; exact cell_of x.1 0
            clear d3 x3 HA HK2 HX HL1 c2 c3
            by_cases hnx : 1152921504606846976 < now + ev
            · go_wp2_with (first | (go_at_call 11; refine HL.out.mono ?_; rintro e w' ⟨rfl, rfl⟩) | (go_at_call 8; refine (speaks_any _).mono ?_; rintro e w4 ⟨rfl, HG⟩))
              go_ret
              exact ⟨rfl, (T3.out.fr.trans HG (fun _ _ x => x)).below (by omega) (fun _ _ x => x)⟩
            · go_wp2_with (first | (go_at_call 11; refine HL.out.mono ?_; rintro e w' ⟨rfl, rfl⟩))
              go_roundw
              case rel => exact ⟨k + 1, now + ev, rw + 1, now, true, true, r3, by omega, by go_num, rfl, rfl, rfl, rfl, by omega, HP3, T3⟩
              case measure => simp [intOf]; omega
          | false =>
            by_cases hq : up ≤ rw + 1
            · have hd : decide (up ≤ rw + 1) = true := decide_eq_true hq
              have en : nn = 1 := by rw [HN1.out]; simp [hq]
              have eh : hh = true := by rw [HH1.out]; simp [hq]
              subst en eh
              clear HN1 HH1
              go_wp2_with fail
              refine HA.out.mono ?_
              rintro e w3 ⟨rfl, d3⟩
              have T3 := hide (HK2.out _ _ d3)
              obtain ⟨_, x3, -⟩ := T3.out.at0
              have HL := hide (healthy_any w3 ev ti up dn now 0 _ b g x3.1)
              rw [HL1.out] at HL
              have HP3 := hide (HX.out _ rfl)
              have ce3 : w3.cell? ⟨a, 0, none⟩ = some (.int .i64 ev) := by obtain ⟨_, x, _⟩ := T3.out.at1; exact cell_of x.1 0
              clear d3 x3 HA HK2 HX HL1 c2 c3
              by_cases hnx : 1152921504606846976 < now + ev
              · go_wp2_with (first | (go_at_call 11; refine HL.out.mono ?_; rintro e w' ⟨rfl, rfl⟩) | (go_at_call 8; refine (speaks_any _).mono ?_; rintro e w4 ⟨rfl, HG⟩))
                go_ret
                exact ⟨rfl, (T3.out.fr.trans HG (fun _ _ x => x)).below (by omega) (fun _ _ x => x)⟩
              · go_wp2_with (first | (go_at_call 11; refine HL.out.mono ?_; rintro e w' ⟨rfl, rfl⟩))
                go_roundw
                case rel => exact ⟨k + 1, now + ev, rw + 1, now, true, true, r3, by omega, by go_num, rfl, rfl, rfl, rfl, by omega, HP3, T3⟩
                case measure => simp [intOf]; omega
            · have hd : decide (up ≤ rw + 1) = false := decide_eq_false hq
              have en : nn = 0 := by rw [HN1.out]; simp [hq]
              have eh : hh = false := by rw [HH1.out]; simp [hq]
              subst en eh
              clear HN1 HH1
              go_wp2_with fail
              refine HA.out.mono ?_
              rintro e w3 ⟨rfl, d3⟩
              have T3 := hide (HK2.out _ _ d3)
              obtain ⟨_, x3, -⟩ := T3.out.at0
              have HL := hide (healthy_any w3 ev ti up dn now 0 _ b g x3.1)
              rw [HL1.out] at HL
              have HP3 := hide (HX.out _ rfl)
              have ce3 : w3.cell? ⟨a, 0, none⟩ = some (.int .i64 ev) := by obtain ⟨_, x, _⟩ := T3.out.at1; exact cell_of x.1 0
              clear d3 x3 HA HK2 HX HL1 c2 c3
              by_cases hnx : 1152921504606846976 < now + ev
              · go_wp2_with (first | (go_at_call 11; refine HL.out.mono ?_; rintro e w' ⟨rfl, rfl⟩) | (go_at_call 8; refine (speaks_any _).mono ?_; rintro e w4 ⟨rfl, HG⟩))
                go_ret
                exact ⟨rfl, (T3.out.fr.trans HG (fun _ _ x => x)).below (by omega) (fun _ _ x => x)⟩
              · go_wp2_with (first | (go_at_call 11; refine HL.out.mono ?_; rintro e w' ⟨rfl, rfl⟩))
                go_roundw
                case rel => exact ⟨k + 1, now + ev, rw + 1, now, false, true, r3, by omega, by go_num, rfl, rfl, rfl, rfl, by omega, HP3, T3⟩
                case measure => simp [intOf]; omega
        | false =>
          cases hl with
          | true =>
            by_cases hq : dn ≤ rw + 1
            · have hd : decide (dn ≤ rw + 1) = true := decide_eq_true hq
              have en : nn = 2 := by rw [HN1.out]; simp [hq]
              have eh : hh = false := by rw [HH1.out]; simp [hq]
              subst en eh
              clear HN1 HH1
              go_wp2_with fail
              refine HA.out.mono ?_
              rintro e w3 ⟨rfl, d3⟩
              have T3 := hide (HK2.out _ _ d3)
              obtain ⟨_, x3, -⟩ := T3.out.at0
              have HL := hide (healthy_any w3 ev ti up dn now 0 _ b g x3.1)
              rw [HL1.out] at HL
              have HP3 := hide (HX.out _ rfl)
              have ce3 : w3.cell? ⟨a, 0, none⟩ = some (.int .i64 ev) := by obtain ⟨_, x, _⟩ := T3.out.at1; exact cell_of x.1 0
              clear d3 x3 HA HK2 HX HL1 c2 c3
              by_cases hnx : 1152921504606846976 < now + ev
              · go_wp2_with (first | (go_at_call 11; refine HL.out.mono ?_; rintro e w' ⟨rfl, rfl⟩) | (go_at_call 8; refine (speaks_any _).mono ?_; rintro e w4 ⟨rfl, HG⟩))
                go_ret
                exact ⟨rfl, (T3.out.fr.trans HG (fun _ _ x => x)).below (by omega) (fun _ _ x => x)⟩
              · go_wp2_with (first | (go_at_call 11; refine HL.out.mono ?_; rintro e w' ⟨rfl, rfl⟩))
                go_roundw
                case rel => exact ⟨k + 1, now + ev, rw + 1, now, false, false, r3, by omega, by go_num, rfl, rfl, rfl, rfl, by omega, HP3, T3⟩
                case measure => simp [intOf]; omega
            · have hd : decide (dn ≤ rw + 1) = false := decide_eq_false hq
              have en : nn = 0 := by rw [HN1.out]; simp [hq]
              have eh : hh = true := by rw [HH1.out]; simp [hq]
              subst en eh
              clear HN1 HH1
              go_wp2_with fail
              refine HA.out.mono ?_
              rintro e w3 ⟨rfl, d3⟩
              have T3 := hide (HK2.out _ _ d3)
              obtain ⟨_, x3, -⟩ := T3.out.at0
              have HL := hide (healthy_any w3 ev ti up dn now 0 _ b g x3.1)
              rw [HL1.out] at HL
              have HP3 := hide (HX.out _ rfl)
              have ce3 : w3.cell? ⟨a, 0, none⟩ = some (.int .i64 ev) := by obtain ⟨_, x, _⟩ := T3.out.at1; exact cell_of x.1 0
              clear d3 x3 HA HK2 HX HL1 c2 c3
              by_cases hnx : 1152921504606846976 < now + ev
              · go_wp2_with (first | (go_at_call 11; refine HL.out.mono ?_; rintro e w' ⟨rfl, rfl⟩) | (go_at_call 8; refine (speaks_any _).mono ?_; rintro e w4 ⟨rfl, HG⟩))
                go_ret
                exact ⟨rfl, (T3.out.fr.trans HG (fun _ _ x => x)).below (by omega) (fun _ _ x => x)⟩
              · go_wp2_with (first | (go_at_call 11; refine HL.out.mono ?_; rintro e w' ⟨rfl, rfl⟩))
                go_roundw
                case rel => exact ⟨k + 1, now + ev, rw + 1, now, true, false, r3, by omega, by go_num, rfl, rfl, rfl, rfl, by omega, HP3, T3⟩
                case measure => simp [intOf]; omega
          | false =>
            have en : nn = 0 := by rw [HN1.out]; simp
            have eh : hh = false := by rw [HH1.out]; simp
            subst en eh
            clear HN1 HH1
            go_wp2_with fail
            refine HA.out.mono ?_
            rintro e w3 ⟨rfl, d3⟩
            have T3 := hide (HK2.out _ _ d3)
            obtain ⟨_, x3, -⟩ := T3.out.at0
            have HL := hide (healthy_any w3 ev ti up dn now 0 _ b g x3.1)
            rw [HL1.out] at HL
            have HP3 := hide (HX.out _ rfl)
            have ce3 : w3.cell? ⟨a, 0, none⟩ = some (.int .i64 ev) := by obtain ⟨_, x, _⟩ := T3.out.at1; exact cell_of x.1 0
            clear d3 x3 HA HK2 HX HL1 c2 c3
            by_cases hnx : 1152921504606846976 < now + ev
            · go_wp2_with (first | (go_at_call 11; refine HL.out.mono ?_; rintro e w' ⟨rfl, rfl⟩) | (go_at_call 8; refine (speaks_any _).mono ?_; rintro e w4 ⟨rfl, HG⟩))
              go_ret
              exact ⟨rfl, (T3.out.fr.trans HG (fun _ _ x => x)).below (by omega) (fun _ _ x => x)⟩
            · go_wp2_with (first | (go_at_call 11; refine HL.out.mono ?_; rintro e w' ⟨rfl, rfl⟩))
              go_roundw
              case rel => exact ⟨k + 1, now + ev, rw + 1, now, false, false, r3, by omega, by go_num, rfl, rfl, rfl, rfl, by omega, HP3, T3⟩
              case measure => simp [intOf]; omega
      · have ek : k = len := by omega
        subst ek
        go_wp2_with (go_at_call 8; refine (speaks_any _).mono ?_; rintro e w3 ⟨rfl, HG⟩)
        go_ret
        exact ⟨rfl, (HI.out.fr.trans HG (fun _ _ x => x)).below (by omega) (fun _ _ x => x)⟩
  | false =>
    have HN := hide (fun V => new_bad V 1 ev ti up dn 0 (by rw [hA]; simp))
    clear hA
    go_enter Try.func4, Try.ntmps4
    go_wp2_with (first | (go_at_call 7; refine (HN.out _).mono ?_; rintro e w2 ⟨rfl, F2⟩) | (go_at_call 8; refine (speaks_any _).mono ?_; rintro e w3 ⟨rfl, HG⟩))
    go_ret
    exact ⟨rfl, (((Fr.alloc none' W _).trans F2 (fun _ _ x => x)).trans HG (fun _ _ x => x)).below (Nat.le_refl _) (fun _ _ x => x)⟩
end Go.Proofs.Ytlnckiknikaifaa
