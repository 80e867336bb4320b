/- ProbeOnce, walked. -/
import Derived.Test.YtlnckiknikaifaaQSay
import Derived.Deep.CutRange
namespace Go.Proofs.Ytlnckiknikaifaa
open Go.ChangeShapes Go.WideShapes Go.ChangeAt Go.RowKit
set_option linter.unusedVariables false

abbrev askO (ev ti up dn : Int) : Obj := .cells #[.int .i64 ev, .int .i64 ti, .int .i64 up, .int .i64 dn] 23
theorem due_yes {ev ti m : Int} {r : HR} (he : ev ≠ 0) (h1 : r.e = false) (h2 : r.u ≤ m) : duN ev m [r] = [0] ∧ duL ev ti m [r] = [stR m ti r] := by
  have h : duN ev m [r] = [0] := by
    unfold duN
    rw [if_neg he]
    simp [nums, comP, h1, h2]
  refine ⟨h, ?_⟩
  unfold duL
  rw [h]
  simp [mkD]
theorem due_no {ev ti m : Int} {r : HR} (h : ev = 0 ∨ r.e = true ∨ m < r.u) : duN ev m [r] = [] ∧ duL ev ti m [r] = [r] := by
  have h : duN ev m [r] = [] := by
    unfold duN
    split
    · rfl
    · rename_i he
      have : r.e = true ∨ m < r.u := h.resolve_left he
      rcases this with x | x
      · simp [nums, comP, x]
      · simp [nums, comP]
        omega
  refine ⟨h, ?_⟩
  unfold duL
  rw [h, mkD_nil]
theorem mx_le {la now : Int} (h : la ≤ now) : mx la now = now := by unfold mx; split <;> omega
structure OnP (ev : Int) (runs : Bool) (from_ la now : Int) (k : Nat) (r : HR) : Prop where
  e : r.e = runs
  u : runs = false → ev ≠ 0 → r.u = from_
  z : ev = 0 → runs = false
  l0 : 0 ≤ la
  l1 : la ≤ now
  f : 0 ≤ r.f ∧ r.f ≤ k
  t : 0 ≤ r.t ∧ r.t ≤ k

structure OnR (ev nw : Int) (k : Nat) (r : HR) (runs : Bool) : Prop where
  e : r.e = runs
  f : 0 ≤ r.f ∧ r.f ≤ k
  t : 0 ≤ r.t ∧ r.t ≤ k
theorem OnR.ans {ev up dn nw : Int} {k : Nat} {r : HR} {runs : Bool} (h : OnR ev nw k r runs) (n0 : 0 ≤ nw) (n1 : nw ≤ 1152921504616846976) (e1 : ev ≤ 1000000) (ok : Bool) : OnP ev false (nw + ev) nw nw (k + 1) (anR ev up dn nw ok r) := by
  refine ⟨rfl, fun _ _ => ?_, fun _ => rfl, n0, Int.le_refl _, ?_, ?_⟩
  · show latI nw ev = nw + ev
    unfold latI
    rw [if_neg (by omega)]
  · have := h.f
    show 0 ≤ ctF ok r ∧ ctF ok r ≤ _
    unfold ctF
    split <;> omega
  · have := h.t
    show 0 ≤ ctT ok r ∧ ctT ok r ≤ _
    unfold ctT
    split <;> omega
set_option maxHeartbeats 8000000 in
set_option maxRecDepth 100000 in
theorem once_walk (ev ti up dn : Int) (ad : Option Addr) (len cap : Nat) (W : World) (hlen : len < 4611686018427387904)
    (hst : Hid (∀ i, i < len → ∃ b off, ∃ (x0 : Int), ad = some ⟨b, off, none⟩ ∧ (W.cell? ⟨b, off + i, none⟩ = some (.int .i64 x0)) ∧ b < W.heap.size ∧ (-9223372036854775808 ≤ x0 ∧ x0 ≤ 9223372036854775807))) :
    Calls Try.prog 3 #[.agg #[.int .i64 ev, .int .i64 ti, .int .i64 up, .int .i64 dn], .slice ad len cap] W fun e w' => e = .returned (.bool true) ∧ Below W.heap.size W w' := by
  cases hA : okA ev ti up dn with
  | true =>
    have HN := hide (fun V => new_any V 1 ev ti up dn 0 (by omega) (by omega) hA (by decide))
    obtain ⟨e0, e1, i0, i1⟩ : 0 ≤ ev ∧ ev ≤ 1000000 ∧ 1 ≤ ti ∧ ti ≤ 1000000 := by simp [okA] at hA; omega
    clear hA
    go_enter Try.func3, Try.ntmps3
    go_wp2_with fail
    have T0 : Hid (Top (Two (Blk W.heap.size (askO ev ti up dn)) Nil) W (W.alloc (askO ev ti up dn))) := hide ((Top.nil W).put (Blk.new W _))
    generalize W.alloc (askO ev ti up dn) = W1 at T0 ⊢
    obtain ⟨a, Ha⟩ : ∃ a, Hid (W.heap.size = a) := ⟨_, hide rfl⟩
    rw [Ha.out] at T0 ⊢
    refine (HN.out W1).mono ?_
    rintro e w1 ⟨b, g, rfl, d⟩
    have T1 : Hid (Top (Two (Hs ev ti up dn 0 [zn 0] b g) (Two (Blk a (askO ev ti up dn)) Nil)) W w1) := hide (T0.out.put d)
    clear d T0 HN
    go_wp2_with fail
    go_loopw [7, 8, 9, 34] (fun u7 u8 u9 v wr => ∃ (k : Nat) (now from_ la : Int) (runs : Bool) (r : HR), k ≤ len ∧ v = .int .i64 (k : Int) ∧ u7 = .int .i64 now ∧ u8 = .bool runs ∧ u9 = .int .i64 from_ ∧ (0 ≤ now ∧ now ≤ 1152921504616846976 ∧ 0 ≤ from_ ∧ from_ ≤ 1152921504626846976) ∧ Hid (OnP ev runs from_ la now k r) ∧ Hid (Top (Two (Hs ev ti up dn la [r] b g) (Two (Blk a (askO ev ti up dn)) Nil)) W wr)) (fun _ _ _ v _ => len - (intOf v).toNat)
    case atStart => exact ⟨0, 0, 0, 0, false, zn 0, Nat.zero_le _, rfl, rfl, rfl, rfl, by omega, hide ⟨rfl, fun _ _ => rfl, fun _ => rfl, by omega, by omega, by simp [zn], by simp [zn]⟩, T1⟩
    case round =>
      clear T1
      obtain ⟨k, now, fm, la, runs, r, hk, rfl, rfl, rfl, rfl, ⟨n0, n1, m0, m1⟩, HP, HI⟩ := hrel
      by_cases hlt : k < len
      · obtain ⟨b2, off, d, rfl, hc, hb, x0, x1⟩ := hst.out k hlt
        have c9 : wr.cell? ⟨b2, off + k, none⟩ = some (.int .i64 d) := (World.cell?_of_block (HI.out.fr.block b2 hb id)).trans hc
        clear hc hst
        go_upto_region 10 with fail
        go_cut [34, 48] from 34 to 105 (fun v c wc => v = .int .i64 (k : Int) ∧ wr = wc ∧ c = .bool (decide (0 ≤ d ∧ d ≤ 10000000 ∧ now < 1152921504606846976)))
        case first =>
          go_wp2_with fail
          all_goals go_meet
          all_goals exact ⟨rfl, rfl, congrArg Value.bool (by first | rfl | (apply decide_eq_decide.2; omega) | (simp; omega))⟩
        case rest =>
        obtain ⟨rfl, rfl, rfl⟩ := hcut
        obtain ⟨cc, Hcc⟩ : ∃ cc, Hid (decide (0 ≤ d ∧ d ≤ 10000000 ∧ now < 1152921504606846976) = cc) := ⟨_, hide rfl⟩
        rw [Hcc.out]
        go_upto_if 48 with fail
        go_cut [7, 34] from 34 to 105 (fun u v wc => v = .int .i64 (k : Int) ∧ wr = wc ∧ ∃ nw : Int, u = .int .i64 nw ∧ now ≤ nw ∧ nw ≤ 1152921504616846976)
        case first =>
          cases cc with
          | true =>
            obtain ⟨y0, y1, y2⟩ := of_decide_eq_true Hcc.out
            go_wp2_with fail
            go_meet
            exact ⟨rfl, rfl, _, rfl, by omega, by omega⟩
          | false =>
            go_wp2_with fail
            go_meet
            exact ⟨rfl, rfl, _, rfl, by omega, by omega⟩
        case rest =>
          obtain ⟨rfl, rfl, nw, rfl, w0, w1⟩ := hcut
          clear c9
          have hmn : mom nw = true := mom_yes (by omega) (by omega)
          have hla := mx_le (Int.le_trans HP.out.l1 w0)
          obtain ⟨P, x, kk⟩ := HI.out.at0
          have HD := hide (due_any wr P ev ti up dn la nw [r] b g x (by simp) hmn HP.out.l0 (by have := HP.out.l1; omega) (by omega) i1)
          have HK := hide kk
          clear x kk HI
          rw [hla] at HD
          clear hla
          have hcase : (runs = false ∧ fm ≤ nw ∧ ev ≠ 0) ∨ runs = true ∨ (runs = false ∧ nw < fm) ∨ (runs = false ∧ fm ≤ nw ∧ ev = 0) := by
            cases runs with
            | true => exact .inr (.inl rfl)
            | false =>
              by_cases h1 : fm ≤ nw
              · by_cases h2 : ev = 0
                · exact .inr (.inr (.inr ⟨rfl, h1, h2⟩))
                · exact .inl ⟨rfl, h1, h2⟩
              · exact .inr (.inr (.inl ⟨rfl, by omega⟩))
          clear Hcc
          rcases hcase with hcA | hcB | hcC | hcD
          · obtain ⟨rfl, hfm, hev⟩ := hcA
            obtain ⟨q1, q2⟩ := due_yes (ti := ti) hev HP.out.e (by rw [HP.out.u rfl hev]; exact hfm)
            rw [q1, q2] at HD
            have HR : Hid (OnR ev nw k (stR nw ti r) true) := hide ⟨rfl, by have := HP.out.f; simp [stR]; omega, by have := HP.out.t; simp [stR]; omega⟩
            clear q1 q2
            generalize stR nw ti r = r2 at *
            have hev2 : 0 < ev := by omega
            have hd1 : decide (fm ≤ nw) = true := decide_eq_true hfm
            have hd2 : decide (0 < ev) = true := decide_eq_true hev2
            clear HP
            go_wp2_with fail
            refine HD.out.mono ?_
            rintro e w2 ⟨v, rfl, d2⟩
            obtain ⟨a2, cap2, rfl, -, q3⟩ : ∃ a cap, v = .slice a 1 cap ∧ 1 ≤ cap ∧ cap ≤ 9223372036854775807 := by obtain ⟨_, x⟩ := d2.fst_of; exact x.get
            have T2 := hide (HK.out _ _ d2.snd)
            clear d2 HD HK
            have ce : w2.cell? ⟨a, 0, none⟩ = some (.int .i64 ev) := by obtain ⟨_, x, _⟩ := T2.out.at1; exact cell_of x.1 0
            obtain ⟨P2, x2, kk2⟩ := T2.out.at0
            have HA := hide (fun ok => answer_any w2 P2 ev ti up dn nw nw 0 r2 ok [r2] b g x2 (by simp) hmn (by omega) (by omega) e0 e1 rfl HR.out.e HR.out.f.1 (by have := HR.out.f; omega) HR.out.t.1 (by have := HR.out.t; omega))
            rw [mx_le (Int.le_refl nw)] at HA
            rw [show ((0 : Nat) : Int) = 0 from rfl] at HA
            simp only [List.set_cons_zero] at HA
            have HK2 := hide kk2
            clear x2 kk2
            have hkm : k % 2 = 0 ∨ k % 2 = 1 := by omega
            rcases hkm with hkm | hkm
            · have hk1 : ((k : Int) % 2 == 1) = false := by simp; omega
              have HP2 : Hid (OnP ev true fm nw nw (k + 1) r2) := hide ⟨HR.out.e, fun h => by simp at h, fun h => by omega, by omega, by omega, by have := HR.out.f; omega, by have := HR.out.t; omega⟩
              clear hkm
              go_wp2_with fail
              go_roundw
              case rel => exact ⟨k + 1, nw, fm, nw, true, r2, by omega, by go_num, rfl, rfl, rfl, by omega, HP2, T2⟩
              case measure => simp [intOf]; omega
            · have hk1 : ((k : Int) % 2 == 1) = true := by simp; omega
              clear hkm
              go_wp2_with fail
              refine (HA.out _).mono ?_
              rintro e w3 ⟨rfl, d3⟩
              have T3 := hide (HK2.out _ _ d3)
              have ce3 : w3.cell? ⟨a, 0, none⟩ = some (.int .i64 ev) := by obtain ⟨_, x, _⟩ := T3.out.at1; exact cell_of x.1 0
              have HP3 : ∀ ok, Hid (OnP ev false (nw + ev) nw nw (k + 1) (anR ev up dn nw ok r2)) := fun ok => hide (HR.out.ans (by omega) (by omega) e1 ok)
              clear d3 HA HK2 T2 ce
              go_wp2_with fail
              go_roundw
              case rel => exact ⟨k + 1, nw, nw + ev, nw, false, _, by omega, by go_num, rfl, rfl, rfl, by omega, HP3 _, T3⟩
              case measure => simp [intOf]; omega
          · subst hcB
            obtain ⟨q1, q2⟩ := due_no (ev := ev) (ti := ti) (m := nw) (r := r) (.inr (.inl HP.out.e))
            rw [q1, q2] at HD
            have HR : Hid (OnR ev nw k r true) := hide ⟨HP.out.e, by have := HP.out.f; omega, by have := HP.out.t; omega⟩
            have hev2 : ev ≠ 0 := fun h => by have := HP.out.z h; simp at this
            clear q1 q2 HP
            generalize r = r2 at *
            go_wp2_with fail
            refine HD.out.mono ?_
            rintro e w2 ⟨v, rfl, d2⟩
            obtain ⟨a2, cap2, rfl, -, q3⟩ : ∃ a cap, v = .slice a 0 cap ∧ 0 ≤ cap ∧ cap ≤ 9223372036854775807 := by obtain ⟨_, x⟩ := d2.fst_of; exact x.get
            have T2 := hide (HK.out _ _ d2.snd)
            clear d2 HD HK
            have ce : w2.cell? ⟨a, 0, none⟩ = some (.int .i64 ev) := by obtain ⟨_, x, _⟩ := T2.out.at1; exact cell_of x.1 0
            obtain ⟨P2, x2, kk2⟩ := T2.out.at0
            have HA := hide (fun ok => answer_any w2 P2 ev ti up dn nw nw 0 r2 ok [r2] b g x2 (by simp) hmn (by omega) (by omega) e0 e1 rfl HR.out.e HR.out.f.1 (by have := HR.out.f; omega) HR.out.t.1 (by have := HR.out.t; omega))
            rw [mx_le (Int.le_refl nw)] at HA
            rw [show ((0 : Nat) : Int) = 0 from rfl] at HA
            simp only [List.set_cons_zero] at HA
            have HK2 := hide kk2
            clear x2 kk2
            have hkm : k % 2 = 0 ∨ k % 2 = 1 := by omega
            rcases hkm with hkm | hkm
            · have hk1 : ((k : Int) % 2 == 1) = false := by simp; omega
              have HP2 : Hid (OnP ev true fm nw nw (k + 1) r2) := hide ⟨HR.out.e, fun h => by simp at h, fun h => by omega, by omega, by omega, by have := HR.out.f; omega, by have := HR.out.t; omega⟩
              clear hkm
              go_wp2_with fail
              go_roundw
              case rel => exact ⟨k + 1, nw, fm, nw, true, r2, by omega, by go_num, rfl, rfl, rfl, by omega, HP2, T2⟩
              case measure => simp [intOf]; omega
            · have hk1 : ((k : Int) % 2 == 1) = true := by simp; omega
              clear hkm
              go_wp2_with fail
              refine (HA.out _).mono ?_
              rintro e w3 ⟨rfl, d3⟩
              have T3 := hide (HK2.out _ _ d3)
              have ce3 : w3.cell? ⟨a, 0, none⟩ = some (.int .i64 ev) := by obtain ⟨_, x, _⟩ := T3.out.at1; exact cell_of x.1 0
              have HP3 : ∀ ok, Hid (OnP ev false (nw + ev) nw nw (k + 1) (anR ev up dn nw ok r2)) := fun ok => hide (HR.out.ans (by omega) (by omega) e1 ok)
              clear d3 HA HK2 T2 ce
              go_wp2_with fail
              go_roundw
              case rel => exact ⟨k + 1, nw, nw + ev, nw, false, _, by omega, by go_num, rfl, rfl, rfl, by omega, HP3 _, T3⟩
              case measure => simp [intOf]; omega
          · obtain ⟨rfl, hfm⟩ := hcC
            have hex : ev = 0 ∨ r.e = true ∨ nw < r.u := by
              by_cases h0 : ev = 0
              · exact .inl h0
              · right; right; rw [HP.out.u rfl h0]; exact hfm
            obtain ⟨q1, q2⟩ := due_no (ti := ti) hex
            rw [q1, q2] at HD
            have HP2 : Hid (OnP ev false fm nw nw (k + 1) r) := hide ⟨HP.out.e, HP.out.u, HP.out.z, by omega, by omega, by have := HP.out.f; omega, by have := HP.out.t; omega⟩
            have hd1 : decide (fm ≤ nw) = false := decide_eq_false (by omega)
            clear q1 q2 hex HP
            go_wp2_with fail
            refine HD.out.mono ?_
            rintro e w2 ⟨v, rfl, d2⟩
            obtain ⟨a2, cap2, rfl, -, q3⟩ : ∃ a cap, v = .slice a 0 cap ∧ 0 ≤ cap ∧ cap ≤ 9223372036854775807 := by obtain ⟨_, x⟩ := d2.fst_of; exact x.get
            have T2 := hide (HK.out _ _ d2.snd)
            clear d2 HD HK
            have ce : w2.cell? ⟨a, 0, none⟩ = some (.int .i64 ev) := by obtain ⟨_, x, _⟩ := T2.out.at1; exact cell_of x.1 0
            go_wp2_with fail
            go_roundw
            case rel => exact ⟨k + 1, nw, fm, nw, false, r, by omega, by go_num, rfl, rfl, rfl, by omega, HP2, T2⟩
            case measure => simp [intOf]; omega
          · obtain ⟨rfl, hfm, hev⟩ := hcD
            obtain ⟨q1, q2⟩ := due_no (ev := ev) (ti := ti) (m := nw) (r := r) (.inl hev)
            have hd2 : decide (0 < ev) = false := decide_eq_false (by omega)
            have hd3 : ¬ 0 < ev := by omega
            rw [q1, q2] at HD
            have HP2 : Hid (OnP ev false fm nw nw (k + 1) r) := hide ⟨HP.out.e, HP.out.u, HP.out.z, by omega, by omega, by have := HP.out.f; omega, by have := HP.out.t; omega⟩
            have hd1 : decide (fm ≤ nw) = true := decide_eq_true hfm
            clear q1 q2 HP hev
            go_wp2_with fail
            refine HD.out.mono ?_
            rintro e w2 ⟨v, rfl, d2⟩
            obtain ⟨a2, cap2, rfl, -, q3⟩ : ∃ a cap, v = .slice a 0 cap ∧ 0 ≤ cap ∧ cap ≤ 9223372036854775807 := by obtain ⟨_, x⟩ := d2.fst_of; exact x.get
            have T2 := hide (HK.out _ _ d2.snd)
            clear d2 HD HK
            have ce : w2.cell? ⟨a, 0, none⟩ = some (.int .i64 ev) := by obtain ⟨_, x, _⟩ := T2.out.at1; exact cell_of x.1 0
            go_wp2_with fail
            go_roundw
            case rel => exact ⟨k + 1, nw, fm, nw, false, r, by omega, by go_num, rfl, rfl, rfl, by omega, HP2, T2⟩
            case measure => simp [intOf]; omega
      · have ek : k = len := by omega
        subst ek
        go_wp2_with (go_at_call 8; refine (speaks_any _).mono ?_; rintro e w3 ⟨rfl, HG⟩)
        go_ret
        exact ⟨rfl, (HI.out.fr.trans HG (fun _ _ x => x)).below (by omega) (fun _ _ x => x)⟩
  | false =>
    have HN := hide (fun V => new_bad V 1 ev ti up dn 0 (by rw [hA]; simp))
    clear hA
    go_enter Try.func3, Try.ntmps3
    go_wp2_with (first | (go_at_call 7; refine (HN.out _).mono ?_; rintro e w2 ⟨rfl, F2⟩) | (go_at_call 8; refine (speaks_any _).mono ?_; rintro e w3 ⟨rfl, HG⟩))
    go_ret
    exact ⟨rfl, (((Fr.alloc none' W _).trans F2 (fun _ _ x => x)).trans HG (fun _ _ x => x)).below (Nat.le_refl _) (fun _ _ x => x)⟩
end Go.Proofs.Ytlnckiknikaifaa
