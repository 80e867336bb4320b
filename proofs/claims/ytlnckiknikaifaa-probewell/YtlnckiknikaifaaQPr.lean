/- A schedule of probes: its small calls. -/
import Derived.Test.YtlnckiknikaifaaOBr
namespace Go.Proofs.Ytlnckiknikaifaa
open Go.ChangeShapes Go.WideShapes Go.ChangeAt Go.RowKit
set_option linter.unusedVariables false

def latI (t d : Int) : Int := if 4611686018427387904 - t < d then 4611686018427387904 else t + d
theorem later_t (t d : Int) (w : World) (h0 : 0 ≤ t) (h1 : t ≤ 4611686018427387904) (d0 : 0 ≤ d) (d1 : d ≤ 4611686018427387904) :
    Calls Try.prog 26 #[.int .i64 t, .int .i64 d] w fun e w' => e = .returned (.int .i64 (latI t d)) ∧ w = w' := by
  unfold latI
  by_cases h : 4611686018427387904 - t < d
  · rw [if_pos h]
    go_enter Try.func26, Try.ntmps26
    go_wp2
    go_ret
    exact ⟨rfl, rfl⟩
  · rw [if_neg h]
    go_enter Try.func26, Try.ntmps26
    go_wp2
    go_ret
    exact ⟨rfl, rfl⟩
theorem add_t (t d : Int) (w : World) (h0 : 0 ≤ t) (h1 : t ≤ 4611686018427387904) (d0 : 0 ≤ d) (d1 : d ≤ 4611686018427387904) :
    Calls Try.prog 20 #[.int .i64 t, .int .i64 d] w fun e w' => e = .returned (.tuple #[.int .i64 (latI t d), .int .i64 0]) ∧ w = w' := by
  have HM := hide (isMoment_any t w)
  rw [mom_yes h0 h1] at HM
  have HL := hide (later_t t d w h0 h1 d0 d1)
  go_enter Try.func20, Try.ntmps20
  go_wp2_with (first | (go_at_call 25; refine HM.out.mono ?_; rintro e w' ⟨rfl, rfl⟩) | (go_at_call 26; refine HL.out.mono ?_; rintro e w' ⟨rfl, rfl⟩))
  go_ret2
  exact ⟨rfl, rfl⟩
theorem lat_bd {t d : Int} (h0 : 0 ≤ t) (h1 : t ≤ 4611686018427387904) (d0 : 0 ≤ d) : 0 ≤ latI t d ∧ latI t d ≤ 4611686018427387904 ∧ t ≤ latI t d := by
  unfold latI; split <;> omega

def okA (ev ti up dn : Int) : Bool := decide (0 ≤ ev) && decide (ev ≤ 1000000) && decide (1 ≤ ti) && decide (ti ≤ 1000000) && decide (1 ≤ up) && decide (up ≤ 100) && decide (1 ≤ dn) && decide (dn ≤ 100)
set_option maxHeartbeats 1000000 in
set_option maxRecDepth 100000 in
theorem right_any (w : World) (ev ti up dn : Int) : Calls Try.prog 15 #[.agg #[.int .i64 ev, .int .i64 ti, .int .i64 up, .int .i64 dn]] w fun e w' => e = .returned (.bool (okA ev ti up dn)) ∧ Fr none' w w' := by
  have HF := hide (Fr.alloc none' w (.cells #[.int .i64 ev, .int .i64 ti, .int .i64 up, .int .i64 dn] 23))
  obtain ⟨R, HR⟩ : ∃ R, Hid (okA ev ti up dn = R) := ⟨_, hide rfl⟩
  rw [HR.out]
  have HK : Hid (∀ (p : Prop) [Decidable p], True) := hide (fun _ _ => trivial)
  by_cases h0 : 0 ≤ ev
  · by_cases h1 : ev ≤ 1000000
    · by_cases h2 : 1 ≤ ti
      · by_cases h3 : ti ≤ 1000000
        · by_cases h4 : 1 ≤ up
          · by_cases h5 : up ≤ 100
            · by_cases h6 : 1 ≤ dn
              · go_enter Try.func15, Try.ntmps15
                go_wp2
                go_ret
                exact ⟨ret_bool (by rw [← HR.out]; unfold okA; simp [*]), HF.out⟩
              · go_enter Try.func15, Try.ntmps15
                go_wp2
                go_ret
                exact ⟨ret_bool (by rw [← HR.out]; unfold okA; simp; omega), HF.out⟩
            · go_enter Try.func15, Try.ntmps15
              go_wp2
              go_ret
              exact ⟨ret_bool (by rw [← HR.out]; unfold okA; simp; omega), HF.out⟩
          · go_enter Try.func15, Try.ntmps15
            go_wp2
            go_ret
            exact ⟨ret_bool (by rw [← HR.out]; unfold okA; simp; omega), HF.out⟩
        · go_enter Try.func15, Try.ntmps15
          go_wp2
          go_ret
          exact ⟨ret_bool (by rw [← HR.out]; unfold okA; simp; omega), HF.out⟩
      · go_enter Try.func15, Try.ntmps15
        go_wp2
        go_ret
        exact ⟨ret_bool (by rw [← HR.out]; unfold okA; simp; omega), HF.out⟩
    · go_enter Try.func15, Try.ntmps15
      go_wp2
      go_ret
      exact ⟨ret_bool (by rw [← HR.out]; unfold okA; simp; omega), HF.out⟩
  · go_enter Try.func15, Try.ntmps15
    go_wp2
    go_ret
    exact ⟨ret_bool (by rw [← HR.out]; unfold okA; simp; omega), HF.out⟩

theorem never_any (w : World) (ev ti up dn la : Int) (L : List HR) (b g : Nat) (h : Hp ev ti up dn la L b g w) :
    Calls Try.prog 18 #[.pointer (some ⟨b, 0, none⟩)] w fun e w' => e = .returned (.bool (ev == 0)) ∧ w = w' := by
  obtain ⟨c0, c1, c2, c3, c4, c5, f4⟩ := h.cB
  clear h
  generalize L.length = n at *
  go_enter Try.func18, Try.ntmps18
  go_wp2
  go_ret
  exact ⟨rfl, rfl⟩
theorem never_nil (w : World) : Calls Try.prog 18 #[.pointer none] w fun e w' => e = .returned (.bool true) ∧ w = w' := by
  go_enter Try.func18, Try.ntmps18
  go_wp2
  go_ret
  exact ⟨rfl, rfl⟩
theorem has_any (w : World) (ev ti up dn la : Int) (L : List HR) (b g : Nat) (host : Int) (h : Hp ev ti up dn la L b g w) :
    Calls Try.prog 23 #[.pointer (some ⟨b, 0, none⟩), .int .i64 host] w fun e w' => e = .returned (.bool (hasB L.length host)) ∧ w = w' := by
  obtain ⟨c0, c1, c2, c3, c4, c5, f4⟩ := h.cB
  clear h
  generalize L.length = n at *
  by_cases h0 : 0 ≤ host
  · go_enter Try.func23, Try.ntmps23
    go_wp2
    go_ret
    exact ⟨ret_bool (by unfold hasB; simp [h0]), rfl⟩
  · go_enter Try.func23, Try.ntmps23
    go_wp2
    go_ret
    exact ⟨ret_bool (by unfold hasB; simp; omega), rfl⟩
theorem has_nil (w : World) (host : Int) : Calls Try.prog 23 #[.pointer none, .int .i64 host] w fun e w' => e = .returned (.bool false) ∧ w = w' := by
  go_enter Try.func23, Try.ntmps23
  go_wp2
  go_ret
  exact ⟨rfl, rfl⟩
theorem ask_nil (w : World) (now : Int) : Calls Try.prog 17 #[.pointer none, .int .i64 now] w fun e w' => e = .returned (.int .i64 (bE now)) ∧ w = w' := by
  have HU := hide (until_any 0 now w)
  rw [untE_eq (by omega) (by omega)] at HU
  have hb : bE now = 0 ∨ bE now = 1 := by unfold bE; split <;> simp
  generalize bE now = x at *
  rcases hb with rfl | rfl
  all_goals
    go_enter Try.func17, Try.ntmps17
    go_wp2_with (go_at_call 16; refine HU.out.mono ?_; rintro e w' ⟨rfl, rfl⟩)
    go_ret
    exact ⟨rfl, rfl⟩
set_option maxHeartbeats 1000000 in
theorem ask_any (w : World) (P : Nat → Prop) (ev ti up dn la now : Int) (L : List HR) (b g : Nat) (h : Hs ev ti up dn la L b g w P) (hm : mom now = true) :
    Calls Try.prog 17 #[.pointer (some ⟨b, 0, none⟩), .int .i64 now] w fun e w' => e = .returned (.int .i64 0) ∧ Does (Hs ev ti up dn (mx la now) L b g) P w w' := by
  have HU := hide (until_any 0 now w)
  rw [untE_eq (by omega) (by omega), show bE now = 0 by unfold bE; rw [hm]; rfl] at HU
  obtain ⟨c0, c1, c2, c3, c4, c5, f4⟩ := h.1.cB
  have HH : ∀ t, Hid (Does (Hs ev ti up dn t L b g) P w (w.setCell ⟨b, 4, none⟩ (.int .i64 t))) := fun t => hide ⟨P, ⟨h.1.at _, h.2⟩, (Fr.set _ _ _ _).mono (fun k _ e => (h.2 k).2 (.inl e)), fun _ hk => .inl hk⟩
  have E0 : Hid ((if la < now then now else la) = mx la now) := hide rfl
  have HH := HH (mx la now)
  clear h hm
  generalize L.length = n at *
  generalize mx la now = m at *
  go_enter Try.func17, Try.ntmps17
  go_upto_region 5 with (go_at_call 16; refine HU.out.mono ?_; rintro e w' ⟨rfl, rfl⟩)
  rw [E0.out]
  clear c0 c1 c2 c3 c4 c5 f4 E0 HU
  generalize w.setCell ⟨b, 4, none⟩ (.int .i64 m) = W1 at *
  go_wp2_with fail
  go_ret
  exact ⟨rfl, HH.out⟩
/-- Is a host healthy? -/
def hlB (L : List HR) (host : Int) : Bool := if 0 ≤ host then (match L[host.toNat]? with | some r => r.h | none => false) else false
theorem has_ex {L : List HR} {host : Int} (h : hasB L.length host = true) : ∃ (i : Nat) (hi : i < L.length), host = (i : Int) ∧ L[host.toNat]? = some L[i] := by
  unfold hasB at h
  rw [decide_eq_true_eq] at h
  obtain ⟨i, rfl⟩ := Int.eq_ofNat_of_zero_le h.1
  exact ⟨i, by omega, rfl, get_take (by omega)⟩
theorem hl_no {L : List HR} {host : Int} (h : hasB L.length host = false) : hlB L host = false := by
  unfold hasB at h
  rw [decide_eq_false_iff_not] at h
  unfold hlB
  by_cases h0 : 0 ≤ host
  · rw [if_pos h0, List.getElem?_eq_none (by omega)]
  · rw [if_neg h0]
theorem hl_at {L : List HR} {i : Nat} {r : HR} (h : L[i]? = some r) : hlB L (i : Int) = r.h := by
  unfold hlB
  rw [if_pos (by omega), Int.toNat_natCast, h]
set_option maxHeartbeats 1000000 in
theorem healthy_any (w : World) (ev ti up dn la host : Int) (L : List HR) (b g : Nat) (h : Hp ev ti up dn la L b g w) :
    Calls Try.prog 11 #[.pointer (some ⟨b, 0, none⟩), .int .i64 host] w fun e w' => e = .returned (.bool (hlB L host)) ∧ w = w' := by
  have HH := hide (has_any w ev ti up dn la L b g host h)
  cases hh : hasB L.length host with
  | false =>
    rw [hh] at HH
    rw [hl_no hh]
    clear hh h
    go_enter Try.func11, Try.ntmps11
    go_wp2_with (go_at_call 23; refine HH.out.mono ?_; rintro e w' ⟨rfl, rfl⟩)
    go_ret
    exact ⟨rfl, rfl⟩
  | true =>
    rw [hh] at HH
    obtain ⟨i, hi, rfl, h2⟩ := has_ex hh
    obtain ⟨c0, c1, c2, c3, c4, c5, f4⟩ := h.cB
    obtain ⟨g0, g1, g2, g3, g4⟩ := h.cG (get_take hi)
    rw [hl_at (get_take hi)]
    generalize L[i] = r at *
    generalize L.length = n at *
    have hi2 : (i : Int) < (n : Int) := by omega
    simp only [Bool.false_bne] at g0
    clear hh h2 h g1 g2 g3 g4
    go_enter Try.func11, Try.ntmps11
    go_wp2_with (go_at_call 23; refine HH.out.mono ?_; rintro e w' ⟨rfl, rfl⟩)
    go_ret
    exact ⟨rfl, rfl⟩
theorem healthy_nil (w : World) (host : Int) : Calls Try.prog 11 #[.pointer none, .int .i64 host] w fun e w' => e = .returned (.bool false) ∧ w = w' := by
  go_enter Try.func11, Try.ntmps11
  go_wp2_with (go_at_call 23; refine (has_nil _ _).mono ?_; rintro e w' ⟨rfl, rfl⟩)
  go_ret
  exact ⟨rfl, rfl⟩
set_option maxHeartbeats 1000000 in
theorem running_any (w : World) (ev ti up dn la now : Int) (i : Nat) (r : HR) (L : List HR) (b g : Nat) (h : Hp ev ti up dn la L b g w) (hm : mom now = true) (hr : L[i]? = some r) (he : r.e = true) (hl : L.length ≤ 16) :
    Calls Try.prog 21 #[.pointer (some ⟨b, 0, none⟩), .int .i64 now, .int .i64 (i : Int)] w fun e w' => e = .returned (.tuple #[.pointer (some ⟨g, i * 5, none⟩), .int .i64 0]) ∧ w = w' := by
  have HU := hide (until_any 0 now w)
  rw [untE_eq (by omega) (by omega), show bE now = 0 by unfold bE; rw [hm]; rfl] at HU
  have HH := hide (has_any w ev ti up dn la L b g i h)
  have hi : i < L.length := by obtain ⟨q, _⟩ := List.getElem?_eq_some_iff.1 hr; exact q
  rw [show hasB L.length (i : Int) = true by unfold hasB; simp; omega] at HH
  obtain ⟨c0, c1, c2, c3, c4, c5, f4⟩ := h.cB
  obtain ⟨g0, g1, g2, g3, g4⟩ := h.cG hr
  rw [he] at g1
  generalize L.length = n at *
  have hi2 : (i : Int) < (n : Int) := by omega
  clear hm h hr he g0 g2 g3 g4
  go_enter Try.func21, Try.ntmps21
  go_wp2_with (first | (go_at_call 16; refine HU.out.mono ?_; rintro e w' ⟨rfl, rfl⟩) | (go_at_call 23; refine HH.out.mono ?_; rintro e w' ⟨rfl, rfl⟩))
  go_ret2
  exact ⟨rfl, rfl⟩
theorem running_nil (w : World) (now host : Int) :
    Calls Try.prog 21 #[.pointer none, .int .i64 now, .int .i64 host] w fun e w' => e = .returned (.tuple #[.pointer none, .int .i64 (if mom now then 6 else 1)]) ∧ w = w' := by
  have HU := hide (until_any 0 now w)
  rw [untE_eq (by omega) (by omega)] at HU
  unfold bE at HU
  cases hm : mom now with
  | false =>
    rw [hm] at HU
    simp only [Bool.false_eq_true, if_false] at HU ⊢
    go_enter Try.func21, Try.ntmps21
    go_wp2_with (go_at_call 16; refine HU.out.mono ?_; rintro e w' ⟨rfl, rfl⟩)
    go_ret2
    exact ⟨rfl, rfl⟩
  | true =>
    rw [hm] at HU
    simp only [if_true] at HU ⊢
    go_enter Try.func21, Try.ntmps21
    go_wp2_with (first | (go_at_call 16; refine HU.out.mono ?_; rintro e w' ⟨rfl, rfl⟩) | (go_at_call 23; refine (has_nil _ _).mono ?_; rintro e w' ⟨rfl, rfl⟩))
    go_ret2
    exact ⟨rfl, rfl⟩
end Go.Proofs.Ytlnckiknikaifaa
