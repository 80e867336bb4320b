/- The hosts that are due, and those that are late. -/
import Derived.Test.YtlnckiknikaifaaQCm
import Derived.Deep.RegionHeld3
namespace Go.Proofs.Ytlnckiknikaifaa
open Go.ChangeShapes Go.WideShapes Go.ChangeAt Go.RowKit
set_option linter.unusedVariables false

/-- A host whose probe begins. -/
def stR (m ti : Int) (r : HR) : HR := ⟨r.h, true, latI m ti, r.f, r.t⟩
def mkD (m ti : Int) (l : List Int) (L : List HR) : List HR := L.mapIdx (fun i r => if (i : Int) ∈ l then stR m ti r else r)
theorem mkD_len (m ti : Int) (l : List Int) (L : List HR) : (mkD m ti l L).length = L.length := by unfold mkD; simp
theorem mkD_at {m ti : Int} {l : List Int} {L : List HR} {i : Nat} {r : HR} (h : L[i]? = some r) : (mkD m ti l L)[i]? = some (if (i : Int) ∈ l then stR m ti r else r) := by
  unfold mkD; rw [List.getElem?_mapIdx, h]; rfl
theorem mkD_nil (m ti : Int) (L : List HR) : mkD m ti [] L = L := by
  unfold mkD
  apply List.ext_getElem?
  intro i
  rw [List.getElem?_mapIdx]
  simp
theorem mkD_row {m ti : Int} {l : List Int} {L : List HR} {i : Nat} {r : HR} (h : L[i]? = some r) : ∃ re ru, (mkD m ti l L)[i]? = some ⟨r.h, re, ru, r.f, r.t⟩ := by
  rw [mkD_at h]
  split
  · exact ⟨_, _, rfl⟩
  · exact ⟨r.e, r.u, rfl⟩
theorem take_mem {l : List Int} {j : Nat} (hj : j < l.length) (x : Int) : x ∈ l.take (j + 1) ↔ (x ∈ l.take j ∨ x = l.getD j 0) := by
  rw [List.take_add_one, List.getElem?_eq_getElem hj, List.mem_append]
  simp [List.getD, hj]
theorem mkD_step {m ti : Int} {l : List Int} {L : List HR} {i j : Nat} {r : HR} (hj : j < l.length) (hx : l.getD j 0 = (i : Int)) (h : L[i]? = some r) : (mkD m ti (l.take j) L).set i (stR m ti r) = mkD m ti (l.take (j + 1)) L := by
  apply List.ext_getElem?
  intro k
  by_cases hk : k = i
  · subst hk
    rw [List.getElem?_set_self (by rw [mkD_len]; exact (List.getElem?_eq_some_iff.1 h).1), mkD_at h, if_pos ((take_mem hj _).2 (.inr hx.symm))]
  · rw [List.getElem?_set_ne (Ne.symm hk)]
    cases hr : L[k]? with
    | none =>
      have h1 : (mkD m ti (l.take j) L)[k]? = none := by rw [List.getElem?_eq_none_iff, mkD_len]; exact List.getElem?_eq_none_iff.1 hr
      have h2 : (mkD m ti (l.take (j + 1)) L)[k]? = none := by rw [List.getElem?_eq_none_iff, mkD_len]; exact List.getElem?_eq_none_iff.1 hr
      rw [h1, h2]
    | some s =>
      rw [mkD_at hr, mkD_at hr]
      have : ((k : Int) ∈ l.take (j + 1)) ↔ ((k : Int) ∈ l.take j) := by
        rw [take_mem hj, hx]
        constructor
        · rintro (x | x)
          · exact x
          · exact absurd x (by omega)
        · exact .inl
      simp only [this]
theorem mem_nums {p : HR → Bool} {L : List HR} {x : Int} : ∀ {k : Nat}, x ∈ nums p L k ↔ ∃ i r, i < k ∧ x = (i : Int) ∧ L[i]? = some r ∧ p r = true
  | 0 => by simp [nums]
  | k + 1 => by
    show x ∈ nums p L k ++ _ ↔ _
    rw [List.mem_append, mem_nums (k := k)]
    constructor
    · rintro (⟨i, r, h1, h2⟩ | h)
      · exact ⟨i, r, by omega, h2⟩
      · cases hr : L[k]? with
        | none => rw [hr] at h; simp at h
        | some r =>
          rw [hr] at h
          simp only at h
          by_cases hp : p r = true
          · rw [if_pos hp] at h
            exact ⟨k, r, by omega, by simpa using h, hr, hp⟩
          · rw [if_neg hp] at h; simp at h
    · rintro ⟨i, r, h1, h2, h3, h4⟩
      by_cases hi : i < k
      · exact .inl ⟨i, r, hi, h2, h3, h4⟩
      · obtain rfl : i = k := by omega
        right
        rw [h3]
        simp [h4, h2]
/-- The hosts that are due, and all hosts behind that. -/
def duN (ev m : Int) (L : List HR) : List Int := if ev = 0 then [] else nums (comP false m) L L.length
def duL (ev ti m : Int) (L : List HR) : List HR := mkD m ti (duN ev m L) L
theorem duL_len (ev ti m : Int) (L : List HR) : (duL ev ti m L).length = L.length := mkD_len _ _ _ _

set_option maxHeartbeats 4000000 in
set_option maxRecDepth 100000 in
theorem due_go (w : World) (P : Nat → Prop) (ev ti up dn la now : Int) (L : List HR) (b g : Nat) (h : Hs ev ti up dn la L b g w P) (hl : L.length ≤ 16) (hm : mom now = true) (he : ev ≠ 0) (l0 : 0 ≤ la) (l1 : la ≤ 4611686018427387904) (t0 : 0 ≤ ti) (t1 : ti ≤ 1000000) :
    Calls Try.prog 9 #[.pointer (some ⟨b, 0, none⟩), .int .i64 now] w fun e w' => ∃ v, e = .returned (.tuple #[v, .int .i64 0]) ∧ Does (Two (Row v (nums (comP false (mx la now)) L L.length)) (Hs ev ti up dn (mx la now) (mkD (mx la now) ti (nums (comP false (mx la now)) L L.length) L) b g)) P w w' := by
  have HK := hide (ask_any w P ev ti up dn la now L b g h hm)
  have hmb : 0 ≤ mx la now ∧ mx la now ≤ 4611686018427387904 := by have := mom_iff.1 hm; unfold mx; split <;> omega
  clear h hm l0 l1
  generalize mx la now = m at *
  have HA := hide (fun V => add_t m ti V hmb.1 hmb.2 t0 (by omega))
  have hev : (ev == 0) = false := by simpa using he
  have Hnn := hide (nums_len (comP false m) L L.length)
  have Hmem := hide (fun x => (mem_nums (p := comP false m) (L := L) (x := x) (k := L.length)).1)
  obtain ⟨l, Hl⟩ : ∃ l, Hid (nums (comP false m) L L.length = l) := ⟨_, hide rfl⟩
  rw [Hl.out] at Hnn Hmem ⊢
  go_enter Try.func9, Try.ntmps9
  go_wp2_with fail
  refine HK.out.mono ?_
  rintro e w1 ⟨rfl, d1⟩
  obtain ⟨P1, x1, y1, y2⟩ := d1
  have HV := hide (never_any w1 _ _ _ _ _ _ b g x1.1)
  rw [hev] at HV
  have HC := hide (come_any w1 P1 _ _ _ _ _ false _ b g x1 hl)
  have HM := hide (fun (O : Thing) V (d : Does O P1 w1 V) => Does.more (w := w) y1 y2 d)
  clear x1 y1 y2 HK
  go_wp2_with (go_at_call 18; refine HV.out.mono ?_; rintro e w' ⟨rfl, rfl⟩)
  refine HC.out.mono ?_
  rintro e w2 ⟨v, rfl, d2⟩
  have T0 := hide (HM.out _ _ d2)
  rw [Hl.out] at T0
  clear d2 HC HV HM
  obtain ⟨a, cap, rfl, q1, q2⟩ : ∃ a cap, v = .slice a l.length cap ∧ l.length ≤ cap ∧ cap ≤ 9223372036854775807 := by obtain ⟨_, x⟩ := T0.out.fst_of; exact x.get
  obtain ⟨cn, Hcn⟩ : ∃ cn, Hid (l.length = cn) := ⟨_, hide rfl⟩
  obtain ⟨n, Hn⟩ : ∃ n, Hid (L.length = n) := ⟨_, hide rfl⟩
  rw [Hn.out] at hl
  rw [Hcn.out] at q1 T0 ⊢
  have hc16 : cn ≤ 16 := by have := Hnn.out; rw [Hcn.out, Hn.out] at this; omega
  go_wp2_with fail
  go_loopw [25] (fun v wr => ∃ (j : Nat), j ≤ cn ∧ v = .int .i64 (j : Int) ∧ Hid (Does (Two (Row (.slice a cn cap) l) (Hs ev ti up dn m (mkD m ti (l.take j) L) b g)) P w wr)) (fun v _ => cn - (intOf v).toNat)
  case atStart => exact ⟨0, Nat.zero_le _, rfl, by rw [List.take_zero, mkD_nil]; exact T0⟩
  case round =>
    clear T0
    obtain ⟨j, hj, rfl, HI⟩ := hrel
    by_cases hlt : j < cn
    · have hjl : j < l.length := by rw [Hcn.out]; exact hlt
      obtain ⟨ga, oa, ca, ea, ka⟩ : ∃ ga oa ca, Value.slice a cn cap = .slice (some ⟨ga, oa, none⟩) l.length ca ∧ wr.cell? ⟨ga, oa + j, none⟩ = some (.int .i64 (l.getD j 0)) := by obtain ⟨_, x⟩ := HI.out.fst_of; exact x.1.cell hjl
      simp only [Value.slice.injEq] at ea
      obtain ⟨rfl, -, rfl⟩ := ea
      obtain ⟨i, r, hi, hx, hr, -⟩ := Hmem.out (l.getD j 0) (by rw [List.getD_eq_getElem?_getD, List.getElem?_eq_getElem hjl]; exact List.getElem_mem hjl)
      have HST := hide (mkD_step (m := m) (ti := ti) hjl hx hr)
      rw [hx] at ka
      rw [Hn.out] at hi
      obtain ⟨re, ru, hrow⟩ := mkD_row (m := m) (ti := ti) (l := l.take j) hr
      obtain ⟨_, x⟩ := HI.out.snd_of
      obtain ⟨c0, c1, c2, c3, c4, c5, f4⟩ := x.1.cB
      obtain ⟨g0, g1, g2, g3, g4⟩ := x.1.cG hrow
      have z1 := x.1.fz (i * 5 + 1)
      rw [mkD_len, Hn.out] at c5
      have hi2 : (i : Int) < (n : Int) := by omega
      obtain ⟨rh, re0, ru0, rf, rt⟩ := r
      simp only at hrow g0 g1 g2 g3 g4
      have T1 : Hid (Does (Two (Row (.slice (some ⟨ga, oa, none⟩) cn cap) l) (Hs ev ti up dn m ((mkD m ti (l.take j) L).set i ⟨rh, true, ru, rf, rt⟩) b g)) P w (wr.setCell ⟨g, i * 5 + 1, none⟩ (.bool true))) := hide (HI.out.right (fun _ y => HsT.set2 (j := 1) y hrow (by omega) rfl))
      have HS1 : Hid (((mkD m ti (l.take j) L).set i ⟨rh, true, ru, rf, rt⟩)[i]? = some ⟨rh, true, ru, rf, rt⟩) := hide (by rw [List.getElem?_set_self (List.getElem?_eq_some_iff.1 hrow).1])
      clear x HI hx hr hrow
      go_upto_region 10 with fail
      clear c0 c1 c2 c3 c4 c5 f4 g0 g1 g2 g3 g4 z1 ka
      generalize wr.setCell ⟨g, i * 5 + 1, none⟩ (.bool true) = W1 at *
      obtain ⟨_, y⟩ := T1.out.snd_of
      obtain ⟨c0, c1, c2, c3, c4, c5, f4⟩ := y.1.cB
      obtain ⟨g0, g1, g2, g3, g4⟩ := y.1.cG HS1.out
      have z2 := y.1.fz (i * 5 + 2)
      clear y
      have T2 : Hid (Does (Two (Row (.slice (some ⟨ga, oa, none⟩) cn cap) l) (Hs ev ti up dn m (mkD m ti (l.take (j + 1)) L) b g)) P w (W1.drew.setCell ⟨g, i * 5 + 2, none⟩ (.int .i64 (latI m ti)))) := hide (by
        have := (T1.out.e (Fr.drew _ _)).right (fun _ y => HsT.set2 (j := 2) (r' := ⟨rh, true, latI m ti, rf, rt⟩) (v := .int .i64 (latI m ti)) y HS1.out (by omega) rfl)
        rw [List.set_set] at this
        rw [← HST.out]
        exact this)
      have cS : W1.drew.cell? ⟨b, 4, none⟩ = some (.int .i64 m) ∧ W1.drew.cell? ⟨b, 1, none⟩ = some (.int .i64 ti) := ⟨c4, c1⟩
      have cZ : (W1.drew.setCell ⟨g, i * 5 + 2, none⟩ (.int .i64 (latI m ti))).cell? ⟨b, 4, none⟩ = some (.int .i64 m) ∧ (W1.drew.setCell ⟨g, i * 5 + 2, none⟩ (.int .i64 (latI m ti))).cell? ⟨b, 1, none⟩ = some (.int .i64 ti) := by
        obtain ⟨P9, y9⟩ := T2.out.snd_of
        obtain ⟨u0, u1, u2, u3, u4, u5, -⟩ := y9.1.cB
        exact ⟨u4, u1⟩
      clear T1 HS1 HST
      refine wp_region_noPanic ?_
      refine wp_region_held_drew (S := fun W => W.cell? ⟨b, 4, none⟩ = some (.int .i64 m) ∧ W.cell? ⟨b, 1, none⟩ = some (.int .i64 ti)) (by kernel_rfl) cS (fun hHeld => ?_)
      refine wpAnyH_take (i := 0) (v := ?_) rfl (by kernel_rfl) (by kernel_rfl) (by kernel_rfl) (fun _ _ _ h => h) (Or.inl ⟨by rfl, ?_⟩) (by assumption) ?_
      rotate_left
      · (intro W hSw; obtain ⟨s1, s2⟩ := hSw; go_simp; try with_reducible rfl)
      try simp only [List.getElem_toArray, List.getElem_cons_zero, Act.put, List.setIfInBounds_toArray, List.set_cons_zero, List.set_cons_succ]
      refine wpAnyH_take (i := 1) (v := ?_) rfl (by kernel_rfl) (by kernel_rfl) (by kernel_rfl) (fun _ _ _ h => h) (Or.inl ⟨by rfl, ?_⟩) (by assumption) ?_
      rotate_left
      · (intro W hSw; obtain ⟨s1, s2⟩ := hSw; go_simp; try with_reducible rfl)
      try simp only [List.getElem_toArray, List.getElem_cons_zero, List.getElem_cons_succ, Act.put, List.setIfInBounds_toArray, List.set_cons_zero, List.set_cons_succ]
      refine wpAnyH_take (i := 2) (v := ?_) rfl (by kernel_rfl) (by kernel_rfl) (by kernel_rfl) (fun _ _ _ h => h) (Or.inl ⟨by rfl, ?_⟩) (by assumption) ?_
      rotate_left
      · (intro W hSw; obtain ⟨s1, s2⟩ := hSw; go_simp; try with_reducible rfl)
      try simp only [List.getElem_toArray, List.getElem_cons_zero, List.getElem_cons_succ, Act.put, List.setIfInBounds_toArray, List.set_cons_zero, List.set_cons_succ]
      refine wpAnyH_take (i := 3) (v := ?_) rfl (by kernel_rfl) (by kernel_rfl) (by kernel_rfl) (fun _ _ _ h => h) (Or.inl ⟨by rfl, ?_⟩) (by assumption) ?_
      rotate_left
      · (intro W hSw; obtain ⟨s1, s2⟩ := hSw; go_simp; try with_reducible rfl)
      try simp only [List.getElem_toArray, List.getElem_cons_zero, List.getElem_cons_succ, Act.put, List.setIfInBounds_toArray, List.set_cons_zero, List.set_cons_succ]
      refine wpAnyH_take (i := 4) (v := ?_) rfl (by kernel_rfl) (by kernel_rfl) (by kernel_rfl) (fun _ _ _ h => h) (Or.inl ⟨by rfl, ?_⟩) (by assumption) ?_
      rotate_left
      · (intro W hSw; obtain ⟨s1, s2⟩ := hSw; go_simp; try with_reducible rfl)
      try simp only [List.getElem_toArray, List.getElem_cons_zero, List.getElem_cons_succ, Act.put, List.setIfInBounds_toArray, List.set_cons_zero, List.set_cons_succ]
      refine wpAnyH_take (i := 5) (v := ?_) rfl (by kernel_rfl) (by kernel_rfl) (by kernel_rfl) (fun _ _ _ h => h) (Or.inl ⟨by rfl, ?_⟩) (by assumption) ?_
      rotate_left
      · (intro W hSw; obtain ⟨s1, s2⟩ := hSw; go_simp; try with_reducible rfl)
      try simp only [List.getElem_toArray, List.getElem_cons_zero, List.getElem_cons_succ, Act.put, List.setIfInBounds_toArray, List.set_cons_zero, List.set_cons_succ]
      refine wpAnyH_take (i := 6) (v := ?_) rfl (by kernel_rfl) (by kernel_rfl) (by kernel_rfl) (fun _ _ _ h => h) (Or.inl ⟨by rfl, ?_⟩) (by assumption) ?_
      rotate_left
      · (intro W hSw; obtain ⟨s1, s2⟩ := hSw; go_simp; try with_reducible rfl)
      try simp only [List.getElem_toArray, List.getElem_cons_zero, List.getElem_cons_succ, Act.put, List.setIfInBounds_toArray, List.set_cons_zero, List.set_cons_succ]
      refine wpAnyH_take (i := 7) (v := ?_) rfl (by kernel_rfl) (by kernel_rfl) (by kernel_rfl) (fun _ _ _ h => h) (Or.inl ⟨by rfl, ?_⟩) (by assumption) ?_
      rotate_left
      · (intro W hSw; obtain ⟨s1, s2⟩ := hSw; go_simp; try with_reducible rfl)
      try simp only [List.getElem_toArray, List.getElem_cons_zero, List.getElem_cons_succ, Act.put, List.setIfInBounds_toArray, List.set_cons_zero, List.set_cons_succ]
      refine wpAnyH_take (i := 8) (v := ?_) rfl (by kernel_rfl) (by kernel_rfl) (by kernel_rfl) (fun _ _ _ h => h) (Or.inl ⟨by rfl, ?_⟩) (by assumption) ?_
      rotate_left
      · (intro W hSw; obtain ⟨s1, s2⟩ := hSw; go_simp; try with_reducible rfl)
      try simp only [List.getElem_toArray, List.getElem_cons_zero, List.getElem_cons_succ, Act.put, List.setIfInBounds_toArray, List.set_cons_zero, List.set_cons_succ]
      refine wpAnyH_take (i := 9) (v := ?_) rfl (by kernel_rfl) (by kernel_rfl) (by kernel_rfl) (fun _ _ _ h => h) (Or.inl ⟨by rfl, ?_⟩) (by assumption) ?_
      rotate_left
      · (intro W hSw; obtain ⟨s1, s2⟩ := hSw; go_simp; try with_reducible rfl)
      try simp only [List.getElem_toArray, List.getElem_cons_zero, List.getElem_cons_succ, Act.put, List.setIfInBounds_toArray, List.set_cons_zero, List.set_cons_succ]
      refine wpAnyH_ready (rs := [10]) (by kernel_rfl) (by simp) ?_
      refine AllReadyH.cons rfl (fun K hK => ?_) AllReadyH.nil
      go_simp
      refine (HA.out _).mono ?_
      rintro e w' ⟨rfl, rfl⟩
      refine hK.out _ _ cS (fun hHeld => ?_)
      clear hK K
      try simp only [List.getElem_toArray, List.getElem_cons_zero, List.getElem_cons_succ, Act.put, List.setIfInBounds_toArray, List.set_cons_zero, List.set_cons_succ]
      refine wpAnyH_take (i := 11) (v := ?_) rfl (by kernel_rfl) (by kernel_rfl) (by kernel_rfl) (fun _ _ _ h => h) (Or.inl ⟨by rfl, ?_⟩) (by assumption) ?_
      rotate_left
      · (intro W hSw; obtain ⟨s1, s2⟩ := hSw; go_simp; try with_reducible rfl)
      try simp only [List.getElem_toArray, List.getElem_cons_zero, List.getElem_cons_succ, Act.put, List.setIfInBounds_toArray, List.set_cons_zero, List.set_cons_succ]
      refine wpAnyH_take (i := 12) (v := ?_) rfl (by kernel_rfl) (by kernel_rfl) (by kernel_rfl) (fun _ _ _ h => h) (Or.inl ⟨by rfl, ?_⟩) (by assumption) ?_
      rotate_left
      · (intro W hSw; obtain ⟨s1, s2⟩ := hSw; go_simp; try with_reducible rfl)
      try simp only [List.getElem_toArray, List.getElem_cons_zero, List.getElem_cons_succ, Act.put, List.setIfInBounds_toArray, List.set_cons_zero, List.set_cons_succ]
      refine wpAnyH_take (i := 13) (v := ?_) rfl (by kernel_rfl) (by kernel_rfl) (by kernel_rfl) (fun _ _ _ h => h) (Or.inl ⟨by rfl, ?_⟩) (by assumption) ?_
      rotate_left
      · (intro W hSw; obtain ⟨s1, s2⟩ := hSw; go_simp; try with_reducible rfl)
      try simp only [List.getElem_toArray, List.getElem_cons_zero, List.getElem_cons_succ, Act.put, List.setIfInBounds_toArray, List.set_cons_zero, List.set_cons_succ]
      refine wpAnyH_take (i := 14) (v := ?_) rfl (by kernel_rfl) (by kernel_rfl) (by kernel_rfl) (fun _ _ _ h => h) (Or.inl ⟨by rfl, ?_⟩) (by assumption) ?_
      rotate_left
      · (intro W hSw; obtain ⟨s1, s2⟩ := hSw; go_simp; try with_reducible rfl)
      try simp only [List.getElem_toArray, List.getElem_cons_zero, List.getElem_cons_succ, Act.put, List.setIfInBounds_toArray, List.set_cons_zero, List.set_cons_succ]
      refine wpAnyH_take (i := 15) (v := ?_) rfl (by kernel_rfl) (by kernel_rfl) (by kernel_rfl) (fun _ _ _ h => h) (Or.inl ⟨by rfl, ?_⟩) (by assumption) ?_
      rotate_left
      · (intro W hSw; obtain ⟨s1, s2⟩ := hSw; go_simp; try with_reducible rfl)
      try simp only [List.getElem_toArray, List.getElem_cons_zero, List.getElem_cons_succ, Act.put, List.setIfInBounds_toArray, List.set_cons_zero, List.set_cons_succ]
      refine wpAnyH_ready (rs := [16]) (by kernel_rfl) (by simp) ?_
      refine AllReadyH.cons rfl (fun K hK => ?_) AllReadyH.nil
      go_simp
      refine hK.out _ _ cZ (fun hHeld => ?_)
      clear hK K
      try simp only [List.getElem_toArray, List.getElem_cons_zero, List.getElem_cons_succ, Act.put, List.setIfInBounds_toArray, List.set_cons_zero, List.set_cons_succ]
      refine wpAnyH_done (by kernel_rfl) ?_ _
      clear hHeld cS cZ
      refine NoPanic.normal ?_
      rw [show (W1.setCell ⟨g, i * 5 + 2, none⟩ (.int .i64 (latI m ti))).drew = W1.drew.setCell ⟨g, i * 5 + 2, none⟩ (.int .i64 (latI m ti)) from rfl]
      clear c0 c1 c2 c3 c4 c5 f4 g0 g1 g2 g3 g4 z2
      generalize W1.drew.setCell ⟨g, i * 5 + 2, none⟩ (.int .i64 (latI m ti)) = W2 at *
      go_wp2_with fail
      go_roundw
      case rel => exact ⟨j + 1, by omega, by go_num, T2⟩
      case measure => simp [intOf]; omega
    · obtain rfl : j = cn := by omega
      have e1 : l.take j = l := by rw [← Hcn.out, List.take_length]
      rw [e1] at HI
      go_wp2_with fail
      go_ret2
      exact ⟨_, rfl, HI.out⟩
set_option maxHeartbeats 1000000 in
theorem due_any (w : World) (P : Nat → Prop) (ev ti up dn la now : Int) (L : List HR) (b g : Nat) (h : Hs ev ti up dn la L b g w P) (hl : L.length ≤ 16) (hm : mom now = true) (l0 : 0 ≤ la) (l1 : la ≤ 4611686018427387904) (t0 : 0 ≤ ti) (t1 : ti ≤ 1000000) :
    Calls Try.prog 9 #[.pointer (some ⟨b, 0, none⟩), .int .i64 now] w fun e w' => ∃ v, e = .returned (.tuple #[v, .int .i64 0]) ∧ Does (Two (Row v (duN ev (mx la now) L)) (Hs ev ti up dn (mx la now) (duL ev ti (mx la now) L) b g)) P w w' := by
  by_cases he : ev = 0
  · subst he
    have e1 : duN 0 (mx la now) L = [] := by unfold duN; rw [if_pos rfl]
    have e2 : duL 0 ti (mx la now) L = L := by unfold duL; rw [e1, mkD_nil]
    rw [e1, e2]
    have HK := hide (ask_any w P 0 ti up dn la now L b g h hm)
    clear h hm e1 e2
    generalize mx la now = m at *
    go_enter Try.func9, Try.ntmps9
    go_wp2_with fail
    refine HK.out.mono ?_
    rintro e w1 ⟨rfl, d1⟩
    have HD := hide d1
    obtain ⟨P1, x1, y1, y2⟩ := d1
    have HV := hide (never_any w1 _ _ _ _ _ _ b g x1.1)
    rw [show ((0 : Int) == 0) = true by decide] at HV
    clear x1 y1 y2 HK
    go_wp2_with (go_at_call 18; refine HV.out.mono ?_; rintro e w' ⟨rfl, rfl⟩)
    go_ret2
    exact ⟨_, rfl, HD.out.nilrow⟩
  · have e1 : duN ev (mx la now) L = nums (comP false (mx la now)) L L.length := by unfold duN; rw [if_neg he]
    unfold duL
    rw [e1]
    exact due_go w P ev ti up dn la now L b g h hl hm he l0 l1 t0 t1
set_option maxHeartbeats 1000000 in
theorem late_go (w : World) (P : Nat → Prop) (ev ti up dn la now : Int) (L : List HR) (b g : Nat) (h : Hs ev ti up dn la L b g w P) (hl : L.length ≤ 16) (hm : mom now = true) (he : ev ≠ 0) :
    Calls Try.prog 12 #[.pointer (some ⟨b, 0, none⟩), .int .i64 now] w fun e w' => ∃ v, e = .returned (.tuple #[v, .int .i64 0]) ∧ Does (Two (Row v (nums (comP true (mx la now)) L L.length)) (Hs ev ti up dn (mx la now) L b g)) P w w' := by
  have HK := hide (ask_any w P ev ti up dn la now L b g h hm)
  have hev : (ev == 0) = false := by simpa using he
  clear h hm
  generalize mx la now = m at *
  obtain ⟨l, Hl⟩ : ∃ l, Hid (nums (comP true m) L L.length = l) := ⟨_, hide rfl⟩
  rw [Hl.out]
  go_enter Try.func12, Try.ntmps12
  go_wp2_with fail
  refine HK.out.mono ?_
  rintro e w1 ⟨rfl, d1⟩
  obtain ⟨P1, x1, y1, y2⟩ := d1
  have HV := hide (never_any w1 _ _ _ _ _ _ b g x1.1)
  rw [hev] at HV
  have HC := hide (come_any w1 P1 _ _ _ _ _ true _ b g x1 hl)
  have HM := hide (fun (O : Thing) V (d : Does O P1 w1 V) => Does.more (w := w) y1 y2 d)
  clear x1 y1 y2 HK
  go_wp2_with (go_at_call 18; refine HV.out.mono ?_; rintro e w' ⟨rfl, rfl⟩)
  refine HC.out.mono ?_
  rintro e w2 ⟨v, rfl, d2⟩
  have T0 := hide (HM.out _ _ d2)
  rw [Hl.out] at T0
  clear d2 HC HV HM
  obtain ⟨a, cap, rfl, q1, q2⟩ : ∃ a cap, v = .slice a l.length cap ∧ l.length ≤ cap ∧ cap ≤ 9223372036854775807 := by obtain ⟨_, x⟩ := T0.out.fst_of; exact x.get
  generalize l.length = cn at *
  go_wp2_with fail
  go_ret2
  exact ⟨_, rfl, T0.out⟩
theorem due_nil (w : World) (now : Int) : Calls Try.prog 9 #[.pointer none, .int .i64 now] w fun e w' => e = .returned (.tuple #[.slice none 0 0, .int .i64 (bE now)]) ∧ w = w' := by
  have HA := hide (ask_nil w now)
  have hb : bE now = 0 ∨ bE now = 1 := by unfold bE; split <;> simp
  generalize bE now = x at *
  rcases hb with rfl | rfl
  all_goals
    go_enter Try.func9, Try.ntmps9
    go_wp2_with (first | (go_at_call 17; refine HA.out.mono ?_; rintro e w' ⟨rfl, rfl⟩) | (go_at_call 18; refine (never_nil _).mono ?_; rintro e w' ⟨rfl, rfl⟩))
    go_ret2
    exact ⟨rfl, rfl⟩
theorem late_nil (w : World) (now : Int) : Calls Try.prog 12 #[.pointer none, .int .i64 now] w fun e w' => e = .returned (.tuple #[.slice none 0 0, .int .i64 (bE now)]) ∧ w = w' := by
  have HA := hide (ask_nil w now)
  have hb : bE now = 0 ∨ bE now = 1 := by unfold bE; split <;> simp
  generalize bE now = x at *
  rcases hb with rfl | rfl
  all_goals
    go_enter Try.func12, Try.ntmps12
    go_wp2_with (first | (go_at_call 17; refine HA.out.mono ?_; rintro e w' ⟨rfl, rfl⟩) | (go_at_call 18; refine (never_nil _).mono ?_; rintro e w' ⟨rfl, rfl⟩))
    go_ret2
    exact ⟨rfl, rfl⟩
end Go.Proofs.Ytlnckiknikaifaa
