/- The document's set of hosts: attempts' ends, marks, who may be used. -/
import Derived.Test.YtobkgkcemdocnaaORef2
namespace Go.Proofs.Ytobkgkcemdocnaa
open Go.ChangeShapes Go.WideShapes Go.ChangeAt Go.RowKit

theorem rbring_bad (w : World) (b : Nat) (now : Int) (hm : mom now = false) :
    Calls Try.prog 24 #[.pointer (some ⟨b, 0, none⟩), .int .i64 now] w fun e w' => e = .returned (.tuple #[.slice none 0 0, .int .i64 1]) ∧ w = w' := by
  have HU := hide (moment_any now w)
  rw [hm] at HU
  go_enter Try.func24, Try.ntmps24
  go_wp2_with (go_at_call 21; refine HU.out.mono ?_; rintro e w' ⟨rfl, rfl⟩)
  go_ret2
  exact ⟨rfl, rfl⟩
set_option maxHeartbeats 1000000 in
theorem rasked_bad (w : World) (fl bs lo sh la now host : Int) (L : List HR) (b g : Nat) (h : Rp fl bs lo sh la L b g w) (hb : askE L.length now host ≠ 0) :
    Calls Try.prog 32 #[.pointer (some ⟨b, 0, none⟩), .int .i64 now, .int .i64 host] w fun e w' => e = .returned (.int .i64 (askE L.length now host)) ∧ w = w' := by
  have HU := hide (moment_any now w)
  obtain ⟨c0, c1, c2, c3, c4, c5, f4⟩ := h.cB
  unfold askE at hb ⊢
  clear h
  cases hm : mom now with
  | false =>
    rw [hm] at HU
    rw [if_neg (by simp)]
    clear hb
    go_enter Try.func32, Try.ntmps32
    go_wp2_with (go_at_call 21; refine HU.out.mono ?_; rintro e w' ⟨rfl, rfl⟩)
    go_ret
    exact ⟨rfl, rfl⟩
  | true =>
    rw [hm] at HU
    rw [hm, if_pos rfl] at hb
    rw [if_pos rfl]
    cases hh : hasB L.length host with
    | true => rw [hh] at hb; exact absurd rfl hb
    | false =>
      rw [if_neg (by simp)]
      unfold hasB at hh
      rw [decide_eq_false_iff_not] at hh
      generalize L.length = n at *
      clear hb hm
      by_cases h0 : host < 0
      · clear hh
        go_enter Try.func32, Try.ntmps32
        go_wp2_with (go_at_call 21; refine HU.out.mono ?_; rintro e w' ⟨rfl, rfl⟩)
        go_ret
        exact ⟨rfl, rfl⟩
      · have h1 : (n : Int) ≤ host := by omega
        clear hh
        go_enter Try.func32, Try.ntmps32
        go_wp2_with (go_at_call 21; refine HU.out.mono ?_; rintro e w' ⟨rfl, rfl⟩)
        go_ret
        exact ⟨rfl, rfl⟩
set_option maxHeartbeats 1000000 in
theorem rasked_any (w : World) (P : Nat → Prop) (fl bs lo sh la now : Int) (i : Nat) (L : List HR) (b g : Nat) (h : Rs fl bs lo sh la L b g w P) (hl : L.length ≤ 16) (hm : mom now = true) (hi : i < L.length) :
    Calls Try.prog 32 #[.pointer (some ⟨b, 0, none⟩), .int .i64 now, .int .i64 (i : Int)] w fun e w' => e = .returned (.int .i64 0) ∧ Does (Rs fl bs lo sh (mx la now) (brS (mx la now) L) b g) P w w' := by
  have HU := hide (moment_any now w)
  rw [hm] at HU
  have HB := hide (rbring_any w P fl bs lo sh la now L b g h hl hm)
  obtain ⟨c0, c1, c2, c3, c4, c5, f4⟩ := h.1.cB
  clear h hm
  obtain ⟨n, Hn⟩ : ∃ n, Hid (L.length = n) := ⟨_, hide rfl⟩
  rw [Hn.out] at hi c5
  have hi2 : (i : Int) < (n : Int) := by omega
  go_enter Try.func32, Try.ntmps32
  go_wp2_with (go_at_call 21; refine HU.out.mono ?_; rintro e w' ⟨rfl, rfl⟩)
  refine HB.out.mono ?_
  rintro e w1 ⟨v, rfl, d⟩
  have HD := hide d.snd
  obtain ⟨a, cap, rfl, q1, q2⟩ : ∃ a cap, v = .slice a (nums (rst (mx la now)) L L.length).length cap ∧ _ := by obtain ⟨_, x⟩ := d.fst_of; exact x.get
  clear d HB HU q1 c0 c1 c2 c3 c4 c5 f4
  go_wp2_with fail
  go_ret
  exact ⟨rfl, HD.out⟩
set_option maxHeartbeats 1000000 in
theorem rmark_any (w : World) (P : Nat → Prop) (fl bs lo sh la now : Int) (x : Bool) (i : Nat) (r : HR) (L : List HR) (b g : Nat) (h : Rs fl bs lo sh la L b g w P) (hl : L.length ≤ 16) (hm : mom now = true) (hr : (brS (mx la now) L)[i]? = some r) :
    Calls Try.prog 23 #[.pointer (some ⟨b, 0, none⟩), .int .i64 now, .int .i64 (i : Int), .bool x] w fun e w' => e = .returned (.tuple #[.bool (r.h != x), .int .i64 0]) ∧ Does (Rs fl bs lo sh (mx la now) ((brS (mx la now) L).set i (mrkR r x)) b g) P w w' := by
  have hi : i < L.length := by obtain ⟨q, _⟩ := List.getElem?_eq_some_iff.1 hr; rwa [brS_len] at q
  have HA := hide (rasked_any w P fl bs lo sh la now i L b g h hl hm hi)
  have HR := hide hr
  have HL1 := hide (brS_len (mx la now) L)
  clear h hl hm hr
  generalize brS (mx la now) L = L1 at *
  generalize mx la now = m at *
  obtain ⟨n, Hn⟩ : ∃ n, Hid (L.length = n) := ⟨_, hide rfl⟩
  rw [Hn.out] at hi HL1
  have hi2 : (i : Int) < (n : Int) := by omega
  go_enter Try.func23, Try.ntmps23
  go_wp2_with fail
  refine HA.out.mono ?_
  rintro e w1 ⟨rfl, d⟩
  have HD := hide d
  obtain ⟨P2, y, -, -⟩ := d
  obtain ⟨c0, c1, c2, c3, c4, c5, f4⟩ := y.1.cB
  rw [HL1.out] at c5
  obtain ⟨g0, g1, g2, g3, g4⟩ := y.1.cG HR.out
  rw [Bool.true_xor] at g0
  have z0 := y.1.fz (i * 5)
  have T1 : Hid (Does (Rs fl bs lo sh m (L1.set i (mrkR r x)) b g) P w (w1.setCell ⟨g, i * 5, none⟩ (.bool (!x)))) := hide (HD.out.trans (fun _ y => HsT.set2 (j := 0) y HR.out (by omega) (by simp [enc, mrkR])))
  clear y HA HD
  go_wp2_with fail
  go_ret2
  exact ⟨ret2_bi (by generalize r.h = y; cases y <;> cases x <;> rfl) rfl, T1.out⟩
theorem rmark_bad (w : World) (fl bs lo sh la now host : Int) (x : Bool) (L : List HR) (b g : Nat) (h : Rp fl bs lo sh la L b g w) (hb : askE L.length now host ≠ 0) :
    Calls Try.prog 23 #[.pointer (some ⟨b, 0, none⟩), .int .i64 now, .int .i64 host, .bool x] w fun e w' => e = .returned (.tuple #[.bool false, .int .i64 (askE L.length now host)]) ∧ w = w' := by
  have HA := hide (rasked_bad w fl bs lo sh la now host L b g h hb)
  clear h
  generalize askE L.length now host = ee at *
  have hb2 : (ee != 0) = true := bne_iff_ne.2 hb
  go_enter Try.func23, Try.ntmps23
  go_wp2_with (go_at_call 32; refine HA.out.mono ?_; rintro e w' ⟨rfl, rfl⟩)
  go_ret2
  exact ⟨rfl, rfl⟩
theorem rresult_bad (w : World) (fl bs lo sh la now host : Int) (x : Bool) (L : List HR) (b g : Nat) (h : Rp fl bs lo sh la L b g w) (hb : askE L.length now host ≠ 0) :
    Calls Try.prog 22 #[.pointer (some ⟨b, 0, none⟩), .int .i64 now, .int .i64 host, .bool x] w fun e w' => e = .returned (.tuple #[.bool false, .int .i64 (askE L.length now host)]) ∧ w = w' := by
  have HA := hide (rasked_bad w fl bs lo sh la now host L b g h hb)
  clear h
  generalize askE L.length now host = ee at *
  have hb2 : (ee != 0) = true := bne_iff_ne.2 hb
  go_enter Try.func22, Try.ntmps22
  go_wp2_with (go_at_call 32; refine HA.out.mono ?_; rintro e w' ⟨rfl, rfl⟩)
  go_ret2
  exact ⟨rfl, rfl⟩
theorem rusable_bad (w : World) (b : Nat) (now : Int) (hm : mom now = false) :
    Calls Try.prog 25 #[.pointer (some ⟨b, 0, none⟩), .int .i64 now] w fun e w' => e = .returned (.tuple #[.slice none 0 0, .int .i64 1]) ∧ w = w' := by
  have HB := hide (rbring_bad w b now hm)
  go_enter Try.func25, Try.ntmps25
  go_wp2_with (go_at_call 24; refine HB.out.mono ?_; rintro e w' ⟨rfl, rfl⟩)
  go_ret2
  exact ⟨rfl, rfl⟩
set_option maxHeartbeats 2000000 in
set_option maxRecDepth 100000 in
theorem rusable_any (w : World) (P : Nat → Prop) (fl bs lo sh la now : Int) (L : List HR) (b g : Nat) (h : Rs fl bs lo sh la L b g w P) (hl : L.length ≤ 16) (hm : mom now = true) :
    Calls Try.prog 25 #[.pointer (some ⟨b, 0, none⟩), .int .i64 now] w fun e w' => ∃ v, e = .returned (.tuple #[v, .int .i64 0]) ∧ Does (Two (Row v (nums usa (brS (mx la now) L) L.length)) (Rs fl bs lo sh (mx la now) (brS (mx la now) L) b g)) P w w' := by
  have HB := hide (rbring_any w P fl bs lo sh la now L b g h hl hm)
  have Hn0 := hide (brS_len (mx la now) L)
  clear h hm
  generalize nums (rst (mx la now)) L L.length = xs at HB
  generalize brS (mx la now) L = L1 at *
  generalize mx la now = m at *
  obtain ⟨n, Hn1⟩ : ∃ n, Hid (L.length = n) := ⟨_, hide rfl⟩
  rw [Hn1.out] at Hn0 hl ⊢
  have Hn : Hid (L1.length = n) := Hn0
  have Hnn := hide (nums_len usa L1)
  clear Hn0 Hn1
  go_enter Try.func25, Try.ntmps25
  go_wp2_with fail
  refine HB.out.mono ?_
  rintro e w1 ⟨v, rfl, d⟩
  have T0 := hide d.snd.nilrow
  obtain ⟨a0, cap0, rfl, q1, q2⟩ : ∃ a cap, v = .slice a xs.length cap ∧ xs.length ≤ cap ∧ cap ≤ 9223372036854775807 := by obtain ⟨_, x⟩ := d.fst_of; exact x.get
  obtain ⟨P1, x1⟩ := T0.out.snd_of
  obtain ⟨k0, k1, k2, k3, k4, k5, z4⟩ := x1.1.cB
  rw [Hn.out] at k5
  clear d HB q1 x1
  go_wp2_with fail
  clear k0 k1 k2 k3 k4 k5 z4
  go_loopw [8, 25] (fun s v wr => ∃ (i : Nat), i ≤ n ∧ v = .int .i64 (i : Int) ∧ Hid (Does (Two (Row s (nums usa L1 i)) (Rs fl bs lo sh m L1 b g)) P w wr)) (fun _ v _ => n - (intOf v).toNat)
  case atStart => exact ⟨0, Nat.zero_le _, rfl, T0⟩
  case round =>
    clear T0
    obtain ⟨i, hi, rfl, HI⟩ := hrel
    obtain ⟨a, cap, rfl, q1, q2⟩ : ∃ a cap, u8 = .slice a (nums usa L1 i).length cap ∧ (nums usa L1 i).length ≤ cap ∧ cap ≤ 9223372036854775807 := by obtain ⟨_, x⟩ := HI.out.fst_of; exact x.get
    by_cases hlt : i < n
    · have hli : i < L1.length := by rw [Hn.out]; exact hlt
      obtain ⟨P2, x⟩ := HI.out.snd_of
      obtain ⟨g0, g1, g2, g3, g4⟩ := x.1.cG (get_take hli)
      have HSN := hide (nums_succ (p := usa) (get_take hli))
      have Hr16 := hide (Nat.le_trans (Hnn.out i) (Nat.le_trans hi hl))
      generalize L1[i] = r at *
      clear x hli
      obtain ⟨cn, Hcn⟩ : ∃ cn, Hid ((nums usa L1 i).length = cn) := ⟨_, hide rfl⟩
      rw [Hcn.out] at q1 HI ⊢
      obtain ⟨rh, re, ru, rf, rt⟩ := r
      simp only [Bool.true_xor] at *
      go_upto_region 8 with fail
      have T2 : Hid (Does (Two (Row (.slice a cn cap) (nums usa L1 i)) (Rs fl bs lo sh m L1 b g)) P w (wr.alloc (rwO ⟨rh, re, ru, rf, rt⟩))) := hide (HI.out.e (Fr.alloc _ _ _))
      have A1 : (wr.alloc (rwO ⟨rh, re, ru, rf, rt⟩)).heap[wr.heap.size]? = some (rwO ⟨rh, re, ru, rf, rt⟩) := hp_new _ _
      clear g0 g1 g2 g3 g4 HI
      generalize wr.alloc (rwO ⟨rh, re, ru, rf, rt⟩) = W4 at *
      generalize wr.heap.size = ew at *
      have k0 : W4.cell? ⟨ew, 0, none⟩ = some (.bool (!rh)) := cell_of A1 0
      have k1 : W4.cell? ⟨ew, 1, none⟩ = some (.bool re) := cell_of A1 1
      clear A1
      cases hu : usa ⟨rh, re, ru, rf, rt⟩ with
      | true =>
        rw [hu, if_pos rfl] at HSN
        obtain ⟨rfl, rfl⟩ : rh = true ∧ re = false := by unfold usa at hu; simpa using hu
        clear hu
        rw [Bool.not_true] at k0
        have HS : Hid (Sr W4 (.slice a cn cap) (nums usa L1 i)) := by obtain ⟨_, x⟩ := T2.out.fst_of; exact hide x.1
        go_wp2_with (at_builtin; apply Hid.out)
        unfold Hid
        refine wpList_append_sr rfl _ _ rfl W4 (.slice a cn cap) (nums usa L1 i) (i : Int) rfl (by simp [Act.eval, go_sem]) HS.out (by have := Hr16.out; omega) ?_
        intro v' W6 r1 F o
        rw [← HSN.out] at r1
        have T6 := hide (T2.out.left (fun _ y => y.app r1 F o))
        clear r1 F o HS T2 k0 k1
        go_wp2_with fail
        go_roundw
        case rel => exact ⟨i + 1, by omega, by go_num, T6⟩
        case measure => simp [intOf]; omega
      | false =>
        rw [hu, if_neg (by simp), List.append_nil] at HSN
        rw [← HSN.out] at T2
        clear HSN
        cases re with
        | true =>
          clear hu
          go_wp2_with fail
          go_roundw
          case rel => exact ⟨i + 1, by omega, by go_num, T2⟩
          case measure => simp [intOf]; omega
        | false =>
          obtain rfl : rh = false := by unfold usa at hu; simpa using hu
          clear hu
          rw [Bool.not_false] at k0
          go_wp2_with fail
          go_roundw
          case rel => exact ⟨i + 1, by omega, by go_num, T2⟩
          case measure => simp [intOf]; omega
    · obtain rfl : i = n := by omega
      go_wp2_with fail
      go_ret2
      exact ⟨_, rfl, HI.out⟩
end Go.Proofs.Ytobkgkcemdocnaa
