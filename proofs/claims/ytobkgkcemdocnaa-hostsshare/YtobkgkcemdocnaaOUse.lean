/- Who may be used; two lists that are the same. -/
import Derived.Test.YtobkgkcemdocnaaORes2
namespace Go.Proofs.Ytobkgkcemdocnaa
open Go.ChangeShapes Go.WideShapes Go.ChangeAt Go.RowKit

def usa (r : HR) : Bool := r.h && !r.e
theorem ret2_vi {a b : Value} {c d : Int} (h : a = b) (k : c = d) : Ending.returned (.tuple #[a, .int .i64 c]) = .returned (.tuple #[b, .int .i64 d]) := by rw [h, k]
theorem bring_bad (w : World) (b : Nat) (now : Int) (hm : mom now = false) :
    Calls Try.prog 18 #[.pointer (some ⟨b, 0, none⟩), .int .i64 now] w fun e w' => e = .returned (.tuple #[.slice none 0 0, .int .i64 1]) ∧ w = w' := by
  have HU := hide (until_any 0 now w)
  rw [untE_eq (by omega) (by omega), show bE now = 1 by unfold bE; rw [hm]; rfl] at HU
  go_enter Try.func18, Try.ntmps18
  go_wp2_with (go_at_call 31; refine HU.out.mono ?_; rintro e w' ⟨rfl, rfl⟩)
  go_ret2
  exact ⟨rfl, rfl⟩
theorem bring_nil (w : World) (now : Int) :
    Calls Try.prog 18 #[.pointer none, .int .i64 now] w fun e w' => e = .returned (.tuple #[.slice none 0 0, .int .i64 (bE now)]) ∧ w = w' := by
  have HU := hide (until_any 0 now w)
  rw [untE_eq (by omega) (by omega)] at HU
  have hq : bE now = 0 ∨ bE now = 1 := by unfold bE; split <;> simp
  rcases hq with e | e
  all_goals
    rw [e] at HU ⊢
    go_enter Try.func18, Try.ntmps18
    go_wp2_with (go_at_call 31; refine HU.out.mono ?_; rintro e w' ⟨rfl, rfl⟩)
    go_ret2
    exact ⟨rfl, rfl⟩
theorem usable_bad (w : World) (b : Nat) (now : Int) (hm : mom now = false) :
    Calls Try.prog 17 #[.pointer (some ⟨b, 0, none⟩), .int .i64 now] w fun e w' => e = .returned (.tuple #[.slice none 0 0, .int .i64 1]) ∧ w = w' := by
  have HB := hide (bring_bad w b now hm)
  go_enter Try.func17, Try.ntmps17
  go_wp2_with (go_at_call 18; refine HB.out.mono ?_; rintro e w' ⟨rfl, rfl⟩)
  go_ret2
  exact ⟨rfl, rfl⟩
theorem usable_nil (w : World) (now : Int) :
    Calls Try.prog 17 #[.pointer none, .int .i64 now] w fun e w' => e = .returned (.tuple #[.slice none 0 0, .int .i64 (bE now)]) ∧ w = w' := by
  have HB := hide (bring_nil w now)
  have hq : bE now = 0 ∨ bE now = 1 := by unfold bE; split <;> simp
  rcases hq with e | e
  · rw [e] at HB ⊢
    go_enter Try.func17, Try.ntmps17
    go_wp2_with (first | (go_at_call 18; refine HB.out.mono ?_; rintro e w' ⟨rfl, rfl⟩) | (go_at_call 27; refine (count_nil _).mono ?_; rintro e w' ⟨rfl, rfl⟩))
    go_loopw [8, 22] (fun u v wr => u = .slice none 0 0 ∧ v = .int .i64 0 ∧ w = wr) (fun _ _ _ => 0)
    case atStart => exact ⟨rfl, rfl, rfl⟩
    case round =>
      obtain ⟨rfl, rfl, rfl⟩ := hrel
      go_wp2_with fail
      go_ret2
      exact ⟨rfl, rfl⟩
  · rw [e] at HB ⊢
    go_enter Try.func17, Try.ntmps17
    go_wp2_with (go_at_call 18; refine HB.out.mono ?_; rintro e w' ⟨rfl, rfl⟩)
    go_ret2
    exact ⟨rfl, rfl⟩

set_option maxHeartbeats 2000000 in
set_option maxRecDepth 100000 in
theorem usable_any (w : World) (P : Nat → Prop) (fl bs lo sh la now : Int) (L : List HR) (b g : Nat) (h : Hs fl bs lo sh la L b g w P) (hl : L.length ≤ 16) (hm : mom now = true) :
    Calls Try.prog 17 #[.pointer (some ⟨b, 0, none⟩), .int .i64 now] w fun e w' => ∃ v, e = .returned (.tuple #[v, .int .i64 0]) ∧ Does (Two (Row v (nums usa (brS (mx la now) L) L.length)) (Hs fl bs lo sh (mx la now) (brS (mx la now) L) b g)) P w w' := by
  have HB := hide (bring_any w P fl bs lo sh la now L b g h hl hm)
  have Hn0 := hide (brS_len (mx la now) L)
  clear h hm
  generalize nums (rst (mx la now)) L L.length = xs at HB
  generalize brS (mx la now) L = L1 at *
  generalize mx la now = m at *
  obtain ⟨n, Hn1⟩ : ∃ n, Hid (L.length = n) := ⟨_, hide rfl⟩
  rw [Hn1.out] at Hn0 hl ⊢
  have Hn : Hid (L1.length = n) := Hn0
  have Hnn := hide (nums_len usa L1)
  clear Hn0 Hn1
  go_enter Try.func17, Try.ntmps17
  go_wp2_with fail
  refine HB.out.mono ?_
  rintro e w1 ⟨v, rfl, d⟩
  have T0 := hide d.snd.nilrow
  obtain ⟨a0, cap0, rfl, q1, q2⟩ : ∃ a cap, v = .slice a xs.length cap ∧ xs.length ≤ cap ∧ cap ≤ 9223372036854775807 := by obtain ⟨_, x⟩ := d.fst_of; exact x.get
  have HC : Hid (Calls Try.prog 27 #[.pointer (some ⟨b, 0, none⟩)] w1 fun e w' => e = .returned (.int .i64 (n : Int)) ∧ w1 = w') := hide (by
    obtain ⟨P2, x⟩ := T0.out.snd_of
    have := count_any w1 _ _ _ _ _ _ b g x.1
    rw [Hn.out] at this
    exact this)
  clear d HB q1
  go_wp2_with (go_at_call 27; refine HC.out.mono ?_; rintro e w' ⟨rfl, rfl⟩)
  go_loopw [8, 22] (fun s v wr => ∃ (i : Nat), i ≤ n ∧ v = .int .i64 (i : Int) ∧ Hid (Does (Two (Row s (nums usa L1 i)) (Hs fl bs lo sh m L1 b g)) P w wr)) (fun _ v _ => n - (intOf v).toNat)
  case atStart => exact ⟨0, Nat.zero_le _, rfl, T0⟩
  case round =>
    clear T0 HC
    obtain ⟨i, hi, rfl, HI⟩ := hrel
    obtain ⟨a, cap, rfl, q1, q2⟩ : ∃ a cap, u8 = .slice a (nums usa L1 i).length cap ∧ (nums usa L1 i).length ≤ cap ∧ cap ≤ 9223372036854775807 := by obtain ⟨_, x⟩ := HI.out.fst_of; exact x.get
    by_cases hlt : i < n
    · have hli : i < L1.length := by rw [Hn.out]; exact hlt
      obtain ⟨P2, x⟩ := HI.out.snd_of
      obtain ⟨c0, c1, c2, c3, c4, c5, f4⟩ := x.1.cB
      obtain ⟨g0, g1, g2, g3, g4⟩ := x.1.cG (get_take hli)
      rw [Bool.false_xor] at g0
      rw [Hn.out] at c5
      have HSN := hide (nums_succ (p := usa) (get_take hli))
      have Hr16 := hide (Nat.le_trans (Hnn.out i) (Nat.le_trans hi hl))
      generalize L1[i] = r at *
      clear x hli
      obtain ⟨cn, Hcn⟩ : ∃ cn, Hid ((nums usa L1 i).length = cn) := ⟨_, hide rfl⟩
      rw [Hcn.out] at q1 HI ⊢
      obtain ⟨rh, re, ru, rf, rt⟩ := r
      simp only at g0 g1 g2 g3 g4
      go_upto_region 9 with fail
      have T2 : Hid (Does (Two (Row (.slice a cn cap) (nums usa L1 i)) (Hs fl bs lo sh m L1 b g)) P w (wr.alloc (.cells #[.bool rh, .bool re, .int .i64 ru, .int .i64 rf, .int .i64 rt] 54))) := hide (HI.out.e (Fr.alloc _ _ _))
      have A1 : (wr.alloc (.cells #[.bool rh, .bool re, .int .i64 ru, .int .i64 rf, .int .i64 rt] 54)).heap[wr.heap.size]? = some (.cells #[.bool rh, .bool re, .int .i64 ru, .int .i64 rf, .int .i64 rt] 54 (0, 0)) := hp_new _ _
      clear c0 c1 c2 c3 c4 c5 f4 g0 g1 g2 g3 g4 HI
      generalize wr.alloc (.cells #[.bool rh, .bool re, .int .i64 ru, .int .i64 rf, .int .i64 rt] 54) = W4 at *
      generalize wr.heap.size = ew at *
      have k0 : W4.cell? ⟨ew, 0, none⟩ = some (.bool rh) := cell_of A1 0
      have k1 : W4.cell? ⟨ew, 1, none⟩ = some (.bool re) := cell_of A1 1
      clear A1
      cases hu : usa ⟨rh, re, ru, rf, rt⟩ with
      | true =>
        rw [hu, if_pos rfl] at HSN
        obtain ⟨rfl, rfl⟩ : rh = true ∧ re = false := by unfold usa at hu; simpa using hu
        clear hu
        have HS : Hid (Sr W4 (.slice a cn cap) (nums usa L1 i)) := by obtain ⟨_, x⟩ := T2.out.fst_of; exact hide x.1
        go_wp2_with (at_builtin; apply Hid.out)
        unfold Hid
        refine wpList_append_sr rfl _ _ rfl W4 (.slice a cn cap) (nums usa L1 i) (i : Int) rfl (by simp [Act.eval, go_sem]) HS.out (by have := Hr16.out; omega) ?_
        intro v' W6 r1 F o
        rw [← HSN.out] at r1
        have T6 := hide (T2.out.left (fun _ y => y.app r1 F o))
        clear r1 F o HS T2 k0 k1
        go_wp2_with fail
        go_roundw
        case rel => exact ⟨i + 1, by omega, by go_num, T6⟩
        case measure => simp [intOf]; omega
      | false =>
        rw [hu, if_neg (by simp), List.append_nil] at HSN
        rw [← HSN.out] at T2
        clear HSN
        cases rh with
        | false =>
          clear hu
          go_wp2_with fail
          go_roundw
          case rel => exact ⟨i + 1, by omega, by go_num, T2⟩
          case measure => simp [intOf]; omega
        | true =>
          obtain rfl : re = true := by unfold usa at hu; simpa using hu
          clear hu
          go_wp2_with fail
          go_roundw
          case rel => exact ⟨i + 1, by omega, by go_num, T2⟩
          case measure => simp [intOf]; omega
    · obtain rfl : i = n := by omega
      go_wp2_with fail
      go_ret2
      exact ⟨_, rfl, HI.out⟩

theorem list_ext {l1 l2 : List Int} (h : l1.length = l2.length) (k : ∀ i, i < l1.length → l1.getD i 0 = l2.getD i 0) : l1 = l2 := by
  apply List.ext_getElem h
  intro i h1 h2
  have := k i h1
  simpa [List.getD, h1, h2] using this
set_option maxHeartbeats 2000000 in
set_option maxRecDepth 100000 in
theorem ints_any (w : World) (v1 v2 : Value) (l1 l2 : List Int) (h1 : Sr w v1 l1) (h2 : Sr w v2 l2) (n1 : l1.length < 1000000) (n2 : l2.length < 1000000) :
    Calls Try.prog 19 #[v1, v2] w fun e w' => e = .returned (.bool (decide (l1 = l2))) ∧ ∃ q, w' = w.drewN q := by
  obtain ⟨a1, cap1, rfl, q1, q2⟩ := h1.shape
  obtain ⟨a2, cap2, rfl, q3, q4⟩ := h2.shape
  have H1 := hide h1
  have H2 := hide h2
  have HN1 := hide n1
  have HN2 := hide n2
  clear h1 h2 n1 n2
  by_cases hl : l1.length = l2.length
  · rw [← hl] at q3 H2 ⊢
    obtain ⟨n, Hn⟩ : ∃ n, Hid (l1.length = n) := ⟨_, hide rfl⟩
    have HL := hide hl
    rw [Hn.out] at q1 q3 H1 H2 HN1 ⊢
    clear hl
    obtain ⟨R, HR⟩ : ∃ R, Hid (decide (l1 = l2) = R) := ⟨_, hide rfl⟩
    rw [HR.out]
    go_enter Try.func19, Try.ntmps19
    go_wp2_with fail
    go_loopw [13] (fun v wr => ∃ (i q : Nat), i ≤ n ∧ v = .int .i64 (i : Int) ∧ Hid (∀ j, j < i → l1.getD j 0 = l2.getD j 0) ∧ wr = w.drewN q) (fun v _ => n - (intOf v).toNat)
    case atStart => exact ⟨0, 0, Nat.zero_le _, rfl, hide (fun j hj => by omega), rfl⟩
    case round =>
      obtain ⟨i, q, hi, rfl, HE, rfl⟩ := hrel
      by_cases hlt : i < n
      · obtain ⟨g1, o1, c1, ea, k1⟩ := H1.out.cell (i := i) (by rw [Hn.out]; exact hlt)
        obtain ⟨g2, o2, c2, eb, k2⟩ := H2.out.cell (i := i) (by rw [← HL.out, Hn.out]; exact hlt)
        simp only [Value.slice.injEq] at ea eb
        obtain ⟨rfl, -, rfl⟩ := ea
        obtain ⟨rfl, -, rfl⟩ := eb
        have e1 : (w.drewN q).cell? ⟨g1, o1 + i, none⟩ = some (.int .i64 (l1.getD i 0)) := k1
        have e2 : (w.drewN q).cell? ⟨g2, o2 + i, none⟩ = some (.int .i64 (l2.getD i 0)) := k2
        by_cases hx : l1.getD i 0 = l2.getD i 0
        · have HE2 : Hid (∀ j, j < i + 1 → l1.getD j 0 = l2.getD j 0) := hide (fun j hj => by
            by_cases hji : j = i
            · rw [hji]; exact hx
            · exact HE.out j (by omega))
          rw [← hx] at e2 k2
          generalize l1.getD i 0 = y at e1 e2 k1 k2
          clear hx
          go_wp2_with fail
          go_quiet (fail)
          go_wp2_with fail
          go_roundw
          case rel => exact ⟨i + 1, _, by omega, by go_num, HE2, rfl⟩
          case measure => simp [intOf]; omega
        · have hR : R = false := by rw [← HR.out, decide_eq_false_iff_not]; intro e; rw [e] at hx; exact hx rfl
          subst hR
          clear HR
          generalize l1.getD i 0 = y at e1 k1 hx
          generalize l2.getD i 0 = z at e2 k2 hx
          have hx2 : (y != z) = true := bne_iff_ne.2 hx
          go_wp2_with fail
          go_quiet (fail)
          go_wp2_with fail
          go_ret
          exact ⟨rfl, _, World.drewN_drewN _ _ _⟩
      · obtain rfl : i = n := by omega
        have hR : R = true := by
          rw [← HR.out, decide_eq_true_eq]
          exact list_ext HL.out (fun j hj => HE.out j (by rw [Hn.out] at hj; exact hj))
        subst hR
        go_wp2_with fail
        go_ret
        exact ⟨rfl, q, rfl⟩
  · have hR : decide (l1 = l2) = false := decide_eq_false (fun e => hl (by rw [e]))
    rw [hR]
    have hx : ((l1.length : Int) != (l2.length : Int)) = true := bne_iff_ne.2 (by omega)
    generalize l1.length = a at *
    generalize l2.length = b at *
    go_enter Try.func19, Try.ntmps19
    go_wp2_with fail
    go_ret
    exact ⟨rfl, 0, rfl⟩
end Go.Proofs.Ytobkgkcemdocnaa
