/- The hosts whose moment has come. -/
import Derived.Test.YtlnckiknikaifaaQPr
namespace Go.Proofs.Ytlnckiknikaifaa
open Go.ChangeShapes Go.WideShapes Go.ChangeAt Go.RowKit
set_option linter.unusedVariables false

def comP (runs : Bool) (la : Int) (r : HR) : Bool := (r.e == runs) && decide (r.u ≤ la)

set_option maxHeartbeats 2000000 in
set_option maxRecDepth 100000 in
theorem come_any (w : World) (P : Nat → Prop) (ev ti up dn la : Int) (runs : Bool) (L : List HR) (b g : Nat) (h : Hs ev ti up dn la L b g w P) (hl : L.length ≤ 16) :
    Calls Try.prog 19 #[.pointer (some ⟨b, 0, none⟩), .bool runs] w fun e w' => ∃ v, e = .returned v ∧ Does (Two (Row v (nums (comP runs la) L L.length)) (Hs ev ti up dn la L b g)) P w w' := by
  obtain ⟨c0, c1, c2, c3, c4, c5, f4⟩ := h.1.cB
  have T0 := hide (Does.refl h).nilrow
  have Hnn := hide (nums_len (comP runs la) L)
  clear h
  obtain ⟨n, Hn⟩ : ∃ n, Hid (L.length = n) := ⟨_, hide rfl⟩
  rw [Hn.out] at c5 hl ⊢
  go_enter Try.func19, Try.ntmps19
  go_wp2_with fail
  clear c0 c1 c2 c3 c4 c5 f4
  go_loopw [5, 13] (fun s v wr => ∃ (i : Nat), i ≤ n ∧ v = .int .i64 (i : Int) ∧ Hid (Does (Two (Row s (nums (comP runs la) L i)) (Hs ev ti up dn la L b g)) P w wr)) (fun _ v _ => n - (intOf v).toNat)
  case atStart => exact ⟨0, Nat.zero_le _, rfl, T0⟩
  case round =>
    clear T0
    obtain ⟨i, hi, rfl, HI⟩ := hrel
    obtain ⟨a, cap, rfl, q1, q2⟩ : ∃ a cap, u5 = .slice a (nums (comP runs la) L i).length cap ∧ (nums (comP runs la) L i).length ≤ cap ∧ cap ≤ 9223372036854775807 := by obtain ⟨_, x⟩ := HI.out.fst_of; exact x.get
    by_cases hlt : i < n
    · have hli : i < L.length := by rw [Hn.out]; exact hlt
      obtain ⟨P2, x⟩ := HI.out.snd_of
      obtain ⟨g0, g1, g2, g3, g4⟩ := x.1.cG (get_take hli)
      rw [Bool.false_xor] at g0
      have HSN := hide (nums_succ (p := comP runs la) (get_take hli))
      have Hr16 := hide (Nat.le_trans (Hnn.out i) (Nat.le_trans hi hl))
      generalize L[i] = r at *
      clear x hli
      obtain ⟨cn, Hcn⟩ : ∃ cn, Hid ((nums (comP runs la) L i).length = cn) := ⟨_, hide rfl⟩
      rw [Hcn.out] at q1 HI ⊢
      obtain ⟨rh, re, ru, rf, rt⟩ := r
      simp only at g0 g1 g2 g3 g4
      go_upto_region 5 with fail
      have T2 : Hid (Does (Two (Row (.slice a cn cap) (nums (comP runs la) L i)) (Hs ev ti up dn la L b g)) P w (wr.alloc (.cells #[.bool rh, .bool re, .int .i64 ru, .int .i64 rf, .int .i64 rt] 48))) := hide (HI.out.e (Fr.alloc _ _ _))
      have A1 : (wr.alloc (.cells #[.bool rh, .bool re, .int .i64 ru, .int .i64 rf, .int .i64 rt] 48)).heap[wr.heap.size]? = some (.cells #[.bool rh, .bool re, .int .i64 ru, .int .i64 rf, .int .i64 rt] 48 (0, 0)) := hp_new _ _
      clear g0 g1 g2 g3 g4 HI
      generalize wr.alloc (.cells #[.bool rh, .bool re, .int .i64 ru, .int .i64 rf, .int .i64 rt] 48) = W4 at *
      generalize wr.heap.size = ew at *
      have k1 : W4.cell? ⟨ew, 1, none⟩ = some (.bool re) := cell_of A1 1
      have k2 : W4.cell? ⟨ew, 2, none⟩ = some (.int .i64 ru) := cell_of A1 2
      clear A1
      have c4 : W4.cell? ⟨b, 4, none⟩ = some (.int .i64 la) := by obtain ⟨_, x⟩ := T2.out.snd_of; exact x.1.cB.2.2.2.2.1
      by_cases hu : re = runs
      · subst hu
        by_cases hv : ru ≤ la
        · have hd : decide (ru ≤ la) = true := decide_eq_true hv
          have hq : (re == re) = true := by simp
          rw [show comP re la ⟨rh, re, ru, rf, rt⟩ = true by unfold comP; simp [hv], if_pos rfl] at HSN
          go_quiet (fail)
          have T3 := hide (T2.out.e (Fr.drewN none' _ nq))
          clear k1 k2 c4 T2
          generalize W4.drewN nq = W5 at *
          have HS : Hid (Sr W5 (.slice a cn cap) (nums (comP re la) L i)) := by obtain ⟨_, x⟩ := T3.out.fst_of; exact hide x.1
          go_wp2_with (at_builtin; apply Hid.out)
          unfold Hid
          refine wpList_append_sr rfl _ _ rfl W5 (.slice a cn cap) (nums (comP re la) L i) (i : Int) rfl (by simp [Act.eval, go_sem]) HS.out (by have := Hr16.out; omega) ?_
          intro v' W6 r1 F o
          rw [← HSN.out] at r1
          have T6 := hide (T3.out.left (fun _ y => y.app r1 F o))
          clear r1 F o HS T3
          go_wp2_with fail
          go_roundw
          case rel => exact ⟨i + 1, by omega, by go_num, T6⟩
          case measure => simp [intOf]; omega
        · have hd : decide (ru ≤ la) = false := decide_eq_false hv
          have hq : (re == re) = true := by simp
          rw [show comP re la ⟨rh, re, ru, rf, rt⟩ = false by unfold comP; simp; omega, if_neg (by simp), List.append_nil] at HSN
          rw [← HSN.out] at T2
          go_quiet (fail)
          have T3 := hide (T2.out.e (Fr.drewN none' _ nq))
          clear k1 k2 c4 T2
          go_wp2_with fail
          go_roundw
          case rel => exact ⟨i + 1, by omega, by go_num, T3⟩
          case measure => simp [intOf]; omega
      · have hq : (re == runs) = false := by simpa using hu
        rw [show comP runs la ⟨rh, re, ru, rf, rt⟩ = false by unfold comP; simp [hq], if_neg (by simp), List.append_nil] at HSN
        rw [← HSN.out] at T2
        clear hu
        go_quiet (fail)
        have T3 := hide (T2.out.e (Fr.drewN none' _ nq))
        clear k1 k2 c4 T2
        go_wp2_with fail
        go_roundw
        case rel => exact ⟨i + 1, by omega, by go_num, T3⟩
        case measure => simp [intOf]; omega
    · obtain rfl : i = n := by omega
      go_wp2_with fail
      go_ret
      exact ⟨_, rfl, HI.out⟩
end Go.Proofs.Ytlnckiknikaifaa
