/- sink brings what lies at a place of a heap down to where it belongs. -/
import Derived.Test.YtbmhhkpehilioaaRise
namespace Go.Proofs.Ytbmhhkpehilioaa
open Go.ChangeShapes Go.WideShapes Go.ChangeAt Go.RowKit

structure Least (r : Nat → Int) (l : List Nat) (k f b : Nat) : Prop where
  one : f = k ∨ (0 < f ∧ (f - 1) / 2 = k ∧ f < b ∧ r (gt l f) < r (gt l k))
  le : r (gt l f) ≤ r (gt l k)
  all : ∀ c, 0 < c → c < l.length → (c - 1) / 2 = k → c < b → r (gt l f) ≤ r (gt l c)

theorem Least.start (r : Nat → Int) (l : List Nat) (k : Nat) : Least r l k k (2 * k + 1) := ⟨.inl rfl, Int.le_refl _, fun c _ _ h1 h2 => by omega⟩
theorem Least.yes {r : Nat → Int} {l : List Nat} {k f b : Nat} (h : Least r l k f b) (hb : 2 * k + 1 ≤ b) (hb2 : b ≤ 2 * k + 2) (hlt : r (gt l b) < r (gt l f)) : Least r l k b (b + 1) := by
  have := h.le
  refine ⟨.inr ⟨by omega, by omega, by omega, by omega⟩, by omega, fun c h0 h1 h2 h3 => ?_⟩
  by_cases e : c = b
  · subst e; omega
  · have := h.all c h0 h1 h2 (by omega)
    omega
theorem Least.no {r : Nat → Int} {l : List Nat} {k f b : Nat} (h : Least r l k f b) (hlt : ¬ r (gt l b) < r (gt l f)) : Least r l k f (b + 1) := by
  refine ⟨h.one.imp id (fun ⟨a, b, c, d⟩ => ⟨a, b, by omega, d⟩), h.le, fun c h0 h1 h2 h3 => ?_⟩
  by_cases e : c = b
  · subst e; omega
  · exact h.all c h0 h1 h2 (by omega)
theorem Least.end {r : Nat → Int} {l : List Nat} {k f b : Nat} (h : Least r l k f b) (hb : 2 * k + 2 < b ∨ l.length ≤ b) (c : Nat) (h0 : 0 < c) (h1 : c < l.length) (h2 : (c - 1) / 2 = k) : r (gt l f) ≤ r (gt l c) :=
  h.all c h0 h1 h2 (by omega)

set_option maxHeartbeats 2000000 in
theorem sink_any {w : World} {g cap : Nat} (r : Nat → Int) (rest : List Value) (l : List Nat) (p : Nat) (cmp : Value) (hrow : w.heap[g]? = some (.cells (is l rest) 3 (0, 0))) (hp : p < l.length) (hl : l.length ≤ 8192)
    (hc : Cmp w (fun k => k = g) r l cmp) (hi : SinkInv r l p p) :
    Calls Try.prog 76 #[.slice (some ⟨g, 0, none⟩) l.length cap, .int .i64 (p : Int), cmp] w fun e w' => e = .returned (.tuple #[]) ∧ ∃ l', HRow w w' g l l' rest ∧ RiseInv r l' p := by
  have H0 : Hid (HRow w w g l l rest ∧ SinkInv r l p p) := hide ⟨HRow.refl hrow, hi⟩
  clear hrow hi
  cases hc
  case' lower h => skip
  case' ahead q h => skip
  all_goals
    have HC := hide h
    clear h
    go_enter Try.func76, Try.ntmps76
    go_wp2_with fail
    go_loopw [1] (fun v wr => ∃ (k : Nat) (l' : List Nat), v = .int .i64 (k : Int) ∧ k < l.length ∧ Hid (HRow w wr g l l' rest ∧ SinkInv r l' p k)) (fun v _ => l.length - (intOf v).toNat)
    case atStart => exact ⟨p, l, rfl, hp, H0⟩
    case round =>
      clear H0 hp
      obtain ⟨k, l', rfl, hk, HH⟩ := hrel
      go_wp2_with fail
      go_loopw [6, 7] (fun u v ws => ∃ f b : Nat, u = .int .i64 (f : Int) ∧ v = .int .i64 (b : Int) ∧ f < l.length ∧ 2 * k + 1 ≤ b ∧ b ≤ 2 * k + 3 ∧ Hid (Cl wr ws ∧ Least r l' k f b)) (fun _ v _ => 2 * k + 3 - (intOf v).toNat)
      case atStart => exact ⟨k, 2 * k + 1, rfl, by go_num, hk, Nat.le_refl _, by omega, hide ⟨Cl.refl _, Least.start r l' k⟩⟩
      case round =>
        obtain ⟨f, b, rfl, rfl, hf, hb1, hb2, HI⟩ := hrel
        by_cases hbn : b ≤ 2 * k + 2 ∧ b < l.length
        · obtain ⟨hba, hbb⟩ := hbn
          have HR := hide (HH.out.1.cl HI.out.1)
          have c1 := HR.out.cell b hbb
          have c2 := HR.out.cell f hf
          have HT := hide (fun W (hW : Cl wr W) => HC.out.at HR.out b f hbb hf hW)
          have e1 : decide ((b : Int) ≤ 2 * (k : Int) + 2) = true := decide_eq_true (by omega)
          have e2 : decide ((b : Int) < (l.length : Int)) = true := decide_eq_true (by omega)
          have e3 : (b : Int) ≤ 2 * (k : Int) + 2 := by omega
          have e4 : (b : Int) < (l.length : Int) := by omega
          by_cases hlt : r (gt l' b) < r (gt l' f)
          all_goals
            have HT2 := HT.out
            first
            | rw [decide_eq_true hlt] at HT2
            | rw [decide_eq_false hlt] at HT2
            have HL := hide hlt
            have HT := hide HT2
            obtain ⟨x, Hx⟩ : ∃ x, Hid (gt l' b = x) := ⟨_, hide rfl⟩
            obtain ⟨y, Hy⟩ : ∃ y, Hid (gt l' f = y) := ⟨_, hide rfl⟩
            rw [Hx.out] at c1
            rw [Hy.out] at c2
            rw [Hx.out, Hy.out] at HT
            clear HT2 hlt
            go_wp2_with fail
            refine wp_region_cl (by kernel_rfl) (by kernel_rfl) ?_
            refine cl_move _ rfl rfl ?_
            simp only [Act.put, List.setIfInBounds_toArray, List.set_cons_zero, List.set_cons_succ]
            refine cl_move _ rfl rfl ?_
            simp only [Act.put, List.setIfInBounds_toArray, List.set_cons_zero, List.set_cons_succ]
            refine cl_move _ rfl rfl ?_
            simp only [Act.put, List.setIfInBounds_toArray, List.set_cons_zero, List.set_cons_succ]
            refine cl_val (v := ?_) rfl (fun W hW => ?_) ?_
            rotate_left
            · unfold Oper.quietAt; go_simp; try with_reducible rfl
            simp only [Act.put, List.setIfInBounds_toArray, List.set_cons_zero, List.set_cons_succ]
            refine cl_val (v := ?_) rfl (fun W hW => ?_) ?_
            rotate_left
            · have l0 := hW.cell c1; unfold Oper.quietAt; go_simp; try with_reducible rfl
            simp only [Act.put, List.setIfInBounds_toArray, List.set_cons_zero, List.set_cons_succ]
            refine cl_move _ rfl rfl ?_
            simp only [Act.put, List.setIfInBounds_toArray, List.set_cons_zero, List.set_cons_succ]
            refine cl_move _ rfl rfl ?_
            simp only [Act.put, List.setIfInBounds_toArray, List.set_cons_zero, List.set_cons_succ]
            refine cl_val (v := ?_) rfl (fun W hW => ?_) ?_
            rotate_left
            · unfold Oper.quietAt; go_simp; try with_reducible rfl
            simp only [Act.put, List.setIfInBounds_toArray, List.set_cons_zero, List.set_cons_succ]
            refine cl_val (v := ?_) rfl (fun W hW => ?_) ?_
            rotate_left
            · have l0 := hW.cell c2; unfold Oper.quietAt; go_simp; try with_reducible rfl
            simp only [Act.put, List.setIfInBounds_toArray, List.set_cons_zero, List.set_cons_succ]
            refine cl_val (v := ?_) rfl (fun W hW => ?_) ?_
            rotate_left
            · unfold Oper.quietAt; go_simp; exact HT.out W hW
            simp only [Act.put, List.setIfInBounds_toArray, List.set_cons_zero, List.set_cons_succ]
            refine wpQuiet_nil ?_
            intro wx Hwx
            have HX := hide Hwx
            clear Hwx c1 c2
            go_wp2_with fail
          · go_roundw
            case rel => exact ⟨b, b + 1, rfl, by go_num, hbb, by omega, by omega, hide ⟨HI.out.1.trans HX.out, HI.out.2.yes hb1 hba HL.out⟩⟩
            case measure => simp [intOf]; omega
          · go_roundw
            case rel => exact ⟨f, b + 1, rfl, by go_num, hf, by omega, by omega, hide ⟨HI.out.1.trans HX.out, HI.out.2.no (by have := HL.out; omega)⟩⟩
            case measure => simp [intOf]; omega
        · have HE : Hid (∀ c, 0 < c → c < l'.length → (c - 1) / 2 = k → r (gt l' f) ≤ r (gt l' c)) := hide (HI.out.2.end (by rw [HH.out.1.len]; omega))
          have HR := hide (HH.out.1.cl HI.out.1)
          have c1 := HR.out.cell k hk
          have c2 := HR.out.cell f hf
          have z1 := HR.out.fz k
          have z2 := HR.out.fz f
          have fin : f = k ∨ (f ≠ k) := by omega
          have hor : 2 * (k : Int) + 2 < b ∨ ((b : Int) ≤ 2 * (k : Int) + 2 ∧ (l.length : Int) ≤ b) := by omega
          clear hbn
          rcases hor with h1 | ⟨h1, h2⟩ <;> rcases fin with h3 | h3
          all_goals
            go_wp2_with fail
          · refine bodyPost_ret (results_none rfl _ _ _) rfl ⟨rfl, l', HR.out, ?_⟩
            subst h3
            exact sink_stop HH.out.2 HE.out
          · go_region
            go_wp2_with fail
            go_roundw
            case rel =>
              refine ⟨f, swp l' k f, rfl, hf, hide ⟨?_, ?_⟩⟩
              · exact (HR.out.drewN 1).swap k f hk hf
              · have hL := HH.out.1.len
                rcases HI.out.2.one with e | ⟨a1, a2, a3, a4⟩
                · exact absurd e h3
                · exact sink_step HH.out.2 (by omega) (by omega) a1 a2 a4 HE.out
            case measure =>
              rcases HI.out.2.one with e | ⟨a1, a2, a3, a4⟩
              · exact absurd e h3
              · simp [intOf]; omega
          · refine bodyPost_ret (results_none rfl _ _ _) rfl ⟨rfl, l', HR.out, ?_⟩
            subst h3
            exact sink_stop HH.out.2 HE.out
          · go_region
            go_wp2_with fail
            go_roundw
            case rel =>
              refine ⟨f, swp l' k f, rfl, hf, hide ⟨?_, ?_⟩⟩
              · exact (HR.out.drewN 1).swap k f hk hf
              · have hL := HH.out.1.len
                rcases HI.out.2.one with e | ⟨a1, a2, a3, a4⟩
                · exact absurd e h3
                · exact sink_step HH.out.2 (by omega) (by omega) a1 a2 a4 HE.out
            case measure =>
              rcases HI.out.2.one with e | ⟨a1, a2, a3, a4⟩
              · exact absurd e h3
              · simp [intOf]; omega
end Go.Proofs.Ytbmhhkpehilioaa
