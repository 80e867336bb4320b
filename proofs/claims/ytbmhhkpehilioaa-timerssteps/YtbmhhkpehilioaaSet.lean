/- Set sets a timer in the least free slot. -/
import Derived.Test.YtbmhhkpehilioaaLeast
namespace Go.Proofs.Ytbmhhkpehilioaa
open Go.ChangeShapes Go.WideShapes Go.ChangeAt Go.RowKit

section
variable {W : World} {base b : Nat} {most : Nat} {turns : Int} {S : List Slot} {D F : List Nat} {M : Nat → Prop} {vs vd vf : Value}
def fill4 (W : World) (g i : Nat) (s : Slot) : World := (((W.setCell ⟨g, i * 4, none⟩ (Value.int .i64 s.when)).setCell ⟨g, i * 4 + 1, none⟩ (Value.int .i64 s.key)).setCell ⟨g, i * 4 + 2, none⟩ (Value.int .i64 s.turn)).setCell ⟨g, i * 4 + 3, none⟩ (Value.int .i64 s.gen)
theorem drew_at (X : World) (k : Nat) : X.drew.heap[k]? = X.heap[k]? := rfl
theorem drew_size (X : World) : X.drew.heap.size = X.heap.size := rfl
def filled (W : World) (g b i : Nat) (s : Slot) (t : Int) : World := ((fill4 W g i s).setCell ⟨b, 1, none⟩ (Value.int .i64 t)).drew
theorem row_fill {W : World} {g : Nat} {S : List Slot} {rest : List Value} (h : W.heap[g]? = some (.cells (scs S ++ rest).toArray 75 (0, 0))) (i : Nat) (hi : i < S.length) (s : Slot) :
    (fill4 W g i s).heap[g]? = some (.cells (scs (S.set i s) ++ rest).toArray 75 (0, 0)) := by
  have hl := scs_length S
  have h1 := hp_set (hp_set (hp_set (hp_set h (i * 4) (Value.int .i64 s.when)) (i * 4 + 1) (Value.int .i64 s.key)) (i * 4 + 2) (Value.int .i64 s.turn)) (i * 4 + 3) (Value.int .i64 s.gen)
  rw [scs_set S i hi s]
  rw [List.setIfInBounds_toArray, List.setIfInBounds_toArray, List.setIfInBounds_toArray, List.setIfInBounds_toArray] at h1
  rw [List.set_append_left _ _ (by rw [hl]; omega), List.set_append_left _ _ (by rw [List.length_set, hl]; omega), List.set_append_left _ _ (by rw [List.length_set, List.length_set, hl]; omega), List.set_append_left _ _ (by rw [List.length_set, List.length_set, List.length_set, hl]; omega)] at h1
  exact h1
theorem fill4_other (W : World) (g i : Nat) (s : Slot) (k : Nat) (hk : k ≠ g) : (fill4 W g i s).heap[k]? = W.heap[k]? := by
  have h1 := hp_set_other W g k (i * 4) (Value.int .i64 s.when) hk
  have h2 := hp_set_other (W.setCell ⟨g, i * 4, none⟩ (Value.int .i64 s.when)) g k (i * 4 + 1) (Value.int .i64 s.key) hk
  have h3 := hp_set_other ((W.setCell ⟨g, i * 4, none⟩ (Value.int .i64 s.when)).setCell ⟨g, i * 4 + 1, none⟩ (Value.int .i64 s.key)) g k (i * 4 + 2) (Value.int .i64 s.turn) hk
  have h4 := hp_set_other (((W.setCell ⟨g, i * 4, none⟩ (Value.int .i64 s.when)).setCell ⟨g, i * 4 + 1, none⟩ (Value.int .i64 s.key)).setCell ⟨g, i * 4 + 2, none⟩ (Value.int .i64 s.turn)) g k (i * 4 + 3) (Value.int .i64 s.gen) hk
  unfold fill4
  exact h4.trans (h3.trans (h2.trans h1))
theorem fill4_size (W : World) (g i : Nat) (s : Slot) : (fill4 W g i s).heap.size = W.heap.size := by unfold fill4; simp
theorem filled_other (W : World) (g b i : Nat) (s : Slot) (t : Int) (k : Nat) (hk : k ≠ g) (hb : k ≠ b) : (filled W g b i s t).heap[k]? = W.heap[k]? := by
  have h1 := hp_set_other (fill4 W g i s) b k 1 (Value.int .i64 t) hb
  have h2 := fill4_other W g i s k hk
  unfold filled
  rw [drew_at]
  exact h1.trans h2
theorem filled_at (W : World) (g b i : Nat) (s : Slot) (t : Int) (hgb : g ≠ b) : (filled W g b i s t).heap[g]? = (fill4 W g i s).heap[g]? := by
  have h1 := hp_set_other (fill4 W g i s) b g 1 (Value.int .i64 t) hgb
  unfold filled
  rw [drew_at]
  exact h1
theorem filled_own (W : World) (g b i : Nat) (s : Slot) (t : Int) (hbg : b ≠ g) {cur : Array Value} {ty : TypeId} (h : W.heap[b]? = some (.cells cur ty (0, 0))) : (filled W g b i s t).heap[b]? = some (.cells (cur.setIfInBounds 1 (Value.int .i64 t)) ty (0, 0)) := by
  have h1 := hp_set ((fill4_other W g i s b hbg).trans h) 1 (Value.int .i64 t)
  unfold filled
  rw [drew_at]
  exact h1
theorem filled_size (W : World) (g b i : Nat) (s : Slot) (t : Int) : (filled W g b i s t).heap.size = W.heap.size := by
  unfold filled
  rw [drew_size]
  simp [fill4_size]
theorem filled_fr (W : World) (g b i : Nat) (s : Slot) (t : Int) {T : Nat → Prop} (hg : T g) (hb : T b) : Fr T W (filled W g b i s t) := by
  have h1 : Fr T W (fill4 W g i s) := by
    have f1 := (Fr.set W g (i * 4) (Value.int .i64 s.when)).trans (Fr.set _ g (i * 4 + 1) (Value.int .i64 s.key)) (fun _ _ x => x)
    have f2 := f1.trans (Fr.set _ g (i * 4 + 2) (Value.int .i64 s.turn)) (fun _ _ x => x)
    have f3 := f2.trans (Fr.set _ g (i * 4 + 3) (Value.int .i64 s.gen)) (fun _ _ x => x)
    unfold fill4
    exact f3.mono (fun _ _ e => by rw [e]; exact hg)
  have h2 := h1.trans (Fr.set (fill4 W g i s) b 1 (Value.int .i64 t)) (fun _ _ e => by rw [e]; exact hb)
  unfold filled
  exact h2.trans (Fr.drewN (fun _ => False) _ 1) (fun _ _ x => x.elim)
theorem Obj.fill {W : World} {base b g cap : Nat} {most turns : Int} {S : List Slot} {D F : List Nat} {rest : List Value} {vd vf : Value} (h : Obj W base b most turns S D F (.slice (some ⟨g, 0, none⟩) S.length cap) vd vf)
    (hr : W.heap[g]? = some (.cells (scs S ++ rest).toArray 75 (0, 0))) (hc : (scs S ++ rest).length = cap * 4) (hcap : S.length ≤ cap) (hmx : cap ≤ maxLen) (i : Nat) (hi : i < S.length) (s : Slot) (t : Int) :
    Obj (filled W g b i s t) base b most t (S.set i s) D F (.slice (some ⟨g, 0, none⟩) S.length cap) vd vf
    ∧ Kept W (filled W g b i s t) (Mine b (.slice (some ⟨g, 0, none⟩) S.length cap) vd vf) (Mine b (.slice (some ⟨g, 0, none⟩) S.length cap) vd vf) := by
  have hgb : g ≠ b := fun e => h.s0 (by rw [e]; rfl)
  have hbg : b ≠ g := fun e => hgb e.symm
  have rf := row_fill hr i hi s
  have hgS := (h.sl.block (g := g) rfl).1
  have hbf : (filled W g b i s t).heap[b]? = some (.cells #[.int .i64 most, .int .i64 t, .slice (some ⟨g, 0, none⟩) S.length cap, vd, vf] 72 (0, 0)) := filled_own W g b i s t hbg h.hd
  have hg' : (filled W g b i s t).heap[g]? = some (.cells (scs (S.set i s) ++ rest).toArray 75 (0, 0)) := (filled_at W g b i s t hgb).trans rf
  have hlen : (S.set i s).length = S.length := by simp
  have hsr := SRow.of (cap := cap) hgS hg' (by rw [hlen]; exact hcap) (by rw [List.length_append, scs_length, hlen, ← scs_length S, ← List.length_append]; exact hc) hmx
  rw [hlen] at hsr
  refine ⟨⟨hbf, h.bb, hsr, ?_, ?_, h.s0, h.d0, h.f0, h.sd, h.sf, h.df⟩, ⟨filled_fr W g b i s t (.inr (.inl rfl)) (.inl rfl), fun k hk => .inl hk⟩⟩
  · exact h.du.frame (fun k hk => filled_other _ _ _ _ _ _ k (fun e => h.sd k (by rw [e]; rfl) hk) (fun e => h.d0 (by rw [hk, e])))
  · exact h.fr.frame (fun k hk => filled_other _ _ _ _ _ _ k (fun e => h.sf k (by rw [e]; rfl) hk) (fun e => h.f0 (by rw [hk, e])))

set_option maxHeartbeats 2000000 in
theorem set_core (h : Obj W base b most turns S D F vs vd vf) (ht0 : 0 ≤ turns) (ht : turns < 1125899906842624) (time key : Int) (hm : 0 ≤ time ∧ time ≤ 4611686018427387904) (hroom : D.length < most) (hmost : most ≤ 4096)
    (i : Nat) (S1 : List Slot) (R : List Nat → Prop) (hi : i < S1.length) (hS1 : S1.length ≤ 4096) (hgen : 0 ≤ (sg S1 i).gen ∧ (sg S1 i).gen < 1125899906842624)
    (hHp : Hp (rk (S1.set i ⟨time, key, turns, (sg S1 i).gen + 1⟩)) D) (hturn : ∀ j, j < (S1.set i ⟨time, key, turns, (sg S1 i).gen + 1⟩).length → 0 ≤ (sg (S1.set i ⟨time, key, turns, (sg S1 i).gen + 1⟩) j).turn ∧ (sg (S1.set i ⟨time, key, turns, (sg S1 i).gen + 1⟩) j).turn < 1152921504606846976)
    (hmem : ∀ x, x ∈ D → x < S1.length)
    (hleast : ∀ V, Cl W V → Calls Try.prog 35 #[.pointer (some ⟨b, 0, none⟩)] V fun e w' => e = .returned (.int .i64 (i : Int)) ∧ ∃ vs' vf' F1, Obj w' base b most turns S1 D F1 vs' vd vf' ∧ R F1 ∧ Kept V w' (Mine b vs vd vf) (Mine b vs' vd vf')) :
    Calls Try.prog 12 #[.pointer (some ⟨b, 0, none⟩), .int .i64 time, .int .i64 key] W fun e w' => e = .returned (.tuple #[.int .i64 (((sg S1 i).gen + 1) * 4096 + i), .int .i64 0]) ∧
      ∃ vs' vd' vf' D' F1, Obj w' base b most (turns + 1) (S1.set i ⟨time, key, turns, (sg S1 i).gen + 1⟩) D' F1 vs' vd' vf' ∧ R F1 ∧ D'.Perm (D ++ [i]) ∧ Hp (rk (S1.set i ⟨time, key, turns, (sg S1 i).gen + 1⟩)) D' ∧ Kept W w' (Mine b vs vd vf) (Mine b vs' vd' vf') := by
  have hadd := hide (add_yes W time hm)
  have c0 := h.c0
  have c3 := h.c3
  obtain ⟨ad, cd, rfl, _⟩ := h.du.shape
  have e0 : decide ((most : Int) ≤ (D.length : Int)) = false := decide_eq_false (by omega)
  have e1 : decide (most ≤ D.length) = false := decide_eq_false (by omega)
  have HL := hide hleast
  have HHp := hide hHp
  have HTn := hide hturn
  have HMm := hide hmem
  have hg1 := hgen.1
  have hg2 := hgen.2
  obtain ⟨gn, Hgn⟩ : ∃ gn, Hid ((sg S1 i).gen = gn) := ⟨_, hide rfl⟩
  rw [Hgn.out] at hg1 hg2 HHp HTn
  rw [Hgn.out]
  clear h hleast hHp hturn hmem hgen hm
  go_enter Try.func12, Try.ntmps12
  go_wp2_with fail
  refine hadd.out.mono ?_
  rintro e w' ⟨rfl, rfl⟩
  go_wp2_with fail
  go_quiet (fail)
  go_wp2_with fail
  refine (HL.out (W.drewN nq) (Fr.drewN (fun _ => False) _ _)).mono ?_
  rintro e w1 ⟨rfl, vs', vf', F1, h1, h2, h3⟩
  obtain ⟨g, cap, rest, rfl, -, k1, k2, k3, k4⟩ := h1.sl.row (by omega)
  have d1 := h1.c1
  have d2 := h1.c2
  have d3 := h1.c3
  have a0 : w1.cell? ⟨g, i * 4, none⟩ = some (.int .i64 (sg S1 i).when) := row_cell k4 i hi 0 (by omega)
  have a1 : w1.cell? ⟨g, i * 4 + 1, none⟩ = some (.int .i64 (sg S1 i).key) := row_cell k4 i hi 1 (by omega)
  have a2 : w1.cell? ⟨g, i * 4 + 2, none⟩ = some (.int .i64 (sg S1 i).turn) := row_cell k4 i hi 2 (by omega)
  have a3 : w1.cell? ⟨g, i * 4 + 3, none⟩ = some (.int .i64 (sg S1 i).gen) := row_cell k4 i hi 3 (by omega)
  rw [Hgn.out] at a3
  have z0 : w1.frozen? ⟨g, i * 4, none⟩ = false := frozen_of k4 _
  have z1 : w1.frozen? ⟨g, i * 4 + 1, none⟩ = false := frozen_of k4 _
  have z2 : w1.frozen? ⟨g, i * 4 + 2, none⟩ = false := frozen_of k4 _
  have z3 : w1.frozen? ⟨g, i * 4 + 3, none⟩ = false := frozen_of k4 _
  have y1 : w1.frozen? ⟨b, 1, none⟩ = false := h1.fz 1
  have hgb : g ≠ b := fun e => h1.s0 (by rw [e]; rfl)
  have hbg : b ≠ g := fun e => hgb e.symm
  have hmf : ∀ (fn : Fn) (first cap : Array Value) (w : World), (Instr.makeFunc fn first cap).run Try.prog w = .ok (.func fn first cap) w := fun _ _ _ _ => rfl
  have H1 := hide h1
  have H2 := hide h2
  have H3 := hide h3
  have K4 := hide k4
  have K3 := hide k3
  clear h1 h2 h3 k3 k4 HL hadd c0 c3
  go_wp2_with fail
  go_region
  go_wp2_with fail
  obtain ⟨O2, KK⟩ := H1.out.fill K4.out K3.out k1 k2 i hi ⟨time, key, turns, gn + 1⟩ (turns + 1)
  obtain ⟨w2, Hw2⟩ : ∃ w2, Hid (w2 = filled w1 g b i ⟨time, key, turns, gn + 1⟩ (turns + 1)) := ⟨_, hide rfl⟩
  rw [← Hw2.out] at O2 KK
  have hgoal := Hw2.out
  unfold filled fill4 at hgoal
  dsimp only at hgoal
  rw [← hgoal]
  clear hgoal
  have hlenS : (S1.set i ⟨time, key, turns, gn + 1⟩).length = S1.length := by simp
  have hgt : (sg (S1.set i ⟨time, key, turns, gn + 1⟩) i) = ⟨time, key, turns, gn + 1⟩ := by simp [sg, hi]
  have hins := hide (insert_any (rk (S1.set i ⟨time, key, turns, gn + 1⟩)) i _ O2.du O2.base_le (by omega) HHp.out (told_ahead O2 (by rw [hlenS]; exact hS1) HTn.out (D ++ [i]) (fun x hx => by
    rw [hlenS]
    rcases List.mem_append.1 hx with hx | hx
    · exact HMm.out x hx
    · simp at hx; omega)))
  have HO2 := hide O2
  have HKK := hide KK
  have HSL := hide hlenS
  have HGT := hide hgt
  clear O2 KK Hw2 a0 a1 a2 a3 z0 z1 z2 z3 y1 d1 d2 d3 hgt hlenS
  refine hins.out.mono ?_
  rintro e w3 ⟨v3, D3, rfl, o3, p3, q3, f3, l3⟩
  have O3 := HO2.out.setD f3 o3 l3
  have hh := f3.hd (fun e => HO2.out.d0 e.symm) HO2.out.hd
  have y3 : w3.frozen? ⟨b, 3, none⟩ = false := frozen_of hh 3
  have cc3 : w3.cell? ⟨b, 3, none⟩ = some _ := (cell_of hh 3).trans rfl
  obtain ⟨a3, b3, hv3, _⟩ := o3.shape
  subst hv3
  obtain ⟨g', cap', rest', hvs, -, -, -, -, k4'⟩ := O3.sl.row (by rw [HSL.out]; omega)
  have hgg : g = g' := by
    simp only [Value.slice.injEq, Option.some.injEq, Addr.mk.injEq] at hvs
    exact hvs.1.1
  subst hgg
  have a3' := row_cell k4' i (by rw [HSL.out]; exact hi) 3 (by omega)
  rw [HGT.out] at a3'
  have a3'' : (w3.setCell ⟨b, 3, none⟩ (.slice a3 D3.length b3)).cell? ⟨g, i * 4 + 3, none⟩ = some (.int .i64 (gn + 1)) := a3'
  have HO3 := hide O3
  have P3 := hide p3
  have Q3 := hide q3
  have F3 := hide f3
  have L3 := hide l3
  clear O3 p3 q3 f3 l3 o3 hh hvs k4' a3' hins
  go_wp2_with fail
  go_ret2
  refine ⟨by first | rfl | simp, _, _, _, D3, F1, HO3.out, H2.out, P3.out, Q3.out, ?_⟩
  exact ((Kept.cl (Fr.drewN (fun _ => False) W nq)).trans H3.out).trans (HKK.out.trans (keptD F3.out L3.out _))
end
end Go.Proofs.Ytbmhhkpehilioaa
