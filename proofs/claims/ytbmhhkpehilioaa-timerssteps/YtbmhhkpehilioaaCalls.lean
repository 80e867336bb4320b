/- What each call of the timers answers and leaves. -/
import Derived.Test.YtbmhhkpehilioaaSet
namespace Go.Proofs.Ytbmhhkpehilioaa
open Go.ChangeShapes Go.WideShapes Go.ChangeAt Go.RowKit

theorem sg_set (S : List Slot) (i : Nat) (s : Slot) (j : Nat) (hi : i < S.length) : sg (S.set i s) j = if j = i then s else sg S j := by
  unfold sg
  simp only [List.getD_eq_getElem?_getD, List.getElem?_set]
  by_cases e : j = i
  · subst e; simp [hi]
  · have e2 : ¬ i = j := fun x => e x.symm
    simp [e, e2]
theorem sg_app (S : List Slot) (s : Slot) (j : Nat) (hj : j < S.length) : sg (S ++ [s]) j = sg S j := by
  unfold sg
  rw [List.getD_eq_getElem?_getD, List.getD_eq_getElem?_getD, List.getElem?_append_left hj]
theorem sg_last (S : List Slot) (s : Slot) : sg (S ++ [s]) S.length = s := by simp [sg]

/-- Where the next timer lies: the slot, and the slots with it. -/
inductive Place (S : List Slot) (F : List Nat) : Nat → List Slot → List Nat → Prop
  | fresh : F = [] → Place S F S.length (S ++ [z0]) []
  | old {F' : List Nat} : 0 < F.length → (gt F 0 :: F').Perm F → Place S F (gt F 0) S F'

section
variable {most : Nat} {turns : Int} {S : List Slot} {D F : List Nat}
theorem Place.lt {i : Nat} {S1 : List Slot} {F' : List Nat} (h : Place S F i S1 F') (hI : Inv most turns S D F) : i < S1.length ∧ S.length ≤ S1.length ∧ (∀ j, j < S.length → sg S1 j = sg S j) ∧ i ∉ D := by
  cases h with
  | fresh e => exact ⟨by simp, by simp, fun j hj => sg_app S z0 j hj, fun hm => by have := hI.memD hm; omega⟩
  | old h0 hp => exact ⟨hI.memF (gt_mem F 0 h0), Nat.le_refl _, fun _ _ => rfl, fun hm => hI.apart hm (gt_mem F 0 h0)⟩
theorem Inv.put {i : Nat} {S1 : List Slot} {F' D' : List Nat} (hI : Inv most turns S D F) (h : Place S F i S1 F') (hroom : D.length < most) (time key : Int) (hm : 0 ≤ time ∧ time ≤ 4611686018427387904)
    (hD : D'.Perm (D ++ [i])) (hH : Hp (rk (S1.set i ⟨time, key, turns, (sg S1 i).gen + 1⟩)) D') (hF : Hp (fun x => (x : Int)) F') : Inv most (turns + 1) (S1.set i ⟨time, key, turns, (sg S1 i).gen + 1⟩) D' F' := by
  obtain ⟨hi, hle, hsame, hni⟩ := h.lt hI
  have ht0 := hI.t0
  have hlenS : (S1.set i ⟨time, key, turns, (sg S1 i).gen + 1⟩).length = S1.length := by simp
  have hgen : 0 ≤ (sg S1 i).gen ∧ (sg S1 i).gen ≤ turns ∧ S1.length ≤ most ∧ (∀ j, j < S1.length → j ≠ i → j < S.length) := by
    cases h with
    | fresh e =>
      have hl := hI.lens
      subst e
      refine ⟨by rw [sg_last]; decide, by rw [sg_last]; exact ht0, ?_, fun j hj hne => ?_⟩
      · simp at hl ⊢; omega
      · simp at hj; omega
    | old h0 hp =>
      have := hI.sl _ (hI.memF (gt_mem F 0 h0))
      exact ⟨by omega, by omega, hI.len, fun j hj _ => hj⟩
  obtain ⟨g1, g2, g3, g4⟩ := hgen
  refine ⟨hI.m1, hI.m2, by rw [hlenS]; exact g3, ?_, hH, hF, by omega, ?_, ?_⟩
  · rw [hlenS]
    cases h with
    | fresh e =>
      subst e
      have := hI.perm
      rw [List.append_nil] at this ⊢
      rw [List.length_append, List.length_singleton, List.range_succ]
      exact hD.trans (List.Perm.append_right _ this)
    | old h0 hp =>
      have e1 : (D' ++ F').Perm ((D ++ [gt F 0]) ++ F') := List.Perm.append_right _ hD
      have e2 : ((D ++ [gt F 0]) ++ F').Perm (D ++ F) := by
        rw [List.append_assoc]
        exact List.Perm.append_left _ hp
      exact (e1.trans e2).trans hI.perm
  · intro j hj
    rw [hlenS] at hj
    rw [sg_set S1 i _ j hi]
    by_cases e : j = i
    · rw [if_pos e]; dsimp only; omega
    · rw [if_neg e, hsame j (g4 j hj e)]
      have := hI.sl j (g4 j hj e)
      omega
  · intro j k hj hk hne
    rw [hlenS] at hj hk
    rw [sg_set S1 i _ j hi, sg_set S1 i _ k hi]
    by_cases e : j = i
    · rw [if_pos e, if_neg (by omega), hsame k (g4 k hk (by omega))]
      have := hI.sl k (g4 k hk (by omega))
      dsimp only; omega
    · rw [if_neg e, hsame j (g4 j hj e)]
      by_cases e2 : k = i
      · rw [if_pos e2]
        have := hI.sl j (g4 j hj e)
        dsimp only; omega
      · rw [if_neg e2, hsame k (g4 k hk e2)]
        exact hI.dis j k (g4 j hj e) (g4 k hk e2) hne
end

section
variable {W : World} {base b most : Nat} {turns : Int} {S : List Slot} {D F : List Nat} {M : Nat → Prop}
theorem set_any (h : Tm W base b most turns S D F M) (ht : turns < 1125899906842624) (time key : Int) (hm : 0 ≤ time ∧ time ≤ 4611686018427387904) (hroom : D.length < most) :
    Calls Try.prog 12 #[.pointer (some ⟨b, 0, none⟩), .int .i64 time, .int .i64 key] W fun e w' => ∃ i S1 D' F' M', e = .returned (.tuple #[.int .i64 (((sg S1 i).gen + 1) * 4096 + i), .int .i64 0]) ∧ Place S F i S1 F' ∧
      Tm w' base b most (turns + 1) (S1.set i ⟨time, key, turns, (sg S1 i).gen + 1⟩) D' F' M' ∧ D'.Perm (D ++ [i]) ∧ Kept W w' M M' := by
  obtain ⟨vs, vd, vf, ho, hmi⟩ := h.obj
  have hi := h.inv
  have hl := hi.lens
  have hl1 := hi.len
  have hl2 := hi.m2
  have key' : ∀ (i : Nat) (S1 : List Slot) (R : List Nat → Prop), (∃ F', Place S F i S1 F') → S1.length ≤ 4096 → (0 ≤ (sg S1 i).gen ∧ (sg S1 i).gen < 1125899906842624) → (∀ V, Cl W V → Calls Try.prog 35 #[.pointer (some ⟨b, 0, none⟩)] V fun e w' => e = .returned (.int .i64 (i : Int)) ∧ ∃ vs' vf' F1, Obj w' base b most turns S1 D F1 vs' vd vf' ∧ (Place S F i S1 F1 ∧ Hp (fun x => (x : Int)) F1) ∧ Kept V w' (Mine b vs vd vf) (Mine b vs' vd vf')) →
      Calls Try.prog 12 #[.pointer (some ⟨b, 0, none⟩), .int .i64 time, .int .i64 key] W fun e w' => ∃ i S1 D' F' M', e = .returned (.tuple #[.int .i64 (((sg S1 i).gen + 1) * 4096 + i), .int .i64 0]) ∧ Place S F i S1 F' ∧
      Tm w' base b most (turns + 1) (S1.set i ⟨time, key, turns, (sg S1 i).gen + 1⟩) D' F' M' ∧ D'.Perm (D ++ [i]) ∧ Kept W w' M M' := by
    intro i S1 R ⟨F0, hpl⟩ hS1 hgen hleast
    obtain ⟨hi1, hle, hsame, hni⟩ := hpl.lt hi
    have hne : ∀ x, x ∈ D → x ≠ i := fun x hx e => hni (e ▸ hx)
    refine (set_core ho hi.t0 ht time key hm hroom hl2 i S1 (fun F1 => Place S F i S1 F1 ∧ Hp (fun x => (x : Int)) F1) hi1 hS1 hgen ?_ ?_ (fun x hx => by have := hi.memD hx; omega) hleast).mono ?_
    · refine hi.hD.congr (fun x hx => ?_)
      unfold rk
      rw [sg_set S1 i _ x hi1, if_neg (hne x hx), hsame x (hi.memD hx)]
    · intro j hj
      have hj1 : j < S1.length := by simpa using hj
      rw [sg_set S1 i _ j hi1]
      by_cases e : j = i
      · rw [if_pos e]; have := hi.t0; dsimp only; omega
      · rw [if_neg e]
        cases hpl with
        | fresh e2 =>
          have hj2 : j < S.length := by simp at hj1; omega
          rw [hsame j hj2]
          have := hi.sl j hj2
          omega
        | old h0 hp =>
          have := hi.sl j hj1
          omega
    · rintro e w' ⟨rfl, vs', vd', vf', D', F1, o, ⟨r1, r2⟩, p, q, k⟩
      exact ⟨i, S1, D', F1, _, rfl, r1, ⟨⟨_, _, _, o, fun _ x => x⟩, hi.put r1 hroom time key hm p q r2⟩, p, k.mono hmi⟩
  by_cases hF : F = []
  · subst hF
    refine key' S.length (S ++ [z0]) (fun _ => True) ⟨[], .fresh rfl⟩ (by simp at hl ⊢; omega) (by rw [sg_last]; decide) (fun V hV => ?_)
    refine (least_new (ho.cl hV) (by omega)).mono ?_
    rintro e w' ⟨rfl, vs', o, k⟩
    exact ⟨rfl, vs', vf, [], o, ⟨.fresh rfl, Hp.nil _⟩, k⟩
  · have h0 : 0 < F.length := List.length_pos_iff.2 hF
    have hg := hi.sl _ (hi.memF (gt_mem F 0 h0))
    refine key' (gt F 0) S (fun _ => True) ⟨pull F 0, .old h0 (pull_perm F 0 h0)⟩ (by omega) (by omega) (fun V hV => ?_)
    refine (least_old (ho.cl hV) hi.hF (by omega) h0).mono ?_
    rintro e w' ⟨rfl, vf', F', o, p, q, k⟩
    exact ⟨rfl, vs, vf', F', o, ⟨.old h0 p, q⟩, k⟩

theorem set_bad (W : World) (p : Value) (hp : p = .pointer none ∨ ∃ b, p = .pointer (some ⟨b, 0, none⟩)) (time key : Int) (hm : ¬ (0 ≤ time ∧ time ≤ 4611686018427387904)) : Calls Try.prog 12 #[p, .int .i64 time, .int .i64 key] W fun e w' => e = .returned (.tuple #[.int .i64 0, .int .i64 1]) ∧ W = w' := by
  have hadd := hide (add_no W time hm)
  clear hm
  rcases hp with rfl | ⟨b, rfl⟩
  all_goals
    go_enter Try.func12, Try.ntmps12
    go_wp2_with (go_at_call 34; refine hadd.out.mono ?_; rintro e w' ⟨rfl, rfl⟩)
    go_ret2
    exact ⟨rfl, rfl⟩
theorem set_nil (W : World) (time key : Int) (hm : 0 ≤ time ∧ time ≤ 4611686018427387904) : Calls Try.prog 12 #[.pointer none, .int .i64 time, .int .i64 key] W fun e w' => e = .returned (.tuple #[.int .i64 0, .int .i64 5]) ∧ Cl W w' := by
  have hadd := hide (add_yes W time hm)
  clear hm
  go_enter Try.func12, Try.ntmps12
  go_wp2_with fail
  refine hadd.out.mono ?_
  rintro e w' ⟨rfl, rfl⟩
  go_wp2_with fail
  go_quiet (fail)
  go_wp2_with fail
  go_ret2
  exact ⟨rfl, Fr.drewN (fun _ => False) _ _⟩
theorem set_full (h : Tm W base b most turns S D F M) (time key : Int) (hm : 0 ≤ time ∧ time ≤ 4611686018427387904) (hroom : most ≤ D.length) :
    Calls Try.prog 12 #[.pointer (some ⟨b, 0, none⟩), .int .i64 time, .int .i64 key] W fun e w' => e = .returned (.tuple #[.int .i64 0, .int .i64 5]) ∧ Cl W w' := by
  obtain ⟨vs, vd, vf, ho, hmi⟩ := h.obj
  have hadd := hide (add_yes W time hm)
  have c0 := ho.c0
  have c3 := ho.c3
  obtain ⟨ad, cd, rfl, _⟩ := ho.du.shape
  have e0 : decide ((most : Int) ≤ (D.length : Int)) = true := decide_eq_true (by omega)
  have e1 : decide (most ≤ D.length) = true := decide_eq_true (by omega)
  have e2 : (most : Int) ≤ (D.length : Int) := by omega
  clear h ho hmi hm
  go_enter Try.func12, Try.ntmps12
  go_wp2_with fail
  refine hadd.out.mono ?_
  rintro e w' ⟨rfl, rfl⟩
  go_wp2_with fail
  go_quiet (fail)
  go_wp2_with fail
  go_ret2
  exact ⟨rfl, Fr.drewN (fun _ => False) _ _⟩

theorem next_none (h : Tm W base b most turns S D F M) (h0 : D.length = 0) : Calls Try.prog 21 #[.pointer (some ⟨b, 0, none⟩)] W fun e w' => e = .returned (.tuple #[.int .i64 0, .bool false]) ∧ W = w' := by
  obtain ⟨vs, vd, vf, ho, hmi⟩ := h.obj
  have hlen := hide (len_any ho)
  rw [h0] at hlen
  clear h ho hmi
  go_enter Try.func21, Try.ntmps21
  go_wp2_with (go_at_call 23; refine hlen.out.mono ?_; rintro e w' ⟨rfl, rfl⟩)
  go_ret2
  exact ⟨rfl, rfl⟩
theorem next_nil (W : World) : Calls Try.prog 21 #[.pointer none] W fun e w' => e = .returned (.tuple #[.int .i64 0, .bool false]) ∧ W = w' := by
  go_enter Try.func21, Try.ntmps21
  go_wp2_with (go_at_call 23; refine (len_nil _).mono ?_; rintro e w' ⟨rfl, rfl⟩)
  go_ret2
  exact ⟨rfl, rfl⟩
theorem field0 (a b c d : Int) (w : World) : (Instr.field 75 (.agg #[.int .i64 a, .int .i64 b, .int .i64 c, .int .i64 d]) 0).run Try.prog w = .ok (.int .i64 a) w := by kernel_rfl
theorem field1 (a b c d : Int) (w : World) : (Instr.field 75 (.agg #[.int .i64 a, .int .i64 b, .int .i64 c, .int .i64 d]) 1).run Try.prog w = .ok (.int .i64 b) w := by kernel_rfl
theorem next_some (h : Tm W base b most turns S D F M) (h0 : 0 < D.length) : Calls Try.prog 21 #[.pointer (some ⟨b, 0, none⟩)] W fun e w' => e = .returned (.tuple #[.int .i64 (sg S (gt D 0)).when, .bool true]) ∧ Cl W w' := by
  obtain ⟨vs, vd, vf, ho, hmi⟩ := h.obj
  have hi := h.inv
  have hl1 := hi.len
  have hl2 := hi.m2
  have hlen := hide (len_any ho)
  have hfst := hide (first_any ho (by omega) h0 (fun x hx => hi.memD hx))
  have hz : ((D.length : Int) == 0) = false := beq_eq_false_iff_ne.2 (by omega)
  obtain ⟨s, Hsl⟩ : ∃ s, Hid (sg S (gt D 0) = s) := ⟨_, hide rfl⟩
  rw [Hsl.out] at hfst
  rw [Hsl.out]
  clear h ho hmi hi Hsl
  obtain ⟨sw, sk, st, sn⟩ := s
  dsimp only at hfst ⊢
  have hf0 := field0 sw sk st sn
  go_enter Try.func21, Try.ntmps21
  go_wp2_with fail
  refine hlen.out.mono ?_
  rintro e w' ⟨rfl, rfl⟩
  go_wp2_with fail
  refine hfst.out.mono ?_
  rintro e w' ⟨rfl, hc⟩
  have HC := hide hc
  clear hc hz hfst hlen
  go_wp2_with fail
  go_ret2
  exact ⟨rfl, HC.out⟩
end
end Go.Proofs.Ytbmhhkpehilioaa
