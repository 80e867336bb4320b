/- Bytes of the body, taken at once. -/
import Derived.Test.YtggeihahbgeneaaDoorCPce
import Derived.Maps.AppendAt
namespace Go.Proofs.YtggeihahbgeneaaDoor
open Go.ChangeShapes Go.WideShapes Go.ChangeAt Go.RowKit

theorem infoB : ∃ i, Tryd.prog.info? 5 = some i ∧ i.zero = some (.int .u8 0) ∧ i.size = 1 ∧ i.bytes = 1 := elB.i
/-- An append of bytes that came in, beside other rows. -/
theorem append_bs_k (W : World) (base nb : Nat) (ty : TypeId) (v u : Value) (O l : List UInt8) (hown : Row W base 5 v (bc O)) (hB : Bs W nb u l) (hS : Shp u) (hn : O.length + l.length ≤ 140737488355328) (hbase : base ≤ W.heap.size) :
    ∃ v' W', (Builtin.append_ #[31, 31] ty #[v, u]).run Tryd.prog W = .ok v' W' ∧ Row W' base 5 v' (bc (O ++ l)) ∧ Below base W W' ∧ Kept W W' v v' := by
  obtain ⟨i, hi, hz, hs1, hb1⟩ := infoB
  obtain ⟨a, c, rfl, hc, hcell⟩ := hB
  unfold Row at hown
  rw [bc_len] at hown
  rcases hS with he | ⟨ad, m, c', he⟩
  · simp only [Value.slice.injEq] at he
    obtain ⟨rfl, hl0, rfl⟩ := he
    have e : l = [] := List.eq_nil_of_length_eq_zero hl0
    subst e
    refine ⟨v, W, run_append_owned_none W base 31 ty 5 i 1 Tryd.underlying31 hi v _ _ hown, ?_, Below.refl _ _, Kept.refl _ _⟩
    unfold Row
    rw [List.append_nil, bc_len]
    exact hown
  · simp only [Value.slice.injEq] at he
    obtain ⟨rfl, _, _⟩ := he
    obtain ⟨v', W', hr, h1, hg, _, hloc⟩ := run_append_own_at (w := W) base 31 ty 5 i _ 1 1 Tryd.underlying31 hi hz hs1 hb1 rfl (by omega) v O.length (bc O) hown ad l.length c (bc l) (by rw [bc_len]; omega) (by
      intro j u hj
      have hjl : j < l.length := by
        rw [← bc_len]
        exact (List.getElem?_eq_some_iff.1 hj).1
      obtain ⟨b, off, e, _, _, x1⟩ := hcell j hjl
      simp only [Option.some.injEq] at e
      subst e
      have e2 : (⟨b, off, none⟩ : Addr).add j = ⟨b, off + j, none⟩ := by unfold Addr.add; split <;> simp_all
      rw [e2, x1, ← hj]
      simp [bc, hjl]) (by
      intro u hu
      unfold bc at hu
      obtain ⟨x, _, rfl⟩ := List.mem_map.1 hu
      rfl) (by unfold maxLen; omega) (by omega) hbase
    refine ⟨v', W', hr, ?_, (Below.refl base W).grown hg hbase (fun k hk => (World.ownsRow.lt hown k hk).1), ?_⟩
    · unfold Row
      rw [bc_len, List.length_append, show bc (O ++ l) = bc O ++ bc l by simp [bc]]
      exact h1
    · refine ⟨hg.size, fun g h2 h3 => hg.block g h2 (fun h => h3 h.symm), fun g h2 h3 h4 => ?_⟩
      rcases hloc with h5 | h5
      · exact h3 (h5.symm.trans h4)
      · rw [h5] at h4
        simp only [Option.some.injEq] at h4
        omega
theorem Bf.take {w : World} {A : Nat → Prop} {a : Option Addr} {m c : Nat} {l : List UInt8} (h : Bf w A (.slice a m c) l) (k : Nat) (hk : k ≤ l.length) : Bf w A (.slice a k c) (l.take k) := by
  obtain ⟨a', c', he, hc, hx⟩ := h
  simp only [Value.slice.injEq] at he
  obtain ⟨rfl, _, rfl⟩ := he
  have hl : (l.take k).length = k := by simp; omega
  refine ⟨a, c, by rw [hl], by rw [hl]; omega, fun j hj => ?_⟩
  obtain ⟨g, o, h1, h2, h3, h4⟩ := hx j (by omega)
  exact ⟨g, o, h1, h2, h3, by rw [h4]; simp⟩
theorem Bf.drop {w : World} {A : Nat → Prop} {g o : Nat} {m c : Nat} {l : List UInt8} (h : Bf w A (.slice (some ⟨g, o, none⟩) m c) l) (k : Nat) (hk : k ≤ l.length) : Bf w A (.slice (some ⟨g, o + k, none⟩) (l.length - k) (c - k)) (l.drop k) := by
  obtain ⟨a', c', he, hc, hx⟩ := h
  simp only [Value.slice.injEq] at he
  obtain ⟨rfl, _, rfl⟩ := he
  have hl : (l.drop k).length = l.length - k := by simp
  refine ⟨_, c - k, by rw [hl], by rw [hl]; omega, fun j hj => ?_⟩
  obtain ⟨g', o', h1, h2, h3, h4⟩ := hx (k + j) (by omega)
  simp only [Option.some.injEq, Addr.mk.injEq] at h1
  obtain ⟨rfl, rfl, _⟩ := h1
  refine ⟨g, o + k, rfl, h2, h3, ?_⟩
  rw [show o + k + j = o + (k + j) by omega, h4]
  simp
theorem Pce.grow {w W : World} {base h : Nat} {A : Nat → Prop} {rv bv bv' : Value} {rest body body' : List UInt8} (p : Pce w base A h rv bv rest body) (hB : Below base w W) (hk : Kept w W bv bv') (hR : Row W base 5 bv' (bc body')) :
    W.heap[h]? = some (.cells #[rv, bv] 95 (0, 0)) ∧ Pce (W.setCell ⟨h, 1, none⟩ bv') base A h rv bv' rest body' ∧ QK w (W.setCell ⟨h, 1, none⟩ bv') h bv bv' := by
  have hbl : W.heap[h]? = some (.cells #[rv, bv] 95 (0, 0)) := (hk.block h p.lt p.bh).trans p.blk
  have hb' : bv'.ownBlock ≠ some h := hk.apart h p.lt p.bh
  refine ⟨hbl, ⟨hp_set hbl 1 bv', ?_, p.shp, ?_, p.hb, hb', p.hA, fun k e hA => hk.apart k (p.AL k hA) (fun e2 => p.bA k e2 hA) e, fun k hA => Nat.lt_of_lt_of_le (p.AL k hA) (by simpa using hk.size)⟩, ⟨hB.os, hB.tape, hB.output, by simpa using hk.size, fun k hk2 h1 h2 => (Below.heap_setCell W ⟨h, 1, none⟩ bv' k h1).trans (hk.block k hk2 h2), fun k hk2 h2 => hk.apart k hk2 h2⟩⟩
  · refine p.rest.keep (by simpa using hk.size) (fun k h1 h2 => ?_)
    rw [Below.heap_setCell W ⟨h, 1, none⟩ bv' k (fun e => p.hA (by rw [← show k = h from e]; exact h1))]
    exact hk.block k h2 (fun e => p.bA k e h1)
  · exact hR.frame fun k e => Below.heap_setCell W ⟨h, 1, none⟩ bv' k (fun e2 => hb' (by rw [e, e2]))
set_option maxHeartbeats 4000000 in
theorem take_any {w : World} {base h : Nat} {A : Nat → Prop} {rv bv : Value} {rest body : List UInt8} (p : Pce w base A h rv bv rest body) (hb : base ≤ w.heap.size) (n : Nat) (h0 : rest ≠ []) (hl : rest.length + body.length ≤ 140737488355328) (hn : n ≤ 9007199254740992) :
    Calls Tryd.prog 47 #[.pointer (some ⟨h, 0, none⟩), .int .i64 (n : Int)] w fun e w' => e = .returned (.int .i64 ((min n rest.length : Nat) : Int)) ∧ ∃ rv' bv', Pce w' base A h rv' bv' (rest.drop (min n rest.length)) (body ++ rest.take (min n rest.length)) ∧ QK w w' h bv bv' := by
  have HP := hide p
  have HB := hide hb
  obtain ⟨a, c, rfl, hc, hx⟩ := p.rest
  obtain ⟨g, o, rfl, hg1, hg2, hx0⟩ := hx 0 (List.length_pos_iff.2 h0)
  have HRT := hide p.rest
  obtain ⟨ba, bc2, rfl, _, _⟩ := p.body.shape
  rw [bc_len] at HP
  clear p hx hx0 hb
  obtain ⟨k, hkd⟩ : ∃ k, min n rest.length = k := ⟨_, rfl⟩
  have hk1 : k ≤ rest.length := by omega
  have hmin : (min (n : Int) (rest.length : Int)) = (k : Int) := by omega
  have hkn : n < rest.length ∧ k = n ∨ rest.length ≤ n ∧ k = rest.length := by omega
  rw [hkd]
  have c0 : w.cell? ⟨h, 0, none⟩ = some (.slice (some ⟨g, o, none⟩) rest.length c) := HP.out.cell 0
  have hkc : k ≤ c := by omega
  have BD := hide ((Below.refl w.heap.size w).drew)
  have HPD := hide (HP.out.below BD.out)
  obtain ⟨v', W, hrun, hR, hB, hK⟩ := append_bs_k w.drew base w.drew.heap.size 31 (.slice ba body.length bc2) (.slice (some ⟨g, o, none⟩) k c) body (rest.take k) HPD.out.body ((HRT.out.take k hk1).below BD.out).bs (.inr ⟨_, _, _, rfl⟩) (by rw [List.length_take]; omega) HB.out
  obtain ⟨na, nc, rfl, _, _⟩ := hR.shape
  obtain ⟨hbl, hP2, hQ2⟩ := HPD.out.grow hB hK hR
  have HP2 := hide hP2
  have HQ2 := hide ((QK.of_below h (.slice ba body.length bc2) BD.out).trans hQ2)
  have c1 : w.cell? ⟨h, 1, none⟩ = some (.slice ba body.length bc2) := HP.out.cell 1
  have f1 := HP.out.froz 1
  have d1 : W.cell? ⟨h, 1, none⟩ = some (.slice ba body.length bc2) := cell_at hbl 1
  have g1 : W.frozen? ⟨h, 1, none⟩ = false := by rw [frozen_at hbl]; simp
  have HRUN := hide hrun
  clear hP2 hQ2 hB hK hR hkd
  obtain ⟨nl, hnl⟩ : ∃ nl, (bc (body ++ rest.take k)).length = nl := ⟨_, rfl⟩
  rw [hnl] at hrun HP2 HQ2 HRUN
  clear hnl
  rw [bc_len]
  rcases hkn with ⟨hlt, rfl⟩ | ⟨hge, rfl⟩
  · clear hrun
    go_enter Tryd.func47, Tryd.ntmps47
    go_upto_region 2 with fail
    have hrun := HRUN.out
    go_region_law (refine step_append_is rfl (.tmp 16) (.tmp 22) 31 rfl (.slice ba body.length bc2) (.slice (some ⟨g, o, none⟩) k c) (.slice na nl nc) rfl rfl hrun ?_)
    all_goals (clear hrun HRUN c0 c1 f1 d1 g1 hbl)
    all_goals (generalize W.setCell ⟨h, 1, none⟩ (.slice na nl nc) = w2 at HP2 HQ2 ⊢)
    all_goals (have c0 : w2.cell? ⟨h, 0, none⟩ = some (.slice (some ⟨g, o, none⟩) rest.length c) := HP2.out.cell 0)
    all_goals (have f0 := HP2.out.froz 0)
    all_goals (have hcc : ¬ c = k := by omega)
    all_goals (go_wp2_with fail)
    all_goals go_ret
    all_goals exact ⟨rfl, _, _, HP2.out.turn (HP2.out.rest.drop k (by omega)) (.inr ⟨_, _, _, rfl⟩), HQ2.out.trans (QK.set _ _ _ _ _)⟩
  · clear hrun
    go_enter Tryd.func47, Tryd.ntmps47
    go_upto_region 2 with fail
    have hrun := HRUN.out
    go_region_law (refine step_append_is rfl (.tmp 16) (.tmp 22) 31 rfl (.slice ba body.length bc2) (.slice (some ⟨g, o, none⟩) rest.length c) (.slice na nl nc) rfl rfl hrun ?_)
    all_goals (clear hrun HRUN c0 c1 f1 d1 g1 hbl)
    all_goals (generalize W.setCell ⟨h, 1, none⟩ (.slice na nl nc) = w2 at HP2 HQ2 ⊢)
    all_goals (have c0 : w2.cell? ⟨h, 0, none⟩ = some (.slice (some ⟨g, o, none⟩) rest.length c) := HP2.out.cell 0)
    all_goals (have f0 := HP2.out.froz 0)
    all_goals (
      by_cases hcc : c = rest.length
      · subst hcc
        go_wp2_with fail
        go_ret
        exact ⟨rfl, _, _, HP2.out.turn ⟨some ⟨g, o, none⟩, 0, by simp, by simp, fun j hj => by simp at hj⟩ (.inr ⟨_, _, _, rfl⟩), HQ2.out.trans (QK.set _ _ _ _ _)⟩
      · go_wp2_with fail
        go_ret
        exact ⟨rfl, _, _, HP2.out.turn (by have h := HP2.out.rest.drop rest.length (Nat.le_refl _); rw [Nat.sub_self] at h; exact h) (.inr ⟨_, _, _, rfl⟩), HQ2.out.trans (QK.set _ _ _ _ _)⟩)
end Go.Proofs.YtggeihahbgeneaaDoor
