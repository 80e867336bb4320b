/- The document's plain chain: Peek and Take. -/
import Derived.Test.YtglhoihiaflmgabRef
namespace Go.Proofs.Ytglhoihiaflmgab
open Go.ChangeShapes Go.WideShapes Go.ChangeAt Go.RowKit

theorem Fr.below2 {w w' : World} {v : Value} {base : Nat} (G : w.grownBy w' v.ownBlock) (h : ∀ g, v.ownBlock = some g → base ≤ g) : Fr (fun i => base ≤ i) w w' :=
  ⟨G.os, G.tape, G.output, G.size, fun k hk hn => G.block k hk (fun e => hn (h k e.symm))⟩

set_option maxHeartbeats 1000000 in
theorem rpeek_any {w : World} {base b bound high low : Nat} {v : Value} {l : List Int} {stop : Bool} (h : Ref w base b bound high low v l stop) (n : Int) :
    Calls Try.prog 17 #[.pointer (some ⟨b, 0, none⟩), .int .i64 n] w fun e w' => ∃ o, e = .returned o ∧ Fr (fun _ => False) w w' ∧ Own w' w.heap.size o (l.take (kOf n l.length)) := by
  have hs := h.own.sl
  obtain ⟨a, cap, rfl, _⟩ := hs.shape
  have hl : l.length ≤ 1048576 := Nat.le_trans h.fit h.top
  have HR := hide h
  have HS := hide hs
  have hbw : b < w.heap.size := h.hd.lt
  have hvb : Hid (∀ g, (Value.slice a l.length cap).ownBlock = some g → g < w.heap.size) := hide (fun g hg => (h.own.block hg).2)
  clear h hs
  go_enter Try.func17, Try.ntmps17
  go_wp2
  go_loopw [5, 6] (fun o i wr => ∃ j : Nat, j ≤ kOf n l.length ∧ i = .int .i64 j ∧ Hid (Own wr w.heap.size o (l.take j)) ∧ Hid (Fr (fun i => w.heap.size ≤ i) w wr)) (fun _ i _ => kOf n l.length - (intOf i).toNat)
  case atStart => exact ⟨0, Nat.zero_le _, rfl, hide (Own.nil _ _), hide (Fr.refl _ _)⟩
  case round =>
    obtain ⟨j, hj, rfl, HO, HF⟩ := hrel
    have hz : w.heap.size ≤ wr.heap.size := HF.out.size
    have R2 := HR.out.frame HF.out (by omega) (fun g hg => by have := hvb.out g hg; omega)
    have c3 := R2.hd.c3
    by_cases hlt : j < kOf n l.length
    · have hjl : j < l.length := by unfold kOf at hlt; omega
      have hjn : (j : Int) < n := by unfold kOf at hlt; omega
      have S2 := R2.own.sl
      obtain ⟨b', off, cap', e, hcell⟩ := S2.at hjl
      simp only [Value.slice.injEq] at e
      obtain ⟨rfl, _, rfl⟩ := e
      have hc := hcell j hjl
      obtain ⟨y, Hy⟩ : ∃ y, Hid (l.getD j 0 = y) := ⟨_, hide rfl⟩
      rw [Hy.out] at hc
      have HT : Hid (l.take (j + 1) = l.take j ++ [y]) := hide (by rw [take_snoc l j hjl, Hy.out])
      have hjl' : (j : Int) < l.length := by omega
      have OA : Hid (Own (wr.alloc (.cells #[.int .u8 y] 5)) w.heap.size u5 (l.take j)) := hide (HO.out.frame (fun g hg => Below.heap_alloc wr _ g (HO.out.block hg).2))
      have ub : Hid (∀ g, u5.ownBlock = some g → w.heap.size ≤ g) := hide (fun g hg => (HO.out.block hg).1)
      clear hcell R2 S2
      go_wp2_with (at_builtin; refine wpList_append_bytes rfl _ _ rfl _ w.heap.size u5 (.slice (some ⟨wr.heap.size, 0, none⟩) 1 1) (l.take j) [y] rfl rfl OA.out (sl_one wr y) (by simp; omega) (by simp; omega) ?_; intro v' w' O' G')
      have O2 := hide O'
      have F2 := hide ((HF.out.trans (Fr.alloc (fun i => w.heap.size ≤ i) wr _) (fun _ _ x => x)).trans (Fr.below2 G' ub.out) (fun _ _ x => x))
      clear O' G'
      go_roundw
      case rel => exact ⟨j + 1, by omega, by go_num, hide (by rw [HT.out]; exact O2.out), F2⟩
      case measure => simp [intOf]; omega
    · have ej : j = kOf n l.length := by omega
      by_cases hn : (j : Int) < n
      · have hjl : ¬ ((j : Int) < l.length) := by unfold kOf at ej; omega
        subst ej
        clear R2
        go_wp2
        go_ret
        exact ⟨_, rfl, ⟨HF.out.os, HF.out.tape, HF.out.output, HF.out.size, fun k hk _ => HF.out.block k hk (by omega)⟩, HO.out⟩
      · subst ej
        clear R2
        go_wp2
        go_ret
        exact ⟨_, rfl, ⟨HF.out.os, HF.out.tape, HF.out.output, HF.out.size, fun k hk _ => HF.out.block k hk (by omega)⟩, HO.out⟩

theorem Own.mono {W : World} {base base' : Nat} {v : Value} {l : List Int} (h : Own W base v l) (hb : base' ≤ base) : Own W base' v l := by
  refine ⟨h.1, ?_⟩
  rcases h.2 with x | ⟨g, cap, cur, rfl, h1, hg, hc, hm, hs, ht⟩
  · exact .inl x
  · exact .inr ⟨g, cap, cur, rfl, Nat.le_trans hb h1, hg, hc, hm, hs, ht⟩

theorem Sl.drop {W : World} {g cap : Nat} {X : List Int} (h : Sl W (.slice (some ⟨g, 0, none⟩) X.length cap) X) {k : Nat} (hk : k ≤ X.length) : Sl W (.slice (some ⟨g, k, none⟩) (X.length - k) (cap - k)) (X.drop k) := by
  obtain ⟨a', cap', e, hxc, hn, hcell⟩ := h
  simp only [Value.slice.injEq] at e
  obtain ⟨rfl, _, rfl⟩ := e
  refine ⟨some ⟨g, k, none⟩, cap - k, by simp, by simp; omega, fun h => (by cases h), fun i hi => ?_⟩
  simp at hi
  obtain ⟨b, off, e, hx⟩ := hcell (k + i) (by omega)
  simp only [Option.some.injEq, Addr.mk.injEq] at e
  obtain ⟨rfl, rfl, _⟩ := e
  refine ⟨g, k, rfl, ?_⟩
  rw [show k + i = 0 + (k + i) by omega, hx]
  simp [List.getD]
theorem sl_empty (W : World) (g : Nat) : Sl W (.slice (some ⟨g, 0, none⟩) 0 0) [] := ⟨_, 0, rfl, Nat.le_refl _, fun h => (by cases h), fun i hi => by simp at hi⟩

section
variable {W : World} {b : Nat} {bound high low : Int} {v : Value} {stop : Bool}
theorem rt_hdA (h : RHd W b bound high low v stop) (v' : Value) (q : Nat) (stop' : Bool) (hs : stop' = false) :
    RHd (((W.setCell ⟨b, 3, none⟩ v').drewN q).setCell ⟨b, 4, none⟩ (.bool false)) b bound high low v' stop' := by
  subst hs
  have h2 := hp_set h 3 v'
  exact hp_set (W := (W.setCell ⟨b, 3, none⟩ v').drewN q) h2 4 (.bool false)
theorem rt_hdB (h : RHd W b bound high low v stop) (v' : Value) (q : Nat) (stop' : Bool) (hs : stop' = stop) :
    RHd ((W.setCell ⟨b, 3, none⟩ v').drewN q) b bound high low v' stop' := by
  subst hs
  exact hp_set h 3 v'
theorem rt_frA (q : Nat) (u x : Value) : Fr (fun i => i = b) W (((W.setCell ⟨b, 3, none⟩ u).drewN q).setCell ⟨b, 4, none⟩ x) := by
  refine ⟨rfl, rfl, rfl, by simp, fun k _ hk => ?_⟩
  rw [hp_set_other _ _ _ _ _ hk]
  exact hp_set_other _ _ _ _ _ hk
theorem rt_frB (q : Nat) (u : Value) : Fr (fun i => i = b) W ((W.setCell ⟨b, 3, none⟩ u).drewN q) := by
  refine ⟨rfl, rfl, rfl, by simp, fun k _ hk => ?_⟩
  exact hp_set_other _ _ _ _ _ hk
end

set_option maxHeartbeats 1000000 in
theorem rtake_any {w : World} {base b bound high low : Nat} {v : Value} {l : List Int} {stop : Bool} (h : Ref w base b bound high low v l stop) (hbase : base ≤ w.heap.size) (n : Int) :
    Calls Try.prog 14 #[.pointer (some ⟨b, 0, none⟩), .int .i64 n] w fun e w' => ∃ o v', e = .returned o ∧ Fr (fun i => i = b) w w' ∧ Own w' w.heap.size o (l.take (kOf n l.length)) ∧ Ref w' base b bound high low v' (l.drop (kOf n l.length)) (stop && decide (low < l.length - kOf n l.length)) ∧ (∀ g, v'.ownBlock = some g → w.heap.size ≤ g) := by
  have hl : l.length ≤ 1048576 := Nat.le_trans h.fit h.top
  have hp := hide (rpeek_any h n)
  have HR := hide h
  have hbw : b < w.heap.size := h.hd.lt
  have hvb : Hid (∀ g, v.ownBlock = some g → g < w.heap.size) := hide (fun g hg => (h.own.block hg).2)
  obtain ⟨k, Hk⟩ : ∃ k, Hid (kOf n l.length = k) := ⟨_, hide rfl⟩
  rw [Hk.out] at hp
  rw [Hk.out]
  have kl : k ≤ l.length := by rw [← Hk.out]; unfold kOf; omega
  clear h
  go_enter Try.func14, Try.ntmps14
  go_wp2_with fail
  refine hp.out.mono ?_
  rintro e w1 ⟨o, rfl, F1, O1⟩
  have R1 := HR.out.frame F1 (fun x => x) (fun _ _ x => x)
  obtain ⟨ao, co, ho, hco⟩ := O1.sl.shape
  have elk : (l.take k).length = k := by simp; omega
  rw [elk] at ho
  have HF1 := hide F1
  have HO1 := hide O1
  have hz1 : w.heap.size ≤ w1.heap.size := F1.size
  have c2 := R1.hd.c2
  have c3 := R1.hd.c3
  have c4 := R1.hd.c4
  have z3 := R1.hd.fz 3
  have z4 := R1.hd.fz 4
  have HR1 := hide R1
  have hb1 : b < w1.heap.size := by omega
  have ob : Hid (∀ g, o.ownBlock = some g → w.heap.size ≤ g ∧ g < w1.heap.size) := hide (fun g hg => O1.block hg)
  subst ho
  clear F1 O1 hco hp
  have fin : ∀ (v' : Value) (W W' : World) (stop' : Bool), Own W w1.heap.size v' (l.drop k) → w1.grownBy W (Value.slice none 0 0).ownBlock → RHd W' b bound high low v' stop' → Fr (fun i => i = b) W W' →
      Fr (fun i => i = b) w W' ∧ Own W' w.heap.size (.slice ao k co) (l.take k) ∧ Ref W' base b bound high low v' (l.drop k) stop' ∧ (∀ g, v'.ownBlock = some g → w.heap.size ≤ g) := by
    intro v' W W' stop' hO hG hH hF
    have G := Fr.ofGrown hG
    have hzW : w1.heap.size ≤ W.heap.size := hG.size
    have hg : ∀ g, v'.ownBlock = some g → w1.heap.size ≤ g ∧ g < W.heap.size := fun g hg => hO.block hg
    refine ⟨(HF1.out.mono (fun _ _ x => x.elim)).trans ((G.mono (T := fun i => i = b) (fun _ _ x => x.elim)).trans hF (fun _ _ x => x)) (fun _ _ x => x), ?_, ⟨hH, ?_, ?_, HR.out.top, HR.out.ne⟩, fun g hg' => by have := hg g hg'; omega⟩
    · exact HO1.out.frame (fun g hg' => by
        have hh := ob.out g hg'
        exact (hF.block g (by omega) (by omega)).trans (G.block g hh.2 (fun x => x)))
    · exact (hO.mono (Nat.le_trans hbase hz1)).frame (fun g hg' => hF.block g (hg g hg').2 (by have := (hg g hg').1; omega))
    · have := HR.out.fit
      simp only [List.length_drop]
      omega
  have FIN := hide fin
  clear fin
  have dk : (l.drop k).length = l.length - k := by simp
  have DK := hide dk
  clear dk
  obtain ⟨m, Hm⟩ : ∃ m, Hid (l.length - k = m) := ⟨_, hide rfl⟩
  rw [Hm.out] at DK
  have ST1 : Hid ((m : Int) ≤ low → (stop && decide (low < l.length - k)) = false) := hide (fun h => by rw [Hm.out, decide_eq_false (by omega : ¬ low < m)]; simp)
  have ST2 : Hid ((low : Int) < m → (stop && decide (low < l.length - k)) = stop) := hide (fun h => by rw [Hm.out, decide_eq_true (by omega : low < m)]; simp)
  have ml : m ≤ l.length := by have := Hm.out; omega
  rcases HR1.out.own.2 with ⟨hv, h0⟩ | ⟨g, cap, cur, hv, hg1, hg2, hg3, hg4, hg5, hg6⟩
  · subst hv
    have ek : k = 0 := by omega
    subst ek
    have ed : l.drop 0 = [] := by apply List.eq_nil_of_length_eq_zero; simp; exact List.eq_nil_of_length_eq_zero h0
    have se : Hid (Sl w1 (.slice none 0 0) (l.drop 0)) := hide (by rw [ed]; exact Sl.nil w1)
    have hst : (m : Int) ≤ low := by have := Hm.out; omega
    have H0 := hide h0
    clear ed h0
    go_wp2_with (at_builtin; refine wpList_append_bytes rfl _ _ rfl w1 w1.heap.size (.slice none 0 0) (.slice none 0 0) [] (l.drop 0) rfl rfl (Own.nil _ _) se.out (by simp; omega) (Nat.le_refl _) ?_; intro v' w2 O2 G2; rw [List.nil_append] at O2; obtain ⟨a', c', hv', -⟩ := O2.sl.shape; rw [DK.out] at hv'; subst hv'; have R2 : RHd w2 b bound high low _ stop := (Fr.ofGrown G2).hd (fun x => x) HR1.out.hd; have d2 := R2.c2; have d3 := R2.c3; have d4 := R2.c4; have y3 := R2.fz 3; have y4 := R2.fz 4; have RR2 := hide R2; have OO2 := hide O2; have GG2 := hide G2; clear R2 O2 G2)
    go_quiet (fail)
    go_wp2
    go_ret
    exact ⟨_, _, rfl, FIN.out _ w2 _ _ OO2.out GG2.out (rt_hdA RR2.out _ nq _ (ST1.out hst)) (rt_frA nq _ _)⟩
  · have hS := HR1.out.own.sl
    rw [hv] at hS
    subst hv
    have kl' : (k : Int) ≤ l.length := by omega
    have HSl := hide hS
    clear hS hg1 hg2 hg4 hg5 hg6
    by_cases hcap : cap = k
    · subst hcap
      have ed : l.drop cap = [] := by apply List.eq_nil_of_length_eq_zero; simp; omega
      have se : Hid (Sl w1 (.slice (some ⟨g, 0, none⟩) 0 0) (l.drop cap)) := hide (by rw [ed]; exact sl_empty w1 g)
      clear ed
      by_cases hst : (m : Int) ≤ low
      · go_wp2_with (at_builtin; refine wpList_append_bytes rfl _ _ rfl w1 w1.heap.size (.slice none 0 0) (.slice (some ⟨g, 0, none⟩) 0 0) [] (l.drop cap) rfl rfl (Own.nil _ _) se.out (by simp; omega) (Nat.le_refl _) ?_; intro v' w2 O2 G2; rw [List.nil_append] at O2; obtain ⟨a', c', hv', -⟩ := O2.sl.shape; rw [DK.out] at hv'; subst hv'; have R2 : RHd w2 b bound high low _ stop := (Fr.ofGrown G2).hd (fun x => x) HR1.out.hd; have d2 := R2.c2; have d3 := R2.c3; have d4 := R2.c4; have y3 := R2.fz 3; have y4 := R2.fz 4; have RR2 := hide R2; have OO2 := hide O2; have GG2 := hide G2; clear R2 O2 G2)
        go_quiet (fail)
        go_wp2
        go_ret
        exact ⟨_, _, rfl, FIN.out _ w2 _ _ OO2.out GG2.out (rt_hdA RR2.out _ nq _ (ST1.out hst)) (rt_frA nq _ _)⟩
      · go_wp2_with (at_builtin; refine wpList_append_bytes rfl _ _ rfl w1 w1.heap.size (.slice none 0 0) (.slice (some ⟨g, 0, none⟩) 0 0) [] (l.drop cap) rfl rfl (Own.nil _ _) se.out (by simp; omega) (Nat.le_refl _) ?_; intro v' w2 O2 G2; rw [List.nil_append] at O2; obtain ⟨a', c', hv', -⟩ := O2.sl.shape; rw [DK.out] at hv'; subst hv'; have R2 : RHd w2 b bound high low _ stop := (Fr.ofGrown G2).hd (fun x => x) HR1.out.hd; have d2 := R2.c2; have d3 := R2.c3; have d4 := R2.c4; have y3 := R2.fz 3; have y4 := R2.fz 4; have RR2 := hide R2; have OO2 := hide O2; have GG2 := hide G2; clear R2 O2 G2)
        go_quiet (fail)
        go_wp2
        go_ret
        exact ⟨_, _, rfl, FIN.out _ w2 _ _ OO2.out GG2.out (rt_hdB RR2.out _ nq _ (ST2.out hst)) (rt_frB nq _)⟩
    · have sd : Hid (Sl w1 (.slice (some ⟨g, k, none⟩) (l.length - k) (cap - k)) (l.drop k)) := hide (HSl.out.drop kl)
      by_cases hst : (m : Int) ≤ low
      · go_wp2_with (at_builtin; refine wpList_append_bytes rfl _ _ rfl w1 w1.heap.size (.slice none 0 0) (.slice (some ⟨g, k, none⟩) (l.length - k) (cap - k)) [] (l.drop k) rfl rfl (Own.nil _ _) sd.out (by simp; omega) (Nat.le_refl _) ?_; intro v' w2 O2 G2; rw [List.nil_append] at O2; obtain ⟨a', c', hv', -⟩ := O2.sl.shape; rw [DK.out] at hv'; subst hv'; have R2 : RHd w2 b bound high low _ stop := (Fr.ofGrown G2).hd (fun x => x) HR1.out.hd; have d2 := R2.c2; have d3 := R2.c3; have d4 := R2.c4; have y3 := R2.fz 3; have y4 := R2.fz 4; have RR2 := hide R2; have OO2 := hide O2; have GG2 := hide G2; clear R2 O2 G2)
        go_quiet (fail)
        go_wp2
        go_ret
        exact ⟨_, _, rfl, FIN.out _ w2 _ _ OO2.out GG2.out (rt_hdA RR2.out _ nq _ (ST1.out hst)) (rt_frA nq _ _)⟩
      · go_wp2_with (at_builtin; refine wpList_append_bytes rfl _ _ rfl w1 w1.heap.size (.slice none 0 0) (.slice (some ⟨g, k, none⟩) (l.length - k) (cap - k)) [] (l.drop k) rfl rfl (Own.nil _ _) sd.out (by simp; omega) (Nat.le_refl _) ?_; intro v' w2 O2 G2; rw [List.nil_append] at O2; obtain ⟨a', c', hv', -⟩ := O2.sl.shape; rw [DK.out] at hv'; subst hv'; have R2 : RHd w2 b bound high low _ stop := (Fr.ofGrown G2).hd (fun x => x) HR1.out.hd; have d2 := R2.c2; have d3 := R2.c3; have d4 := R2.c4; have y3 := R2.fz 3; have y4 := R2.fz 4; have RR2 := hide R2; have OO2 := hide O2; have GG2 := hide G2; clear R2 O2 G2)
        go_quiet (fail)
        go_wp2
        go_ret
        exact ⟨_, _, rfl, FIN.out _ w2 _ _ OO2.out GG2.out (rt_hdB RR2.out _ nq _ (ST2.out hst)) (rt_frB nq _)⟩
end Go.Proofs.Ytglhoihiaflmgab
