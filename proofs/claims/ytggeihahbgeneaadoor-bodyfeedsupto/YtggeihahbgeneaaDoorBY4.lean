/- Merged: BBh1 BFe1 BFe2 BFe3 BFe4. -/
import Derived.Test.YtggeihahbgeneaaDoorBY2
import Derived.Test.YtggeihahbgeneaaDoorBY3
namespace Go.Proofs.YtggeihahbgeneaaDoor
open Go.ChangeShapes Go.WideShapes Go.ChangeAt Go.RowKit

theorem Bs.of_row {w : World} {base : Nat} {v : Value} {l : List UInt8} (h : Row w base 5 v (bc l)) : Bs w w.heap.size v l := by
  obtain ⟨a, c, rfl, hc, _⟩ := h.shape
  rw [bc_len] at h hc
  refine ⟨a, c, by rw [bc_len], hc, fun j hj => ?_⟩
  obtain ⟨g, rfl, hcell⟩ := h.cell (j := j) (by rw [bc_len]; exact hj)
  have hg := (h.lt rfl).2
  refine ⟨g, 0, rfl, hg, hg, ?_⟩
  rw [Nat.zero_add, hcell]
  simp [bc, hj]
theorem Row.shp {W : World} {base : Nat} {e : TypeId} {v : Value} {xs : List Value} (h : Row W base e v xs) : Shp v := by
  rcases h.2 with ⟨rfl, _⟩ | ⟨g, cap, cur, rfl, _⟩
  · exact .inl rfl
  · exact .inr ⟨_, _, _, rfl⟩
set_option maxHeartbeats 4000000 in
set_option maxRecDepth 100000 in
theorem asked_11 (k len : Int) (x : Bool) (most : Int) (w : World) (t0 : ¬ k < 1) (t1 : ¬ 4 < k) (t2 : ¬ len < 0) (t3 : ¬ 9007199254740992 < len) (t4 : (k != 2) = true) (t5 : (len != 0) = false) (t6 : ¬ most < 0) (t7 : ¬ 9007199254740992 < most) (t8 : (k == 2) = false) : Calls Tryd.prog 9 #[frV k len x, .int .i64 most] w fun e w' => e = .returned (.int .i64 0) ∧ Below w.heap.size w w' := by
  have FIN : Hid (∀ W, W = w.alloc (.cells #[.int .i64 k, .int .i64 len, .bool x] 23) → Below w.heap.size w W) := hide (by rintro W rfl; exact (Below.refl w.heap.size w).alloc (Nat.le_refl _) _)
  unfold frV
  go_enter Tryd.func9, Tryd.ntmps9
  go_wp2
  go_ret
  exact ⟨rfl, FIN.out _ rfl⟩
set_option maxHeartbeats 4000000 in
set_option maxRecDepth 100000 in
theorem asked_12 (k len : Int) (x : Bool) (most : Int) (w : World) (t0 : ¬ k < 1) (t1 : ¬ 4 < k) (t2 : ¬ len < 0) (t3 : ¬ 9007199254740992 < len) (t4 : (k != 2) = false) (t5 : ¬ most < 0) (t6 : ¬ 9007199254740992 < most) (t7 : (k == 2) = true) (t8 : ¬ most < len) : Calls Tryd.prog 9 #[frV k len x, .int .i64 most] w fun e w' => e = .returned (.int .i64 0) ∧ Below w.heap.size w w' := by
  have FIN : Hid (∀ W, W = w.alloc (.cells #[.int .i64 k, .int .i64 len, .bool x] 23) → Below w.heap.size w W) := hide (by rintro W rfl; exact (Below.refl w.heap.size w).alloc (Nat.le_refl _) _)
  unfold frV
  go_enter Tryd.func9, Tryd.ntmps9
  go_wp2
  go_ret
  exact ⟨rfl, FIN.out _ rfl⟩
/-- A framing and a bound that are right. -/
def GoodF (k len most : Int) : Prop := ¬ (isR k len = false ∨ most < 0 ∨ 9007199254740992 < most ∨ (k = 2 ∧ most < len))
theorem asked_good (k len : Int) (x : Bool) (most : Int) (w : World) (h : GoodF k len most) : Calls Tryd.prog 9 #[frV k len x, .int .i64 most] w fun e w' => e = .returned (.int .i64 0) ∧ Below w.heap.size w w' := by
  unfold GoodF at h
  rw [not_or, not_or, not_or] at h
  obtain ⟨q1, q2, q3, q4⟩ := h
  have q1 : isR k len = true := by simpa using q1
  unfold isR at q1
  by_cases hk : k = 2
  · rw [if_pos hk] at q1
    have := of_decide_eq_true q1
    exact asked_12 k len x most w (by omega) (by omega) (by omega) (by omega) (by rw [bne_eq_false_iff_eq]; exact hk) q2 q3 (by rw [beq_iff_eq]; exact hk) (fun h => q4 ⟨hk, h⟩)
  · rw [if_neg hk] at q1
    by_cases h : k = 1 ∨ k = 3 ∨ k = 4
    · rw [if_pos h] at q1
      have hz := of_decide_eq_true q1
      exact asked_11 k len x most w (by omega) (by omega) (by omega) (by omega) (bne_iff_ne.2 hk) (by rw [bne_eq_false_iff_eq]; exact hz) q2 q3 (by rw [beq_eq_false_iff_ne]; exact hk)
    · rw [if_neg h] at q1; cases q1
/-! ### A decoder that is whole reads no further -/
theorem end_wrong (d : Dz) (s : ByteArray) (h : (dEnd d s).1 ≠ 0) : (dEnd d s).2.whole = d.whole := by
  unfold dEnd dSized dRead dTrl at *
  repeat' split
  all_goals first | rfl | (simp_all)
theorem next_wrong (d : Dz) (c : UInt8) (h : (dNext d c).1 ≠ 0) : (dNext d c).2.2.whole = d.whole := by
  unfold dNext at *
  split at h
  · exact absurd rfl h
  · rename_i h1
    rw [if_neg h1]
    split at h
    · rename_i h2; rw [if_pos h2]
    · rename_i h2
      rw [if_neg h2]
      split at h
      · rename_i h3
        rw [if_pos h3]
        exact end_wrong _ _ h
      · rename_i h3
        rw [if_neg h3]
        split at h
        · exact absurd rfl h
        · rename_i h4
          rw [if_neg h4]
          split at h
          · rename_i h5; rw [if_pos h5]
          · exact absurd rfl h
theorem whole_take (b : List UInt8) : ∀ (a : List UInt8) (d : Dz), d.whole = false → (dBytes d a).2.2.2.whole = true → (dBytes d a).1 = 0 ∧ dBytes d (a.take (dBytes d a).2.1 ++ b) = dBytes d a
  | [], d, hd, h => by rw [dBytes] at h; rw [hd] at h; cases h
  | c :: r, d, hd, h => by
    by_cases h1 : (dNext d c).1 ≠ 0
    · have e : dBytes d (c :: r) = ((dNext d c).1, 1, (dNext d c).2.1, (dNext d c).2.2) := by rw [dBytes, if_pos h1]
      rw [e] at h
      have := next_wrong d c h1
      dsimp only at h
      rw [h, hd] at this
      cases this
    · by_cases h2 : (dNext d c).2.2.whole = true
      · have e : ∀ r, dBytes d (c :: r) = (0, 1, (dNext d c).2.1, (dNext d c).2.2) := fun r => by rw [dBytes, if_neg h1, if_pos h2]
        rw [e r]
        refine ⟨rfl, ?_⟩
        show dBytes d (c :: (r.take 0 ++ b)) = _
        exact e _
      · have e : ∀ r, dBytes d (c :: r) = ((dBytes (dNext d c).2.2 r).1, (dBytes (dNext d c).2.2 r).2.1 + 1, (dNext d c).2.1 ++ (dBytes (dNext d c).2.2 r).2.2.1, (dBytes (dNext d c).2.2 r).2.2.2) := fun r => by rw [dBytes, if_neg h1, if_neg h2]
        rw [e r] at h
        obtain ⟨i1, i2⟩ := whole_take b r (dNext d c).2.2 (by simpa using h2) h
        rw [e r]
        refine ⟨i1, ?_⟩
        show dBytes d (c :: (r.take (dBytes (dNext d c).2.2 r).2.1 ++ b)) = _
        rw [e, i2]
/-! ### What Feed tells, where All is whole -/
/-- Feed of bytes of the call's own, made behind the reader. -/
def FF (base gr : Nat) (w1 : World) (l o : List UInt8) (N : Nat) : Prop := ∀ (W : World) (va : Option Addr) (vc : Nat), Below w1.heap.size w1 W → Row W w1.heap.size 5 (.slice va l.length vc) (bc l) → Calls Tryd.prog 12 #[.pointer (some ⟨gr, 0, none⟩), .slice va l.length vc] W fun e w' => ∃ ua uc, e = .returned (.tuple #[.slice ua o.length uc, .int .i64 (N : Int), .bool true, .int .i64 0]) ∧ Row w' W.heap.size 5 (.slice ua o.length uc) (bc o) ∧ Below base W w'
def NF (l o : List UInt8) (N : Nat) (w : World) (e : Ending) (w' : World) : Prop := ∃ gr, e = .returned (.tuple #[.pointer (some ⟨gr, 0, none⟩), .int .i64 0]) ∧ Below w.heap.size w w' ∧ FF w.heap.size gr w' l o N
theorem ff_over {w w1 : World} {gr g : Nat} {l : List UInt8} (hr : Rdr w1 w.heap.size gr g 72 74 ⟨0, true, 0⟩ []) (b1 : Below w.heap.size w w1) (hgr : w.heap.size ≤ gr) (hg : w.heap.size ≤ g) : FF w.heap.size gr w1 l [] 0 := by
  intro W va vc bW _
  have hz := Nat.le_trans b1.size bW.size
  refine (feed_over (hr.below bW) hz va l.length vc).mono ?_
  rintro e w' ⟨rfl, hf⟩
  exact ⟨none, 0, rfl, Row.nil _ _ _, hf.2.2.low hgr hg hz⟩
theorem new_nf_len (L : Nat) (x : Bool) (M : Nat) (w : World) (l o : List UInt8) (hL : L ≤ M) (hM : M ≤ 9007199254740992) (hl : l.length ≤ 140737488355328) (hLl : L ≤ l.length) (ho : o = l.take L) : Calls Tryd.prog 8 #[frV 2 (L : Int) x, .int .i64 (M : Int)] w fun e w' => NF l o L w e w' := by
  refine (new_of (w := w) (k := 2) (len := (L : Int)) (x := x) (most := (M : Int)) (.inl rfl) (by omega) (by omega) (by unfold isR; rw [if_pos rfl]; exact decide_eq_true (by omega)) (by omega) (fun W => framed_len L x (M : Int) W)).mono ?_
  rintro e w1 ⟨gr, g, rfl, hgr, hg, b1, hO1, hR1⟩
  refine ⟨gr, rfl, b1, ?_⟩
  by_cases h0 : L = 0
  · subst h0
    obtain ⟨g', hg', hr⟩ := hO1 rfl
    obtain rfl : o = [] := by rw [ho]; rfl
    exact ff_over hr b1 hgr hg'
  · have hr := hR1 (by simp [overT, h0])
    intro W va vc bW hrow
    have hz := Nat.le_trans b1.size bW.size
    have hk : tkN l L 0 = L := by unfold tkN; omega
    have hol : o.length = L := by rw [ho, List.length_take]; omega
    have hf := feed_meas (L := L) (hr.below bW) hz (.slice va l.length vc) l (Bs.of_row hrow) hrow.shp (by omega) (Nat.zero_le _) hl
    dsimp only at hf
    rw [hk, Nat.zero_add, decide_eq_true rfl, ← ho] at hf
    rw [hol]
    refine hf.mono ?_
    rintro e w' ⟨ua, uc, rfl, h1, h2⟩
    exact ⟨ua, uc, rfl, h1, h2.2.2.low hgr hg hz⟩
theorem new_nf_none (x : Bool) (M : Nat) (w : World) (l : List UInt8) (hM : M ≤ 9007199254740992) : Calls Tryd.prog 8 #[frV 1 0 x, .int .i64 (M : Int)] w fun e w' => NF l [] 0 w e w' := by
  refine (new_of (w := w) (k := 1) (len := 0) (x := x) (most := (M : Int)) (.inr (.inr (.inr rfl))) (by omega) (by omega) rfl (by omega) (fun W => framed_none 0 x (M : Int) W)).mono ?_
  rintro e w1 ⟨gr, g, rfl, hgr, hg, b1, hO1, _⟩
  obtain ⟨g', hg', hr⟩ := hO1 rfl
  exact ⟨gr, rfl, b1, ff_over hr b1 hgr hg'⟩
theorem new_nf_part (x : Bool) (M : Nat) (w : World) (l o : List UInt8) (N : Nat) (d : Dz) (hM : M ≤ 9007199254740992) (hl : l.length ≤ 70368744177664) (hm : MX w) (hd : dBytes (dNew M) l = (0, N, o, d)) (hw : d.whole = true) : Calls Tryd.prog 8 #[frV 3 0 x, .int .i64 (M : Int)] w fun e w' => NF l o N w e w' := by
  refine (new_part x M w hM).mono ?_
  rintro e w1 ⟨gr, g, gd, rfl, hgd, hP, b1⟩
  refine ⟨gr, rfl, b1, ?_⟩
  intro W va vc bW hrow
  have hgl := hP.pt.dec.lt
  have hBs := Bs.of_row hrow
  have hBf : Bf W (fun k => w1.heap.size ≤ k ∧ k < W.heap.size) (.slice va l.length vc) l := by
    obtain ⟨a, c, h1, h2, h3⟩ := hBs
    refine ⟨a, c, h1, h2, fun j hj => ?_⟩
    obtain ⟨g2, o2, q1, q2, q3, q4⟩ := h3 j hj
    refine ⟨g2, o2, q1, ⟨?_, q3⟩, q3, q4⟩
    simp only [Value.slice.injEq] at h1
    exact (hrow.lt (by rw [h1.1, q1]; rfl)).1
  have hf := feed_part (hP.below bW) (fit_dnew M hM) rfl rfl ((hm.below b1).below bW) hm.1 (A := fun k => w1.heap.size ≤ k ∧ k < W.heap.size) va vc l hBf hrow.shp (by omega) (fun k e => by simp [Value.ownBlock] at e) (fun k e => by simp [Value.ownBlock] at e) (fun k e => e.2) hl (Nat.zero_le _)
  rw [hd] at hf
  dsimp only at hf
  rw [hw] at hf
  refine hf.mono ?_
  rintro e w' ⟨ua, uc, lv', tv', rfl, h1, _, _, hb⟩
  exact ⟨ua, uc, rfl, h1, hb⟩
end Go.Proofs.YtggeihahbgeneaaDoor
namespace Go.Proofs.YtggeihahbgeneaaDoor
open Go.ChangeShapes Go.WideShapes Go.ChangeAt Go.RowKit

structure PFr (w w' : World) (gr g gd : Nat) (lv tv lv' tv' : Value) : Prop where
  block : ∀ k, k < w.heap.size → k ≠ gr → k ≠ g → k ≠ gd → lv.ownBlock ≠ some k → tv.ownBlock ≠ some k → w'.heap[k]? = w.heap[k]?
  la : ∀ k, k < w.heap.size → lv.ownBlock ≠ some k → lv'.ownBlock ≠ some k
  fa : ∀ k, k < w.heap.size → tv.ownBlock ≠ some k → tv'.ownBlock ≠ some k
set_option maxHeartbeats 8000000 in
set_option maxRecDepth 100000 in
theorem feed_part2 {w : World} {base gr g gd : Nat} {lv tv : Value} {t : Tal} {d : Dz} (h : PRd w base gr g gd lv tv t d) (hf : FitD d) (hw : d.whole = false) (hwr : d.wrong = 0) (hm : MX w) (hb2 : 2 ≤ base) {A : Nat → Prop} (va : Option Addr) (vc : Nat) (b : List UInt8) (hv : Bf w A (.slice va b.length vc) b) (hs : Shp (.slice va b.length vc)) (gA : ¬ A gd) (lA : ∀ k, lv.ownBlock = some k → ¬ A k) (tA : ∀ k, tv.ownBlock = some k → ¬ A k) (AL : ∀ k, A k → k < w.heap.size) (hl : b.length ≤ 70368744177664) (hg : t.got ≤ 9007199254740992) :
    Calls Tryd.prog 12 #[.pointer (some ⟨gr, 0, none⟩), .slice va b.length vc] w fun e w' => ∃ ua uc lv' tv', e = .returned (.tuple #[.slice ua (dBytes d b).2.2.1.length uc, .int .i64 ((dBytes d b).2.1 : Int), .bool (dBytes d b).2.2.2.whole, .int .i64 ((dBytes d b).1 : Int)]) ∧ Row w' w.heap.size 5 (.slice ua (dBytes d b).2.2.1.length uc) (bc (dBytes d b).2.2.1) ∧ (overT ⟨t.got + (dBytes d b).2.2.1.length, (dBytes d b).2.2.2.whole, (dBytes d b).1⟩ = true → ∃ g', w.heap.size ≤ g' ∧ Rdr w' base gr g' 72 74 ⟨t.got + (dBytes d b).2.2.1.length, (dBytes d b).2.2.2.whole, (dBytes d b).1⟩ []) ∧ (overT ⟨t.got + (dBytes d b).2.2.1.length, (dBytes d b).2.2.2.whole, (dBytes d b).1⟩ = false → PRd w' base gr g gd lv' tv' ⟨t.got + (dBytes d b).2.2.1.length, (dBytes d b).2.2.2.whole, (dBytes d b).1⟩ (dForget { (dBytes d b).2.2.2 with wrong := (dBytes d b).1 })) ∧ Below base w w' ∧ PFr w w' gr g gd lv tv lv' tv' := by
  have HP := hide h
  have HN := hide (isNone_any h.rdr)
  have HRD := hide (read_part h.pt hf hw hwr hm hb2 va vc b hv hs gA lA tA AL hl hg)
  have c0 := h.rdr.c0
  have hgrl := lt_heap' h.rdr.rd
  have hgl := h.pt.fr.lt
  have hgdl := h.pt.dec.lt
  have hbb : base ≤ w.heap.size := by have := h.pt.dec.gb; omega
  clear h hv hs
  generalize dBytes d b = R at HRD ⊢
  obtain ⟨en, n, o, dd⟩ := R
  dsimp only at HRD ⊢
  generalize hd2 : dForget { dd with wrong := en } = d2 at HRD ⊢
  clear hd2
  obtain ⟨tt, htt⟩ : ∃ x : Tal, (⟨t.got + o.length, dd.whole, en⟩ : Tal) = x := ⟨_, rfl⟩
  rw [htt] at HRD ⊢
  have e1 : dd.whole = tt.whole := by rw [← htt]
  have e2 : en = tt.wrong := by rw [← htt]
  rw [e1, e2]
  clear e1 e2 htt
  go_enter Tryd.func12, Tryd.ntmps12
  go_wp2_with fail
  refine HN.out.mono ?_
  rintro e w1 ⟨rfl, rfl⟩
  clear HN
  go_wp2_with fail
  refine HRD.out.mono ?_
  rintro e W1 ⟨ua, uc, lv', tv', rfl, q1, q2, q3⟩
  have HR1 : Hid (Rdr W1 base gr g 66 68 tt (ptX gd)) := hide ⟨(q3.block gr hgrl HP.out.rdr.ne HP.out.rd HP.out.rl HP.out.rt).trans HP.out.rdr.rd, q2.fr.fr, HP.out.rdr.ne, HP.out.rdr.rb, HP.out.rdr.fb⟩
  have hw1 := q3.size
  have R1 := hide q1
  have P1 := hide q2
  have B1 := hide (q3.low HP.out.pt)
  have hrl' : lv'.ownBlock ≠ some gr := q3.la gr hgrl HP.out.rl
  have hrt' : tv'.ownBlock ≠ some gr := q3.fa gr hgrl HP.out.rt
  have Q3 := hide q3
  clear q1 q2 q3 HRD c0
  go_wp2_with fail
  refine (settle_any HR1.out (.inr (.inl rfl)) (by omega)).mono ?_
  rintro e W2 ⟨rfl, hs⟩
  have HS := hide hs
  have R2 : Hid (Row W2 w.heap.size 5 (.slice ua o.length uc) (bc o)) := hide (R1.out.frame fun j e => hs.2.2.1.block j (R1.out.lt e).2 (by have := (R1.out.lt e).1; omega) (by have := (R1.out.lt e).1; omega))
  have B2 := hide (B1.out.trans (hs.2.2.1.low (base := base) HP.out.rdr.rb HP.out.rdr.fb (by omega)))
  have DK2 := hide (P1.out.dec.keepR hs.2.2.1 (fun e => HP.out.rd e.symm) (fun e => P1.out.gd e.symm) hrl' P1.out.gl hrt' P1.out.gt)
  have FPO : Hid (overT tt = true → ∃ g', w.heap.size ≤ g' ∧ Rdr W2 base gr g' 72 74 tt []) := hide (fun h => (by obtain ⟨g', h1, h2⟩ := hs.1 h; exact ⟨g', Nat.le_trans hw1 h1, h2⟩))
  have FPN : Hid (overT tt = false → PRd W2 base gr g gd lv' tv' tt d2) := hide (fun h => ⟨hs.2.1 h, ⟨⟨(hs.2.1 h).fr⟩, DK2.out, P1.out.fb, P1.out.gd, P1.out.gl, P1.out.gt⟩, HP.out.rd, hrl', hrt'⟩)
  have PF2 : Hid (PFr w W2 gr g gd lv tv lv' tv') := hide ⟨fun k hk h1 h2 h3 h4 h5 => (hs.2.2.1.block k (Nat.lt_of_lt_of_le hk hw1) h1 h2).trans (Q3.out.block k hk h2 h3 h4 h5), Q3.out.la, Q3.out.fa⟩
  clear hs R1 HR1 Q3
  cases ho : overT tt with
  | true =>
    obtain ⟨g2, _, hr2⟩ := HS.out.1 ho
    have HT := hide (told_any g2 W2)
    have c := hr2.c0
    have c1 := hr2.t1
    have c2 := hr2.t2
    clear hr2 ho
    go_wp2_with fail
    refine HT.out.mono ?_
    rintro e w3 ⟨rfl, rfl⟩
    go_wp2_with fail
    go_quiet (fail)
    go_wp2
    exact bodyPost_ret (v := .tuple #[.slice ua o.length uc, .int .i64 (n : Int), .bool tt.whole, .int .i64 (tt.wrong : Int)]) (by simp [results, Tryd.results12, go_sem]) rfl ⟨_, _, _, _, rfl, R2.out.below (below_drewN _ _), fun h => (by obtain ⟨g', h1, h2⟩ := FPO.out h; exact ⟨g', h1, h2.below (below_drewN _ _)⟩), fun h => (FPN.out h).below (below_drewN _ _), B2.out.trans ((below_drewN _ _).mono (by have := B2.out.size; omega)), ⟨PF2.out.block, PF2.out.la, PF2.out.fa⟩⟩
  | false =>
    have hr2 := HS.out.2.1 ho
    obtain ⟨g2, hg2⟩ : ∃ x, g = x := ⟨_, rfl⟩
    rw [hg2] at hr2
    have HT := hide (told_any g2 W2)
    have c := hr2.c0
    have c1 := hr2.t1
    have c2 := hr2.t2
    clear hr2 ho hg2
    go_wp2_with fail
    refine HT.out.mono ?_
    rintro e w3 ⟨rfl, rfl⟩
    go_wp2_with fail
    go_quiet (fail)
    go_wp2
    exact bodyPost_ret (v := .tuple #[.slice ua o.length uc, .int .i64 (n : Int), .bool tt.whole, .int .i64 (tt.wrong : Int)]) (by simp [results, Tryd.results12, go_sem]) rfl ⟨_, _, _, _, rfl, R2.out.below (below_drewN _ _), fun h => (by obtain ⟨g', h1, h2⟩ := FPO.out h; exact ⟨g', h1, h2.below (below_drewN _ _)⟩), fun h => (FPN.out h).below (below_drewN _ _), B2.out.trans ((below_drewN _ _).mono (by have := B2.out.size; omega)), ⟨PF2.out.block, PF2.out.la, PF2.out.fa⟩⟩
set_option maxHeartbeats 8000000 in
set_option maxRecDepth 100000 in
theorem end_part {w : World} {base gr g gd : Nat} {t : Tal} (h : Rdr w base gr g 66 68 t (ptX gd)) (hb : base ≤ w.heap.size) :
    Calls Tryd.prog 16 #[.pointer (some ⟨gr, 0, none⟩)] w fun e w' => e = .returned (.tuple #[.bool ({ t with wrong := 110 } : Tal).whole, .int .i64 ((({ t with wrong := 110 } : Tal).wrong : Nat) : Int)]) ∧ FdP w w' base gr g 66 68 { t with wrong := 110 } (ptX gd) := by
  have HH := hide h
  have HN := hide (isNone_any h)
  have HRD := hide (ended_tally h.fr' g)
  have c0 := h.c0
  have HB := hide hb
  clear h hb
  obtain ⟨tt, htt⟩ : ∃ x : Tal, ({ t with wrong := 110 } : Tal) = x := ⟨_, rfl⟩
  rw [htt] at HRD ⊢
  clear htt
  go_enter Tryd.func16, Tryd.ntmps16
  go_wp2_with fail
  refine HN.out.mono ?_
  rintro e w1 ⟨rfl, rfl⟩
  clear HN
  go_wp2_with fail
  refine HRD.out.mono ?_
  rintro e W1 ⟨rfl, q2, q3⟩
  have HR1 := hide (HH.out.turn q2 q3)
  have hw1 := q3.size
  have K1 := hide (RK.own (gr := gr) q3)
  clear q2 q3 HRD c0
  go_wp2_with fail
  refine (settle_any HR1.out (.inr (.inl rfl)) (Nat.le_trans HB.out hw1)).mono ?_
  rintro e W2 ⟨rfl, hs⟩
  have HS := hide hs
  have FP := hide (FdP.of K1.out hs)
  clear hs K1 HR1
  cases ho : overT tt with
  | true =>
    obtain ⟨g2, _, hr2⟩ := HS.out.1 ho
    have HT := hide (told_any g2 W2)
    have c := hr2.c0
    have c1 := hr2.t1
    have c2 := hr2.t2
    clear hr2 ho
    go_wp2_with fail
    refine HT.out.mono ?_
    rintro e w3 ⟨rfl, rfl⟩
    go_wp2_with fail
    go_quiet (fail)
    go_wp2
    exact bodyPost_ret (v := .tuple #[.bool tt.whole, .int .i64 (tt.wrong : Int)]) (by simp [results, Tryd.results16, go_sem]) rfl ⟨rfl, FP.out.drewN _⟩
  | false =>
    have hr2 := HS.out.2.1 ho
    obtain ⟨g2, hg2⟩ : ∃ x, g = x := ⟨_, rfl⟩
    rw [hg2] at hr2
    have HT := hide (told_any g2 W2)
    have c := hr2.c0
    have c1 := hr2.t1
    have c2 := hr2.t2
    clear hr2 ho hg2
    go_wp2_with fail
    refine HT.out.mono ?_
    rintro e w3 ⟨rfl, rfl⟩
    go_wp2_with fail
    go_quiet (fail)
    go_wp2
    exact bodyPost_ret (v := .tuple #[.bool tt.whole, .int .i64 (tt.wrong : Int)]) (by simp [results, Tryd.results16, go_sem]) rfl ⟨rfl, FP.out.drewN _⟩
end Go.Proofs.YtggeihahbgeneaaDoor
namespace Go.Proofs.YtggeihahbgeneaaDoor
open Go.ChangeShapes Go.WideShapes Go.ChangeAt Go.RowKit

theorem bytes_append : ∀ (a b : List UInt8) (d : Dz), dBytes d (a ++ b) = if (dBytes d a).1 ≠ 0 ∨ (a ≠ [] ∧ (dBytes d a).2.2.2.whole = true) then dBytes d a else sh (dBytes (dBytes d a).2.2.2 b) (dBytes d a).2.1 (dBytes d a).2.2.1
  | [], b, d => by
    rw [if_neg (by simp [dBytes])]
    simp [dBytes, sh]
  | c :: r, b, d => by
    rw [List.cons_append, dBytes, dBytes]
    by_cases h1 : (dNext d c).1 ≠ 0
    · rw [if_pos h1, if_pos h1, if_pos (.inl h1)]
    · rw [if_neg h1, if_neg h1]
      by_cases h2 : (dNext d c).2.2.whole = true
      · rw [if_pos h2, if_pos h2, if_pos (.inr ⟨by simp, h2⟩)]
      · rw [if_neg h2, if_neg h2, bytes_append r b]
        by_cases h3 : r = []
        · subst h3
          simp [dBytes, h2, sh]
        · split
          · rename_i h4
            rw [if_pos (by rcases h4 with h4 | h4; exact .inl h4; exact .inr ⟨by simp, h4.2⟩)]
          · rename_i h4
            rw [if_neg (by
              intro h5
              rcases h5 with h5 | h5
              · exact h4 (.inl h5)
              · exact h4 (.inr ⟨h3, h5.2⟩))]
            simp [sh, Nat.add_assoc, Nat.add_comm]
theorem end_wr2 (d : Dz) (s : ByteArray) : (dEnd d s).2.wrong = d.wrong := by
  unfold dEnd dSized dRead dTrl
  repeat' split
  all_goals rfl
theorem next_wr2 (d : Dz) (c : UInt8) : (dNext d c).2.2.wrong = d.wrong := by
  unfold dNext
  split
  · rfl
  · split
    · rfl
    · split
      · exact end_wr2 { d with line := [], ending := false } (sS d.line)
      · repeat' split
        all_goals rfl
theorem bytes_wrong : ∀ (l : List UInt8) (d : Dz), (dBytes d l).2.2.2.wrong = d.wrong
  | [], _ => rfl
  | c :: r, d => by
    rw [dBytes]
    split
    · exact next_wr2 d c
    · split
      · exact next_wr2 d c
      · exact (bytes_wrong r _).trans (next_wr2 d c)
theorem forget_on {d : Dz} (h : d.whole = false) (h2 : d.wrong = 0) : dForget { d with wrong := 0 } = d := by
  have h3 : ({ d with wrong := 0 } : Dz) = d := eta_wrong h2
  rw [h3]
  unfold dForget overB
  rw [h, h2]
  cases d
  simp_all
/-- How a decoder stands behind bytes. -/
def stD (most : Nat) (l : List UInt8) : Dz := dForget { (dBytes (dNew most) l).2.2.2 with wrong := (dBytes (dNew most) l).1 }
/-- A piece more: the decoder is over, and nothing changes; or it reads on from where it stands. -/
theorem step_over {most : Nat} {a b : List UInt8} (h : overB (stD most a) = true) (ha : a ≠ []) : dBytes (dNew most) (a ++ b) = dBytes (dNew most) a := by
  rw [bytes_append, if_pos]
  unfold stD overB dForget at h
  simp only [Bool.or_eq_true, decide_eq_true_eq] at h
  rcases h with h | h
  · exact .inr ⟨ha, h⟩
  · exact .inl h
theorem over_parts {most : Nat} {a : List UInt8} (h : overB (stD most a) = false) : (dBytes (dNew most) a).1 = 0 ∧ (dBytes (dNew most) a).2.2.2.whole = false ∧ stD most a = (dBytes (dNew most) a).2.2.2 := by
  unfold overB stD dForget at h
  simp only [Bool.or_eq_false_iff, decide_eq_false_iff_not, Decidable.not_not] at h
  refine ⟨h.2, h.1, ?_⟩
  unfold stD
  rw [h.2]
  exact forget_on h.1 (bytes_wrong a _)
theorem step_on {most : Nat} {a b : List UInt8} (h : overB (stD most a) = false) : dBytes (dNew most) (a ++ b) = sh (dBytes (stD most a) b) (dBytes (dNew most) a).2.1 (dBytes (dNew most) a).2.2.1 := by
  obtain ⟨h1, h2, h3⟩ := over_parts h
  rw [bytes_append, if_neg, h3]
  intro h4
  rcases h4 with h4 | h4
  · exact h4 h1
  · rw [h2] at h4; cases h4.2
theorem st_new (most : Nat) : stD most [] = dNew most := rfl
theorem st_over {most : Nat} (h : overB (stD most []) = true) : False := by
  unfold stD overB dForget at h
  simp [dBytes, dNew] at h
theorem forget_forget (d : Dz) : dForget (dForget d) = dForget d := by
  unfold dForget overB
  by_cases h : d.wrong = 0 <;> cases d.whole <;> simp [h]
theorem st_fit {most : Nat} (h : most ≤ 9007199254740992) (l : List UInt8) : FitD (stD most l) := by
  have hf := fit_dbytes l (dNew most) (fit_dnew most h)
  unfold stD dForget
  refine ⟨hf.fn, hf.room, hf.left, ?_, ?_, ?_⟩
  · dsimp only
    split
    · exact Nat.zero_le _
    · exact hf.line
  · dsimp only
    split
    · exact hf.tr
    · exact Nat.zero_le _
  · intro h1
    dsimp only
    split
    · rfl
    · exact hf.bd h1

/-- What is told of bytes. -/
structure Beh where
  O : List UInt8 → List UInt8
  N : List UInt8 → Nat
  Wh : List UInt8 → Bool
  Er : List UInt8 → Nat
def talB (B : Beh) (l : List UInt8) : Tal := ⟨(B.O l).length, B.Wh l, B.Er l⟩
def bNone : Beh := ⟨fun _ => [], fun _ => 0, fun _ => true, fun _ => 0⟩
def bLen (L : Nat) : Beh := ⟨fun l => l.take L, fun l => min l.length L, fun l => decide (min l.length L = L), fun _ => 0⟩
def bClos (M : Nat) : Beh := ⟨fun l => l.take M, fun l => if l.length ≤ M then l.length else M + 1, fun _ => false, fun l => if l.length ≤ M then 0 else 2⟩
def bPart (M : Nat) : Beh := ⟨fun l => (dBytes (dNew M) l).2.2.1, fun l => (dBytes (dNew M) l).2.1, fun l => (dBytes (dNew M) l).2.2.2.whole, fun l => (dBytes (dNew M) l).1⟩
/-- What may have changed: blocks of M; M' has no other old ones. -/
structure KP (w w' : World) (M M' : Nat → Prop) : Prop where
  os : w'.os = w.os
  tape : w'.tape = w.tape
  output : w'.output = w.output
  size : w.heap.size ≤ w'.heap.size
  block : ∀ k, k < w.heap.size → ¬ M k → w'.heap[k]? = w.heap[k]?
  more : ∀ k, M' k → M k ∨ w.heap.size ≤ k
def whE (B : Beh) (c : Bool) (l : List UInt8) : Bool := if overT (talB B l) = true then B.Wh l else c
def erE (B : Beh) (c : Bool) (l : List UInt8) : Nat := if overT (talB B l) = true then B.Er l else if c then 0 else 110
theorem KP.low {w w' : World} {M M' : Nat → Prop} {base : Nat} (k : KP w w' M M') (hM : ∀ k, M k → base ≤ k) (hb : base ≤ w.heap.size) : Below base w w' := ⟨k.os, k.tape, k.output, k.size, fun i hi => k.block i (by omega) (fun h => by have := hM i h; omega)⟩
theorem whE_over {B : Beh} {c : Bool} {l : List UInt8} (h : overT (talB B l) = true) : whE B c l = B.Wh l := by unfold whE; rw [if_pos h]
theorem whE_not {B : Beh} {c : Bool} {l : List UInt8} (h : overT (talB B l) = false) : whE B c l = c := by unfold whE; rw [h, if_neg (by simp)]
theorem erE_over {B : Beh} {c : Bool} {l : List UInt8} (h : overT (talB B l) = true) : erE B c l = B.Er l := by unfold erE; rw [if_pos h]
theorem erE_not {B : Beh} {c : Bool} {l : List UInt8} (h : overT (talB B l) = false) : erE B c l = if c then 0 else 110 := by unfold erE; rw [h, if_neg (by simp)]
def FeedP (B : Beh) (P : World → (Nat → Prop) → List UInt8 → Prop) (w : World) (M : Nat → Prop) (l b : List UInt8) (e : Ending) (w' : World) : Prop :=
  ∃ ba bn bc' ob n M', e = .returned (.tuple #[.slice ba bn bc', .int .i64 ((n : Nat) : Int), .bool (B.Wh (l ++ b)), .int .i64 ((B.Er (l ++ b) : Nat) : Int)]) ∧ B.O (l ++ b) = B.O l ++ ob ∧ B.N (l ++ b) = B.N l + n ∧ Row w' w.heap.size 5 (.slice ba bn bc') (bc ob) ∧ P w' M' (l ++ b) ∧ KP w w' M M'
def two (gr g : Nat) (k : Nat) : Prop := k = gr ∨ k = g
/-- How a reader behaves. -/
structure Ax (base gr : Nat) (B : Beh) (c : Bool) (P : World → (Nat → Prop) → List UInt8 → Prop) : Prop where
  keep : ∀ {w w' : World} {M : Nat → Prop} {l : List UInt8}, P w M l → (∀ k, M k → w'.heap[k]? = w.heap[k]?) → P w' M l
  mem : ∀ {w : World} {M : Nat → Prop} {l : List UInt8}, P w M l → ∀ k, M k → base ≤ k ∧ k < w.heap.size
  feed : ∀ {w : World} {M : Nat → Prop} {l : List UInt8}, P w M l → base ≤ w.heap.size → MX w → ∀ (va : Option Addr) (vc : Nat) (b : List UInt8), Bs w base (.slice va b.length vc) b → Shp (.slice va b.length vc) → l.length + b.length ≤ 1048576 →
    Calls Tryd.prog 12 #[.pointer (some ⟨gr, 0, none⟩), .slice va b.length vc] w fun e w' => FeedP B P w M l b e w'
  whole : ∀ {w : World} {M : Nat → Prop} {l : List UInt8}, P w M l → Calls Tryd.prog 13 #[.pointer (some ⟨gr, 0, none⟩)] w fun e w' => e = .returned (.bool (B.Wh l)) ∧ w = w'
  got : ∀ {w : World} {M : Nat → Prop} {l : List UInt8}, P w M l → Calls Tryd.prog 14 #[.pointer (some ⟨gr, 0, none⟩)] w fun e w' => e = .returned (.int .i64 (((B.O l).length : Nat) : Int)) ∧ w = w'
  ends : ∀ {w : World} {M : Nat → Prop} {l : List UInt8}, P w M l → base ≤ w.heap.size → Calls Tryd.prog 16 #[.pointer (some ⟨gr, 0, none⟩)] w fun e w' => ∃ g, e = .returned (.tuple #[.bool (whE B c l), .int .i64 ((erE B c l : Nat) : Int)]) ∧ Rdr w' base gr g 72 74 ⟨(B.O l).length, whE B c l, erE B c l⟩ [] ∧ KP w w' M (two gr g)

/-- The reader that is over, or one of a kind that is not. -/
def RP (base gr : Nat) (B : Beh) (K : World → (Nat → Prop) → List UInt8 → Prop) (w : World) (M : Nat → Prop) (l : List UInt8) : Prop :=
  (overT (talB B l) = true ∧ ∃ g, M = two gr g ∧ Rdr w base gr g 72 74 (talB B l) []) ∨ (overT (talB B l) = false ∧ K w M l)
theorem Rdr.keepM {w w' : World} {base gr g : Nat} {it ct : TypeId} {t : Tal} {X : List Value} (h : Rdr w base gr g it ct t X) (hk : ∀ k, two gr g k → w'.heap[k]? = w.heap[k]?) : Rdr w' base gr g it ct t X :=
  ⟨(hk gr (.inl rfl)).trans h.rd, (hk g (.inr rfl)).trans h.fr, h.ne, h.rb, h.fb⟩
theorem RK.kp {w w' : World} {gr g g' : Nat} (k : RK w w' gr g) (h : g' = g ∨ w.heap.size ≤ g') : KP w w' (two gr g) (two gr g') :=
  ⟨k.os, k.tape, k.output, k.size, fun i hi hn => k.block i hi (fun e => hn (.inl e)) (fun e => hn (.inr e)), fun i hi => by
    rcases hi with rfl | rfl
    · exact .inl (.inl rfl)
    · rcases h with rfl | h
      · exact .inl (.inr rfl)
      · exact .inr h⟩
theorem RP.fd {w w' : World} {base gr g : Nat} {B : Beh} {K : World → (Nat → Prop) → List UInt8 → Prop} {it ct : TypeId} {X : List Value} {l : List UInt8} (h : FdP w w' base gr g it ct (talB B l) X) (hK : overT (talB B l) = false → Rdr w' base gr g it ct (talB B l) X → K w' (two gr g) l) : ∃ M', RP base gr B K w' M' l ∧ KP w w' (two gr g) M' := by
  cases ho : overT (talB B l) with
  | true =>
    obtain ⟨g', h1, h2⟩ := h.1 ho
    exact ⟨two gr g', .inl ⟨ho, g', rfl, h2⟩, h.2.2.kp (.inr h1)⟩
  | false => exact ⟨two gr g, .inr ⟨ho, hK ho (h.2.1 ho)⟩, h.2.2.kp (.inl rfl)⟩
/-- The axioms, from those of the reader that is not over. -/
theorem Ax.of {base gr : Nat} {B : Beh} {c : Bool} {K : World → (Nat → Prop) → List UInt8 → Prop}
    (hov : ∀ l b, overT (talB B l) = true → B.O (l ++ b) = B.O l ∧ B.N (l ++ b) = B.N l ∧ B.Wh (l ++ b) = B.Wh l ∧ B.Er (l ++ b) = B.Er l)
    (kkeep : ∀ {w w' : World} {M : Nat → Prop} {l : List UInt8}, K w M l → (∀ k, M k → w'.heap[k]? = w.heap[k]?) → K w' M l)
    (kmem : ∀ {w : World} {M : Nat → Prop} {l : List UInt8}, K w M l → ∀ k, M k → base ≤ k ∧ k < w.heap.size)
    (krd : ∀ {w : World} {M : Nat → Prop} {l : List UInt8}, K w M l → ∃ g it ct X, KT it ∧ Rdr w base gr g it ct (talB B l) X)
    (kfeed : ∀ {w : World} {M : Nat → Prop} {l : List UInt8}, overT (talB B l) = false → K w M l → base ≤ w.heap.size → MX w → ∀ (va : Option Addr) (vc : Nat) (b : List UInt8), Bs w base (.slice va b.length vc) b → Shp (.slice va b.length vc) → l.length + b.length ≤ 1048576 →
      Calls Tryd.prog 12 #[.pointer (some ⟨gr, 0, none⟩), .slice va b.length vc] w fun e w' => FeedP B (RP base gr B K) w M l b e w')
    (kend : ∀ {w : World} {M : Nat → Prop} {l : List UInt8}, overT (talB B l) = false → K w M l → base ≤ w.heap.size → Calls Tryd.prog 16 #[.pointer (some ⟨gr, 0, none⟩)] w fun e w' => ∃ g, e = .returned (.tuple #[.bool c, .int .i64 (((if c then 0 else 110) : Nat) : Int)]) ∧ Rdr w' base gr g 72 74 ⟨(B.O l).length, c, if c then 0 else 110⟩ [] ∧ KP w w' M (two gr g)) :
    Ax base gr B c (RP base gr B K) := by
  refine ⟨?_, ?_, ?_, ?_, ?_, ?_⟩
  · intro w w' M l h hk
    rcases h with ⟨ho, g, rfl, hr⟩ | ⟨ho, h⟩
    · exact .inl ⟨ho, g, rfl, hr.keepM hk⟩
    · exact .inr ⟨ho, kkeep h hk⟩
  · intro w M l h k hM
    rcases h with ⟨ho, g, rfl, hr⟩ | ⟨ho, h⟩
    · rcases hM with rfl | rfl
      · exact ⟨hr.rb, lt_heap' hr.rd⟩
      · exact ⟨hr.fb, lt_heap' hr.fr⟩
    · exact kmem h k hM
  · intro w M l h hb hm va vc b hB hS hl
    rcases h with ⟨ho, g, rfl, hr⟩ | ⟨ho, h⟩
    · refine (feed_over hr hb va b.length vc).mono ?_
      rintro e w' ⟨rfl, hf⟩
      obtain ⟨e1, e2, e3, e4⟩ := hov l b ho
      have et : talB B (l ++ b) = talB B l := by unfold talB; rw [e1, e3, e4]
      obtain ⟨g', h1, h2⟩ := hf.1 ho
      refine ⟨none, 0, 0, [], 0, two gr g', by rw [e3, e4]; rfl, by rw [e1, List.append_nil], by rw [e2]; rfl, Row.nil _ _ _, .inl ⟨by rw [et]; exact ho, g', rfl, by rw [et]; exact h2⟩, hf.2.2.kp (.inr h1)⟩
    · exact kfeed ho h hb hm va vc b hB hS hl
  · intro w M l h
    rcases h with ⟨ho, g, rfl, hr⟩ | ⟨ho, h⟩
    · exact wholeR_any hr (.inr (.inr (.inr rfl)))
    · obtain ⟨g, it, ct, X, hk, hr⟩ := krd h
      exact wholeR_any hr hk
  · intro w M l h
    rcases h with ⟨ho, g, rfl, hr⟩ | ⟨ho, h⟩
    · exact gotR_any hr (.inr (.inr (.inr rfl)))
    · obtain ⟨g, it, ct, X, hk, hr⟩ := krd h
      exact gotR_any hr hk
  · intro w M l h hb
    unfold whE erE
    rcases h with ⟨ho, g, rfl, hr⟩ | ⟨ho, h⟩
    · rw [if_pos ho, if_pos ho]
      refine (end_over hr hb).mono ?_
      rintro e w' ⟨rfl, hf⟩
      obtain ⟨g', h1, h2⟩ := hf.1 ho
      exact ⟨g', rfl, h2, hf.2.2.kp (.inr h1)⟩
    · rw [if_neg (by rw [ho]; simp), if_neg (by rw [ho]; simp)]
      exact kend ho h hb

theorem over_iff {t : Tal} : overT t = true ↔ (t.whole = true ∨ t.wrong ≠ 0) := by unfold overT; simp
theorem over_not {t : Tal} : overT t = false ↔ (t.whole = false ∧ t.wrong = 0) := by unfold overT; simp

theorem ax_none (base gr : Nat) : Ax base gr bNone false (RP base gr bNone (fun _ _ _ => False)) :=
  Ax.of (fun _ _ _ => ⟨rfl, rfl, rfl, rfl⟩) (fun h => h.elim) (fun h => h.elim) (fun h => h.elim) (fun _ h => h.elim) (fun _ h => h.elim)

def kLen (base gr L : Nat) (w : World) (M : Nat → Prop) (l : List UInt8) : Prop := ∃ g, M = two gr g ∧ Rdr w base gr g 60 62 (talB (bLen L) l) [.int .i64 (L : Int)]
def kClos (base gr L : Nat) (w : World) (M : Nat → Prop) (l : List UInt8) : Prop := ∃ g, M = two gr g ∧ Rdr w base gr g 69 71 (talB (bClos L) l) [.int .i64 (L : Int)]
theorem Rdr.mem {w : World} {base gr g : Nat} {it ct : TypeId} {t : Tal} {X : List Value} (h : Rdr w base gr g it ct t X) : ∀ k, two gr g k → base ≤ k ∧ k < w.heap.size := by
  intro k hk
  rcases hk with rfl | rfl
  · exact ⟨h.rb, lt_heap' h.rd⟩
  · exact ⟨h.fb, lt_heap' h.fr⟩
theorem Bs.up {w : World} {base : Nat} {v : Value} {l : List UInt8} (h : Bs w base v l) (hb : base ≤ w.heap.size) : Bs w w.heap.size v l := h.below hb (Below.refl _ _)
theorem ax_len (base gr L : Nat) (hL : L ≤ 9007199254740992) : Ax base gr (bLen L) false (RP base gr (bLen L) (kLen base gr L)) := by
  refine Ax.of (fun l b ho => ?_) ?_ ?_ ?_ ?_ ?_
  · rw [over_iff] at ho
    have hl : L ≤ l.length := by
      rcases ho with h | h
      · simp [talB, bLen] at h; omega
      · simp [talB, bLen] at h
    refine ⟨?_, ?_, ?_, rfl⟩
    · simp only [bLen]; rw [List.take_append_of_le_length hl]
    · simp only [bLen, List.length_append]; omega
    · simp only [bLen, List.length_append]; congr 1; apply propext; omega
  · rintro w w' M l ⟨g, rfl, hr⟩ hk
    exact ⟨g, rfl, hr.keepM hk⟩
  · rintro w M l ⟨g, rfl, hr⟩ k hk
    exact hr.mem k hk
  · rintro w M l ⟨g, rfl, hr⟩
    exact ⟨g, _, _, _, .inl rfl, hr⟩
  · rintro w M l ho ⟨g, rfl, hr⟩ hb hm va vc b hB hS hl
    have h1 := over_not.1 ho
    have hlt : l.length < L := by have := h1.1; simp [talB, bLen] at this; omega
    have hg : (talB (bLen L) l).got = l.length := by simp [talB, bLen]; omega
    have htk : l.take L = l := List.take_of_length_le (by omega)
    refine (feed_meas hr hb _ b (hB.up hb) hS hL (by rw [hg]; omega) (by omega)).mono ?_
    rintro e w' ⟨ua, uc, rfl, h2, h3⟩
    have hn : tkN b L (talB (bLen L) l).got = min b.length (L - l.length) := by unfold tkN; rw [hg]
    generalize tkN b L (talB (bLen L) l).got = tk at h2 h3 hn ⊢
    rw [hg] at h3 ⊢
    have hO : (bLen L).O (l ++ b) = (bLen L).O l ++ b.take tk := by
      simp only [bLen]
      rw [htk, List.take_append, htk, hn]
      congr 1
      by_cases hq : b.length ≤ L - l.length
      · rw [List.take_of_length_le hq, Nat.min_eq_left hq, List.take_length]
      · rw [Nat.min_eq_right (by omega)]
    have hOl : ((bLen L).O (l ++ b)).length = l.length + tk := by simp only [bLen, List.length_take, List.length_append]; omega
    have hWl : decide (l.length + tk = L) = (bLen L).Wh (l ++ b) := by
      simp only [bLen, List.length_append]
      congr 1
      apply propext
      omega
    have ht : (⟨l.length + tk, decide (l.length + tk = L), (talB (bLen L) l).wrong⟩ : Tal) = talB (bLen L) (l ++ b) := by
      rw [hWl, ← hOl]; rfl
    rw [ht] at h3 ⊢
    obtain ⟨M', q1, q2⟩ := RP.fd (K := kLen base gr L) h3 (fun _ hr2 => ⟨g, rfl, hr2⟩)
    refine ⟨ua, _, uc, _, _, M', rfl, hO, ?_, h2, q1, q2⟩
    simp only [bLen, List.length_append]
    omega
  · rintro w M l ho ⟨g, rfl, hr⟩ hb
    refine (end_meas hr hb).mono ?_
    rintro e w' ⟨rfl, hf⟩
    have h1 := over_not.1 ho
    obtain ⟨g', h2, h3⟩ := hf.1 (by rw [over_iff]; right; simp)
    have hw : (talB (bLen L) l).whole = false := h1.1
    refine ⟨g', ?_, ?_, hf.2.2.kp (.inr h2)⟩
    · simp only [hw]; rfl
    · simp only [hw] at h3; exact h3
theorem ax_clos (base gr L : Nat) (hL : L ≤ 9007199254740992) : Ax base gr (bClos L) true (RP base gr (bClos L) (kClos base gr L)) := by
  refine Ax.of (fun l b ho => ?_) ?_ ?_ ?_ ?_ ?_
  · rw [over_iff] at ho
    have hl : L < l.length := by
      rcases ho with h | h
      · simp [talB, bClos] at h
      · simp [talB, bClos] at h; omega
    refine ⟨?_, ?_, rfl, ?_⟩
    · simp only [bClos]; rw [List.take_append_of_le_length (by omega)]
    · simp only [bClos, List.length_append]; rw [if_neg (by omega), if_neg (by omega)]
    · simp only [bClos, List.length_append]; rw [if_neg (by omega), if_neg (by omega)]
  · rintro w w' M l ⟨g, rfl, hr⟩ hk
    exact ⟨g, rfl, hr.keepM hk⟩
  · rintro w M l ⟨g, rfl, hr⟩ k hk
    exact hr.mem k hk
  · rintro w M l ⟨g, rfl, hr⟩
    exact ⟨g, _, _, _, .inr (.inr (.inl rfl)), hr⟩
  · rintro w M l ho ⟨g, rfl, hr⟩ hb hm va vc b hB hS hl
    have h1 := over_not.1 ho
    have hlt : l.length ≤ L := by have := h1.2; simp [talB, bClos] at this; omega
    have hg : (talB (bClos L) l).got = l.length := by simp [talB, bClos]; omega
    have htk : l.take L = l := List.take_of_length_le (by omega)
    refine (feed_clos hr hb _ b (hB.up hb) hS hL (by rw [hg]; omega) (by omega)).mono ?_
    rintro e w' ⟨ua, uc, rfl, h2, h3⟩
    have hn : tkN b L (talB (bClos L) l).got = min b.length (L - l.length) := by unfold tkN; rw [hg]
    generalize tkN b L (talB (bClos L) l).got = tk at h2 h3 hn ⊢
    rw [hg, h1.2] at h3 ⊢
    have hO : (bClos L).O (l ++ b) = (bClos L).O l ++ b.take tk := by
      simp only [bClos]
      rw [htk, List.take_append, htk, hn]
      congr 1
      by_cases hq : b.length ≤ L - l.length
      · rw [List.take_of_length_le hq, Nat.min_eq_left hq, List.take_length]
      · rw [Nat.min_eq_right (by omega)]
    have hOl : ((bClos L).O (l ++ b)).length = l.length + tk := by simp only [bClos, List.length_take, List.length_append]; omega
    have hEl : (if tk = b.length then 0 else 2 : Nat) = (bClos L).Er (l ++ b) := by
      simp only [bClos, List.length_append]
      by_cases hq : l.length + b.length ≤ L
      · rw [if_pos (by omega), if_pos hq]
      · rw [if_neg (by omega), if_neg hq]
    have ht : (⟨l.length + tk, (talB (bClos L) l).whole, if tk = b.length then 0 else 2⟩ : Tal) = talB (bClos L) (l ++ b) := by
      rw [hEl, ← hOl]; rfl
    rw [ht] at h3 ⊢
    obtain ⟨M', q1, q2⟩ := RP.fd (K := kClos base gr L) h3 (fun _ hr2 => ⟨g, rfl, hr2⟩)
    refine ⟨ua, _, uc, _, _, M', rfl, hO, ?_, h2, q1, q2⟩
    simp only [bClos, List.length_append]
    rw [if_pos hlt]
    by_cases hq : l.length + b.length ≤ L
    · rw [if_pos hq, if_pos (by omega)]; omega
    · rw [if_neg hq, if_neg (by omega)]; omega
  · rintro w M l ho ⟨g, rfl, hr⟩ hb
    refine (end_clos hr hb).mono ?_
    rintro e w' ⟨rfl, hf⟩
    have h1 := over_not.1 ho
    obtain ⟨g', h2, h3⟩ := hf.1 (by rw [over_iff]; left; rfl)
    have hw : (talB (bClos L) l).wrong = 0 := h1.2
    refine ⟨g', ?_, ?_, hf.2.2.kp (.inr h2)⟩
    · simp only [hw]; rfl
    · simp only [hw] at h3; exact h3

def five (gr g gd : Nat) (lv tv : Value) (k : Nat) : Prop := k = gr ∨ k = g ∨ k = gd ∨ lv.ownBlock = some k ∨ tv.ownBlock = some k
def kPart (base gr L : Nat) (w : World) (M : Nat → Prop) (l : List UInt8) : Prop := ∃ g gd lv tv, M = five gr g gd lv tv ∧ PRd w base gr g gd lv tv (talB (bPart L) l) (stD L l)
theorem ax_part (base gr L : Nat) (hL : L ≤ 9007199254740992) (hb2 : 2 ≤ base) : Ax base gr (bPart L) false (RP base gr (bPart L) (kPart base gr L)) := by
  have ov : ∀ l, overT (talB (bPart L) l) = overB (stD L l) := fun l => by
    unfold overT overB stD dForget talB bPart
    simp
  refine Ax.of (fun l b ho => ?_) ?_ ?_ ?_ ?_ ?_
  · rw [ov] at ho
    have ha : l ≠ [] := fun e => st_over (most := L) (by rw [← e]; exact ho)
    have hq := step_over (b := b) ho ha
    simp only [bPart, hq]
    exact ⟨trivial, trivial, trivial, trivial⟩
  · rintro w w' M l ⟨g, gd, lv, tv, rfl, hr⟩ hk
    exact ⟨g, gd, lv, tv, rfl, ⟨hr.rdr.keepM (fun k h => hk k (by rcases h with h | h; exact .inl h; exact .inr (.inl h))), ⟨⟨(hk g (.inr (.inl rfl))).trans hr.pt.fr.fr⟩, hr.pt.dec.frame (fun k h => hk k (by rcases h with h | h | h; exact .inr (.inr (.inl h)); exact .inr (.inr (.inr (.inl h))); exact .inr (.inr (.inr (.inr h))))), hr.pt.fb, hr.pt.gd, hr.pt.gl, hr.pt.gt⟩, hr.rd, hr.rl, hr.rt⟩⟩
  · rintro w M l ⟨g, gd, lv, tv, rfl, hr⟩ k hk
    rcases hk with rfl | rfl | rfl | h | h
    · exact ⟨hr.rdr.rb, lt_heap' hr.rdr.rd⟩
    · exact ⟨hr.rdr.fb, lt_heap' hr.rdr.fr⟩
    · exact ⟨hr.pt.dec.gb, hr.pt.dec.lt⟩
    · exact hr.pt.dec.line.lt h
    · exact hr.pt.dec.trs.lt h
  · rintro w M l ⟨g, gd, lv, tv, rfl, hr⟩
    exact ⟨g, _, _, _, .inr (.inl rfl), hr.rdr⟩
  · rintro w M l ho ⟨g, gd, lv, tv, rfl, hr⟩ hb hm va vc b hB hS hl
    rw [ov] at ho
    obtain ⟨q1, q2, q3⟩ := over_parts ho
    have hq := step_on (b := b) ho
    have hw : (stD L l).whole = false := by rw [q3]; exact q2
    have hwr : (stD L l).wrong = 0 := by rw [q3]; exact bytes_wrong l _
    have hgl : (talB (bPart L) l).got ≤ 9007199254740992 := by
      have h1 := bytes_out l (dNew L)
      have h2 := bytes_len l (dNew L)
      simp only [talB, bPart]
      omega
    have hBf : Bf w (fun k => k < base) (.slice va b.length vc) b := by
      obtain ⟨a, c, e, hc, hx⟩ := hB
      exact ⟨a, c, e, hc, hx⟩
    refine (feed_part2 hr (st_fit hL l) hw hwr hm hb2 (A := fun k => k < base) va vc b hBf hS (by have := hr.pt.dec.gb; omega) (fun k e => by have := (hr.pt.dec.line.lt e).1; omega) (fun k e => by have := (hr.pt.dec.trs.lt e).1; omega) (fun k e => by omega) (by omega) hgl).mono ?_
    rintro e w' ⟨ua, uc, lv', tv', rfl, h1, h2, h3, h4, h5⟩
    have hO : (bPart L).O (l ++ b) = (bPart L).O l ++ (dBytes (stD L l) b).2.2.1 := by simp only [bPart, hq]; rfl
    have hN : (bPart L).N (l ++ b) = (bPart L).N l + (dBytes (stD L l) b).2.1 := by simp only [bPart, hq]; exact Nat.add_comm _ _
    have hW : (bPart L).Wh (l ++ b) = (dBytes (stD L l) b).2.2.2.whole := by simp only [bPart, hq]; rfl
    have hE : (bPart L).Er (l ++ b) = (dBytes (stD L l) b).1 := by simp only [bPart, hq]; rfl
    have ht : (⟨(talB (bPart L) l).got + (dBytes (stD L l) b).2.2.1.length, (dBytes (stD L l) b).2.2.2.whole, (dBytes (stD L l) b).1⟩ : Tal) = talB (bPart L) (l ++ b) := by
      unfold talB
      rw [hO, hW, hE, List.length_append]
    have hst : stD L (l ++ b) = dForget { (dBytes (stD L l) b).2.2.2 with wrong := (dBytes (stD L l) b).1 } := by
      conv => lhs; unfold stD
      rw [hq]
      rfl
    rw [ht, ← hst] at h3
    rw [ht] at h2
    have fin : ∃ M', RP base gr (bPart L) (kPart base gr L) w' M' (l ++ b) ∧ KP w w' (five gr g gd lv tv) M' := by
      have blk : ∀ k, k < w.heap.size → ¬ five gr g gd lv tv k → w'.heap[k]? = w.heap[k]? := fun k hk hn => h5.block k hk (fun e => hn (.inl e)) (fun e => hn (.inr (.inl e))) (fun e => hn (.inr (.inr (.inl e)))) (fun e => hn (.inr (.inr (.inr (.inl e))))) (fun e => hn (.inr (.inr (.inr (.inr e)))))
      cases ho2 : overT (talB (bPart L) (l ++ b)) with
      | true =>
        obtain ⟨g', j1, j2⟩ := h2 ho2
        refine ⟨two gr g', .inl ⟨ho2, g', rfl, j2⟩, ⟨h4.os, h4.tape, h4.output, h4.size, blk, fun k hk => ?_⟩⟩
        rcases hk with rfl | rfl
        · exact .inl (.inl rfl)
        · exact .inr j1
      | false =>
        refine ⟨five gr g gd lv' tv', .inr ⟨ho2, g, gd, lv', tv', rfl, h3 ho2⟩, ⟨h4.os, h4.tape, h4.output, h4.size, blk, fun k hk => ?_⟩⟩
        rcases hk with h | h | h | h | h
        · exact .inl (.inl h)
        · exact .inl (.inr (.inl h))
        · exact .inl (.inr (.inr (.inl h)))
        · rcases Nat.lt_or_ge k w.heap.size with hk | hk
          · left
            by_cases hl2 : lv.ownBlock = some k
            · exact .inr (.inr (.inr (.inl hl2)))
            · exact absurd h (h5.la k hk hl2)
          · exact .inr hk
        · rcases Nat.lt_or_ge k w.heap.size with hk | hk
          · left
            by_cases hl2 : tv.ownBlock = some k
            · exact .inr (.inr (.inr (.inr hl2)))
            · exact absurd h (h5.fa k hk hl2)
          · exact .inr hk
    obtain ⟨M', m1, m2⟩ := fin
    exact ⟨ua, _, uc, _, _, M', by rw [hW, hE], hO, hN, h1, m1, m2⟩
  · rintro w M l ho ⟨g, gd, lv, tv, rfl, hr⟩ hb
    refine (end_part hr.rdr hb).mono ?_
    rintro e w' ⟨rfl, hf⟩
    have h1 := over_not.1 ho
    obtain ⟨g', h2, h3⟩ := hf.1 (by rw [over_iff]; right; simp)
    have hw : (talB (bPart L) l).whole = false := h1.1
    refine ⟨g', ?_, ?_, ⟨hf.2.2.os, hf.2.2.tape, hf.2.2.output, hf.2.2.size, fun k hk hn => hf.2.2.block k hk (fun e => hn (.inl e)) (fun e => hn (.inr (.inl e))), fun k hk => by
      rcases hk with e | e
      · exact .inl (.inl e)
      · exact .inr (by omega)⟩⟩
    · simp only [hw]; rfl
    · simp only [hw] at h3; exact h3
end Go.Proofs.YtggeihahbgeneaaDoor
namespace Go.Proofs.YtggeihahbgeneaaDoor
open Go.ChangeShapes Go.WideShapes Go.ChangeAt Go.RowKit

/-- The document's All, as what is told. -/
def AllB (k len : Int) (x : Bool) (most : Nat) (B : Beh) (c : Bool) : Prop := ∀ (v : Value) (l : List UInt8) (en : Bool) (W : World), Bs W W.heap.size v l → l.length ≤ 70368744177664 → Calls Tryd.prog 11 #[frV k len x, .int .i64 (most : Int), v, .bool en] W fun e w' => BAllP W (B.O l) (B.N l) (if en then whE B c l else B.Wh l) (if en then erE B c l else B.Er l) e w'
theorem all_none (len : Int) (x : Bool) (most : Nat) : AllB 1 len x most bNone false := by
  intro v l en W hB hl
  refine (ball_none len x most v en W).mono ?_
  intro e w' h
  have ho : overT (talB bNone l) = true := rfl
  rw [whE_over ho, erE_over ho]
  cases en <;> exact h
theorem all_len (L : Nat) (x : Bool) (most : Nat) : AllB 2 (L : Int) x most (bLen L) false := by
  intro v l en W hB hl
  have hN : (bLen L).N l = min l.length (L : Int).toNat := by simp [bLen]
  have hwh : ((((bLen L).N l : Nat) : Int) == (L : Int)) = (bLen L).Wh l := by
    rw [Bool.eq_iff_iff]
    simp [bLen]
    omega
  refine (ball_len (L : Int) x most v l en W hB hl _ hN _ hwh).mono ?_
  intro e w' h
  have hO : l.take ((bLen L).N l) = (bLen L).O l := by
    simp only [bLen]
    by_cases hq : l.length ≤ L
    · rw [List.take_of_length_le hq, Nat.min_eq_left hq, List.take_length]
    · rw [Nat.min_eq_right (by omega)]
  rw [hO] at h
  have key : (if en = true then whE (bLen L) false l else (bLen L).Wh l) = (bLen L).Wh l ∧ (if en = true then erE (bLen L) false l else (bLen L).Er l) = (if en = true ∧ (bLen L).Wh l = false then 110 else 0) := by
    cases hw : (bLen L).Wh l with
    | true =>
      have ho : overT (talB (bLen L) l) = true := over_iff.2 (.inl hw)
      rw [whE_over ho, erE_over ho, hw]
      cases en <;> exact ⟨rfl, rfl⟩
    | false =>
      have ho : overT (talB (bLen L) l) = false := over_not.2 ⟨hw, rfl⟩
      rw [whE_not ho, erE_not ho]
      cases en <;> exact ⟨rfl, rfl⟩
  obtain ⟨e1, e2⟩ := key
  rw [e1, e2]
  exact h
theorem all_clos (len : Int) (x : Bool) (most : Nat) : AllB 4 len x most (bClos most) true := by
  intro v l en W hB hl
  by_cases hq : l.length ≤ most
  · refine (ball_fit 4 len x most v l en W rfl rfl rfl hB hl hq).mono ?_
    intro e w' h
    have ho : overT (talB (bClos most) l) = false := by rw [over_not]; exact ⟨rfl, by simp only [talB, bClos]; rw [if_pos hq]⟩
    have e1 : (bClos most).O l = l := List.take_of_length_le hq
    have e2 : (bClos most).N l = l.length := by simp only [bClos]; rw [if_pos hq]
    have e3 : (if en = true then whE (bClos most) true l else (bClos most).Wh l) = en := by
      rw [whE_not ho]; cases en <;> rfl
    have e4 : (if en = true then erE (bClos most) true l else (bClos most).Er l) = 0 := by
      rw [erE_not ho]
      have : (bClos most).Er l = 0 := by simp only [bClos]; rw [if_pos hq]
      rw [this]; cases en <;> rfl
    rw [e1, e2, e3, e4]
    exact h
  · refine (ball_over 4 len x most v l en W rfl rfl rfl hB hl (by omega)).mono ?_
    intro e w' h
    have hE : (bClos most).Er l = 2 := by simp only [bClos]; rw [if_neg hq]
    have ho : overT (talB (bClos most) l) = true := by rw [over_iff]; right; simp only [talB]; rw [hE]; decide
    have e2 : (bClos most).N l = most + 1 := by simp only [bClos]; rw [if_neg hq]
    have e3 : (if en = true then whE (bClos most) true l else (bClos most).Wh l) = false := by
      rw [whE_over ho]; cases en <;> rfl
    have e4 : (if en = true then erE (bClos most) true l else (bClos most).Er l) = 2 := by
      rw [erE_over ho, hE]; cases en <;> rfl
    rw [e2, e3, e4]
    exact h
theorem all_part (len : Int) (x : Bool) (most : Nat) (hm : most ≤ 9007199254740992) : AllB 3 len x most (bPart most) false := by
  intro v l en W hB hl
  refine (ball_part len x most v l en W hB hl hm).mono ?_
  rintro e w' ⟨o, t, N, wh, E, E', hfin, hE', h⟩
  obtain ⟨d', h1, h2, -⟩ := hfin
  have e1 : (bPart most).O l = o := by simp only [bPart, h1]
  have e2 : (bPart most).N l = N := by simp only [bPart, h1]
  have e3 : (bPart most).Wh l = wh := by simp only [bPart, h1]; exact h2
  have e4 : (bPart most).Er l = E := by simp only [bPart, h1]
  have e5 : (if en = true then whE (bPart most) false l else (bPart most).Wh l) = wh := by
    unfold whE
    cases en with
    | false => exact e3
    | true =>
      simp only [if_true]
      by_cases ho : overT (talB (bPart most) l) = true
      · rw [if_pos ho]; exact e3
      · rw [if_neg ho]
        have := (over_not.1 (by simpa using ho)).1
        simp only [talB] at this
        rw [← e3, this]
  have e6 : (if en = true then erE (bPart most) false l else (bPart most).Er l) = E' := by
    unfold erE
    rw [hE']
    cases en with
    | false => simp only [Bool.false_eq_true, if_false, false_and]; exact e4
    | true =>
      simp only [if_true, true_and]
      by_cases ho : overT (talB (bPart most) l) = true
      · rw [if_pos ho, if_neg, e4]
        rintro ⟨j1, j2⟩
        rw [over_iff] at ho
        rcases ho with ho | ho
        · simp only [talB] at ho; rw [e3, j1] at ho; cases ho
        · simp only [talB] at ho; rw [e4, j2] at ho; exact ho rfl
      · rw [if_neg ho]
        have := over_not.1 (by simpa using ho)
        simp only [talB] at this
        rw [e3, e4] at this
        rw [if_pos this]
        rfl
  rw [e1, e2, e5, e6]
  exact h

set_option maxHeartbeats 8000000 in
set_option maxRecDepth 100000 in
theorem ended_any {base gr : Nat} {B : Beh} {c : Bool} {P : World → (Nat → Prop) → List UInt8 → Prop} (A : Ax base gr B c P) {w : World} {M : Nat → Prop} {l : List UInt8} (h : P w M l) (hb : base ≤ w.heap.size) (oa : Option Addr) (oc : Nat) (ta : Option Addr) (tl tc : Nat) (n : Int) :
    Calls Tryd.prog 15 #[.pointer (some ⟨gr, 0, none⟩), .agg #[.slice oa (B.O l).length oc, .slice ta tl tc, .int .i64 n, .bool (whE B c l), .int .i64 ((erE B c l : Nat) : Int)]] w fun e w' => e = .returned (.bool true) ∧ Below base w w' := by
  generalize hbx : (Obj.cells #[.slice oa (B.O l).length oc, .slice ta tl tc, .int .i64 n, .bool (whE B c l), .int .i64 ((erE B c l : Nat) : Int)] 34 (0, 0)) = box
  have BX := hide ((Below.refl w.heap.size w).alloc (Nat.le_refl _) box)
  have HNB := hide (hp_new w box)
  have hP1 := A.keep h (w' := w.alloc box) (fun k hk => BX.out.block k (A.mem h k hk).2)
  have HE := hide (A.ends hP1 (Nat.le_trans hb BX.out.size))
  subst hbx
  generalize whE B c l = wh at *
  generalize erE B c l = er at *
  generalize (B.O l).length = ol at *
  have HME := hide (fun k hk => (A.mem h k hk).2)
  have HMB := hide (fun k hk => (A.mem h k hk).1)
  have HSZ := hide BX.out.size
  clear h hP1
  have HBB := hide (BX.out.mono hb)
  go_enter Tryd.func15, Tryd.ntmps15
  go_wp2_with fail
  have hlt := lt_heap HNB.out
  generalize w.alloc (.cells #[.slice oa ol oc, .slice ta tl tc, .int .i64 n, .bool wh, .int .i64 (er : Int)] 34 (0, 0)) = w1 at *
  refine HE.out.mono ?_
  rintro e w2 ⟨g, rfl, hr, hk⟩
  have hnM : ¬ M w.heap.size := fun h => by have := HME.out _ h; omega
  have HNB2 := hide ((hk.block w.heap.size hlt hnM).trans HNB.out)
  have B2 := hide (HBB.out.trans (hk.low (fun k h => HMB.out k h) (Nat.le_trans hb HSZ.out)))
  have HR2 := hide hr
  have HGN : Hid (w.heap.size ≠ gr ∧ w.heap.size ≠ g) := hide ⟨fun e => by rcases hk.more gr (.inl rfl) with h | h; exact hnM (e ▸ h); omega, fun e => by rcases hk.more g (.inr rfl) with h | h; exact hnM (e ▸ h); omega⟩
  clear hr hk HE HNB HBB
  have hlt2 := lt_heap HNB2.out
  have hb2 : base ≤ w2.heap.size := by have := B2.out.size; omega
  have hcv : (convert 31 31 (.slice (some ⟨w2.heap.size, 0, none⟩) 4 4)).run Tryd.prog (w2.alloc (.cells #[.int .u8 109, .int .u8 111, .int .u8 114, .int .u8 101] 5)) = .ok (.slice (some ⟨w2.heap.size, 0, none⟩) 4 4) (w2.alloc (.cells #[.int .u8 109, .int .u8 111, .int .u8 114, .int .u8 101] 5 (4, 5))) := Lib.run_convert_bytes_const w2 31 5 #[.int .u8 109, .int .u8 111, .int .u8 114, .int .u8 101] 4 4 Tryd.underlying31 Tryd.underlying5
  have BL := hide ((Below.refl w2.heap.size w2).alloc (Nat.le_refl _) (.cells #[.int .u8 109, .int .u8 111, .int .u8 114, .int .u8 101] 5 (4, 5)))
  have HF := hide (feed_over (HR2.out.below BL.out) (Nat.le_trans hb2 BL.out.size) (some ⟨w2.heap.size, 0, none⟩) 4 4)
  dsimp only at HF
  have HNB3 := hide ((BL.out.block w.heap.size hlt2).trans HNB2.out)
  have B3 := hide (B2.out.trans (BL.out.mono hb2))
  have hgn : w.heap.size ≠ gr ∧ w.heap.size ≠ g := ⟨fun e => HGN.out.1 e, fun e => HGN.out.2 e⟩
  have hrb := HR2.out.rb
  have hrf := HR2.out.fb
  have hsz3 := BL.out.size
  go_wp2_with fail
  generalize w2.alloc (.cells #[.int .u8 109, .int .u8 111, .int .u8 114, .int .u8 101] 5 (4, 5)) = w3 at *
  refine HF.out.mono ?_
  rintro e w4 ⟨rfl, hf⟩
  have B4 := hide (B3.out.trans (hf.2.2.low hrb hrf (by omega)))
  have HNB4 := hide ((hf.2.2.block w.heap.size (by omega) hgn.1 hgn.2).trans HNB3.out)
  obtain ⟨g2, it, ct, X, hkt, hr4⟩ : ∃ g2 it ct X, KT it ∧ Rdr w4 base gr g2 it ct ⟨ol, wh, er⟩ X := by
    cases ho : overT (⟨ol, wh, er⟩ : Tal) with
    | true =>
      obtain ⟨g2, _, h2⟩ := hf.1 ho
      exact ⟨g2, 72, 74, [], .inr (.inr (.inr rfl)), h2⟩
    | false => exact ⟨g, 72, 74, [], .inr (.inr (.inr rfl)), hf.2.1 ho⟩
  have HG : Hid (∀ q, Calls Tryd.prog 14 #[.pointer (some ⟨gr, 0, none⟩)] (w4.drewN q) fun e w' => e = .returned (.int .i64 (ol : Int)) ∧ w' = w4.drewN q) := hide (fun q => (gotR_any (hr4.below (below_drewN w4 q)) hkt).mono (fun _ _ h => ⟨h.1, h.2.symm⟩))
  have k0 : w4.cell? ⟨w.heap.size, 0, none⟩ = some (.slice oa ol oc) := cell_at HNB4.out 0
  have k3 : w4.cell? ⟨w.heap.size, 3, none⟩ = some (.bool wh) := cell_at HNB4.out 3
  have k4 : w4.cell? ⟨w.heap.size, 4, none⟩ = some (.int .i64 (er : Int)) := cell_at HNB4.out 4
  clear hf hr4 HF HNB3 HNB2 HR2 HNB4 hcv BL B2 B3 HME HMB HSZ
  go_wp2_with fail
  go_quiet ((go_at_call 14; exact Calls.quiet_of_same (HG.out _)))
  go_wp2_with fail
  go_ret
  exact ⟨rfl, B4.out.trans ((below_drewN _ _).mono (by have := B4.out.size; omega))⟩
end Go.Proofs.YtggeihahbgeneaaDoor
namespace Go.Proofs.YtggeihahbgeneaaDoor
open Go.ChangeShapes Go.WideShapes Go.ChangeAt Go.RowKit

theorem bad_both (k len : Int) (x : Bool) (most : Int) (h : ¬ GoodF k len most) : ∃ er : Int, (er != 0) = true ∧ (∀ W, Calls Tryd.prog 8 #[frV k len x, .int .i64 most] W fun e w' => e = .returned (.tuple #[.pointer none, .int .i64 er]) ∧ Below W.heap.size W w') ∧ (∀ W, Calls Tryd.prog 9 #[frV k len x, .int .i64 most] W fun e w' => e = .returned (.int .i64 er) ∧ Below W.heap.size W w') := by
  cases hr : isR k len with
  | false =>
    refine ⟨1, rfl, fun W => new_bad1 k len x most W hr, fun W => ?_⟩
    by_cases h1 : k < 1
    · exact asked_1 k len x most W h1
    by_cases h2 : 4 < k
    · exact asked_2 k len x most W h1 h2
    by_cases h3 : len < 0
    · exact asked_3 k len x most W h1 h2 h3
    by_cases h4 : 9007199254740992 < len
    · exact asked_4 k len x most W h1 h2 h3 h4
    have hk : k ≠ 2 := fun e => by
      unfold isR at hr
      rw [if_pos e] at hr
      exact absurd (of_decide_eq_false hr) (by omega)
    have hl : len ≠ 0 := fun e => by
      unfold isR at hr
      rw [if_neg hk, if_pos (by omega)] at hr
      exact of_decide_eq_false hr e
    exact asked_5 k len x most W h1 h2 h3 h4 (by simpa using hk) (by simpa using hl)
  | true =>
    have hkk : ¬ k < 1 ∧ ¬ 4 < k ∧ ¬ len < 0 ∧ ¬ 9007199254740992 < len ∧ (k ≠ 2 → len = 0) := by
      unfold isR at hr
      by_cases e : k = 2
      · rw [if_pos e] at hr
        have := of_decide_eq_true hr
        omega
      · rw [if_neg e] at hr
        by_cases e2 : k = 1 ∨ k = 3 ∨ k = 4
        · rw [if_pos e2] at hr
          have := of_decide_eq_true hr
          omega
        · rw [if_neg e2] at hr; cases hr
    obtain ⟨h1, h2, h3, h4, h5⟩ := hkk
    by_cases m0 : most < 0
    · refine ⟨1, rfl, fun W => new_bad2 k len x most W hr m0, fun W => ?_⟩
      by_cases e : k = 2
      · exact asked_8 k len x most W h1 h2 h3 h4 (by simpa using e) m0
      · exact asked_6 k len x most W h1 h2 h3 h4 (by simpa using e) (by simpa using h5 e) m0
    by_cases m1 : 9007199254740992 < most
    · refine ⟨1, rfl, fun W => new_bad3 k len x most W hr m0 m1, fun W => ?_⟩
      by_cases e : k = 2
      · exact asked_9 k len x most W h1 h2 h3 h4 (by simpa using e) m0 m1
      · exact asked_7 k len x most W h1 h2 h3 h4 (by simpa using e) (by simpa using h5 e) m0 m1
    have h6 : k = 2 ∧ most < len := by
      unfold GoodF at h
      rw [Classical.not_not] at h
      rcases h with h | h | h | h
      · rw [hr] at h; cases h
      · exact absurd h m0
      · exact absurd h m1
      · exact h
    exact ⟨2, rfl, fun W => new_long k len x most W hr (by omega) (by omega) h6.2, fun W => asked_10 k len x most W h1 h2 h3 h4 (by simpa using h6.1) m0 m1 (by simpa using h6.1) h6.2⟩

/-- A reader that New made: how it behaves, and that the document says the same. -/
def NewB (k len : Int) (x : Bool) (most : Nat) (W : World) (e : Ending) (w' : World) : Prop :=
  ∃ gr B c P M, e = .returned (.tuple #[.pointer (some ⟨gr, 0, none⟩), .int .i64 0]) ∧ Ax W.heap.size gr B c P ∧ AllB k len x most B c ∧ P w' M [] ∧ Below W.heap.size W w' ∧ B.O [] = [] ∧ B.N [] = 0 ∧ ∀ l, (B.O l).length ≤ l.length ∧ B.N l ≤ l.length
theorem new_b (k len : Int) (x : Bool) (most : Nat) (W : World) (h : GoodF k len (most : Int)) (h2 : 2 ≤ W.heap.size) : Calls Tryd.prog 8 #[frV k len x, .int .i64 (most : Int)] W fun e w' => NewB k len x most W e w' := by
  unfold GoodF at h
  rw [not_or, not_or, not_or] at h
  obtain ⟨q1, q2, q3, q4⟩ := h
  have q1 : isR k len = true := by simpa using q1
  have hM : most ≤ 9007199254740992 := by omega
  by_cases hk2 : k = 2
  · subst hk2
    have hr2 : 0 ≤ len ∧ len ≤ 9007199254740992 := by unfold isR at q1; rw [if_pos rfl] at q1; exact of_decide_eq_true q1
    obtain ⟨L, rfl⟩ := Int.eq_ofNat_of_zero_le hr2.1
    have hLM : ¬ ((most : Int) < (L : Int)) := fun h => q4 ⟨rfl, h⟩
    refine (new_of (w := W) (k := 2) (len := (L : Int)) (x := x) (most := (most : Int)) (.inl rfl) (by omega) (by omega) q1 (by omega) (fun W => framed_len L x (most : Int) W)).mono ?_
    rintro e w1 ⟨gr, g, rfl, hgr, hg, b1, hO1, hR1⟩
    have ht : (⟨0, decide (L = 0), 0⟩ : Tal) = talB (bLen L) [] := by
      simp only [talB, bLen, List.take_nil, List.length_nil, Tal.mk.injEq, true_and, and_true]
      congr 1
      apply propext
      omega
    rw [ht] at hO1 hR1
    have hP : ∃ M, RP W.heap.size gr (bLen L) (kLen W.heap.size gr L) w1 M [] := by
      cases ho : overT (talB (bLen L) []) with
      | true => obtain ⟨g', _, hr⟩ := hO1 ho; exact ⟨_, .inl ⟨ho, g', rfl, hr⟩⟩
      | false => exact ⟨_, .inr ⟨ho, g, rfl, hR1 ho⟩⟩
    obtain ⟨M, hP⟩ := hP
    exact ⟨gr, bLen L, false, _, M, rfl, ax_len _ gr L (by omega), all_len L x most, hP, b1, by simp [bLen], by simp [bLen], fun l => ⟨by simp only [bLen, List.length_take]; omega, by simp only [bLen]; omega⟩⟩
  have hk134 : (k = 1 ∨ k = 3 ∨ k = 4) ∧ len = 0 := by
    unfold isR at q1
    rw [if_neg hk2] at q1
    by_cases h : k = 1 ∨ k = 3 ∨ k = 4
    · rw [if_pos h] at q1; exact ⟨h, of_decide_eq_true q1⟩
    · rw [if_neg h] at q1; cases q1
  obtain ⟨hk, rfl⟩ := hk134
  rcases hk with rfl | rfl | rfl
  · refine (new_of (w := W) (k := 1) (len := 0) (x := x) (most := (most : Int)) (.inr (.inr (.inr rfl))) (by omega) (by omega) rfl (by omega) (fun W => framed_none 0 x (most : Int) W)).mono ?_
    rintro e w1 ⟨gr, g, rfl, hgr, hg, b1, hO1, _⟩
    obtain ⟨g', hg', hr⟩ := hO1 rfl
    exact ⟨gr, bNone, false, _, _, rfl, ax_none _ gr, all_none 0 x most, .inl ⟨rfl, g', rfl, hr⟩, b1, rfl, rfl, fun l => ⟨Nat.zero_le _, Nat.zero_le _⟩⟩
  · refine (new_part x most W hM).mono ?_
    rintro e w1 ⟨gr, g, gd, rfl, hgd, hP, b1⟩
    exact ⟨gr, bPart most, false, _, _, rfl, ax_part _ gr most hM h2, all_part 0 x most hM, .inr ⟨rfl, g, gd, _, _, rfl, hP⟩, b1, rfl, rfl, fun l => ⟨Nat.le_trans (bytes_out l _) (bytes_len l _), bytes_len l _⟩⟩
  · refine (new_of (w := W) (k := 4) (len := 0) (x := x) (most := (most : Int)) (.inr (.inr (.inl rfl))) (by omega) (by omega) rfl (by omega) (fun W => framed_clos 0 x most W)).mono ?_
    rintro e w1 ⟨gr, g, rfl, hgr, hg, b1, hO1, hR1⟩
    have ht : (⟨0, false, 0⟩ : Tal) = talB (bClos most) [] := by simp [talB, bClos]
    rw [ht] at hR1
    have ho : overT (talB (bClos most) []) = false := by rw [← ht]; rfl
    exact ⟨gr, bClos most, true, _, _, rfl, ax_clos _ gr most hM, all_clos 0 x most, .inr ⟨ho, g, rfl, hR1 ho⟩, b1, by simp [bClos], by simp [bClos], fun l => ⟨by simp only [bClos, List.length_take]; omega, by simp only [bClos]; split <;> omega⟩⟩

/-- A reader, a row and a block beside each other. -/
structure LS (W0 wr : World) (base gr : Nat) (P : World → (Nat → Prop) → List UInt8 → Prop) (bw : Nat) (M : Nat → Prop) (av : Value) (l a : List UInt8) (C : Array Value) : Prop where
  p : P wr M l
  row : Row wr base 5 av (bc a)
  was : wr.heap[bw]? = some (.cells C 34 (0, 0))
  am : ∀ k, av.ownBlock = some k → ¬ M k
  wm : ¬ M bw
  aw : av.ownBlock ≠ some bw
  gw : base ≤ bw
  b : Below base W0 wr
  bs : base ≤ wr.heap.size
section
variable {W0 wr W : World} {base gr : Nat} {B : Beh} {c : Bool} {P : World → (Nat → Prop) → List UInt8 → Prop} {bw : Nat} {M : Nat → Prop} {av av' : Value} {l a a' : List UInt8} {C : Array Value}
theorem LS.below (A : Ax base gr B c P) (h : LS W0 wr base gr P bw M av l a C) (b : Below wr.heap.size wr W) : LS W0 W base gr P bw M av l a C :=
  ⟨A.keep h.p (fun k hk => b.block k (A.mem h.p k hk).2), h.row.below b, (b.block bw (lt_heap h.was)).trans h.was, h.am, h.wm, h.aw, h.gw, h.b.trans (b.mono h.bs), Nat.le_trans h.bs b.size⟩
theorem LS.grow (A : Ax base gr B c P) (h : LS W0 wr base gr P bw M av l a C) (hk : Kept wr W av av') (hR : Row W base 5 av' (bc a')) (hB : Below base wr W) : LS W0 W base gr P bw M av' l a' C :=
  ⟨A.keep h.p (fun k hk2 => hk.block k (A.mem h.p k hk2).2 (fun e => h.am k e hk2)), hR, (hk.block bw (lt_heap h.was) h.aw).trans h.was, fun k e hM => hk.apart k (A.mem h.p k hM).2 (fun e2 => h.am k e2 hM) e, h.wm, hk.apart bw (lt_heap h.was) h.aw, h.gw, h.b.trans hB, Nat.le_trans h.bs hk.size⟩
theorem LS.feed (A : Ax base gr B c P) (h : LS W0 wr base gr P bw M av l a C) {M' : Nat → Prop} {l' : List UInt8} (hp : P W M' l') (k : KP wr W M M') : LS W0 W base gr P bw M' av l' a C :=
  ⟨hp, h.row.frame (fun g e => k.block g (h.row.lt e).2 (h.am g e)), (k.block bw (lt_heap h.was) h.wm).trans h.was, fun g e hM => by rcases k.more g hM with j | j; exact h.am g e j; have := (h.row.lt e).2; omega, fun hM => by rcases k.more bw hM with j | j; exact h.wm j; have := lt_heap h.was; omega, h.aw, h.gw, h.b.trans (k.low (fun g hg => (A.mem h.p g hg).1) h.bs), Nat.le_trans h.bs k.size⟩
theorem LS.set (A : Ax base gr B c P) (h : LS W0 wr base gr P bw M av l a C) (i : Nat) (v : Value) : LS W0 (wr.setCell ⟨bw, i, none⟩ v) base gr P bw M av l a (C.setIfInBounds i v) :=
  ⟨A.keep h.p (fun k hk => Below.heap_setCell wr ⟨bw, i, none⟩ v k (fun e => h.wm (by have e2 : k = bw := e; rw [← e2]; exact hk))), h.row.frame (fun k e => Below.heap_setCell wr ⟨bw, i, none⟩ v k (fun e2 => h.aw (by rw [e]; exact congrArg some e2))), hp_set h.was i v, h.am, h.wm, h.aw, h.gw, h.b.setCell (p := ⟨bw, i, none⟩) h.gw v, by simpa using h.bs⟩
theorem LS.cell (h : LS W0 wr base gr P bw M av l a C) (i : Nat) : wr.cell? ⟨bw, i, none⟩ = C[i]? := cell_at h.was i
theorem LS.froz (h : LS W0 wr base gr P bw M av l a C) (i : Nat) : wr.frozen? ⟨bw, i, none⟩ = false := by rw [frozen_at h.was]; simp
end
end Go.Proofs.YtggeihahbgeneaaDoor
