/- For all that is handed in of bulk at most 1048576: BodyBehind returns true, and changes nothing that it was handed; the library's tables as they are laid. -/
import Derived.Test.YtggeihahbgeneaaDoorBZ1
import Derived.Test.YtggeihahbgeneaaDoorCOpen
import Derived.Test.YtggeihahbgeneaaDoorCards
import Derived.Test.YtggeihahbgeneaaDoorTie
import Derived.WalkKit
import Derived.ProofKit
import Derived.OpenShut
import Derived.ShutString
import Derived.ChangeOld
import Derived.Below
import Derived.Lib.SmallJoins
import Derived.Deep.DeepHandedRow
import Derived.SizedLaws
import Derived.Test.YtggeihahbgeneaaDoorBZ2
namespace Go.Proofs.YtggeihahbgeneaaDoor
open Go.ChangeShapes Go.WideShapes Go.ChangeAt Go.RowKit

theorem Bs.of_row {w : World} {base : Nat} {v : Value} {l : List UInt8} (h : Row w base 5 v (bc l)) : Bs w w.heap.size v l := by
  obtain ⟨a, c, rfl, hc, _⟩ := h.shape
  rw [bc_len] at h hc
  refine ⟨a, c, by rw [bc_len], hc, fun j hj => ?_⟩
  obtain ⟨g, rfl, hcell⟩ := h.cell (j := j) (by rw [bc_len]; exact hj)
  have hg := (h.lt rfl).2
  refine ⟨g, 0, rfl, hg, hg, ?_⟩
  rw [Nat.zero_add, hcell]
  simp [bc, hj]
theorem Row.shp {W : World} {base : Nat} {e : TypeId} {v : Value} {xs : List Value} (h : Row W base e v xs) : Shp v := by
  rcases h.2 with ⟨rfl, _⟩ | ⟨g, cap, cur, rfl, _⟩
  · exact .inl rfl
  · exact .inr ⟨_, _, _, rfl⟩
set_option maxHeartbeats 4000000 in
set_option maxRecDepth 100000 in
theorem asked_11 (k len : Int) (x : Bool) (most : Int) (w : World) (t0 : ¬ k < 1) (t1 : ¬ 4 < k) (t2 : ¬ len < 0) (t3 : ¬ 9007199254740992 < len) (t4 : (k != 2) = true) (t5 : (len != 0) = false) (t6 : ¬ most < 0) (t7 : ¬ 9007199254740992 < most) (t8 : (k == 2) = false) : Calls Tryd.prog 9 #[frV k len x, .int .i64 most] w fun e w' => e = .returned (.int .i64 0) ∧ Below w.heap.size w w' := by
  have FIN : Hid (∀ W, W = w.alloc (.cells #[.int .i64 k, .int .i64 len, .bool x] 23) → Below w.heap.size w W) := hide (by rintro W rfl; exact (Below.refl w.heap.size w).alloc (Nat.le_refl _) _)
  unfold frV
  go_enter Tryd.func9, Tryd.ntmps9
  go_wp2
  go_ret
  exact ⟨rfl, FIN.out _ rfl⟩
set_option maxHeartbeats 4000000 in
set_option maxRecDepth 100000 in
theorem asked_12 (k len : Int) (x : Bool) (most : Int) (w : World) (t0 : ¬ k < 1) (t1 : ¬ 4 < k) (t2 : ¬ len < 0) (t3 : ¬ 9007199254740992 < len) (t4 : (k != 2) = false) (t5 : ¬ most < 0) (t6 : ¬ 9007199254740992 < most) (t7 : (k == 2) = true) (t8 : ¬ most < len) : Calls Tryd.prog 9 #[frV k len x, .int .i64 most] w fun e w' => e = .returned (.int .i64 0) ∧ Below w.heap.size w w' := by
  have FIN : Hid (∀ W, W = w.alloc (.cells #[.int .i64 k, .int .i64 len, .bool x] 23) → Below w.heap.size w W) := hide (by rintro W rfl; exact (Below.refl w.heap.size w).alloc (Nat.le_refl _) _)
  unfold frV
  go_enter Tryd.func9, Tryd.ntmps9
  go_wp2
  go_ret
  exact ⟨rfl, FIN.out _ rfl⟩
/-- A framing and a bound that are right. -/
def GoodF (k len most : Int) : Prop := ¬ (isR k len = false ∨ most < 0 ∨ 9007199254740992 < most ∨ (k = 2 ∧ most < len))
theorem asked_good (k len : Int) (x : Bool) (most : Int) (w : World) (h : GoodF k len most) : Calls Tryd.prog 9 #[frV k len x, .int .i64 most] w fun e w' => e = .returned (.int .i64 0) ∧ Below w.heap.size w w' := by
  unfold GoodF at h
  rw [not_or, not_or, not_or] at h
  obtain ⟨q1, q2, q3, q4⟩ := h
  have q1 : isR k len = true := by simpa using q1
  unfold isR at q1
  by_cases hk : k = 2
  · rw [if_pos hk] at q1
    have := of_decide_eq_true q1
    exact asked_12 k len x most w (by omega) (by omega) (by omega) (by omega) (by rw [bne_eq_false_iff_eq]; exact hk) q2 q3 (by rw [beq_iff_eq]; exact hk) (fun h => q4 ⟨hk, h⟩)
  · rw [if_neg hk] at q1
    by_cases h : k = 1 ∨ k = 3 ∨ k = 4
    · rw [if_pos h] at q1
      have hz := of_decide_eq_true q1
      exact asked_11 k len x most w (by omega) (by omega) (by omega) (by omega) (bne_iff_ne.2 hk) (by rw [bne_eq_false_iff_eq]; exact hz) q2 q3 (by rw [beq_eq_false_iff_ne]; exact hk)
    · rw [if_neg h] at q1; cases q1
/-! ### A decoder that is whole reads no further -/
theorem end_wrong (d : Dz) (s : ByteArray) (h : (dEnd d s).1 ≠ 0) : (dEnd d s).2.whole = d.whole := by
  unfold dEnd dSized dRead dTrl at *
  repeat' split
  all_goals first | rfl | (simp_all)
theorem next_wrong (d : Dz) (c : UInt8) (h : (dNext d c).1 ≠ 0) : (dNext d c).2.2.whole = d.whole := by
  unfold dNext at *
  split at h
  · exact absurd rfl h
  · rename_i h1
    rw [if_neg h1]
    split at h
    · rename_i h2; rw [if_pos h2]
    · rename_i h2
      rw [if_neg h2]
      split at h
      · rename_i h3
        rw [if_pos h3]
        exact end_wrong _ _ h
      · rename_i h3
        rw [if_neg h3]
        split at h
        · exact absurd rfl h
        · rename_i h4
          rw [if_neg h4]
          split at h
          · rename_i h5; rw [if_pos h5]
          · exact absurd rfl h
theorem whole_take (b : List UInt8) : ∀ (a : List UInt8) (d : Dz), d.whole = false → (dBytes d a).2.2.2.whole = true → (dBytes d a).1 = 0 ∧ dBytes d (a.take (dBytes d a).2.1 ++ b) = dBytes d a
  | [], d, hd, h => by rw [dBytes] at h; rw [hd] at h; cases h
  | c :: r, d, hd, h => by
    by_cases h1 : (dNext d c).1 ≠ 0
    · have e : dBytes d (c :: r) = ((dNext d c).1, 1, (dNext d c).2.1, (dNext d c).2.2) := by rw [dBytes, if_pos h1]
      rw [e] at h
      have := next_wrong d c h1
      dsimp only at h
      rw [h, hd] at this
      cases this
    · by_cases h2 : (dNext d c).2.2.whole = true
      · have e : ∀ r, dBytes d (c :: r) = (0, 1, (dNext d c).2.1, (dNext d c).2.2) := fun r => by rw [dBytes, if_neg h1, if_pos h2]
        rw [e r]
        refine ⟨rfl, ?_⟩
        show dBytes d (c :: (r.take 0 ++ b)) = _
        exact e _
      · have e : ∀ r, dBytes d (c :: r) = ((dBytes (dNext d c).2.2 r).1, (dBytes (dNext d c).2.2 r).2.1 + 1, (dNext d c).2.1 ++ (dBytes (dNext d c).2.2 r).2.2.1, (dBytes (dNext d c).2.2 r).2.2.2) := fun r => by rw [dBytes, if_neg h1, if_neg h2]
        rw [e r] at h
        obtain ⟨i1, i2⟩ := whole_take b r (dNext d c).2.2 (by simpa using h2) h
        rw [e r]
        refine ⟨i1, ?_⟩
        show dBytes d (c :: (r.take (dBytes (dNext d c).2.2 r).2.1 ++ b)) = _
        rw [e, i2]
/-! ### What Feed tells, where All is whole -/
/-- Feed of bytes of the call's own, made behind the reader. -/
def FF (base gr : Nat) (w1 : World) (l o : List UInt8) (N : Nat) : Prop := ∀ (W : World) (va : Option Addr) (vc : Nat), Below w1.heap.size w1 W → Row W w1.heap.size 5 (.slice va l.length vc) (bc l) → Calls Tryd.prog 12 #[.pointer (some ⟨gr, 0, none⟩), .slice va l.length vc] W fun e w' => ∃ ua uc, e = .returned (.tuple #[.slice ua o.length uc, .int .i64 (N : Int), .bool true, .int .i64 0]) ∧ Row w' W.heap.size 5 (.slice ua o.length uc) (bc o) ∧ Below base W w'
def NF (l o : List UInt8) (N : Nat) (w : World) (e : Ending) (w' : World) : Prop := ∃ gr, e = .returned (.tuple #[.pointer (some ⟨gr, 0, none⟩), .int .i64 0]) ∧ Below w.heap.size w w' ∧ FF w.heap.size gr w' l o N
theorem ff_over {w w1 : World} {gr g : Nat} {l : List UInt8} (hr : Rdr w1 w.heap.size gr g 72 74 ⟨0, true, 0⟩ []) (b1 : Below w.heap.size w w1) (hgr : w.heap.size ≤ gr) (hg : w.heap.size ≤ g) : FF w.heap.size gr w1 l [] 0 := by
  intro W va vc bW _
  have hz := Nat.le_trans b1.size bW.size
  refine (feed_over (hr.below bW) hz va l.length vc).mono ?_
  rintro e w' ⟨rfl, hf⟩
  exact ⟨none, 0, rfl, Row.nil _ _ _, hf.2.2.low hgr hg hz⟩
theorem new_nf_len (L : Nat) (x : Bool) (M : Nat) (w : World) (l o : List UInt8) (hL : L ≤ M) (hM : M ≤ 9007199254740992) (hl : l.length ≤ 140737488355328) (hLl : L ≤ l.length) (ho : o = l.take L) : Calls Tryd.prog 8 #[frV 2 (L : Int) x, .int .i64 (M : Int)] w fun e w' => NF l o L w e w' := by
  refine (new_of (w := w) (k := 2) (len := (L : Int)) (x := x) (most := (M : Int)) (.inl rfl) (by omega) (by omega) (by unfold isR; rw [if_pos rfl]; exact decide_eq_true (by omega)) (by omega) (fun W => framed_len L x (M : Int) W)).mono ?_
  rintro e w1 ⟨gr, g, rfl, hgr, hg, b1, hO1, hR1⟩
  refine ⟨gr, rfl, b1, ?_⟩
  by_cases h0 : L = 0
  · subst h0
    obtain ⟨g', hg', hr⟩ := hO1 rfl
    obtain rfl : o = [] := by rw [ho]; rfl
    exact ff_over hr b1 hgr hg'
  · have hr := hR1 (by simp [overT, h0])
    intro W va vc bW hrow
    have hz := Nat.le_trans b1.size bW.size
    have hk : tkN l L 0 = L := by unfold tkN; omega
    have hol : o.length = L := by rw [ho, List.length_take]; omega
    have hf := feed_meas (L := L) (hr.below bW) hz (.slice va l.length vc) l (Bs.of_row hrow) hrow.shp (by omega) (Nat.zero_le _) hl
    dsimp only at hf
    rw [hk, Nat.zero_add, decide_eq_true rfl, ← ho] at hf
    rw [hol]
    refine hf.mono ?_
    rintro e w' ⟨ua, uc, rfl, h1, h2⟩
    exact ⟨ua, uc, rfl, h1, h2.2.2.low hgr hg hz⟩
theorem new_nf_none (x : Bool) (M : Nat) (w : World) (l : List UInt8) (hM : M ≤ 9007199254740992) : Calls Tryd.prog 8 #[frV 1 0 x, .int .i64 (M : Int)] w fun e w' => NF l [] 0 w e w' := by
  refine (new_of (w := w) (k := 1) (len := 0) (x := x) (most := (M : Int)) (.inr (.inr (.inr rfl))) (by omega) (by omega) rfl (by omega) (fun W => framed_none 0 x (M : Int) W)).mono ?_
  rintro e w1 ⟨gr, g, rfl, hgr, hg, b1, hO1, _⟩
  obtain ⟨g', hg', hr⟩ := hO1 rfl
  exact ⟨gr, rfl, b1, ff_over hr b1 hgr hg'⟩
theorem new_nf_part (x : Bool) (M : Nat) (w : World) (l o : List UInt8) (N : Nat) (d : Dz) (hM : M ≤ 9007199254740992) (hl : l.length ≤ 70368744177664) (hm : MX w) (hd : dBytes (dNew M) l = (0, N, o, d)) (hw : d.whole = true) : Calls Tryd.prog 8 #[frV 3 0 x, .int .i64 (M : Int)] w fun e w' => NF l o N w e w' := by
  refine (new_part x M w hM).mono ?_
  rintro e w1 ⟨gr, g, gd, rfl, hgd, hP, b1⟩
  refine ⟨gr, rfl, b1, ?_⟩
  intro W va vc bW hrow
  have hgl := hP.pt.dec.lt
  have hBs := Bs.of_row hrow
  have hBf : Bf W (fun k => w1.heap.size ≤ k ∧ k < W.heap.size) (.slice va l.length vc) l := by
    obtain ⟨a, c, h1, h2, h3⟩ := hBs
    refine ⟨a, c, h1, h2, fun j hj => ?_⟩
    obtain ⟨g2, o2, q1, q2, q3, q4⟩ := h3 j hj
    refine ⟨g2, o2, q1, ⟨?_, q3⟩, q3, q4⟩
    simp only [Value.slice.injEq] at h1
    exact (hrow.lt (by rw [h1.1, q1]; rfl)).1
  have hf := feed_part (hP.below bW) (fit_dnew M hM) rfl rfl ((hm.below b1).below bW) hm.1 (A := fun k => w1.heap.size ≤ k ∧ k < W.heap.size) va vc l hBf hrow.shp (by omega) (fun k e => by simp [Value.ownBlock] at e) (fun k e => by simp [Value.ownBlock] at e) (fun k e => e.2) hl (Nat.zero_le _)
  rw [hd] at hf
  dsimp only at hf
  rw [hw] at hf
  refine hf.mono ?_
  rintro e w' ⟨ua, uc, lv', tv', rfl, h1, _, _, hb⟩
  exact ⟨ua, uc, rfl, h1, hb⟩

def AQ (k len : Int) (x : Bool) (a : List UInt8) (w : World) (e : Ending) (w' : World) : Prop := ∃ o N wh E, BAllP w o N wh E e w' ∧ (wh = true → GoodF k len 1000000 → N ≤ a.length ∧ o.length ≤ a.length ∧ ∀ (b : List UInt8), a.length + b.length ≤ 70368744177664 → ∀ W, MX W → Calls Tryd.prog 8 #[frV k len x, .int .i64 1000000] W fun e w' => NF (a.take N ++ b) o N W e w')
theorem good_len {k len : Int} (h : GoodF k len 1000000) (hk : k ≠ 2) : len = 0 := by
  unfold GoodF isR at h
  rw [not_or] at h
  have h1 := h.1
  rw [if_neg hk] at h1
  by_cases h2 : k = 1 ∨ k = 3 ∨ k = 4
  · rw [if_pos h2] at h1
    simpa using h1
  · rw [if_neg h2] at h1
    exact absurd rfl h1
theorem all_q (k len : Int) (x : Bool) (v : Value) (a : List UInt8) (w : World) (hB : Bs w w.heap.size v a) (hl : a.length ≤ 70368744177664) : Calls Tryd.prog 11 #[frV k len x, .int .i64 1000000, v, .bool false] w fun e w' => AQ k len x a w e w' := by
  have hc : ((1000000 : Nat) : Int) = 1000000 := rfl
  by_cases h1 : k = 1
  · subst h1
    refine (ball_none len x 1000000 v false w).mono fun e w' h => ⟨[], 0, true, 0, h, fun _ hg => ⟨Nat.zero_le _, Nat.zero_le _, fun b _ W _ => ?_⟩⟩
    obtain rfl := good_len hg (by decide)
    have := new_nf_none x 1000000 W (a.take 0 ++ b) (by decide)
    rwa [hc] at this
  by_cases h2 : k = 2
  · subst h2
    refine (ball_len len x 1000000 v a false w hB hl _ rfl _ rfl).mono fun e w' h => ⟨_, _, _, _, h, fun hw hg => ?_⟩
    generalize hN : min a.length len.toNat = N at hw ⊢
    have hlen : (N : Int) = len := by simpa using hw
    subst hlen
    have hNa : N ≤ a.length := by omega
    have hol : (a.take N).length = N := by rw [List.length_take]; omega
    refine ⟨hNa, by omega, fun b hb W _ => ?_⟩
    have hL : N ≤ 1000000 := by
      unfold GoodF at hg
      rw [not_or, not_or, not_or] at hg
      have := hg.2.2.2
      have : ¬ ((1000000 : Int) < (N : Int)) := fun h => this ⟨rfl, h⟩
      omega
    have hlt : (a.take N ++ b).length = N + b.length := by rw [List.length_append, hol]
    have := new_nf_len N x 1000000 W (a.take N ++ b) (a.take N) hL (by decide) (by omega) (by omega) (by rw [List.take_left' hol])
    rwa [hc] at this
  by_cases h3 : k = 3
  · subst h3
    have hp := ball_part len x 1000000 v a false w hB hl (by decide)
    rw [hc] at hp
    refine hp.mono fun e w' h => ?_
    obtain ⟨o, t, N, wh, E, E', hf, _, hP⟩ := h
    refine ⟨o, N, wh, E', hP, fun hw hg => ?_⟩
    obtain ⟨d', hd, hdw, _⟩ := hf
    obtain rfl := good_len hg (by decide)
    have hn := bytes_len a (dNew 1000000)
    have ho := bytes_out a (dNew 1000000)
    rw [hd] at hn ho
    dsimp only at hn ho
    refine ⟨hn, by omega, fun b hb W hm => ?_⟩
    obtain ⟨q1, q2⟩ := whole_take b a (dNew 1000000) rfl (by rw [hd]; exact hdw.trans hw)
    rw [hd] at q1 q2
    dsimp only at q1 q2
    subst q1
    have hlt : (a.take N ++ b).length ≤ a.length + b.length := by rw [List.length_append, List.length_take]; omega
    have := new_nf_part x 1000000 W (a.take N ++ b) o N d' (by decide) (by omega) hm q2 (hdw.trans hw)
    rwa [hc] at this
  have e1 : (k == 1) = false := by rw [beq_eq_false_iff_ne]; exact h1
  have e2 : (k == 2) = false := by rw [beq_eq_false_iff_ne]; exact h2
  have e3 : (k == 3) = false := by rw [beq_eq_false_iff_ne]; exact h3
  by_cases hb : a.length ≤ 1000000
  · have hp := ball_fit k len x 1000000 v a false w e1 e2 e3 hB hl hb
    rw [hc] at hp
    exact hp.mono fun e w' h => ⟨_, _, _, _, h, fun h => by cases h⟩
  · have hp := ball_over k len x 1000000 v a false w e1 e2 e3 hB hl (by omega)
    rw [hc] at hp
    exact hp.mono fun e w' h => ⟨_, _, _, _, h, fun h => by cases h⟩
set_option maxHeartbeats 16000000 in
set_option maxRecDepth 100000 in
theorem behind_walk (k len : Int) (x : Bool) (va vb : Value) (a b : List UInt8) (w : World) (hA : Bs w w.heap.size va a) (hAS : Shp va) (hB : Bs w w.heap.size vb b) (hBS : Shp vb) (hl : a.length + b.length ≤ 70368744177664) (hm : MX w) :
    Calls Tryd.prog 7 #[frV k len x, va, vb] w fun e w' => e = .returned (.bool true) ∧ Below w.heap.size w w' := by
  have HA := hide hA
  have HAS := hide hAS
  have HBB := hide hB
  have HBS := hide hBS
  have HM := hide hm
  obtain ⟨aa, ac, rfl, hac, _⟩ := hA
  obtain ⟨ba, bcp, rfl, _, _⟩ := hB
  clear hAS hBS hm
  have HQ := hide (fun W (h : Below w.heap.size w W) => all_q k len x (.slice aa a.length ac) a W (HA.out.below h.size h) (by omega))
  have HGD := hide (fun W (h : GoodF k len 1000000) => asked_good k len x 1000000 W h)
  have HBD := hide (fun W (h : ¬ GoodF k len 1000000) => asked_bad k len x 1000000 W (Classical.not_not.1 h))
  have HNF := hide (fun (W : World) (l o : List UInt8) (N : Nat) (h : Calls Tryd.prog 8 #[frV k len x, .int .i64 1000000] W fun e w' => NF l o N W e w') => h)
  unfold frV at HQ HGD HBD HNF ⊢
  go_enter Tryd.func7, Tryd.ntmps7
  have BA := hide ((Below.refl w.heap.size w).alloc (Nat.le_refl _) (.cells #[.int .i64 k, .int .i64 len, .bool x] 23))
  have HB := hide (hp_new w (.cells #[.int .i64 k, .int .i64 len, .bool x] 23))
  have HLT := lt_heap' HB.out
  go_upto_region 1 with fail
  generalize w.alloc (.cells #[.int .i64 k, .int .i64 len, .bool x] 23) = W0 at BA HB HLT ⊢
  have c0 : W0.cell? ⟨w.heap.size, 0, none⟩ = some (.int .i64 k) := cell_at HB.out 0
  have c1 : W0.cell? ⟨w.heap.size, 1, none⟩ = some (.int .i64 len) := cell_at HB.out 1
  have c2 : W0.cell? ⟨w.heap.size, 2, none⟩ = some (.bool x) := cell_at HB.out 2
  go_wp2_with fail
  refine (HQ.out W0 BA.out).mono ?_
  rintro e W1 ⟨o, N, wh, E, ⟨ov, ta, tl, tc, rfl, hrow, b1⟩, hq⟩
  obtain ⟨oa, oc, rfl, _, _⟩ := hrow.shape
  rw [bc_len] at hrow ⊢
  have HQ2 := hide hq
  have R1 := hide hrow
  have B1 := hide (BA.out.trans (b1.mono BA.out.size))
  have HB1 := hide ((b1.block w.heap.size HLT).trans HB.out)
  have HLT1 := lt_heap' HB1.out
  clear c0 c1 c2 hq hrow b1 HQ
  go_upto_region 2 with fail
  have BN := hide ((Below.refl W1.heap.size W1).alloc (Nat.le_refl _) (.cells #[.slice oa o.length oc, .slice ta tl tc, .int .i64 (N : Int), .bool wh, .int .i64 (E : Int)] 34))
  have HR := hide (hp_new W1 (.cells #[.slice oa o.length oc, .slice ta tl tc, .int .i64 (N : Int), .bool wh, .int .i64 (E : Int)] 34))
  have hsz : (W1.alloc (.cells #[.slice oa o.length oc, .slice ta tl tc, .int .i64 (N : Int), .bool wh, .int .i64 (E : Int)] 34)).heap.size = W1.heap.size + 1 := by simp
  generalize W1.alloc (.cells #[.slice oa o.length oc, .slice ta tl tc, .int .i64 (N : Int), .bool wh, .int .i64 (E : Int)] 34) = W2 at BN HR hsz ⊢
  have B2 := hide (B1.out.trans (BN.out.mono B1.out.size))
  have HB2 := hide ((BN.out.block w.heap.size HLT1).trans HB1.out)
  have R2 := hide (R1.out.below BN.out)
  have HRT := lt_heap' HR.out
  have HLT2 := lt_heap' HB2.out
  generalize W1.heap.size = gb at *
  have c0 : W2.cell? ⟨w.heap.size, 0, none⟩ = some (.int .i64 k) := cell_at HB2.out 0
  have c1 : W2.cell? ⟨w.heap.size, 1, none⟩ = some (.int .i64 len) := cell_at HB2.out 1
  have c2 : W2.cell? ⟨w.heap.size, 2, none⟩ = some (.bool x) := cell_at HB2.out 2
  by_cases hg : GoodF k len 1000000
  · have HGA := hide (HGD.out W2 hg)
    clear HGD HBD
    go_wp2_with fail
    refine HGA.out.mono ?_
    rintro e W3 ⟨rfl, b3⟩
    have B3 := hide (B2.out.trans (b3.mono B2.out.size))
    have HB3 := hide ((b3.block w.heap.size HLT2).trans HB2.out)
    have HR3 := hide ((b3.block gb HRT).trans HR.out)
    have R3 := hide (R2.out.below b3)
    have hs3 := b3.size
    clear c0 c1 c2 b3 HGA
    have d3 : W3.cell? ⟨gb, 3, none⟩ = some (.bool wh) := cell_at HR3.out 3
    cases wh with
    | false =>
      go_wp2_with fail
      refine (speaks_any W3).mono ?_
      rintro e W4 ⟨rfl, b4⟩
      have B4 := hide (B3.out.trans (b4.mono B3.out.size))
      clear b4
      go_wp2
      go_ret
      exact ⟨rfl, B4.out⟩
    | true =>
      obtain ⟨hNa, hoa, hnew⟩ := HQ2.out rfl hg
      have HNW := hide (HNF.out W3 _ o N (hnew b hl W3 (HM.out.below B3.out)))
      unfold frV at HNW
      clear HQ2 hnew HNF hg
      have c0 : W3.cell? ⟨w.heap.size, 0, none⟩ = some (.int .i64 k) := cell_at HB3.out 0
      have c1 : W3.cell? ⟨w.heap.size, 1, none⟩ = some (.int .i64 len) := cell_at HB3.out 1
      have c2 : W3.cell? ⟨w.heap.size, 2, none⟩ = some (.bool x) := cell_at HB3.out 2
      go_wp2_with fail
      refine HNW.out.mono ?_
      rintro e W4 ⟨gr, rfl, b4, hff⟩
      have B4 := hide (B3.out.trans (b4.mono B3.out.size))
      have HFF := hide hff
      have HR4 := hide ((b4.block gb (by omega)).trans HR3.out)
      have R4 := hide (R3.out.below b4)
      have hs4 := b4.size
      clear c0 c1 c2 d3 b4 hff HNW
      have d2 : W4.cell? ⟨gb, 2, none⟩ = some (.int .i64 (N : Int)) := cell_at HR4.out 2
      have HTK := hide ((HA.out.below B4.out.size B4.out).takeB N hNa)
      have hNl : (a.take N).length = N := by rw [List.length_take]; omega
      have HNL := hide hNl
      clear hNl
      have hNc : N ≤ ac := by omega
      rcases HAS.out with h0 | ⟨ad, n0, c0, h0⟩
      · simp only [Value.slice.injEq] at h0
        obtain ⟨rfl, h1, rfl⟩ := h0
        obtain rfl : a = [] := List.eq_nil_of_length_eq_zero h1
        obtain rfl : N = 0 := by simpa using hNa
        have HFF : Hid (FF W3.heap.size gr W4 b o 0) := hide HFF.out
        have HTK : Hid (Bs W4 W4.heap.size (.slice none 0 0) []) := hide ⟨none, 0, rfl, Nat.le_refl _, fun j hj => by simp at hj⟩
        have hbl : b.length ≤ 70368744177664 := by simp at hl; omega
        clear hl h1 HNL hNa hac hoa hNc HA HAS
        go_wp2_with (at_builtin; apply Hid.out)
        unfold Hid
        refine wpList_append_bs_k rfl _ _ rfl W4 W4.heap.size W4.heap.size (.slice none 0 0) (.slice none 0 0) [] [] rfl rfl (Row.nil _ _ _) HTK.out (.inl rfl) (by simp) (Nat.le_refl _) ?_
        intro u W5 O5 B5 _
        rw [List.nil_append] at O5
        obtain ⟨ua, uc, rfl, _, _⟩ := O5.shape
        have P5 := hide O5
        have BB5 := hide B5
        have hs5 := B5.size
        clear O5 B5 d2
        generalize (bc []).length = un at P5
        go_wp2_with (at_builtin; apply Hid.out)
        unfold Hid
        refine wpList_append_bs_k rfl _ _ rfl W5 W4.heap.size W5.heap.size (.slice ua un uc) (.slice ba b.length bcp) [] b rfl rfl P5.out (HBB.out.below (Nat.le_trans B4.out.size hs5) (B4.out.trans (BB5.out.mono B4.out.size))) HBS.out (by simp; omega) hs5 ?_
        intro u W6 O6 B6 _
        rw [List.nil_append] at O6
        obtain ⟨pa, pc, rfl, _, _⟩ := O6.shape
        rw [bc_len] at O6 ⊢
        have BB6 := hide (BB5.out.trans B6)
        have HFD := hide (HFF.out W6 pa pc BB6.out O6)
        have B6' := hide (B4.out.trans (BB6.out.mono B4.out.size))
        have HR6 := hide ((BB6.out.block gb (by omega)).trans HR4.out)
        have R6 := hide (R4.out.below BB6.out)
        clear O6 B6 P5 BB5 HFF
        go_wp2_with fail
        refine HFD.out.mono ?_
        rintro e W7 ⟨fa, fc, rfl, hr7, b7⟩
        have B7 := hide (B6'.out.trans (b7.mono B3.out.size))
        have HR7 := hide ((b7.block gb (by omega)).trans HR6.out)
        have F7 := hide hr7
        have R7 := hide (R6.out.frame fun j e => b7.block j (by have := (R3.out.lt e).2; omega))
        clear hr7 b7 HFD
        have q0 : W7.cell? ⟨gb, 0, none⟩ = some (.slice oa o.length oc) := cell_at HR7.out 0
        have q2 : W7.cell? ⟨gb, 2, none⟩ = some (.int .i64 0) := cell_at HR7.out 2
        have x1 : (convert 31 9 (.slice fa o.length fc)).run Tryd.prog W7 = .ok (.string ⟨o.toArray⟩) W7 := F7.out.text
        have x2 : (convert 31 9 (.slice oa o.length oc)).run Tryd.prog W7 = .ok (.string ⟨o.toArray⟩) W7 := R7.out.text
        generalize (⟨o.toArray⟩ : ByteArray) = so at x1 x2
        go_wp2_with fail
        refine (speaks_any W7).mono ?_
        rintro e W8 ⟨rfl, b8⟩
        have B8 := hide (B7.out.trans (b8.mono B7.out.size))
        clear b8
        go_wp2
        go_ret
        exact ⟨rfl, B8.out⟩
      · simp only [Value.slice.injEq] at h0
        obtain ⟨rfl, h1, h2⟩ := h0
        clear h1 h2
        go_wp2_with (at_builtin; apply Hid.out)
        unfold Hid
        refine wpList_append_bs_k rfl _ _ rfl W4 W4.heap.size W4.heap.size (.slice none 0 0) (.slice (some ad) N ac) [] (a.take N) rfl rfl (Row.nil _ _ _) HTK.out (.inr ⟨_, _, _, rfl⟩) (by rw [HNL.out]; simp; omega) (Nat.le_refl _) ?_
        intro u W5 O5 B5 _
        rw [List.nil_append] at O5
        obtain ⟨ua, uc, rfl, _, _⟩ := O5.shape
        have P5 := hide O5
        have BB5 := hide B5
        have hs5 := B5.size
        clear O5 B5 d2
        generalize (bc (a.take N)).length = un at P5
        go_wp2_with (at_builtin; apply Hid.out)
        unfold Hid
        refine wpList_append_bs_k rfl _ _ rfl W5 W4.heap.size W5.heap.size (.slice ua un uc) (.slice ba b.length bcp) (a.take N) b rfl rfl P5.out (HBB.out.below (Nat.le_trans B4.out.size hs5) (B4.out.trans (BB5.out.mono B4.out.size))) HBS.out (by rw [HNL.out]; omega) hs5 ?_
        intro u W6 O6 B6 _
        generalize a.take N ++ b = l at O6 HFF
        obtain ⟨pa, pc, rfl, _, _⟩ := O6.shape
        rw [bc_len] at O6 ⊢
        have BB6 := hide (BB5.out.trans B6)
        have HFD := hide (HFF.out W6 pa pc BB6.out O6)
        have B6' := hide (B4.out.trans (BB6.out.mono B4.out.size))
        have HR6 := hide ((BB6.out.block gb (by omega)).trans HR4.out)
        have R6 := hide (R4.out.below BB6.out)
        clear O6 B6 P5 BB5 HFF
        go_wp2_with fail
        refine HFD.out.mono ?_
        rintro e W7 ⟨fa, fc, rfl, hr7, b7⟩
        have B7 := hide (B6'.out.trans (b7.mono B3.out.size))
        have HR7 := hide ((b7.block gb (by omega)).trans HR6.out)
        have F7 := hide hr7
        have R7 := hide (R6.out.frame fun j e => b7.block j (by have := (R3.out.lt e).2; omega))
        clear hr7 b7 HFD
        have q0 : W7.cell? ⟨gb, 0, none⟩ = some (.slice oa o.length oc) := cell_at HR7.out 0
        have q2 : W7.cell? ⟨gb, 2, none⟩ = some (.int .i64 (N : Int)) := cell_at HR7.out 2
        have x1 : (convert 31 9 (.slice fa o.length fc)).run Tryd.prog W7 = .ok (.string ⟨o.toArray⟩) W7 := F7.out.text
        have x2 : (convert 31 9 (.slice oa o.length oc)).run Tryd.prog W7 = .ok (.string ⟨o.toArray⟩) W7 := R7.out.text
        generalize (⟨o.toArray⟩ : ByteArray) = so at x1 x2
        go_wp2_with fail
        refine (speaks_any W7).mono ?_
        rintro e W8 ⟨rfl, b8⟩
        have B8 := hide (B7.out.trans (b8.mono B7.out.size))
        clear b8
        go_wp2
        go_ret
        exact ⟨rfl, B8.out⟩
  · obtain ⟨er, te, ha⟩ := HBD.out W2 hg
    have HA2 := hide ha
    clear ha HBD HGD
    go_wp2_with fail
    refine HA2.out.mono ?_
    rintro e W3 ⟨rfl, b3⟩
    have B3 := hide (B2.out.trans (b3.mono B2.out.size))
    clear c0 c1 c2 b3 HA2
    go_wp2_with fail
    refine (speaks_any W3).mono ?_
    rintro e W4 ⟨rfl, b4⟩
    have B4 := hide (B3.out.trans (b4.mono B3.out.size))
    clear b4
    go_wp2
    go_ret
    exact ⟨rfl, B4.out⟩
end Go.Proofs.YtggeihahbgeneaaDoor
namespace Go.Proofs.YtggeihahbgeneaaDoor.bodyBehind
open Go.ChangeShapes Go.WideShapes Go.ChangeAt Go.RowKit Go.Joins
open Go.ChangeMaps (open_string shut_string)
set_option linter.unusedVariables false

theorem own : ownKnob Tryd.prog.godebug = none := by kernel_rfl
theorem laidOut : laidOutB Tryd.prog = true := by kernel_rfl

set_option maxRecDepth 100000 in
theorem contract (H : Type) (enc : TypeId × Value → H) (W : World) (base : Nat) (args : Array Value) (ds gs : List (DataW H)) (before : List MemPlace)
    (hval : ∀ (j : Nat) t v, Tryd.f7.params[j]? = some t → args[j]? = some v → Value.okWide Tryd.prog W .any base t v)
    (hW : DataW.Whole enc Tryd.prog Tryd.f7.params.toList Rows.bodyBehindSpec.vars false W args.toList ds gs before)
    (hsz : (DataW.weightsEach Tryd.prog (Tryd.f7.params.toList ++ []) (ds ++ gs)).all (· ≤ reachBytes) = true) (hk : Rows.uptoSmall H (ds ++ gs) = true)
    (hL : laidMetH Tryd.prog laid2 W) (hS : W.ShapedOpen Tryd.prog) :
    Calls Tryd.prog 7 args W fun e W' => ∃ v, e = .returned v ∧ Rows.bodyBehindSpec.post enc Tryd.prog Tryd.f7 false true false false W args v W' := by
  have hW' := hW
  obtain ⟨p, q, hA0, hV, rfl, hfz, hnd⟩ := hW
  have hA : DataW.TrodAll enc Tryd.prog W 0 (fun _ => true) true Tryd.f7.params.toList args.toList ds p := hA0
  rw [Tryd.params7] at hA hval hsz
  obtain ⟨v0, vs0, d0, ds0, p0, q0, hargs, rfl, rfl, h0, r0⟩ := trodAll_cons hA
  obtain ⟨v1, vs1, d1, ds1, p1, q1, rfl, rfl, rfl, h1, r1⟩ := trodAll_cons r0
  obtain ⟨v2, vs2, d2, ds2, p2, q2, rfl, rfl, rfl, h2, r2⟩ := trodAll_cons r1
  obtain ⟨rfl, rfl, rfl⟩ := trodAll_nil r2
  obtain rfl : args = #[v0, v1, v2] := by cases args; simp_all
  obtain ⟨rfl, rfl⟩ := trodVars_none hV
  have j0 := h0
  have lt0 : ∀ x ∈ p0, x.block < W.heap.size := by obtain ⟨m, hm⟩ := j0; exact DataW.trod_lt m _ _ _ hm
  have j1 := h1
  have lt1 : ∀ x ∈ p1, x.block < W.heap.size := by obtain ⟨m, hm⟩ := j1; exact DataW.trod_lt m _ _ _ hm
  have j2 := h2
  have lt2 : ∀ x ∈ p2, x.block < W.heap.size := by obtain ⟨m, hm⟩ := j2; exact DataW.trod_lt m _ _ _ hm
  obtain ⟨c0, c1, c2, y0, y1, y2, m, rfl, hd, hy0, hy1, hy2⟩ := open_agg3 Tryd.underlying23 (by kernel_rfl) (by kernel_rfl) (hval 0 23 v0 rfl rfl) h0
  obtain ⟨fk, e0, x0, i0⟩ := DataW.trod_int Tryd.underlying3 hy0
  obtain ⟨fl, e1, x1, i1⟩ := DataW.trod_int Tryd.underlying3 hy1
  obtain ⟨fx, e2, x2⟩ := DataW.trod_bool Tryd.underlying4 hy2
  simp only [List.cons.injEq, and_true] at e0 e1 e2
  subst e0 e1 e2
  obtain ⟨xa1, xl1, xc1, rfl⟩ := okWide_slice Tryd.underlying31 (hval 1 31 v1 rfl rfl)
  obtain ⟨l1, hB1, hSh1, hL1⟩ : ∃ l : List UInt8, Bs W W.heap.size (.slice xa1 xl1 xc1) l ∧ Shp (.slice xa1 xl1 xc1) ∧ l.length ≤ Rows.uptoBulk d1 := by
    obtain ⟨m, hm⟩ := h1
    exact bytes_in (x := (d1, p1)) (by simpa [Value.cells] using hm)
  obtain ⟨xa2, xl2, xc2, rfl⟩ := okWide_slice Tryd.underlying31 (hval 2 31 v2 rfl rfl)
  obtain ⟨l2, hB2, hSh2, hL2⟩ : ∃ l : List UInt8, Bs W W.heap.size (.slice xa2 xl2 xc2) l ∧ Shp (.slice xa2 xl2 xc2) ∧ l.length ≤ Rows.uptoBulk d2 := by
    obtain ⟨m, hm⟩ := h2
    exact bytes_in (x := (d2, p2)) (by simpa [Value.cells] using hm)
  have hb : 1 + Rows.uptoBulk d1 + Rows.uptoBulk d2 ≤ 1048576 := by
    have h := of_decide_eq_true hk
    rw [hd, x0, x1, x2] at h
    simp only [List.append_nil, Rows.uptoBulkAll, Rows.uptoBulk] at h
    omega
  clear hA0
  simp only [List.append_nil] at hW'
  refine (behind_walk fk fl fx _ _ l1 l2 W hB1 hSh1 hB2 hSh2 (by omega) (mx_of hS)).mono fun e W' ⟨he, bel⟩ => ?_
  subst he
  exact ⟨_, rfl, _, _, _, [], _, [], hW', trodAll_mk1 (shut_bool Tryd.underlying4 _), (trodAll_cons_mk (Below.trod laidOut (by kernel_rfl) (of_decide_eq_true (by kernel_rfl)) j0 bel lt0) (trodAll_cons_mk (Below.trod laidOut (by kernel_rfl) (of_decide_eq_true (by kernel_rfl)) j1 bel lt1) (trodAll_cons_mk (Below.trod laidOut (by kernel_rfl) (of_decide_eq_true (by kernel_rfl)) j2 bel lt2) trodAll_mk0))), rfl, bel.frame _, fun h => by cases h⟩

theorem reads (os : Os) {H : Type} (enc : TypeId × Value → H) : ∃ places, DataW.whole enc Tryd.prog ((World.laidAll Tryd.prog os laid2).forCall (fun _ _ => 0) ⟨#[], #[.agg #[.int .i64 0, .int .i64 0, .bool false], .slice none 0 0, .slice none 0 0], []⟩).memory Tryd.f7.params.toList Rows.bodyBehindSpec.vars false (#[.agg #[.int .i64 0, .int .i64 0, .bool false], .slice none 0 0, .slice none 0 0] : Array Value).toList 8 = some ([.agg [.lit (.int .i64 0), .lit (.int .i64 0), .lit (.bool false)], .nil, .nil], [], places) :=
  ⟨[], by kernel_rfl⟩

set_option maxRecDepth 100000 in
theorem lifted (os : Os) (started : os.Started) (H : Type) (enc : TypeId × Value → H) (F : Stop.Interp) :
    ReturnsInHanded {} Tryd.checked os 7 .any ((Rows.OpenSpec.upto Rows.bodyBehindSpec).preRow enc Tryd.prog Tryd.f7 Rows.bodyBehindUptoRow.domain false Rows.bodyBehindUptoRow.laid) (((Rows.OpenSpec.upto Rows.bodyBehindSpec).at F).post enc Tryd.prog Tryd.f7 false true false false) := by
  obtain ⟨places, hx⟩ := reads os enc
  refine returnsInHanded_of_row (C := Tryd.checked) (s := Rows.OpenSpec.upto Rows.bodyBehindSpec) own started (by kernel_rfl) Tryd.func7
    (witness_row_at (enc := enc) (C := Tryd.checked) false (World.laidAll Tryd.prog os laid2) #[.agg #[.int .i64 0, .int .i64 0, .bool false], .slice none 0 0, .slice none 0 0] (World.laidAll_os _ _ _) (by kernel_rfl) (by kernel_rfl) (by kernel_rfl)
      (OpenSpec.preRow_of_cond 8 hx (by kernel_rfl) (fun k hk => by cases hk; kernel_rfl) (by kernel_rfl) (met2 os _))) ?_
  intro W base args ds gs before hval hW _ hcond hsz hL hS _
  exact contract H enc W base args ds gs before hval hW hsz (hcond _ rfl) hL hS

theorem said : Rows.BodyBehindUptoSaid :=
  OpenClaim.holds_of_cond 7 Tryd.f7 rfl rfl rfl rfl rfl rfl rfl ⟨rfl, rfl, rfl, rfl, rfl⟩ rfl rfl rfl rfl rfl (by kernel_rfl) Tryd.func7 (by kernel_rfl)
    (of_decide_eq_true (by kernel_rfl)) (by unfold Func.isWrapper; first | (rw [if_pos (by decide +kernel)]; kernel_rfl) | (rw [if_neg (by decide +kernel)]; exact ⟨rfl, rfl⟩))
    (fun os started H enc _ F => by rw [OpenClaim.pre_eq_preRow]; exact lifted os started H enc F)

theorem plain (f : FuncId) (fn : Func) (hf : Tryd.pinned.checked.prog.funcNamed "headrace/headracelaw11.BodyBehind" = some f) (hfn : Tryd.pinned.checked.prog.funcs[f]? = some fn) :
    false = Tryd.pinned.checked.prog.looks [] ∧ ∀ (j : Nat) t, fn.params[j]? = some t → Tryd.pinned.checked.prog.wantsStandIn t = false := by
  obtain rfl : f = 7 := Option.some.inj ((show Tryd.prog.funcNamed "headrace/headracelaw11.BodyBehind" = some 7 by kernel_rfl).symm.trans hf) |>.symm
  obtain rfl : fn = Tryd.f7 := (Option.some.inj (Tryd.func7.symm.trans hfn)).symm
  refine ⟨by kernel_rfl, fun j t ht => ?_⟩
  rw [Tryd.params7] at ht
  have hm : t ∈ [23, 31, 31] := by simpa using Array.mem_of_getElem? ht
  have hall : ([23, 31, 31].all fun u => !Tryd.prog.wantsStandIn u) = true := by kernel_rfl
  exact (show Tryd.prog.wantsStandIn t = false by simpa using List.all_eq_true.1 hall t hm)
end Go.Proofs.YtggeihahbgeneaaDoor.bodyBehind
namespace Go.Proofs.YtggeihahbgeneaaDoor
theorem bodyBehindUpto_holds : Rows.BodyBehindUptoCardSaid :=
  Claim7.holds_tied_plain_at .later [] _ _ _ _ bodyBehind.said (fun _ h => by cases h) (by kernel_rfl) (fun _ h => by cases h) bodyBehindUpto_row_tie rfl ⟨rfl, rfl⟩ (by kernel_rfl) rfl bodyBehind.plain (by kernel_rfl)
#print axioms bodyBehindUpto_holds
end Go.Proofs.YtggeihahbgeneaaDoor
