/- New. -/
import Derived.Test.YtggeihahbgeneaaDoorBFd
namespace Go.Proofs.YtggeihahbgeneaaDoor
open Go.ChangeShapes Go.WideShapes Go.ChangeAt Go.RowKit

def frV (k len : Int) (x : Bool) : Value := .agg #[.int .i64 k, .int .i64 len, .bool x]
def isR (k len : Int) : Bool := if k = 2 then decide (0 ≤ len ∧ len ≤ 9007199254740992) else if k = 1 ∨ k = 3 ∨ k = 4 then decide (len = 0) else false
set_option maxHeartbeats 4000000 in
set_option maxRecDepth 100000 in
theorem isRight_any (k len : Int) (x : Bool) (w : World) : Calls Tryd.prog 17 #[frV k len x] w fun e w' => e = .returned (.bool (isR k len)) ∧ Below w.heap.size w w' := by
  have fin : ∀ W, W = w.alloc (.cells #[.int .i64 k, .int .i64 len, .bool x] 23) → Below w.heap.size w W := by rintro W rfl; exact (Below.refl w.heap.size w).alloc (Nat.le_refl _) _
  have FIN := hide fin
  clear fin
  unfold frV
  obtain ⟨R, hR⟩ : ∃ R, isR k len = R := ⟨_, rfl⟩
  rw [hR]
  unfold isR at hR
  by_cases h2 : k = 2
  · subst h2
    rw [if_pos rfl] at hR
    by_cases h3 : 0 ≤ len
    · by_cases h4 : len ≤ 9007199254740992
      · have HR := hide (hR.symm.trans (decide_eq_true (And.intro h3 h4)))
        clear hR
        go_enter Tryd.func17, Tryd.ntmps17
        go_wp2
        go_ret
        exact ⟨ret_bool (by first | (rw [HR.out]) | (rw [HR.out]; simp; omega)), FIN.out _ rfl⟩
      · have HR := hide (hR.symm.trans (decide_eq_false (fun h => h4 h.2)))
        clear hR
        go_enter Tryd.func17, Tryd.ntmps17
        go_wp2
        go_ret
        exact ⟨ret_bool (by first | (rw [HR.out]) | (rw [HR.out]; simp; omega)), FIN.out _ rfl⟩
    · have HR := hide (hR.symm.trans (decide_eq_false (fun h => h3 h.1)))
      clear hR
      go_enter Tryd.func17, Tryd.ntmps17
      go_wp2
      go_ret
      exact ⟨ret_bool (by first | (rw [HR.out]) | (rw [HR.out]; simp; omega)), FIN.out _ rfl⟩
  · have t2 : (k == 2) = false := by rw [beq_eq_false_iff_ne]; exact h2
    rw [if_neg h2] at hR
    by_cases h134 : k = 1 ∨ k = 3 ∨ k = 4
    · rw [if_pos h134] at hR
      have HR := hide hR
      have HL : Hid ((len == 0) = decide (len = 0)) := hide (by rw [Bool.eq_iff_iff]; simp)
      clear hR h2 t2
      rcases h134 with rfl | rfl | rfl
      all_goals (
        go_enter Tryd.func17, Tryd.ntmps17
        go_wp2
        go_ret
        exact ⟨ret_bool (by rw [← HR.out]; exact HL.out), FIN.out _ rfl⟩)
    · rw [if_neg h134] at hR
      rw [not_or, not_or] at h134
      have t1 : (k == 1) = false := by rw [beq_eq_false_iff_ne]; exact h134.1
      have t3 : (k == 3) = false := by rw [beq_eq_false_iff_ne]; exact h134.2.1
      have t4 : (k == 4) = false := by rw [beq_eq_false_iff_ne]; exact h134.2.2
      have HR := hide hR
      clear hR h2 h134
      go_enter Tryd.func17, Tryd.ntmps17
      go_wp2
      go_ret
      exact ⟨ret_bool HR.out, FIN.out _ rfl⟩
/-- What framedBy makes. -/
def FbP (w w' : World) (r : Value) (it ct : TypeId) (t : Tal) (X : List Value) : Prop := ∃ g, r = .iface it (.pointer (some ⟨g, 0, none⟩)) ∧ w.heap.size ≤ g ∧ w'.heap[g]? = some (.cells (talC t ++ X).toArray ct (0, 0)) ∧ Below w.heap.size w w'
theorem fb_mk {w : World} (a : Array Value) (ta : TypeId) (it ct : TypeId) (t : Tal) (X : List Value) : FbP w ((w.alloc (.cells a ta)).alloc (.cells (talC t ++ X).toArray ct)) (.iface it (.pointer (some ⟨w.heap.size + 1, 0, none⟩))) it ct t X := by
  have h := hp_new (w.alloc (.cells a ta)) (.cells (talC t ++ X).toArray ct)
  have hs : (w.alloc (.cells a ta)).heap.size = w.heap.size + 1 := by simp
  rw [hs] at h
  exact ⟨w.heap.size + 1, rfl, by omega, h, ((Below.refl w.heap.size w).alloc (Nat.le_refl _) _).alloc (by omega) _⟩
set_option maxHeartbeats 4000000 in
set_option maxRecDepth 100000 in
theorem framed_len (len : Nat) (x : Bool) (most : Int) (w : World) : Calls Tryd.prog 18 #[frV 2 (len : Int) x, .int .i64 most] w fun e w' => ∃ r, e = .returned r ∧ FbP w w' r 60 62 ⟨0, decide (len = 0), 0⟩ [.int .i64 (len : Int)] := by
  have HF := hide (fb_mk (w := w) #[.int .i64 2, .int .i64 (len : Int), .bool x] 23 60 62 ⟨0, decide (len = 0), 0⟩ [.int .i64 (len : Int)])
  have HL : ((len : Int) == 0) = decide (len = 0) := by rw [Bool.eq_iff_iff]; simp
  unfold frV
  go_enter Tryd.func18, Tryd.ntmps18
  go_wp2
  go_ret
  exact ⟨_, rfl, HF.out⟩
set_option maxHeartbeats 4000000 in
set_option maxRecDepth 100000 in
theorem framed_clos (len : Int) (x : Bool) (most : Nat) (w : World) : Calls Tryd.prog 18 #[frV 4 len x, .int .i64 (most : Int)] w fun e w' => ∃ r, e = .returned r ∧ FbP w w' r 69 71 ⟨0, false, 0⟩ [.int .i64 (most : Int)] := by
  have HF := hide (fb_mk (w := w) #[.int .i64 4, .int .i64 len, .bool x] 23 69 71 ⟨0, false, 0⟩ [.int .i64 (most : Int)])
  unfold frV
  go_enter Tryd.func18, Tryd.ntmps18
  go_wp2
  go_ret
  exact ⟨_, rfl, HF.out⟩
set_option maxHeartbeats 4000000 in
set_option maxRecDepth 100000 in
theorem framed_none (len : Int) (x : Bool) (most : Int) (w : World) : Calls Tryd.prog 18 #[frV 1 len x, .int .i64 most] w fun e w' => ∃ r, e = .returned r ∧ FbP w w' r 72 74 ⟨0, true, 0⟩ [] := by
  have HF := hide (fb_mk (w := w) #[.int .i64 1, .int .i64 len, .bool x] 23 72 74 ⟨0, true, 0⟩ [])
  unfold frV
  go_enter Tryd.func18, Tryd.ntmps18
  go_wp2
  go_ret
  exact ⟨_, rfl, HF.out⟩
/-- A reader that is new. -/
def NwP (w w' : World) (e : Ending) (it ct : TypeId) (t : Tal) (X : List Value) : Prop := ∃ gr g, e = .returned (.tuple #[.pointer (some ⟨gr, 0, none⟩), .int .i64 0]) ∧ w.heap.size ≤ gr ∧ w.heap.size ≤ g ∧ Below w.heap.size w w' ∧ (overT t = true → ∃ g', w.heap.size ≤ g' ∧ Rdr w' w.heap.size gr g' 72 74 t []) ∧ (overT t = false → Rdr w' w.heap.size gr g it ct t X)
set_option maxHeartbeats 4000000 in
set_option maxRecDepth 100000 in
theorem new_of {k len : Int} {x : Bool} {most : Int} {w : World} {it ct : TypeId} {t : Tal} {X : List Value} (hk : KT it) (h0 : 0 ≤ most) (hm : most ≤ 9007199254740992) (hr : isR k len = true) (hl : len ≤ most)
    (hf : ∀ W, Calls Tryd.prog 18 #[frV k len x, .int .i64 most] W fun e w' => ∃ r, e = .returned r ∧ FbP W w' r it ct t X) :
    Calls Tryd.prog 8 #[frV k len x, .int .i64 most] w fun e w' => NwP w w' e it ct t X := by
  have HF := hide hf
  have HI := hide (fun W => isRight_any k len x W)
  rw [hr] at HI
  have HK := hide hk
  have t1 : ¬ most < 0 := by omega
  have t2 : ¬ 9007199254740992 < most := by omega
  have t3 : ¬ most < len := by omega
  clear hf hk hr
  unfold frV at HF HI ⊢
  go_enter Tryd.func8, Tryd.ntmps8
  have BA := hide ((Below.refl w.heap.size w).alloc (Nat.le_refl _) (.cells #[.int .i64 k, .int .i64 len, .bool x] 23))
  have HB := hide (hp_new w (.cells #[.int .i64 k, .int .i64 len, .bool x] 23))
  have HLT := lt_heap' HB.out
  go_upto_region 1 with fail
  generalize w.alloc (.cells #[.int .i64 k, .int .i64 len, .bool x] 23) = W0 at BA HB HLT ⊢
  have c0 : W0.cell? ⟨w.heap.size, 0, none⟩ = some (.int .i64 k) := cell_at HB.out 0
  have c1 : W0.cell? ⟨w.heap.size, 1, none⟩ = some (.int .i64 len) := cell_at HB.out 1
  have c2 : W0.cell? ⟨w.heap.size, 2, none⟩ = some (.bool x) := cell_at HB.out 2
  go_wp2_with fail
  refine (HI.out W0).mono ?_
  rintro e W1 ⟨rfl, b1⟩
  have B1 := hide (BA.out.trans (b1.mono BA.out.size))
  have HB1 := hide ((b1.block w.heap.size HLT).trans HB.out)
  clear c0 c1 c2 b1 HI
  have c0 : W1.cell? ⟨w.heap.size, 0, none⟩ = some (.int .i64 k) := cell_at HB1.out 0
  have c1 : W1.cell? ⟨w.heap.size, 1, none⟩ = some (.int .i64 len) := cell_at HB1.out 1
  have c2 : W1.cell? ⟨w.heap.size, 2, none⟩ = some (.bool x) := cell_at HB1.out 2
  go_wp2_with fail
  refine (HF.out W1).mono ?_
  rintro e W2 ⟨r, rfl, g, rfl, hg, hfr, b2⟩
  have B2 := hide (B1.out.trans (b2.mono B1.out.size))
  have HG := hide hg
  have HFR := hide hfr
  have hgl := lt_heap' hfr
  clear c0 c1 c2 b2 hg hfr HF
  go_upto_region 6 with fail
  have BN := hide ((Below.refl W2.heap.size W2).alloc (Nat.le_refl _) (.cells #[.iface it (.pointer (some ⟨g, 0, none⟩))] 52))
  have HN := hide (hp_new W2 (.cells #[.iface it (.pointer (some ⟨g, 0, none⟩))] 52))
  have hww : w.heap.size ≤ W1.heap.size := B1.out.size
  have hw2 : w.heap.size ≤ W2.heap.size := B2.out.size
  have HRD : Hid (Rdr (W2.alloc (.cells #[.iface it (.pointer (some ⟨g, 0, none⟩))] 52)) w.heap.size W2.heap.size g it ct t X) := hide ⟨HN.out, (BN.out.block g hgl).trans HFR.out, by omega, hw2, by have := HG.out; omega⟩
  have B3 := hide (B2.out.trans (BN.out.mono B2.out.size))
  generalize W2.alloc (.cells #[.iface it (.pointer (some ⟨g, 0, none⟩))] 52) = W3 at BN HN HRD B3 ⊢
  go_wp2_with fail
  refine (settle_any HRD.out HK.out B3.out.size).mono ?_
  rintro e W4 ⟨rfl, hs⟩
  have HS := hide hs
  have B4 := hide (B3.out.trans (hs.2.2.1.low hw2 (by have := HG.out; omega) B3.out.size))
  clear hs
  go_wp2
  go_ret2
  exact ⟨W2.heap.size, g, rfl, hw2, by have := HG.out; omega, B4.out, fun h => (by obtain ⟨g', q1, q2⟩ := HS.out.1 h; exact ⟨g', Nat.le_trans B3.out.size q1, q2⟩), HS.out.2.1⟩
end Go.Proofs.YtggeihahbgeneaaDoor
