/- A bucket's calls, the program's: what each tells, and what it leaves. -/
import Derived.Test.YtcgkgncfmiaonaaBase
namespace Go.Proofs.Ytcgkgncfmiaonaa
open Go.ChangeShapes Go.WideShapes Go.ChangeAt Go.RowKit

/-- A bucket's block. -/
def Bk (T : TypeId) (w : World) (b : Nat) (rt pe bu lv at_ : Int) : Prop := w.heap[b]? = some (.cells #[.int .i64 rt, .int .i64 pe, .int .i64 bu, .int .i64 lv, .int .i64 at_] T (0, 0))
structure Lim (rt pe bu lv at_ : Int) : Prop where
  r0 : 0 ≤ rt
  r1 : rt ≤ 1000000
  p0 : 1 ≤ pe
  p1 : pe ≤ 1000000
  b0 : 0 ≤ bu
  b1 : bu ≤ 1000000
  l0 : 0 ≤ lv
  l1 : lv ≤ bu * pe
  a0 : 0 ≤ at_
  a1 : at_ ≤ 4611686018427387904
theorem full_le {rt pe bu lv at_ : Int} (L : Lim rt pe bu lv at_) : 0 ≤ bu * pe ∧ bu * pe ≤ 1000000000000 := by
  have h1 := Int.mul_le_mul L.b1 L.p1 (by have := L.p0; omega) (by omega : (0:Int) ≤ 1000000)
  have h0 := Int.mul_nonneg L.b0 (by have := L.p0; omega : 0 ≤ pe)
  omega
/-- The level so many ticks later. -/
def nl (rt full lv g : Int) : Int := if lv + rt * g ≤ full then lv + rt * g else full
def bE (now : Int) : Int := if mom now then 0 else 1
def bL (rt full lv at_ now : Int) : Int := if mom now then nl rt full lv (untR at_ now) else lv
def bA (at_ now : Int) : Int := if mom now then at_ + untR at_ now else at_
def tkN (rt pe full lv at_ now : Int) : Int := if mom now then (bL rt full lv at_ now).tdiv pe else 0
def tkB (rt pe full lv at_ now : Int) : Bool := mom now && decide (pe ≤ bL rt full lv at_ now)
def tkL (rt pe full lv at_ now : Int) : Int := if tkB rt pe full lv at_ now then bL rt full lv at_ now - pe else bL rt full lv at_ now
def nxB (rt pe bu lv at_ : Int) : Bool := decide (pe ≤ lv) || (!(decide (rt = 0) || decide (bu = 0)) && decide (at_ + (pe - lv + rt - 1).tdiv rt ≤ 4611686018427387904))
def nxN (rt pe bu lv at_ : Int) : Int := if pe ≤ lv then at_ else if nxB rt pe bu lv at_ then at_ + (pe - lv + rt - 1).tdiv rt else 0

theorem mom_iff {t : Int} : mom t = true ↔ (0 ≤ t ∧ t ≤ 4611686018427387904) := by simp [mom]
theorem unt_ge (a b : Int) : 0 ≤ untR a b := by unfold untR; split <;> omega
theorem nl_le {rt full lv g : Int} (h0 : 0 ≤ lv) (h1 : lv ≤ full) (hr : 0 ≤ rt) (hg : 0 ≤ g) : 0 ≤ nl rt full lv g ∧ nl rt full lv g ≤ full := by
  have := Int.mul_nonneg hr hg
  unfold nl; split <;> omega
theorem nl_zero {rt full lv : Int} (h1 : lv ≤ full) : nl rt full lv 0 = lv := by
  unfold nl; rw [Int.mul_zero, Int.add_zero, if_pos h1]
theorem Lim.bring {rt pe bu lv at_ : Int} (L : Lim rt pe bu lv at_) (now : Int) : Lim rt pe bu (bL rt (bu * pe) lv at_ now) (bA at_ now) := by
  unfold bL bA
  by_cases hm : mom now = true
  · rw [if_pos hm, if_pos hm]
    have h := nl_le L.l0 L.l1 L.r0 (unt_ge at_ now)
    refine ⟨L.r0, L.r1, L.p0, L.p1, L.b0, L.b1, h.1, h.2, ?_, ?_⟩
    · have := unt_ge at_ now; have := L.a0; omega
    · have := mom_iff.1 hm; have := L.a0; have := L.a1; unfold untR; split <;> omega
  · rw [if_neg hm, if_neg hm]; exact L
theorem Lim.take {rt pe bu lv at_ : Int} (L : Lim rt pe bu lv at_) (now : Int) : Lim rt pe bu (tkL rt pe (bu * pe) lv at_ now) (bA at_ now) := by
  have B := L.bring now
  unfold tkL
  split
  · rename_i h
    unfold tkB at h
    simp only [Bool.and_eq_true, decide_eq_true_eq] at h
    exact ⟨B.r0, B.r1, B.p0, B.p1, B.b0, B.b1, by omega, by have := B.l1; have := B.p0; omega, B.a0, B.a1⟩
  · exact B

theorem div_lt {x rt g : Int} (hx : 0 ≤ x) (hr : 0 < rt) : x.tdiv rt < g ↔ x < rt * g := by
  rw [Int.tdiv_eq_ediv_of_nonneg hx, Int.ediv_lt_iff_lt_mul hr, Int.mul_comm]
theorem div_bd {x rt : Int} (hx : 0 ≤ x) (hr : 0 < rt) : 0 ≤ x.tdiv rt ∧ x.tdiv rt ≤ x := by
  rw [Int.tdiv_eq_ediv_of_nonneg hx]
  exact ⟨Int.ediv_nonneg hx (by omega), Int.ediv_le_self _ hx⟩

theorem later_any (w : World) (b : Nat) (rt pe bu lv at_ g : Int) (h : Bk 54 w b rt pe bu lv at_) (L : Lim rt pe bu lv at_) (g0 : 0 ≤ g) :
    Calls Try.prog 29 #[.pointer (some ⟨b, 0, none⟩), .int .i64 g] w fun e w' => e = .returned (.int .i64 (nl rt (bu * pe) lv g)) ∧ Fr none' w w' := by
  have c0 : w.cell? ⟨b, 0, none⟩ = some (.int .i64 rt) := cell_of h 0
  have c1 : w.cell? ⟨b, 1, none⟩ = some (.int .i64 pe) := cell_of h 1
  have c2 : w.cell? ⟨b, 2, none⟩ = some (.int .i64 bu) := cell_of h 2
  have c3 : w.cell? ⟨b, 3, none⟩ = some (.int .i64 lv) := cell_of h 3
  obtain ⟨f0, f1⟩ := full_le L
  have l0 := L.l0
  have l1 := L.l1
  have r0 := L.r0
  have g1 := hide (nl_zero (rt := rt) (lv := lv) (full := bu * pe) l1)
  by_cases hr : rt = 0
  · subst hr
    have hz : Hid (nl 0 (bu * pe) lv g = lv) := hide (by unfold nl; rw [Int.zero_mul, Int.add_zero, if_pos l1])
    rw [hz.out]
    clear h L hz g1
    go_enter Try.func29, Try.ntmps29
    go_wp2_with fail
    go_quiet (fail)
    go_wp2_with fail
    go_quiet (fail)
    go_wp2_with fail
    go_quiet (fail)
    go_wp2_with fail
    go_ret
    refine ⟨rfl, ?_⟩; repeat apply Fr.d
    exact Fr.refl _ _
  · have hp : 0 < rt := by omega
    have hx : 0 ≤ bu * pe - lv := by omega
    have hd := div_bd hx hp
    obtain ⟨d0, d1⟩ := hd
    have hi := hide (div_lt (g := g) hx hp)
    by_cases hq : (bu * pe - lv).tdiv rt < g
    · have hz : Hid (nl rt (bu * pe) lv g = bu * pe) := hide (by have := hi.out.1 hq; unfold nl; rw [if_neg (by omega)])
      rw [hz.out]
      have hq1 : decide ((bu * pe - lv).tdiv rt < g) = true := decide_eq_true hq
      clear h L hz g1 hi
      go_enter Try.func29, Try.ntmps29
      go_wp2_with fail
      go_quiet (fail)
      go_wp2_with fail
      go_quiet (fail)
      go_wp2_with fail
      go_ret
      refine ⟨rfl, ?_⟩; repeat apply Fr.d
      exact Fr.refl _ _
    · have hn : rt * g ≤ bu * pe - lv := by have := mt hi.out.2 hq; omega
      have hn0 := Int.mul_nonneg r0 g0
      have hz : Hid (nl rt (bu * pe) lv g = lv + rt * g) := hide (by unfold nl; rw [if_pos (by omega)])
      rw [hz.out]
      have hq1 : decide ((bu * pe - lv).tdiv rt < g) = false := decide_eq_false hq
      clear h L hz g1 hi
      go_enter Try.func29, Try.ntmps29
      go_wp2_with fail
      go_quiet (fail)
      go_wp2_with fail
      go_quiet (fail)
      go_wp2_with fail
      go_quiet (fail)
      go_wp2_with fail
      go_ret
      refine ⟨rfl, ?_⟩; repeat apply Fr.d
      exact Fr.refl _ _

end Go.Proofs.Ytcgkgncfmiaonaa
