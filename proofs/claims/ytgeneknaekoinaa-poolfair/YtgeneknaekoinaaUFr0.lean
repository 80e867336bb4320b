/- Those who wait, one behind the other: what each call tells of them. -/
import Derived.Test.YtgeneknaekoinaaUCap
namespace Go.Proofs.Ytgeneknaekoinaa
open Go.ChangeShapes Go.WideShapes Go.ChangeAt Go.RowKit
set_option linter.unusedVariables false

/-- The numbers from a on, below b. -/
def rng (a b : Nat) : List Int := (List.range (b - a)).map (fun x => ((a + x : Nat) : Int))
theorem rng_len (a b : Nat) : (rng a b).length = b - a := by simp [rng]
theorem rng_nil {a b : Nat} (h : b ≤ a) : rng a b = [] := by unfold rng; rw [Nat.sub_eq_zero_of_le h]; rfl
theorem rng_snoc {a b : Nat} (h : a ≤ b) : rng a (b + 1) = rng a b ++ [(b : Int)] := by
  unfold rng
  rw [show b + 1 - a = (b - a) + 1 by omega, List.range_succ, List.map_append]
  simp
  omega
theorem rng_cons {a b : Nat} (h : a < b) : rng a b = (a : Int) :: rng (a + 1) b := by
  unfold rng
  rw [show b - a = (b - (a + 1)) + 1 by omega, List.range_succ_eq_map]
  simp
  intro x hx
  omega
theorem rng_mem {a b : Nat} {x : Int} (h : x ∈ rng a b) : (a : Int) ≤ x ∧ x < (b : Int) := by
  unfold rng at h
  obtain ⟨y, hy, rfl⟩ := List.mem_map.1 h
  have := List.mem_range.1 hy
  omega
theorem idx1 {α : Type} (q : α → Bool) (r : α) : idx q [r] = if q r then 0 else -1 := by
  unfold idx
  cases h : q r <;> simp [List.findIdx?_cons, h]
theorem idx_no {α : Type} {q : α → Bool} {L : List α} (h : ∀ x ∈ L, q x = false) : idx q L = -1 := by
  unfold idx
  rw [List.findIdx?_eq_none_iff.2 h]
theorem lat1 {p : Pm} {now : Int} {r : Rk} (h : p.R = [r]) : lat p now = if (r.st == 2) && goodB p r now then 0 else -1 := by
  unfold lat
  rw [h]
  show bst p now [r] 1 = _
  rw [bst_succ (r := r) rfl]
  unfold tkB
  simp [bst]
theorem lat0 {p : Pm} {now : Int} (h : p.R = []) : lat p now = -1 := by unfold lat; rw [h]; rfl
def fP (aa re : Int) (R : List Rk) (Q : List Int) : Pm := ⟨1, 64, 1000000, 1000000, aa, re, R, Q⟩
/-- Asked by the first i of them. -/
def fa (i : Nat) : Pm := if i = 0 then fP 0 0 [] [] else fP 1 0 [⟨0, 0, 0, 0, 0, 0⟩] (rng 1 i)
theorem fa_ask {i : Nat} (h : i < 60) : askE (fa i) 0 (i : Int) = 0 ∧ askP (fa i) 0 (i : Int) = fa (i + 1) := by
  cases i with
  | zero => exact ⟨rfl, rfl⟩
  | succ j =>
    have e : fa (j + 1) = fP 1 0 [⟨0, 0, 0, 0, 0, 0⟩] (rng 1 (j + 1)) := by unfold fa; rw [if_neg (by omega)]
    rw [e]
    have h1 : idx (isW ((j + 1 : Nat) : Int)) (fP 1 0 [⟨0, 0, 0, 0, 0, 0⟩] (rng 1 (j + 1))).R = -1 := by
      show idx _ [_] = -1
      rw [idx1, show isW ((j + 1 : Nat) : Int) ⟨0, 0, 0, 0, 0, 0⟩ = false by unfold isW; simp; omega]
      rfl
    have h2 : idx (isN ((j + 1 : Nat) : Int)) (fP 1 0 [⟨0, 0, 0, 0, 0, 0⟩] (rng 1 (j + 1))).Q = -1 := by
      refine idx_no (fun x hx => ?_)
      have := rng_mem hx
      unfold isN
      simp
      omega
    have h3 : askE (fP 1 0 [⟨0, 0, 0, 0, 0, 0⟩] (rng 1 (j + 1))) 0 ((j + 1 : Nat) : Int) = 0 := by
      unfold askE
      rw [if_pos ⟨rfl, by omega⟩, h1, h2, if_neg (by omega)]
    refine ⟨h3, ?_⟩
    have h4 : gvB (fP 1 0 [⟨0, 0, 0, 0, 0, 0⟩] (rng 1 (j + 1))) 0 = false := by
      unfold gvB
      rw [lat1 (r := ⟨0, 0, 0, 0, 0, 0⟩) rfl]
      rfl
    unfold askP
    rw [h3, h4, if_neg (by simp), if_neg (by simp), if_pos (by show ((rng 1 (j + 1)).length : Int) < 64; rw [rng_len]; omega)]
    have e2 : fa (j + 1 + 1) = fP 1 0 [⟨0, 0, 0, 0, 0, 0⟩] (rng 1 (j + 1 + 1)) := by unfold fa; rw [if_neg (by omega)]
    rw [e2]
    exact congrArg (fP 1 0 [⟨0, 0, 0, 0, 0, 0⟩]) (rng_snoc (a := 1) (b := j + 1) (by omega)).symm
/-- The i-th works, those behind wait; the connection is kept. -/
def gk (i n : Nat) : Pm := fP 1 ((i : Int) - 1) [⟨0, 1, (i : Int) - 1, 0, 0, 0⟩] (rng i n)
/-- .. or it is a new one each time. -/
def gn (i n : Nat) (bo : Int) : Pm := fP i 0 [⟨(i : Int) - 1, 1, (i : Int) - 1, bo, 0, 0⟩] (rng i n)
def gu (i n : Nat) : Pm := fP ((i : Int) + 1) 0 [⟨(i : Int), 0, (i : Int), 1, 0, 0⟩] (rng (i + 1) n)
theorem gk_done {i n : Nat} (h1 : 1 ≤ i) (h2 : i < n) : dnE (gk i n) 1 0 = 0 ∧ dnA (gk i n) 1 0 true = [⟨2, 0, (i : Int)⟩] ∧ dnP (gk i n) 1 0 true = gk (i + 1) n := by
  have e0 : idx (isC 0) (gk i n).R = 0 := rfl
  have e1 : rowC (gk i n) 0 = ⟨0, 1, (i : Int) - 1, 0, 0, 0⟩ := rfl
  have e2 : dnE (gk i n) 1 0 = 0 := rfl
  have e3 : dnK (gk i n) 1 0 true = true := rfl
  have e4 : dn1 (gk i n) 1 0 true = fP 1 (i : Int) [⟨0, 2, -1, 0, 1, (i : Int) - 1⟩] (rng i n) := by
    unfold dn1
    rw [e3, if_pos rfl, e0, e1]
    show fP 1 ((i : Int) - 1 + 1) [_] _ = _
    rw [show (i : Int) - 1 + 1 = i by omega]
    rfl
  have e5 : dn0 (gk i n) 1 0 true = [] := by unfold dn0; rw [e3]; rfl
  have hq : (fP 1 (i : Int) [⟨0, 2, -1, 0, 1, (i : Int) - 1⟩] (rng i n)).Q = (i : Int) :: rng (i + 1) n := rng_cons h2
  have hl : lat (fP 1 (i : Int) [⟨0, 2, -1, 0, 1, (i : Int) - 1⟩] (rng i n)) 1 = 0 := by rw [lat1 (r := ⟨0, 2, -1, 0, 1, (i : Int) - 1⟩) rfl]; rfl
  have hg : gvB (fP 1 (i : Int) [⟨0, 2, -1, 0, 1, (i : Int) - 1⟩] (rng i n)) 1 = true := by unfold gvB; rw [hl]; rfl
  obtain ⟨s1, s2⟩ := sv_go hg hq
  have ga : gvA (fP 1 (i : Int) [⟨0, 2, -1, 0, 1, (i : Int) - 1⟩] (rng i n)) 1 (i : Int) = ⟨2, 0, (i : Int)⟩ := by unfold gvA; rw [hl]; rfl
  have gp : ({ gvP (fP 1 (i : Int) [⟨0, 2, -1, 0, 1, (i : Int) - 1⟩] (rng i n)) 1 (i : Int) with Q := rng (i + 1) n } : Pm) = gk (i + 1) n := by
    unfold gvP
    rw [hl, if_neg (by omega)]
    unfold gk
    rw [show ((i + 1 : Nat) : Int) - 1 = (i : Int) by omega]
    rfl
  rw [ga, gp] at s1
  rw [gp] at s2
  have hst : gvB (gk (i + 1) n) 1 = false := by unfold gvB; rw [lat1 (r := ⟨0, 1, ((i + 1 : Nat) : Int) - 1, 0, 0, 0⟩) rfl]; rfl
  rw [(sv_stop hst).1] at s1
  rw [(sv_stop hst).2] at s2
  refine ⟨e2, ?_, ?_⟩
  · unfold dnA
    rw [if_pos e2, e4, e5, s1]
    rfl
  · unfold dnP
    rw [if_pos e2, e4, s2]
theorem gn_done {i n : Nat} {bo : Int} (h1 : 1 ≤ i) (h2 : i < n) : dnE (gn i n bo) 1 ((i : Int) - 1) = 0 ∧ dnA (gn i n bo) 1 ((i : Int) - 1) false = [⟨5, (i : Int) - 1, -1⟩, ⟨1, (i : Int), (i : Int)⟩] ∧ dnP (gn i n bo) 1 ((i : Int) - 1) false = gu i n := by
  have e0 : idx (isC ((i : Int) - 1)) (gn i n bo).R = 0 := by
    show idx _ [_] = 0
    rw [idx1, show isC ((i : Int) - 1) ⟨(i : Int) - 1, 1, (i : Int) - 1, bo, 0, 0⟩ = true by unfold isC; simp]
    rfl
  have e1 : rowC (gn i n bo) ((i : Int) - 1) = ⟨(i : Int) - 1, 1, (i : Int) - 1, bo, 0, 0⟩ := by unfold rowC; rw [e0]; rfl
  have e2 : dnE (gn i n bo) 1 ((i : Int) - 1) = 0 := by unfold dnE; rw [e0, e1]; rfl
  have e3 : dnK (gn i n bo) 1 ((i : Int) - 1) false = false := rfl
  have e4 : dn1 (gn i n bo) 1 ((i : Int) - 1) false = fP i 0 [] (rng i n) := by
    unfold dn1
    rw [e3, if_neg (by simp), e0]
    rfl
  have e5 : dn0 (gn i n bo) 1 ((i : Int) - 1) false = [⟨5, (i : Int) - 1, -1⟩] := by unfold dn0; rw [e3]; rfl
  have hq : (fP i 0 [] (rng i n)).Q = (i : Int) :: rng (i + 1) n := rng_cons h2
  have hl : lat (fP i 0 [] (rng i n)) 1 = -1 := lat0 rfl
  have hg : gvB (fP i 0 [] (rng i n)) 1 = true := by unfold gvB; rw [hl]; rfl
  obtain ⟨s1, s2⟩ := sv_go hg hq
  have ga : gvA (fP i 0 [] (rng i n)) 1 (i : Int) = ⟨1, (i : Int), (i : Int)⟩ := by unfold gvA; rw [hl]; rfl
  have gp : ({ gvP (fP i 0 [] (rng i n)) 1 (i : Int) with Q := rng (i + 1) n } : Pm) = gu i n := by
    unfold gvP
    rw [hl, if_pos rfl, if_neg (by show ¬ (1 : Int) ≤ ((0 : Nat) : Int); omega)]
    rfl
  rw [ga, gp] at s1
  rw [gp] at s2
  have hst : gvB (gu i n) 1 = false := by unfold gvB; rw [lat1 (r := ⟨(i : Int), 0, (i : Int), 1, 0, 0⟩) rfl]; rfl
  rw [(sv_stop hst).1] at s1
  rw [(sv_stop hst).2] at s2
  refine ⟨e2, ?_, ?_⟩
  · unfold dnA
    rw [if_pos e2, e4, e5, s1]
    rfl
  · unfold dnP
    rw [if_pos e2, e4, s2]
theorem gu_up (i n : Nat) : upE (gu i n) (i : Int) = 0 ∧ upW (gu i n) (i : Int) = (i : Int) ∧ upP (gu i n) (i : Int) = gn (i + 1) n 1 := by
  have e0 : idx (isC (i : Int)) (gu i n).R = 0 := by
    show idx _ [_] = 0
    rw [idx1, show isC (i : Int) ⟨(i : Int), 0, (i : Int), 1, 0, 0⟩ = true by unfold isC; simp]
    rfl
  have e1 : rowC (gu i n) (i : Int) = ⟨(i : Int), 0, (i : Int), 1, 0, 0⟩ := by unfold rowC; rw [e0]; rfl
  have e2 : upB (gu i n) (i : Int) = true := by unfold upB; rw [e0, e1]; rfl
  refine ⟨by unfold upE; rw [e2]; rfl, by unfold upW; rw [e2, e1]; rfl, ?_⟩
  unfold upP
  rw [e2, if_pos rfl, e0, e1]
  unfold gn
  rw [show ((i + 1 : Nat) : Int) - 1 = (i : Int) by omega]
  rfl
theorem fa_up {n : Nat} (h : 1 ≤ n) : upP (fa n) 0 = gk 1 n ∧ upP (fa n) 0 = gn 1 n 0 := by
  have e : fa n = fP 1 0 [⟨0, 0, 0, 0, 0, 0⟩] (rng 1 n) := by unfold fa; rw [if_neg (by omega)]
  rw [e]
  exact ⟨rfl, rfl⟩
theorem fP_ok {aa re K : Int} {R : List Rk} {Q : List Int} (a0 : 0 ≤ aa) (r0 : 0 ≤ re) (hq : Q.length ≤ 60) (a1 : aa + 60 ≤ K) (r1 : re ≤ K) (hl : R.length ≤ 1) (hr : ∀ r ∈ R, (0 ≤ r.bo ∧ r.bo ≤ 4611686018427387904) ∧ (0 ≤ r.si ∧ r.si ≤ 4611686018427387904) ∧ (0 ≤ r.st ∧ r.st ≤ 2)) : POk (fP aa re R Q) K :=
  ⟨by unfold fP; dsimp only; omega, by unfold fP; dsimp only; omega, by unfold fP; dsimp only; omega, by unfold fP; dsimp only; omega, by unfold fP; dsimp only; omega, by unfold fP; dsimp only; omega, by unfold fP; dsimp only; omega, by unfold fP; dsimp only; omega, a0, by unfold fP; dsimp only; omega, r0, r1, by unfold fP; dsimp only; omega, by unfold fP; dsimp only; omega, hr⟩
theorem fa_ok {i : Nat} (h : i ≤ 60) : POk (fa i) 1000 := by
  unfold fa
  split
  · exact fP_ok (by omega) (by omega) (by simp) (by omega) (by omega) (by simp) (fun r hr => by simp at hr)
  · exact fP_ok (by omega) (by omega) (by rw [rng_len]; omega) (by omega) (by omega) (by simp) (fun r hr => by simp at hr; subst hr; decide)
theorem gk_ok {i n : Nat} (h1 : 1 ≤ i) (h : n ≤ 60) (hi : i ≤ n) : POk (gk i n) 1000 := fP_ok (by omega) (by omega) (by rw [rng_len]; omega) (by omega) (by omega) (by simp) (fun r hr => by simp at hr; subst hr; dsimp only; omega)
theorem gn_ok {i n : Nat} {bo : Int} (h1 : 1 ≤ i) (h : n ≤ 60) (hi : i ≤ n) (b0 : 0 ≤ bo) (b1 : bo ≤ 1) : POk (gn i n bo) 1000 := fP_ok (by omega) (by omega) (by rw [rng_len]; omega) (by omega) (by omega) (by simp) (fun r hr => by simp at hr; subst hr; dsimp only; omega)
theorem gu_ok {i n : Nat} (h : n ≤ 60) (hi : i < n) : POk (gu i n) 1000 := fP_ok (by omega) (by omega) (by rw [rng_len]; omega) (by omega) (by omega) (by simp) (fun r hr => by simp at hr; subst hr; dsimp only; omega)
end Go.Proofs.Ytgeneknaekoinaa
