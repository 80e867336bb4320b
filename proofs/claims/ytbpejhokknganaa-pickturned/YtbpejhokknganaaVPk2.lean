/- The better one of two that are drawn: the program's and the document's; that the small case comes out true. -/
import Derived.Test.YtbpejhokknganaaVPk
namespace Go.Proofs.Ytbpejhokknganaa
open Go.ChangeShapes Go.WideShapes Go.ChangeAt Go.RowKit
set_option linter.unusedVariables false

/-- A slice of numbers. -/
def Ld (w : World) (ad : Option Addr) (len : Nat) (f : Nat → Int) : Prop := ∀ i, i < len → ∃ b off, ad = some ⟨b, off, none⟩ ∧ w.cell? ⟨b, off + i, none⟩ = some (.int .i64 (f i)) ∧ b < w.heap.size
theorem Ld.fr {w w' : World} {ad : Option Addr} {len : Nat} {f : Nat → Int} (h : Ld w ad len f) (F : Fr none' w w') : Ld w' ad len f := fun i hi => by
  obtain ⟨b, off, e, hc, hb⟩ := h i hi
  exact ⟨b, off, e, (World.cell?_of_block (F.block b hb id)).trans hc, Nat.lt_of_lt_of_le hb F.size⟩
theorem ld_of {w : World} {ad : Option Addr} {len : Nat} (h : ∀ i, i < len → ∃ b off, ∃ (x0 : Int), ad = some ⟨b, off, none⟩ ∧ (w.cell? ⟨b, off + i, none⟩ = some (.int .i64 x0)) ∧ b < w.heap.size ∧ (-9223372036854775808 ≤ x0 ∧ x0 ≤ 9223372036854775807)) : ∃ f, Ld w ad len f := by
  have : ∀ i, ∃ x : Int, i < len → ∃ b off, ad = some ⟨b, off, none⟩ ∧ w.cell? ⟨b, off + i, none⟩ = some (.int .i64 x) ∧ b < w.heap.size := fun i => by
    by_cases hi : i < len
    · obtain ⟨b, off, x, e, hc, hb, _⟩ := h i hi
      exact ⟨x, fun _ => ⟨b, off, e, hc, hb⟩⟩
    · exact ⟨0, fun x => absurd x hi⟩
  obtain ⟨f, hf⟩ := Classical.axiomOfChoice this
  exact ⟨f, fun i hi => hf i hi⟩
/-- The better one. -/
def btr (f : Nat → Int) (i j : Int) : Int := if f j.toNat < f i.toNat ∨ (f j.toNat = f i.toNat ∧ j < i) then j else i
def pkE (len : Nat) (a b : Int) : Int := if len = 0 then 6 else if 16 < len then 2 else if drw a && drw b then 0 else 1
def pkI (f : Nat → Int) (len : Nat) (a b : Int) : Int := if pkE len a b = 0 ∧ 2 ≤ len then btr f (a % (len : Int)) (tJ (len : Int) a b) else 0
theorem two_nat {len : Nat} {a b : Int} (h2 : 2 ≤ len) (h16 : len ≤ 16) (ha : drw a = true) (hb : drw b = true) : okT len a b ∧ ∃ i j : Nat, a % (len : Int) = (i : Int) ∧ tJ (len : Int) a b = (j : Int) ∧ i < len ∧ j < len ∧ i ≠ j := by
  rw [drw_iff] at ha hb
  obtain ⟨i0, i1⟩ := tm ha.1 (show 0 < (len : Int) by omega)
  obtain ⟨j0, j1⟩ := tm hb.1 (show 0 < (len : Int) - 1 by omega)
  refine ⟨⟨⟨by omega, by omega⟩, ha, hb⟩, (a % (len : Int)).toNat, (tJ (len : Int) a b).toNat, ?_, ?_, ?_, ?_, ?_⟩
  · omega
  · unfold tJ; split <;> omega
  · omega
  · unfold tJ; split <;> omega
  · unfold tJ; split <;> omega
theorem pk_two {f : Nat → Int} {len : Nat} {a b : Int} {i j : Nat} (h2 : 2 ≤ len) (h16 : len ≤ 16) (ha : drw a = true) (hb : drw b = true) (hi : a % (len : Int) = (i : Int)) (hj : tJ (len : Int) a b = (j : Int)) : pkE len a b = 0 ∧ pkI f len a b = if f j < f i ∨ (f j = f i ∧ j < i) then (j : Int) else (i : Int) := by
  have e : pkE len a b = 0 := by unfold pkE; rw [if_neg (by omega), if_neg (by omega), ha, hb]; rfl
  refine ⟨e, ?_⟩
  unfold pkI
  rw [if_pos ⟨e, h2⟩, hi, hj]
  unfold btr
  simp only [Int.toNat_natCast, Int.ofNat_lt]
set_option maxHeartbeats 2000000 in
theorem pick_good (w : World) (ad : Option Addr) (len cap : Nat) (f : Nat → Int) (a b : Int) (h : Ld w ad len f) (h2 : 2 ≤ len) (h16 : len ≤ 16) (ha : drw a = true) (hb : drw b = true) :
    Calls Try.prog 9 #[.slice ad len cap, .int .i64 a, .int .i64 b] w fun e w' => e = .returned (.tuple #[.int .i64 (pkI f len a b), .int .i64 0]) ∧ Fr none' w w' := by
  obtain ⟨hok, i, j, ei, ej, il, jl, ij⟩ := two_nat h2 h16 ha hb
  have HT := hide (two_any w len a b hok)
  rw [ei, ej] at HT
  have HP := hide (pk_two (f := f) h2 h16 ha hb ei ej).2
  have h20 : ¬ (len : Int) = 0 := by omega
  have h21 : ¬ (len : Int) = 1 := by omega
  clear hok ei ej
  go_enter Try.func9, Try.ntmps9
  go_wp2_with (first | (go_at_call 12; refine (isDraw_any _ _).mono ?_; rintro e w' ⟨rfl, rfl⟩))
  refine HT.out.mono ?_
  rintro e w1 ⟨rfl, q, rfl⟩
  have HL := hide (h.fr (Fr.drewN none' w q))
  have HF := hide (Fr.drewN none' w q)
  clear h HT
  generalize w.drewN q = w1 at *
  obtain ⟨g, off, rfl, ci, -⟩ := HL.out i il
  obtain ⟨g2, off2, e2, cj, -⟩ := HL.out j jl
  simp only [Option.some.injEq, Addr.mk.injEq, and_true] at e2
  obtain ⟨rfl, rfl⟩ := e2
  have ii : (i : Int) < (len : Int) := by omega
  have jj : (j : Int) < (len : Int) := by omega
  generalize f i = x at *
  generalize f j = y at *
  clear h2 h16 ha hb
  rcases Nat.lt_or_gt_of_ne ij with hij | hij
  · by_cases hxy : y < x
    · rw [if_pos (.inl hxy)] at HP
      go_wp2_with fail
      go_quiet (fail)
      go_wp2_with fail
      go_ret2
      exact ⟨ret2_int HP.out.symm rfl, HF.out.d _⟩
    · rw [if_neg (by omega)] at HP
      have hxy1 : decide (y < x) = false := decide_eq_false hxy
      go_wp2_with fail
      go_quiet (fail)
      go_wp2_with fail
      go_ret2
      exact ⟨ret2_int HP.out.symm rfl, HF.out.d _⟩
  · by_cases hxy : x < y
    · rw [if_neg (by omega)] at HP
      go_wp2_with fail
      go_quiet (fail)
      go_wp2_with fail
      go_ret2
      exact ⟨ret2_int HP.out.symm rfl, HF.out.d _⟩
    · rw [if_pos (by omega)] at HP
      have hxy1 : decide (x < y) = false := decide_eq_false hxy
      go_wp2_with fail
      go_quiet (fail)
      go_wp2_with fail
      go_ret2
      exact ⟨ret2_int HP.out.symm rfl, HF.out.d _⟩
set_option maxHeartbeats 2000000 in
theorem rpick_good (w : World) (ad : Option Addr) (len cap : Nat) (f : Nat → Int) (a b : Int) (h : Ld w ad len f) (h2 : 2 ≤ len) (h16 : len ≤ 16) (ha : drw a = true) (hb : drw b = true) :
    Calls Try.prog 10 #[.slice ad len cap, .int .i64 a, .int .i64 b] w fun e w' => e = .returned (.tuple #[.int .i64 (pkI f len a b), .int .i64 0]) ∧ Fr none' w w' := by
  obtain ⟨hok, i, j, ei, ej, il, jl, ij⟩ := two_nat h2 h16 ha hb
  have HT := hide (rtwo_any w len a b hok)
  rw [ei, ej] at HT
  have HP := hide (pk_two (f := f) h2 h16 ha hb ei ej).2
  have h20 : ¬ (len : Int) = 0 := by omega
  have h21 : ¬ (len : Int) = 1 := by omega
  clear hok ei ej
  obtain ⟨g, off, rfl, ci, -⟩ := h i il
  obtain ⟨g2, off2, e2, cj, -⟩ := h j jl
  simp only [Option.some.injEq, Addr.mk.injEq, and_true] at e2
  obtain ⟨rfl, rfl⟩ := e2
  have ii : (i : Int) < (len : Int) := by omega
  have jj : (j : Int) < (len : Int) := by omega
  clear h
  generalize f i = x at *
  generalize f j = y at *
  go_enter Try.func10, Try.ntmps10
  go_wp2_with (first | (go_at_call 13; refine (rDraw_any _ _).mono ?_; rintro e w' ⟨rfl, rfl⟩) | (go_at_call 8; refine HT.out.mono ?_; rintro e w' ⟨rfl, rfl⟩))
  clear h2 h16 ha hb
  by_cases hxy : y < x
  · rw [if_pos (.inl hxy)] at HP
    have hxy1 : decide (y < x) = true := decide_eq_true hxy
    go_quiet (fail)
    go_wp2_with fail
    go_ret2
    exact ⟨ret2_int HP.out.symm rfl, Fr.drewN _ _ _⟩
  · have hxy1 : decide (y < x) = false := decide_eq_false hxy
    by_cases hyx : y = x
    · subst hyx
      by_cases hji : j < i
      · rw [if_pos (.inr ⟨rfl, hji⟩)] at HP
        have hji1 : decide ((j : Int) < (i : Int)) = true := decide_eq_true (by omega)
        have hji2 : decide (j < i) = true := decide_eq_true hji
        clear hxy
        go_quiet (fail)
        go_wp2_with fail
        go_ret2
        exact ⟨ret2_int HP.out.symm rfl, Fr.drewN _ _ _⟩
      · rw [if_neg (by omega)] at HP
        have hji1 : decide ((j : Int) < (i : Int)) = false := decide_eq_false (by omega)
        have hji2 : decide (j < i) = false := decide_eq_false hji
        clear hxy
        go_quiet (fail)
        go_wp2_with fail
        go_ret2
        exact ⟨ret2_int HP.out.symm rfl, Fr.drewN _ _ _⟩
    · rw [if_neg (by omega)] at HP
      have hyx1 : (y == x) = false := by simpa using hyx
      go_quiet (fail)
      go_wp2_with fail
      go_ret2
      exact ⟨ret2_int HP.out.symm rfl, Fr.drewN _ _ _⟩
theorem bad_cases {len : Nat} {a b : Int} (h : ¬ (2 ≤ len ∧ len ≤ 16 ∧ drw a = true ∧ drw b = true)) : len = 0 ∨ 16 < len ∨ ((¬ len = 0 ∧ len ≤ 16) ∧ drw a = false) ∨ ((¬ len = 0 ∧ len ≤ 16) ∧ drw a = true ∧ drw b = false) ∨ (len = 1 ∧ drw a = true ∧ drw b = true) := by
  have : len = 0 ∨ len = 1 ∨ 16 < len ∨ (2 ≤ len ∧ len ≤ 16) := by omega
  rcases this with rfl | rfl | h' | ⟨h1, h2⟩
  · exact .inl rfl
  · cases ha : drw a <;> cases hb : drw b <;> simp
  · exact .inr (.inl h')
  · cases ha : drw a <;> cases hb : drw b <;> simp_all <;> omega
set_option maxHeartbeats 2000000 in
theorem pick_any (w : World) (ad : Option Addr) (len cap : Nat) (f : Nat → Int) (a b : Int) (h : Ld w ad len f) (hl : len < 9223372036854775807) :
    Calls Try.prog 9 #[.slice ad len cap, .int .i64 a, .int .i64 b] w fun e w' => e = .returned (.tuple #[.int .i64 (pkI f len a b), .int .i64 (pkE len a b)]) ∧ Fr none' w w' := by
  by_cases hg : 2 ≤ len ∧ len ≤ 16 ∧ drw a = true ∧ drw b = true
  · obtain ⟨h2, h16, ha, hb⟩ := hg
    have e : pkE len a b = 0 := by unfold pkE; rw [if_neg (by omega), if_neg (by omega), ha, hb]; rfl
    rw [e]
    exact pick_good w ad len cap f a b h h2 h16 ha hb
  · clear h
    rcases bad_cases hg with q | q | ⟨q, r⟩ | ⟨q, r, s⟩ | ⟨q, r, s⟩
    · have e1 : pkE len a b = 6 := by unfold pkE; rw [if_pos q]
      have e2 : pkI f len a b = 0 := by unfold pkI; rw [e1, if_neg (by omega)]
      rw [e1, e2]
      clear e1 e2 hg
      subst q
      go_enter Try.func9, Try.ntmps9
      go_wp2
      go_ret2
      exact ⟨rfl, Fr.refl _ _⟩
    · have e1 : pkE len a b = 2 := by unfold pkE; rw [if_neg (by omega), if_pos q]
      have e2 : pkI f len a b = 0 := by unfold pkI; rw [e1, if_neg (by omega)]
      rw [e1, e2]
      clear e1 e2 hg
      have q1 : ¬ (len : Int) = 0 := by omega
      go_enter Try.func9, Try.ntmps9
      go_wp2
      go_ret2
      exact ⟨rfl, Fr.refl _ _⟩
    · have e1 : pkE len a b = 1 := by unfold pkE; rw [if_neg q.1, if_neg (by omega), r]; rfl
      have e2 : pkI f len a b = 0 := by unfold pkI; rw [e1, if_neg (by omega)]
      rw [e1, e2]
      have q1 : ¬ (len : Int) = 0 := by omega
      have q2 : ¬ (16 : Int) < (len : Int) := by omega
      clear e1 e2 hg q
      go_enter Try.func9, Try.ntmps9
      go_wp2_with (go_at_call 12; refine (isDraw_any _ _).mono ?_; rintro e w' ⟨rfl, rfl⟩)
      go_ret2
      exact ⟨rfl, Fr.refl _ _⟩
    · have e1 : pkE len a b = 1 := by unfold pkE; rw [if_neg q.1, if_neg (by omega), s]; simp
      have e2 : pkI f len a b = 0 := by unfold pkI; rw [e1, if_neg (by omega)]
      rw [e1, e2]
      have q1 : ¬ (len : Int) = 0 := by omega
      have q2 : ¬ (16 : Int) < (len : Int) := by omega
      clear e1 e2 hg q
      go_enter Try.func9, Try.ntmps9
      go_wp2_with (go_at_call 12; refine (isDraw_any _ _).mono ?_; rintro e w' ⟨rfl, rfl⟩)
      go_ret2
      exact ⟨rfl, Fr.refl _ _⟩
    · subst q
      have e1 : pkE 1 a b = 0 := by unfold pkE; rw [if_neg (by omega), if_neg (by omega), r, s]; rfl
      have e2 : pkI f 1 a b = 0 := by unfold pkI; rw [if_neg (by omega)]
      rw [e1, e2]
      clear e1 e2 hg
      go_enter Try.func9, Try.ntmps9
      go_wp2_with (go_at_call 12; refine (isDraw_any _ _).mono ?_; rintro e w' ⟨rfl, rfl⟩)
      go_ret2
      exact ⟨rfl, Fr.refl _ _⟩
set_option maxHeartbeats 2000000 in
theorem rpick_any (w : World) (ad : Option Addr) (len cap : Nat) (f : Nat → Int) (a b : Int) (h : Ld w ad len f) (hl : len < 9223372036854775807) :
    Calls Try.prog 10 #[.slice ad len cap, .int .i64 a, .int .i64 b] w fun e w' => e = .returned (.tuple #[.int .i64 (pkI f len a b), .int .i64 (pkE len a b)]) ∧ Fr none' w w' := by
  by_cases hg : 2 ≤ len ∧ len ≤ 16 ∧ drw a = true ∧ drw b = true
  · obtain ⟨h2, h16, ha, hb⟩ := hg
    have e : pkE len a b = 0 := by unfold pkE; rw [if_neg (by omega), if_neg (by omega), ha, hb]; rfl
    rw [e]
    exact rpick_good w ad len cap f a b h h2 h16 ha hb
  · clear h
    rcases bad_cases hg with q | q | ⟨q, r⟩ | ⟨q, r, s⟩ | ⟨q, r, s⟩
    · have e1 : pkE len a b = 6 := by unfold pkE; rw [if_pos q]
      have e2 : pkI f len a b = 0 := by unfold pkI; rw [e1, if_neg (by omega)]
      rw [e1, e2]
      clear e1 e2 hg
      subst q
      go_enter Try.func10, Try.ntmps10
      go_wp2
      go_ret2
      exact ⟨rfl, Fr.refl _ _⟩
    · have e1 : pkE len a b = 2 := by unfold pkE; rw [if_neg (by omega), if_pos q]
      have e2 : pkI f len a b = 0 := by unfold pkI; rw [e1, if_neg (by omega)]
      rw [e1, e2]
      clear e1 e2 hg
      have q1 : ¬ (len : Int) = 0 := by omega
      go_enter Try.func10, Try.ntmps10
      go_wp2
      go_ret2
      exact ⟨rfl, Fr.refl _ _⟩
    · have e1 : pkE len a b = 1 := by unfold pkE; rw [if_neg q.1, if_neg (by omega), r]; rfl
      have e2 : pkI f len a b = 0 := by unfold pkI; rw [e1, if_neg (by omega)]
      rw [e1, e2]
      have q1 : ¬ (len : Int) = 0 := by omega
      have q2 : ¬ (16 : Int) < (len : Int) := by omega
      clear e1 e2 hg q
      go_enter Try.func10, Try.ntmps10
      go_wp2_with (go_at_call 13; refine (rDraw_any _ _).mono ?_; rintro e w' ⟨rfl, rfl⟩)
      go_ret2
      exact ⟨rfl, Fr.refl _ _⟩
    · have e1 : pkE len a b = 1 := by unfold pkE; rw [if_neg q.1, if_neg (by omega), s]; simp
      have e2 : pkI f len a b = 0 := by unfold pkI; rw [e1, if_neg (by omega)]
      rw [e1, e2]
      have q1 : ¬ (len : Int) = 0 := by omega
      have q2 : ¬ (16 : Int) < (len : Int) := by omega
      clear e1 e2 hg q
      go_enter Try.func10, Try.ntmps10
      go_wp2_with (go_at_call 13; refine (rDraw_any _ _).mono ?_; rintro e w' ⟨rfl, rfl⟩)
      go_ret2
      exact ⟨rfl, Fr.refl _ _⟩
    · subst q
      have e1 : pkE 1 a b = 0 := by unfold pkE; rw [if_neg (by omega), if_neg (by omega), r, s]; rfl
      have e2 : pkI f 1 a b = 0 := by unfold pkI; rw [if_neg (by omega)]
      rw [e1, e2]
      clear e1 e2 hg
      go_enter Try.func10, Try.ntmps10
      go_wp2_with (go_at_call 13; refine (rDraw_any _ _).mono ?_; rintro e w' ⟨rfl, rfl⟩)
      go_ret2
      exact ⟨rfl, Fr.refl _ _⟩
def f515 (i : Nat) : Int := if i = 1 then 1 else 5
theorem ld515 (w : World) : Ld (w.alloc (.cells #[.int .i64 5, .int .i64 1, .int .i64 5] 3)) (some ⟨w.heap.size, 0, none⟩) 3 f515 := fun i hi => ⟨w.heap.size, 0, rfl, by
  rw [Nat.zero_add, cell_of (hp_new w _)]
  match i, hi with
  | 0, _ => rfl
  | 1, _ => rfl
  | 2, _ => rfl
  | k + 3, h => omega, by simp⟩
set_option maxHeartbeats 2000000 in
theorem speaks_any (w : World) : Calls Try.prog 11 #[] w fun e w' => e = .returned (.bool true) ∧ Fr none' w w' := by
  have HT := hide (two_any w 3 4 1 ⟨⟨by omega, by omega⟩, ⟨by omega, by omega⟩, by omega, by omega⟩)
  rw [show (4 : Int) % 3 = 1 from rfl, show tJ 3 4 1 = 2 from rfl] at HT
  go_enter Try.func11, Try.ntmps11
  go_wp2_with fail
  refine HT.out.mono ?_
  rintro e w1 ⟨rfl, q, rfl⟩
  have HF := hide (Fr.drewN none' w q)
  clear HT
  generalize w.drewN q = w1 at *
  go_wp2_with fail
  have HP := hide (pick_any _ _ 3 3 f515 0 1 (ld515 w1) (by omega))
  have HF1 := hide (HF.out.trans (Fr.alloc none' w1 (.cells #[.int .i64 5, .int .i64 1, .int .i64 5] 3)) (fun _ _ x => x))
  rw [show pkI f515 3 0 1 = 0 from rfl, show pkE 3 0 1 = 0 from rfl] at HP
  refine HP.out.mono ?_
  rintro e w2 ⟨rfl, F2⟩
  have HF2 := hide (HF1.out.trans F2 (fun _ _ x => x))
  clear HP F2 HF1 HF
  go_wp2_with fail
  have HP := hide (pick_any _ _ 3 3 f515 0 0 (ld515 w2) (by omega))
  have HF1 := hide (HF2.out.trans (Fr.alloc none' w2 (.cells #[.int .i64 5, .int .i64 1, .int .i64 5] 3)) (fun _ _ x => x))
  rw [show pkI f515 3 0 0 = 1 from rfl, show pkE 3 0 0 = 0 from rfl] at HP
  refine HP.out.mono ?_
  rintro e w3 ⟨rfl, F3⟩
  have HF3 := hide (HF1.out.trans F3 (fun _ _ x => x))
  clear HP F3 HF1 HF2
  go_wp2_with fail
  go_ret
  exact ⟨rfl, HF3.out⟩
end Go.Proofs.Ytbpejhokknganaa
