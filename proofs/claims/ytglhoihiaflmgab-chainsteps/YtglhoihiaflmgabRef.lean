/- The document's plain chain in memory, and what its calls return: New, Peek, Find. -/
import Derived.Test.YtglhoihiaflmgabStepsOpen
namespace Go.Proofs.Ytglhoihiaflmgab
open Go.ChangeShapes Go.WideShapes Go.ChangeAt Go.RowKit

def RHd (w : World) (b : Nat) (bound high low : Int) (v : Value) (stop : Bool) : Prop :=
  w.heap[b]? = some (.cells #[.int .i64 bound, .int .i64 high, .int .i64 low, v, .bool stop] 42 (0, 0))

section
variable {w : World} {b : Nat} {bound high low : Int} {v : Value} {stop : Bool}
theorem RHd.c0 (h : RHd w b bound high low v stop) : w.cell? ⟨b, 0, none⟩ = some (.int .i64 bound) := by rw [cell_of h]; rfl
theorem RHd.c1 (h : RHd w b bound high low v stop) : w.cell? ⟨b, 1, none⟩ = some (.int .i64 high) := by rw [cell_of h]; rfl
theorem RHd.c2 (h : RHd w b bound high low v stop) : w.cell? ⟨b, 2, none⟩ = some (.int .i64 low) := by rw [cell_of h]; rfl
theorem RHd.c3 (h : RHd w b bound high low v stop) : w.cell? ⟨b, 3, none⟩ = some v := by rw [cell_of h]; rfl
theorem RHd.c4 (h : RHd w b bound high low v stop) : w.cell? ⟨b, 4, none⟩ = some (.bool stop) := by rw [cell_of h]; rfl
theorem RHd.fz (h : RHd w b bound high low v stop) (i : Nat) : w.frozen? ⟨b, i, none⟩ = false := frozen_of h i
theorem RHd.lt (h : RHd w b bound high low v stop) : b < w.heap.size := (Array.getElem?_eq_some_iff.1 h).1
end

/-- The document's chain at block b: its bytes l lie in the row v. -/
structure Ref (w : World) (base b bound high low : Nat) (v : Value) (l : List Int) (stop : Bool) : Prop where
  hd : RHd w b bound high low v stop
  own : Own w base v l
  fit : l.length ≤ bound
  top : bound ≤ 1048576
  ne : b < base

theorem Ref.frame {S : Nat → Prop} {w w' : World} {base b bound high low : Nat} {v : Value} {l : List Int} {stop : Bool} (h : Ref w base b bound high low v l stop) (f : Fr S w w') (hb : ¬ S b) (hv : ∀ g, v.ownBlock = some g → ¬ S g) : Ref w' base b bound high low v l stop :=
  ⟨f.hd hb h.hd, h.own.frame (fun g hg => f.block g (h.own.block hg).2 (hv g hg)), h.fit, h.top, h.ne⟩

theorem rnew_yes (bound high low : Nat) (m : Marks bound high low) (w : World) :
    Calls Try.prog 9 #[.int .i64 (bound : Int), .int .i64 (high : Int), .int .i64 (low : Int)] w fun e w' => e = .returned (.tuple #[.pointer (some ⟨w.heap.size, 0, none⟩), .int .i64 0]) ∧ Fr (fun _ => False) w w' ∧ w'.heap.size = w.heap.size + 1 ∧ Ref w' (w.heap.size + 1) w.heap.size bound high low (.slice none 0 0) [] false := by
  have h1 := m.h1
  have h2 := m.h2
  have h3 := m.h3
  have h4 := m.h4
  clear m
  go_enter Try.func9, Try.ntmps9
  go_wp2
  go_ret2
  refine ⟨rfl, Fr.alloc _ _ _, by simp, ⟨hp_new w _, Own.nil _ _, by simp, h3, by omega⟩⟩

theorem rnew_no (bound high low : Int) (w : World) (h : ¬ (1 ≤ bound ∧ bound ≤ 1048576 ∧ 1 ≤ high ∧ high ≤ bound ∧ 0 ≤ low ∧ low < high)) :
    Calls Try.prog 9 #[.int .i64 bound, .int .i64 high, .int .i64 low] w fun e w' => e = .returned (.tuple #[.pointer none, .int .i64 1]) ∧ w = w' := by
  by_cases c1 : bound < 1
  · go_enter Try.func9, Try.ntmps9
    go_wp2
    go_ret2
    exact ⟨rfl, rfl⟩
  by_cases c2 : 1048576 < bound
  · go_enter Try.func9, Try.ntmps9
    go_wp2
    go_ret2
    exact ⟨rfl, rfl⟩
  by_cases c3 : high < 1
  · go_enter Try.func9, Try.ntmps9
    go_wp2
    go_ret2
    exact ⟨rfl, rfl⟩
  by_cases c4 : bound < high
  · go_enter Try.func9, Try.ntmps9
    go_wp2
    go_ret2
    exact ⟨rfl, rfl⟩
  by_cases c5 : low < 0
  · go_enter Try.func9, Try.ntmps9
    go_wp2
    go_ret2
    exact ⟨rfl, rfl⟩
  have c6 : high ≤ low := by omega
  go_enter Try.func9, Try.ntmps9
  go_wp2
  go_ret2
  exact ⟨rfl, rfl⟩

/-- The cells of a row of bytes that has some. -/
theorem Sl.at {W : World} {v : Value} {l : List Int} (h : Sl W v l) {j : Nat} (hj : j < l.length) : ∃ b off cap, v = .slice (some ⟨b, off, none⟩) l.length cap ∧ ∀ i, i < l.length → W.cell? ⟨b, off + i, none⟩ = some (.int .u8 (l.getD i 0)) := by
  obtain ⟨a, cap, rfl, _, _, hcell⟩ := h
  obtain ⟨b, off, rfl, _⟩ := hcell j hj
  refine ⟨b, off, cap, rfl, fun i hi => ?_⟩
  obtain ⟨b', o', e, hx⟩ := hcell i hi
  simp only [Option.some.injEq, Addr.mk.injEq] at e
  obtain ⟨rfl, rfl, _⟩ := e
  exact hx
theorem Sl.shape {W : World} {v : Value} {l : List Int} (h : Sl W v l) : ∃ a cap, v = .slice a l.length cap ∧ l.length ≤ cap := by
  obtain ⟨a, cap, e, hc, _, _⟩ := h
  exact ⟨a, cap, e, hc⟩

theorem sl_one (W : World) (x : Int) : Sl (W.alloc (.cells #[.int .u8 x] 5)) (.slice (some ⟨W.heap.size, 0, none⟩) 1 1) [x] :=
  ⟨_, 1, rfl, Nat.le_refl _, fun h => (by cases h), fun i hi => ⟨W.heap.size, 0, rfl, by
    have : i = 0 := by simp at hi; exact hi
    subst this
    rw [cell_of (hp_new W _)]; rfl⟩⟩

theorem take_snoc (l : List Int) (j : Nat) (h : j < l.length) : l.take (j + 1) = l.take j ++ [l.getD j 0] := by
  rw [List.take_succ_eq_append_getElem h]; simp [List.getD, h]

theorem findI_none {l : List Int} {x : Int} : (∀ i, i < l.length → l.getD i 0 ≠ x) → findI l x = -1 := by
  induction l with
  | nil => intro _; rfl
  | cons y l ih =>
    intro h
    have h0 := h 0 (by simp)
    have h1 := ih (fun i hi => by have := h (i + 1) (by simpa using hi); simpa using this)
    simp at h0
    simp [findI, h0, h1]
theorem findI_at {l : List Int} {x : Int} {j : Nat} (hj : j < l.length) (he : l.getD j 0 = x) (hn : ∀ i, i < j → l.getD i 0 ≠ x) : findI l x = j := by
  induction l generalizing j with
  | nil => simp at hj
  | cons y l ih =>
    cases j with
    | zero =>
      simp at he
      simp [findI, he]
    | succ j =>
      have h0 := hn 0 (by omega)
      simp at h0
      have h1 := ih (j := j) (by simpa using hj) (by simpa using he) (fun i hi => by have := hn (i + 1) (by omega); simpa using this)
      have hne : ¬ ((j : Int) = -1) := by omega
      simp [findI, h0, h1, hne]

theorem rfind_any {w : World} {base b bound high low : Nat} {v : Value} {l : List Int} {stop : Bool} (h : Ref w base b bound high low v l stop) (x : Int) :
    Calls Try.prog 19 #[.pointer (some ⟨b, 0, none⟩), .int .u8 x] w fun e w' => e = .returned (.int .i64 (findI l x)) ∧ w = w' := by
  have hs := h.own.sl
  obtain ⟨a, cap, rfl, _⟩ := hs.shape
  have c3 := h.hd.c3
  have hl : l.length ≤ 1048576 := Nat.le_trans h.fit h.top
  have HS := hide hs
  clear h hs
  go_enter Try.func19, Try.ntmps19
  go_wp2
  go_loop [12] (fun i => ∃ j : Nat, j ≤ l.length ∧ i = .int .i64 j ∧ Hid (∀ i, i < j → l.getD i 0 ≠ x)) (fun i => l.length - (intOf i).toNat)
  case atStart => exact ⟨0, Nat.zero_le _, rfl, hide (fun i hi => by omega)⟩
  case round =>
    obtain ⟨j, hj, rfl, HN⟩ := hrel
    by_cases hlt : j < l.length
    · obtain ⟨b', off, cap', e, hcell⟩ := HS.out.at hlt
      simp only [Value.slice.injEq] at e
      obtain ⟨rfl, _, rfl⟩ := e
      have hc := hcell j hlt
      obtain ⟨y, Hy⟩ : ∃ y, Hid (l.getD j 0 = y) := ⟨_, hide rfl⟩
      rw [Hy.out] at hc
      clear hcell
      by_cases hxy : x = y
      · have hq : (x == y) = true := by simpa using hxy
        have HF : Hid (findI l x = j) := hide (findI_at hlt (by rw [Hy.out, hxy]) HN.out)
        clear hxy
        go_wp2
        go_ret
        exact ⟨ret_int HF.out.symm, rfl⟩
      · have hq : (x == y) = false := by simpa using hxy
        have HX := hide hxy
        clear hxy
        go_wp2
        go_round
        case rel =>
          refine ⟨j + 1, by omega, by go_num, hide (fun i hi => ?_)⟩
          by_cases e : i = j
          · subst e; rw [Hy.out]; exact fun h => HX.out h.symm
          · exact HN.out i (by omega)
        case measure => simp [intOf]; omega
    · have ej : j = l.length := by omega
      subst ej
      have HF : Hid (findI l x = -1) := hide (findI_none HN.out)
      go_wp2
      go_ret
      exact ⟨ret_int HF.out.symm, rfl⟩
end Go.Proofs.Ytglhoihiaflmgab
