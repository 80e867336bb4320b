/- A chain in memory with its bytes as a list; New; and that grow keeps the bytes and leaves room. -/
import Derived.Test.YtglhoihiaflmgabRing
namespace Go.Proofs.Ytglhoihiaflmgab
open Go.ChangeShapes Go.WideShapes Go.ChangeAt Go.RowKit

/-- The ring is not nil, lies at block r, and holds L from start on. -/
structure Full (w : World) (b r bound high low : Nat) (L : List Int) (stop : Bool) (R : List Int) (start : Nat) : Prop where
  hd : Hd w b bound high low (.slice (some ⟨r, 0, none⟩) R.length R.length) start L.length stop
  ring : w.heap[r]? = some (.cells (bs R) 5 (0, 0))
  ne : r ≠ b
  st : start < R.length
  fits : L.length ≤ R.length
  top : R.length ≤ bound
  cont : ringL R start L.length = L

structure Marks (bound high low : Nat) : Prop where
  h1 : 1 ≤ high
  h2 : high ≤ bound
  h3 : bound ≤ 1048576
  h4 : low < high

/-- A chain at block b, its ring (if any) at block r, with the bytes L. -/
structure Chain (w : World) (b r bound high low : Nat) (L : List Int) (stop : Bool) : Prop where
  marks : Marks bound high low
  body : (Hd w b bound high low (.slice none 0 0) 0 0 stop ∧ L = []) ∨ ∃ R start, Full w b r bound high low L stop R start

theorem Chain.fits {w : World} {b r bound high low : Nat} {L : List Int} {stop : Bool} (h : Chain w b r bound high low L stop) : L.length ≤ bound := by
  rcases h.body with ⟨_, rfl⟩ | ⟨R, st, f⟩
  · simp
  · exact Nat.le_trans f.fits f.top
theorem Chain.hd {w : World} {b r bound high low : Nat} {L : List Int} {stop : Bool} (h : Chain w b r bound high low L stop) : ∃ (rv : Value) (start : Nat), Hd w b bound high low rv start L.length stop := by
  rcases h.body with ⟨k, rfl⟩ | ⟨R, st, f⟩
  · exact ⟨_, 0, k⟩
  · exact ⟨_, st, f.hd⟩
theorem Full.frame {S : Nat → Prop} {w w' : World} {b r bound high low : Nat} {L : List Int} {stop : Bool} {R : List Int} {start : Nat} (h : Full w b r bound high low L stop R start) (f : Fr S w w') (hb : ¬ S b) (hr : ¬ S r) : Full w' b r bound high low L stop R start :=
  ⟨f.hd hb h.hd, f.hd hr h.ring, h.ne, h.st, h.fits, h.top, h.cont⟩
theorem Chain.frame {S : Nat → Prop} {w w' : World} {b r bound high low : Nat} {L : List Int} {stop : Bool} (h : Chain w b r bound high low L stop) (f : Fr S w w') (hb : ¬ S b) (hr : ¬ S r) : Chain w' b r bound high low L stop := by
  refine ⟨h.marks, ?_⟩
  rcases h.body with ⟨k, e⟩ | ⟨R, st, k⟩
  · exact .inl ⟨f.hd hb k, e⟩
  · exact .inr ⟨R, st, k.frame f hb hr⟩
theorem Chain.drewN {w : World} {b r bound high low : Nat} {L : List Int} {stop : Bool} (h : Chain w b r bound high low L stop) (n : Nat) : Chain (w.drewN n) b r bound high low L stop :=
  h.frame (Fr.drewN (fun _ => False) w n) (fun x => x) (fun x => x)

theorem new_yes (bound high low : Nat) (m : Marks bound high low) (w : World) :
    Calls Try.prog 8 #[.int .i64 (bound : Int), .int .i64 (high : Int), .int .i64 (low : Int)] w fun e w' => e = .returned (.tuple #[.pointer (some ⟨w.heap.size, 0, none⟩), .int .i64 0]) ∧ Fr (fun _ => False) w w' ∧ w'.heap.size = w.heap.size + 1 ∧ Chain w' w.heap.size w.heap.size bound high low [] false := by
  have h1 := m.h1
  have h2 := m.h2
  have h3 := m.h3
  have h4 := m.h4
  have M := hide m
  clear m
  go_enter Try.func8, Try.ntmps8
  go_wp2
  go_ret2
  refine ⟨rfl, Fr.alloc _ _ _, by simp, M.out, .inl ⟨?_, rfl⟩⟩
  exact hp_new w _

theorem new_no (bound high low : Int) (w : World) (h : ¬ (1 ≤ bound ∧ bound ≤ 1048576 ∧ 1 ≤ high ∧ high ≤ bound ∧ 0 ≤ low ∧ low < high)) :
    Calls Try.prog 8 #[.int .i64 bound, .int .i64 high, .int .i64 low] w fun e w' => e = .returned (.tuple #[.pointer none, .int .i64 1]) ∧ w = w' := by
  by_cases c1 : bound < 1
  · go_enter Try.func8, Try.ntmps8
    go_wp2
    go_ret2
    exact ⟨rfl, rfl⟩
  by_cases c2 : 1048576 < bound
  · go_enter Try.func8, Try.ntmps8
    go_wp2
    go_ret2
    exact ⟨rfl, rfl⟩
  by_cases c3 : high < 1
  · go_enter Try.func8, Try.ntmps8
    go_wp2
    go_ret2
    exact ⟨rfl, rfl⟩
  by_cases c4 : bound < high
  · go_enter Try.func8, Try.ntmps8
    go_wp2
    go_ret2
    exact ⟨rfl, rfl⟩
  by_cases c5 : low < 0
  · go_enter Try.func8, Try.ntmps8
    go_wp2
    go_ret2
    exact ⟨rfl, rfl⟩
  have c6 : high ≤ low := by omega
  go_enter Try.func8, Try.ntmps8
  go_wp2
  go_ret2
  exact ⟨rfl, rfl⟩

theorem grow_any {w : World} {b r bound high low : Nat} {L : List Int} {stop : Bool} (h : Chain w b r bound high low L stop) (k : Nat) (hk : 0 < k) (hb : L.length + k ≤ bound) :
    Calls Try.prog 23 #[.pointer (some ⟨b, 0, none⟩), .int .i64 ((L.length + k : Nat) : Int)] w fun e w' => e = .returned (.tuple #[]) ∧ Fr (fun i => i = b) w w' ∧
      ∃ r' R start, Full w' b r' bound high low L stop R start ∧ L.length + k ≤ R.length ∧ (r' = r ∨ w.heap.size ≤ r') := by
  have hm := h.marks.h3
  rcases h.body with ⟨hd, rfl⟩ | ⟨R, st, f⟩
  · refine (grow_first hd (n := ([] : List Int).length + k) (by simp; omega) hb hm).mono ?_
    rintro e w' ⟨rfl, g⟩
    refine ⟨rfl, g.fr, w.heap.size, List.replicate (0 + k) 0, 0, ⟨?_, ?_, ?_, ?_, ?_, ?_, ?_⟩, ?_, .inr (Nat.le_refl _)⟩
    · have := g.hd; simpa using this
    · have := g.ring; simpa using this
    · have := hd.lt; omega
    · simp; omega
    · simp
    · simpa using hb
    · simp [ringL]
    · simp
  · by_cases c : L.length + k ≤ R.length
    · refine (grow_no f.hd c).mono ?_
      rintro e w' ⟨rfl, rfl⟩
      exact ⟨rfl, Fr.refl _ _, r, R, st, f, c, .inl rfl⟩
    · have fin : ∀ (N' : Nat) (e : Ending) (w' : World), L.length + k ≤ N' → N' ≤ bound → (e = .returned (.tuple #[]) ∧ Grew w w' b bound high low N' L.length stop (ringL R st L.length ++ List.replicate (N' - L.length) 0)) →
          (e = .returned (.tuple #[]) ∧ Fr (fun i => i = b) w w' ∧ ∃ r' R start, Full w' b r' bound high low L stop R start ∧ L.length + k ≤ R.length ∧ (r' = r ∨ w.heap.size ≤ r')) := by
        rintro N' e w' h1 h2 ⟨he, g⟩
        rw [f.cont] at g
        have el : (L ++ List.replicate (N' - L.length) 0).length = N' := by simp; omega
        refine ⟨he, g.fr, w.heap.size, L ++ List.replicate (N' - L.length) 0, 0, ⟨?_, g.ring, ?_, ?_, ?_, ?_, ring_new _ _⟩, ?_, .inr (Nat.le_refl _)⟩
        · rw [el]; exact g.hd
        · have := f.hd.lt; omega
        · rw [el]; omega
        · rw [el]; omega
        · rw [el]; omega
        · rw [el]; omega
      have l1 := f.st
      have l2 := f.fits
      have l3 := f.top
      by_cases d1 : 2 * R.length ≤ L.length + k
      · refine (grow_core ((L.length + k : Nat) : Int) (L.length + k) rfl f.hd R f.ring rfl (by omega) l3 hm l1 l2 (by omega) hb (Nat.le_refl _) hb (.inl ⟨rfl, by omega⟩)).mono ?_
        exact fun e w' hh => fin _ e w' (Nat.le_refl _) hb hh
      · by_cases d2 : 2 * R.length ≤ bound
        · refine (grow_core (2 * (R.length : Int)) (2 * R.length) (by omega) f.hd R f.ring rfl (by omega) l3 hm l1 l2 (by omega) hb (by omega) d2 (.inr (.inl ⟨rfl, by omega, by omega⟩))).mono ?_
          exact fun e w' hh => fin _ e w' (by omega) d2 hh
        · refine (grow_core (bound : Int) bound rfl f.hd R f.ring rfl (by omega) l3 hm l1 l2 (by omega) hb hb (Nat.le_refl _) (.inr (.inr ⟨rfl, by omega, by omega⟩))).mono ?_
          exact fun e w' hh => fin _ e w' hb (Nat.le_refl _) hh

end Go.Proofs.Ytglhoihiaflmgab
