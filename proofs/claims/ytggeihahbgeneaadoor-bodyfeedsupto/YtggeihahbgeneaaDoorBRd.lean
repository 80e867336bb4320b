/- A body's reader in memory; what it tells. -/
import Derived.Test.YtggeihahbgeneaaDoorBlk
import Derived.Test.YtggeihahbgeneaaDoorBcl
import Derived.Test.YtggeihahbgeneaaDoorStp
import Derived.Handy
namespace Go.Proofs.YtggeihahbgeneaaDoor
open Go.ChangeShapes Go.WideShapes Go.ChangeAt Go.RowKit

theorem lt_heap' {w : World} {b : Nat} {o : Obj} (h : w.heap[b]? = some o) : b < w.heap.size := blk_lt h
structure Tal where
  got : Nat
  whole : Bool
  wrong : Nat
def talC (t : Tal) : List Value := [.int .i64 (t.got : Int), .bool t.whole, .int .i64 (t.wrong : Int)]
/-- A reader: its own block, and that of its framing. -/
structure Rdr (w : World) (base gr g : Nat) (it ct : TypeId) (t : Tal) (X : List Value) : Prop where
  rd : w.heap[gr]? = some (.cells #[.iface it (.pointer (some ⟨g, 0, none⟩))] 52 (0, 0))
  fr : w.heap[g]? = some (.cells (talC t ++ X).toArray ct (0, 0))
  ne : gr ≠ g
  rb : base ≤ gr
  fb : base ≤ g
theorem Rdr.below {w w' : World} {base gr g : Nat} {it ct : TypeId} {t : Tal} {X : List Value} (h : Rdr w base gr g it ct t X) (b : Below w.heap.size w w') : Rdr w' base gr g it ct t X :=
  ⟨(b.block gr (lt_heap' h.rd)).trans h.rd, (b.block g (lt_heap' h.fr)).trans h.fr, h.ne, h.rb, h.fb⟩
theorem Rdr.c0 {w : World} {base gr g : Nat} {it ct : TypeId} {t : Tal} {X : List Value} (h : Rdr w base gr g it ct t X) : w.cell? ⟨gr, 0, none⟩ = some (.iface it (.pointer (some ⟨g, 0, none⟩))) := cell_at h.rd 0
theorem Rdr.t0 {w : World} {base gr g : Nat} {it ct : TypeId} {t : Tal} {X : List Value} (h : Rdr w base gr g it ct t X) : w.cell? ⟨g, 0, none⟩ = some (.int .i64 (t.got : Int)) := cell_at h.fr 0
theorem Rdr.t1 {w : World} {base gr g : Nat} {it ct : TypeId} {t : Tal} {X : List Value} (h : Rdr w base gr g it ct t X) : w.cell? ⟨g, 1, none⟩ = some (.bool t.whole) := cell_at h.fr 1
theorem Rdr.t2 {w : World} {base gr g : Nat} {it ct : TypeId} {t : Tal} {X : List Value} (h : Rdr w base gr g it ct t X) : w.cell? ⟨g, 2, none⟩ = some (.int .i64 (t.wrong : Int)) := cell_at h.fr 2
theorem isNone_nil (w : World) : Calls Tryd.prog 21 #[.pointer none] w fun e w' => e = .returned (.bool true) ∧ w = w' := by
  go_enter Tryd.func21, Tryd.ntmps21
  go_wp2
  go_ret
  exact ⟨rfl, rfl⟩
theorem isNone_any {w : World} {base gr g : Nat} {it ct : TypeId} {t : Tal} {X : List Value} (h : Rdr w base gr g it ct t X) : Calls Tryd.prog 21 #[.pointer (some ⟨gr, 0, none⟩)] w fun e w' => e = .returned (.bool false) ∧ w = w' := by
  have c := h.c0
  clear h
  go_enter Tryd.func21, Tryd.ntmps21
  go_wp2
  go_ret
  exact ⟨rfl, rfl⟩
theorem told_any (g : Nat) (w : World) : Calls Tryd.prog 100 #[.pointer (some ⟨g, 0, none⟩)] w fun e w' => e = .returned (.pointer (some ⟨g, 0, none⟩)) ∧ w = w' := by
  go_enter Tryd.func100, Tryd.ntmps100
  go_wp2
  go_ret
  exact ⟨rfl, rfl⟩
/-- The kinds of readers. -/
def KT (it : TypeId) : Prop := it = 60 ∨ it = 66 ∨ it = 69 ∨ it = 72
def overT (t : Tal) : Bool := t.whole || decide (t.wrong ≠ 0)
/-- What may have changed: two blocks. -/
structure RK (w w' : World) (gr g : Nat) : Prop where
  os : w'.os = w.os
  tape : w'.tape = w.tape
  output : w'.output = w.output
  size : w.heap.size ≤ w'.heap.size
  block : ∀ k, k < w.heap.size → k ≠ gr → k ≠ g → w'.heap[k]? = w.heap[k]?
theorem RK.refl (w : World) (gr g : Nat) : RK w w gr g := ⟨rfl, rfl, rfl, Nat.le_refl _, fun _ _ _ _ => rfl⟩
theorem RK.trans {a b c : World} {gr g g2 : Nat} (h : RK a b gr g) (k : RK b c gr g2) (hg : g2 = g ∨ a.heap.size ≤ g2) : RK a c gr g :=
  ⟨k.os.trans h.os, k.tape.trans h.tape, k.output.trans h.output, Nat.le_trans h.size k.size, fun i hi h1 h2 => (k.block i (Nat.lt_of_lt_of_le hi h.size) h1 (by rcases hg with rfl | hg; exact h2; omega)).trans (h.block i hi h1 h2)⟩
theorem RK.of_below {w w' : World} (gr g : Nat) (b : Below w.heap.size w w') : RK w w' gr g := ⟨b.os, b.tape, b.output, b.size, fun k hk _ _ => b.block k hk⟩
theorem RK.low {w w' : World} {gr g base : Nat} (h : RK w w' gr g) (h1 : base ≤ gr) (h2 : base ≤ g) (h3 : base ≤ w.heap.size) : Below base w w' :=
  ⟨h.os, h.tape, h.output, h.size, fun k hk => h.block k (by omega) (by omega) (by omega)⟩
theorem RK.set (w : World) (gr g i : Nat) (v : Value) : RK w (w.setCell ⟨g, i, none⟩ v) gr g := ⟨rfl, rfl, rfl, by simp, fun k _ _ h => Below.heap_setCell w ⟨g, i, none⟩ v k h⟩
theorem RK.setR (w : World) (gr g i : Nat) (v : Value) : RK w (w.setCell ⟨gr, i, none⟩ v) gr g := ⟨rfl, rfl, rfl, by simp, fun k _ h _ => Below.heap_setCell w ⟨gr, i, none⟩ v k h⟩
set_option maxRecDepth 100000 in
theorem gotR_any {w : World} {base gr g : Nat} {it ct : TypeId} {t : Tal} {X : List Value} (h : Rdr w base gr g it ct t X) (hk : KT it) : Calls Tryd.prog 14 #[.pointer (some ⟨gr, 0, none⟩)] w fun e w' => e = .returned (.int .i64 (t.got : Int)) ∧ w = w' := by
  have HN := hide (isNone_any h)
  have HT := hide (told_any g w)
  have c := h.c0
  have c0 := h.t0
  clear h
  rcases hk with rfl | rfl | rfl | rfl
  all_goals (
    go_enter Tryd.func14, Tryd.ntmps14
    go_wp2_with fail
    refine HN.out.mono ?_
    rintro e w1 ⟨rfl, rfl⟩
    go_wp2_with fail
    refine HT.out.mono ?_
    rintro e w1 ⟨rfl, rfl⟩
    go_wp2
    go_ret
    exact ⟨rfl, rfl⟩)
set_option maxRecDepth 100000 in
theorem wholeR_any {w : World} {base gr g : Nat} {it ct : TypeId} {t : Tal} {X : List Value} (h : Rdr w base gr g it ct t X) (hk : KT it) : Calls Tryd.prog 13 #[.pointer (some ⟨gr, 0, none⟩)] w fun e w' => e = .returned (.bool t.whole) ∧ w = w' := by
  have HN := hide (isNone_any h)
  have HT := hide (told_any g w)
  have c := h.c0
  have c0 := h.t1
  clear h
  rcases hk with rfl | rfl | rfl | rfl
  all_goals (
    go_enter Tryd.func13, Tryd.ntmps13
    go_wp2_with fail
    refine HN.out.mono ?_
    rintro e w1 ⟨rfl, rfl⟩
    go_wp2_with fail
    refine HT.out.mono ?_
    rintro e w1 ⟨rfl, rfl⟩
    go_wp2
    go_ret
    exact ⟨rfl, rfl⟩)
/-- settle: a reader that is over lets its framing go. -/
def SetP (w w' : World) (base gr g : Nat) (it ct : TypeId) (t : Tal) (X : List Value) : Prop :=
  (overT t = true → ∃ g', w.heap.size ≤ g' ∧ Rdr w' base gr g' 72 74 t []) ∧ (overT t = false → Rdr w' base gr g it ct t X) ∧ RK w w' gr g ∧ w'.heap[g]? = w.heap[g]?
theorem settle_end {w : World} {base gr g : Nat} {it ct : TypeId} {t : Tal} {X : List Value} (h : Rdr w base gr g it ct t X) (ho : overT t = true) (hb : base ≤ w.heap.size) :
    SetP w ((w.alloc (.cells #[.int .i64 (t.got : Int), .bool t.whole, .int .i64 (t.wrong : Int)] 74)).setCell ⟨gr, 0, none⟩ (.iface 72 (.pointer (some ⟨w.heap.size, 0, none⟩)))) base gr g it ct t X := by
  have bl := (Below.refl w.heap.size w).alloc (Nat.le_refl _) (.cells #[.int .i64 (t.got : Int), .bool t.whole, .int .i64 (t.wrong : Int)] 74)
  have hn := hp_new w (.cells #[.int .i64 (t.got : Int), .bool t.whole, .int .i64 (t.wrong : Int)] 74)
  have hgr := lt_heap' h.rd
  have hr := (bl.block gr hgr).trans h.rd
  refine ⟨fun _ => ⟨w.heap.size, Nat.le_refl _, hp_set hr 0 _, (Below.heap_setCell _ ⟨gr, 0, none⟩ _ w.heap.size (by simp; omega)).trans hn, by omega, h.rb, hb⟩, fun h2 => (by rw [ho] at h2; cases h2), (RK.of_below gr g bl).trans (RK.setR _ gr g 0 _) (.inl rfl), (Below.heap_setCell _ ⟨gr, 0, none⟩ _ g (fun e => h.ne e.symm)).trans (bl.block g (lt_heap' h.fr))⟩
set_option maxHeartbeats 4000000 in
set_option maxRecDepth 100000 in
theorem settle_any {w : World} {base gr g : Nat} {it ct : TypeId} {t : Tal} {X : List Value} (h : Rdr w base gr g it ct t X) (hk : KT it) (hb : base ≤ w.heap.size) :
    Calls Tryd.prog 19 #[.pointer (some ⟨gr, 0, none⟩)] w fun e w' => e = .returned (.tuple #[]) ∧ SetP w w' base gr g it ct t X := by
  have HT := hide (told_any g w)
  have c := h.c0
  have c0 := h.t0
  have c1 := h.t1
  have c2 := h.t2
  have HH := hide h
  have HB := hide hb
  have bl := (Below.refl w.heap.size w).alloc (Nat.le_refl _) (.cells #[.int .i64 (t.got : Int), .bool t.whole, .int .i64 (t.wrong : Int)] 74)
  have cc : (w.alloc (.cells #[.int .i64 (t.got : Int), .bool t.whole, .int .i64 (t.wrong : Int)] 74)).cell? ⟨gr, 0, none⟩ = some (.iface it (.pointer (some ⟨g, 0, none⟩))) := (h.below bl).c0
  have cf : (w.alloc (.cells #[.int .i64 (t.got : Int), .bool t.whole, .int .i64 (t.wrong : Int)] 74)).frozen? ⟨gr, 0, none⟩ = false := by rw [frozen_at (h.below bl).rd]; simp
  clear h bl hb
  obtain ⟨got, wh, wr⟩ := t
  dsimp only at *
  cases wh with
  | true =>
    have HE := hide (settle_end HH.out rfl HB.out)
    rcases hk with rfl | rfl | rfl | rfl
    all_goals (
      go_enter Tryd.func19, Tryd.ntmps19
      go_wp2_with fail
      refine HT.out.mono ?_
      rintro e w1 ⟨rfl, rfl⟩
      go_wp2_with fail
      go_end0
      exact ⟨rfl, HE.out⟩)
  | false =>
    by_cases h0 : wr = 0
    · have t0 : ((wr : Int) != 0) = false := by rw [bne_eq_false_iff_eq]; omega
      have HE : Hid (SetP w w base gr g it ct ⟨got, false, wr⟩ X) := hide ⟨fun h => by simp [overT, h0] at h, fun _ => HH.out, RK.refl _ _ _, rfl⟩
      clear h0
      rcases hk with rfl | rfl | rfl | rfl
      all_goals (
        go_enter Tryd.func19, Tryd.ntmps19
        go_wp2_with fail
        refine HT.out.mono ?_
        rintro e w1 ⟨rfl, rfl⟩
        go_wp2_with fail
        go_end0
        exact ⟨rfl, HE.out⟩)
    · have t0 : ((wr : Int) != 0) = true := bne_iff_ne.2 (by omega)
      have HE := hide (settle_end HH.out (by simp [overT, h0]) HB.out)
      clear h0
      rcases hk with rfl | rfl | rfl | rfl
      all_goals (
        go_enter Tryd.func19, Tryd.ntmps19
        go_wp2_with fail
        refine HT.out.mono ?_
        rintro e w1 ⟨rfl, rfl⟩
        go_wp2_with fail
        go_end0
        exact ⟨rfl, HE.out⟩)
end Go.Proofs.YtggeihahbgeneaaDoor
