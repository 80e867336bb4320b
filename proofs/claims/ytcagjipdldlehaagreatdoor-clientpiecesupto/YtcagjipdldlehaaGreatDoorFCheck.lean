/- A field: whether it is right; a copy of it. -/
import Derived.Test.YtcagjipdldlehaaGreatDoorVal
import Derived.Test.YtcagjipdldlehaaGreatDoorFNam
import Derived.Deep.RegionWith
import Derived.Handy
import Derived.Deep.Cut
namespace Go.Proofs.YtcagjipdldlehaaGreatDoor
open Go.ChangeShapes Go.WideShapes Go.ChangeAt Go.RowKit

def chkF (f : ByteArray × ByteArray) : Nat := if tokenB f.1.data.toList then (if valueB f.2.data.toList then 0 else 71) else 70
set_option maxHeartbeats 1000000 in
theorem check_any (n v : ByteArray) (w : World) (hn : n.size ≤ maxLen) (hv : v.size ≤ maxLen) :
    Calls Tryz.prog 152 #[.agg #[.string n, .string v]] w fun e w' => e = .returned (.int .i64 (chkF (n, v) : Nat)) ∧ Below w.heap.size w w' := by
  have HT := hide (fun W => token_any n W hn)
  have HV := hide (fun W => value_any v W hv)
  clear hn hv
  unfold chkF
  show Calls _ _ _ _ fun e w' => e = .returned (.int .i64 ((if tokenB n.data.toList then (if valueB v.data.toList then 0 else 71) else 70 : Nat) : Int)) ∧ _
  generalize tokenB n.data.toList = bt at HT ⊢
  generalize valueB v.data.toList = bv at HV ⊢
  have b0 := hide ((Below.refl _ w).alloc (Nat.le_refl _) (.cells #[.string n, .string v] 48))
  have H0 := hide (hp_new w (.cells #[.string n, .string v] 48))
  cases bt with
  | false =>
    go_enter Tryz.func152, Tryz.ntmps152
    go_wp2_with fail
    refine (HT.out _).mono ?_
    rintro e w1 ⟨rfl, rfl⟩
    go_wp2
    go_ret
    exact ⟨rfl, b0.out⟩
  | true =>
    cases bv with
    | false =>
      go_enter Tryz.func152, Tryz.ntmps152
      go_wp2_with fail
      refine (HT.out _).mono ?_
      rintro e w1 ⟨rfl, rfl⟩
      go_wp2_with fail
      refine (HV.out _).mono ?_
      rintro e w2 ⟨rfl, b2⟩
      go_wp2
      go_ret
      exact ⟨rfl, b0.out.trans (b2.mono b0.out.size)⟩
    | true =>
      go_enter Tryz.func152, Tryz.ntmps152
      go_wp2_with fail
      refine (HT.out _).mono ?_
      rintro e w1 ⟨rfl, rfl⟩
      go_wp2_with fail
      refine (HV.out _).mono ?_
      rintro e w2 ⟨rfl, b2⟩
      go_wp2
      go_ret
      exact ⟨rfl, b0.out.trans (b2.mono b0.out.size)⟩

/-- Two blocks of the call's own: a field that came in, and one that is told. -/
structure FTwo (w x : World) (a b : ByteArray) : Prop where
  h0 : x.heap[w.heap.size]? = some (.cells #[.string a, .string b] 48)
  h1 : x.heap[w.heap.size + 1]? = some (.cells #[.string ⟨#[]⟩, .string ⟨#[]⟩] 48)
  b : Below w.heap.size w x
theorem lt_heap {x : World} {b : Nat} {o : Obj} (h : x.heap[b]? = some o) : b < x.heap.size := (Array.getElem?_eq_some_iff.1 h).1
theorem FTwo.start (w : World) (a b : ByteArray) : FTwo w ((w.alloc (.cells #[.string a, .string b] 48)).alloc (.cells #[.string ⟨#[]⟩, .string ⟨#[]⟩] 48)) a b := by
  have e : (w.alloc (.cells #[.string a, .string b] 48)).heap.size = w.heap.size + 1 := by show (w.heap.push _).size = _; simp
  refine ⟨?_, ?_, ((Below.refl _ w).alloc (Nat.le_refl _) _).alloc (by omega) _⟩
  · rw [Below.heap_alloc _ _ _ (by omega)]; exact hp_new w _
  · rw [← e]; exact hp_new _ _
theorem FTwo.below {w x y : World} {a b : ByteArray} (h : FTwo w x a b) (hb : Below x.heap.size x y) : FTwo w y a b :=
  ⟨(hb.block _ (lt_heap h.h0)).trans h.h0, (hb.block _ (lt_heap h.h1)).trans h.h1, h.b.trans (hb.mono h.b.size)⟩
theorem FTwo.cl {w x : World} {a b s : ByteArray} (h : FTwo w x a b) (hs : s.size ≤ 281474976710656) :
    Calls Tryz.prog 43 #[.string s] x fun e y => e = .returned (.string s) ∧ y.cell? ⟨w.heap.size, 0, none⟩ = some (.string a) ∧ y.cell? ⟨w.heap.size, 1, none⟩ = some (.string b) ∧ y.frozen? ⟨w.heap.size + 1, 0, none⟩ = false ∧ y.frozen? ⟨w.heap.size + 1, 1, none⟩ = false ∧
      y.cell? ⟨w.heap.size + 1, 0, none⟩ = some (.string ⟨#[]⟩) ∧ y.cell? ⟨w.heap.size + 1, 1, none⟩ = some (.string ⟨#[]⟩) ∧ Hid (FTwo w y a b) := by
  refine (clone_any s x hs).mono ?_
  rintro e y ⟨rfl, hb⟩
  have h2 := h.below hb
  exact ⟨rfl, cell_at h2.h0 0, cell_at h2.h0 1, by rw [frozen_at h2.h1]; rfl, by rw [frozen_at h2.h1]; rfl, cell_at h2.h1 0, cell_at h2.h1 1, h2⟩
theorem FTwo.fin {w y : World} {a b c d : ByteArray} (h : FTwo w y a b) : ((y.setCell ⟨w.heap.size + 1, 0, none⟩ (.string c)).setCell ⟨w.heap.size + 1, 1, none⟩ (.string d)).cell? ⟨w.heap.size + 1, 0, none⟩ = some (.string c) ∧
    ((y.setCell ⟨w.heap.size + 1, 0, none⟩ (.string c)).setCell ⟨w.heap.size + 1, 1, none⟩ (.string d)).cell? ⟨w.heap.size + 1, 1, none⟩ = some (.string d) ∧ Below w.heap.size w ((y.setCell ⟨w.heap.size + 1, 0, none⟩ (.string c)).setCell ⟨w.heap.size + 1, 1, none⟩ (.string d)) := by
  have h2 := hp_set (hp_set h.h1 0 (.string c)) 1 (.string d)
  exact ⟨cell_at h2 0, cell_at h2 1, (h.b.setCell (p := ⟨w.heap.size + 1, 0, none⟩) (by show w.heap.size ≤ w.heap.size + 1; omega) _).setCell (p := ⟨w.heap.size + 1, 1, none⟩) (by show w.heap.size ≤ w.heap.size + 1; omega) _⟩
end Go.Proofs.YtcagjipdldlehaaGreatDoor
