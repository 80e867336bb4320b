/- Blocks of a call's own, each by what it holds. -/
import Derived.Test.YtcagjipdldlehaaGreatDoorApp
namespace Go.Proofs.YtcagjipdldlehaaGreatDoor
open Go.ChangeShapes Go.WideShapes Go.ChangeAt Go.RowKit

/-- The blocks behind those of w, as many as L has, hold what L says; those of w are as they were. -/
structure Bl (w x : World) (L : List (Array Value × TypeId)) : Prop where
  hp : ∀ i c t, L[i]? = some (c, t) → x.heap[w.heap.size + i]? = some (.cells c t)
  b : Below w.heap.size w x
theorem Bl.nil (w : World) : Bl w w [] := ⟨fun i c t h => by simp at h, Below.refl _ w⟩
theorem Bl.add {w x : World} {L : List (Array Value × TypeId)} (h : Bl w x L) (hs : x.heap.size = w.heap.size + L.length) (c : Array Value) (t : TypeId) : Bl w (x.alloc (.cells c t)) (L ++ [(c, t)]) := by
  refine ⟨fun i c' t' hi => ?_, h.b.alloc (by omega) _⟩
  by_cases hl : i < L.length
  · rw [List.getElem?_append_left hl] at hi
    rw [Below.heap_alloc _ _ _ (by omega)]
    exact h.hp i c' t' hi
  · have hi2 : i = L.length := by
      have := (List.getElem?_eq_some_iff.1 hi).1
      simp at this
      omega
    subst hi2
    simp at hi
    obtain ⟨rfl, rfl⟩ := hi
    rw [← hs]
    exact hp_new _ _
theorem Bl.one (w : World) (c : Array Value) (t : TypeId) : Bl w (w.alloc (.cells c t)) [(c, t)] := (Bl.nil w).add rfl c t
theorem Bl.two (w : World) (c : Array Value) (t : TypeId) (c1 : Array Value) (t1 : TypeId) : Bl w ((w.alloc (.cells c t)).alloc (.cells c1 t1)) [(c, t), (c1, t1)] := (Bl.one w c t).add (by simp) c1 t1
theorem Bl.three (w : World) (c : Array Value) (t : TypeId) (c1 : Array Value) (t1 : TypeId) (c2 : Array Value) (t2 : TypeId) : Bl w (((w.alloc (.cells c t)).alloc (.cells c1 t1)).alloc (.cells c2 t2)) [(c, t), (c1, t1), (c2, t2)] := (Bl.two w c t c1 t1).add (by simp) c2 t2
theorem blk_lt {x : World} {b : Nat} {o : Obj} (h : x.heap[b]? = some o) : b < x.heap.size := (Array.getElem?_eq_some_iff.1 h).1
theorem Bl.below {w x y : World} {L : List (Array Value × TypeId)} (h : Bl w x L) (hb : Below x.heap.size x y) : Bl w y L :=
  ⟨fun i c t hi => (hb.block _ (blk_lt (h.hp i c t hi))).trans (h.hp i c t hi), h.b.trans (hb.mono h.b.size)⟩
theorem Bl.drew {w x : World} {L : List (Array Value × TypeId)} (h : Bl w x L) : Bl w x.drew L := h.below (Below.refl _ x).drew
theorem Bl.cell {w x : World} {L : List (Array Value × TypeId)} (h : Bl w x L) (i : Nat) {c : Array Value} {t : TypeId} (hi : L[i]? = some (c, t)) (j : Nat) : x.cell? ⟨w.heap.size + i, j, none⟩ = c[j]? := cell_at (h.hp i c t hi) j
theorem Bl.fr {w x : World} {L : List (Array Value × TypeId)} (h : Bl w x L) (i : Nat) {c : Array Value} {t : TypeId} (hi : L[i]? = some (c, t)) (j : Nat) : x.frozen? ⟨w.heap.size + i, j, none⟩ = false := by
  rw [frozen_at (h.hp i c t hi)]; simp
theorem Bl.set {w x : World} {L : List (Array Value × TypeId)} (h : Bl w x L) (i : Nat) {c : Array Value} {t : TypeId} (hi : L[i]? = some (c, t)) (j : Nat) (v : Value) : Bl w (x.setCell ⟨w.heap.size + i, j, none⟩ v) (L.set i (c.setIfInBounds j v, t)) := by
  have hlen := (List.getElem?_eq_some_iff.1 hi).1
  refine ⟨fun k c' t' hk => ?_, h.b.setCell (by simp) _⟩
  by_cases hki : k = i
  · subst hki
    rw [List.getElem?_set_self hlen] at hk
    simp only [Option.some.injEq, Prod.mk.injEq] at hk
    obtain ⟨rfl, rfl⟩ := hk
    exact hp_set (h.hp k c t hi) j v
  · rw [List.getElem?_set_ne (fun e => hki e.symm)] at hk
    rw [Below.heap_setCell _ _ _ _ (by simp; omega)]
    exact h.hp k c' t' hk
end Go.Proofs.YtcagjipdldlehaaGreatDoor
