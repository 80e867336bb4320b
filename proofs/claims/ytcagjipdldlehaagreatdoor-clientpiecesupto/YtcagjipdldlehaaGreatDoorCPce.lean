/- What is fed at one time: its block, what is not read of it, the body's bytes that were read of it. -/
import Derived.Test.YtcagjipdldlehaaGreatDoorCTrl
namespace Go.Proofs.YtcagjipdldlehaaGreatDoor
open Go.ChangeShapes Go.WideShapes Go.ChangeAt Go.RowKit

/-- A slice that reads as bytes; they lie ahead of base. -/
def Bs (w : World) (base : Nat) (v : Value) (l : List UInt8) : Prop := ∃ (a : Option Addr) (c : Nat), v = .slice a l.length c ∧ l.length ≤ c ∧ ∀ j (h : j < l.length), ∃ g o, a = some ⟨g, o, none⟩ ∧ g < base ∧ g < w.heap.size ∧ w.cell? ⟨g, o + j, none⟩ = some (.int .u8 (l[j].toNat : Int))
theorem Bs.below {w w' : World} {base base' : Nat} {v : Value} {l : List UInt8} (h : Bs w base v l) (hb : base ≤ base') (b : Below w.heap.size w w') : Bs w' base' v l := by
  obtain ⟨a, c, rfl, hc, hx⟩ := h
  refine ⟨a, c, rfl, hc, fun j hj => ?_⟩
  obtain ⟨g, o, h1, h2, h3, h4⟩ := hx j hj
  exact ⟨g, o, h1, Nat.lt_of_lt_of_le h2 hb, Nat.lt_of_lt_of_le h3 b.size, (b.cell (p := ⟨g, o + j, none⟩) h3).trans h4⟩
theorem Bs.keep {w w' : World} {base : Nat} {v : Value} {l : List UInt8} (h : Bs w base v l) (hs : w.heap.size ≤ w'.heap.size) (b : ∀ k, k < base → k < w.heap.size → w'.heap[k]? = w.heap[k]?) : Bs w' base v l := by
  obtain ⟨a, c, rfl, hc, hx⟩ := h
  refine ⟨a, c, rfl, hc, fun j hj => ?_⟩
  obtain ⟨g, o, h1, h2, h3, h4⟩ := hx j hj
  refine ⟨g, o, h1, h2, Nat.lt_of_lt_of_le h3 hs, ?_⟩
  rw [← h4]
  unfold World.cell?
  rw [show (⟨g, o + j, none⟩ : Addr).block = g from rfl, b g h2 h3]
/-- A slice that is nil or has an address. -/
def Shp (v : Value) : Prop := v = .slice none 0 0 ∨ ∃ a n c, v = .slice (some a) n c
/-- A slice that reads as bytes, in blocks of a kind. -/
def Bf (w : World) (A : Nat → Prop) (v : Value) (l : List UInt8) : Prop := ∃ (a : Option Addr) (c : Nat), v = .slice a l.length c ∧ l.length ≤ c ∧ ∀ j (h : j < l.length), ∃ g o, a = some ⟨g, o, none⟩ ∧ A g ∧ g < w.heap.size ∧ w.cell? ⟨g, o + j, none⟩ = some (.int .u8 (l[j].toNat : Int))
theorem Bf.below {w w' : World} {A : Nat → Prop} {v : Value} {l : List UInt8} (h : Bf w A v l) (b : Below w.heap.size w w') : Bf w' A v l := by
  obtain ⟨a, c, rfl, hc, hx⟩ := h
  refine ⟨a, c, rfl, hc, fun j hj => ?_⟩
  obtain ⟨g, o, h1, h2, h3, h4⟩ := hx j hj
  exact ⟨g, o, h1, h2, Nat.lt_of_lt_of_le h3 b.size, (b.cell (p := ⟨g, o + j, none⟩) h3).trans h4⟩
theorem Bf.keep {w w' : World} {A : Nat → Prop} {v : Value} {l : List UInt8} (h : Bf w A v l) (hs : w.heap.size ≤ w'.heap.size) (b : ∀ k, A k → k < w.heap.size → w'.heap[k]? = w.heap[k]?) : Bf w' A v l := by
  obtain ⟨a, c, rfl, hc, hx⟩ := h
  refine ⟨a, c, rfl, hc, fun j hj => ?_⟩
  obtain ⟨g, o, h1, h2, h3, h4⟩ := hx j hj
  refine ⟨g, o, h1, h2, Nat.lt_of_lt_of_le h3 hs, ?_⟩
  rw [← h4]
  unfold World.cell?
  rw [show (⟨g, o + j, none⟩ : Addr).block = g from rfl, b g h2 h3]
theorem Bf.bs {w : World} {A : Nat → Prop} {v : Value} {l : List UInt8} (h : Bf w A v l) : Bs w w.heap.size v l := by
  obtain ⟨a, c, rfl, hc, hx⟩ := h
  refine ⟨a, c, rfl, hc, fun j hj => ?_⟩
  obtain ⟨g, o, h1, h2, h3, h4⟩ := hx j hj
  exact ⟨g, o, h1, h3, h3, h4⟩
structure Pce (w : World) (base : Nat) (A : Nat → Prop) (h : Nat) (rv bv : Value) (rest body : List UInt8) : Prop where
  blk : w.heap[h]? = some (.cells #[rv, bv] 257 (0, 0))
  rest : Bf w A rv rest
  shp : Shp rv
  body : Row w base 5 bv (bc body)
  hb : base ≤ h
  bh : bv.ownBlock ≠ some h
  hA : ¬ A h
  bA : ∀ k, bv.ownBlock = some k → ¬ A k
  AL : ∀ k, A k → k < w.heap.size
theorem Pce.lt {w : World} {base h : Nat} {A : Nat → Prop} {rv bv : Value} {rest body : List UInt8} (p : Pce w base A h rv bv rest body) : h < w.heap.size := lt_heap p.blk
theorem Pce.cell {w : World} {base h : Nat} {A : Nat → Prop} {rv bv : Value} {rest body : List UInt8} (p : Pce w base A h rv bv rest body) (i : Nat) : w.cell? ⟨h, i, none⟩ = (#[rv, bv] : Array Value)[i]? := cell_at p.blk i
theorem Pce.froz {w : World} {base h : Nat} {A : Nat → Prop} {rv bv : Value} {rest body : List UInt8} (p : Pce w base A h rv bv rest body) (i : Nat) : w.frozen? ⟨h, i, none⟩ = false := by rw [frozen_at p.blk]; simp
theorem Pce.below {w w' : World} {base h : Nat} {A : Nat → Prop} {rv bv : Value} {rest body : List UInt8} (p : Pce w base A h rv bv rest body) (b : Below w.heap.size w w') : Pce w' base A h rv bv rest body :=
  ⟨(b.block h p.lt).trans p.blk, p.rest.below b, p.shp, p.body.below b, p.hb, p.bh, p.hA, p.bA, fun k hk => Nat.lt_of_lt_of_le (p.AL k hk) b.size⟩
/-- The rest is another one. -/
theorem Pce.turn {w : World} {base h : Nat} {A : Nat → Prop} {rv bv : Value} {rest body : List UInt8} (p : Pce w base A h rv bv rest body) {rv' : Value} {rest' : List UInt8} (hr : Bf w A rv' rest') (hs : Shp rv') : Pce (w.setCell ⟨h, 0, none⟩ rv') base A h rv' bv rest' body := by
  refine ⟨hp_set p.blk 0 rv', hr.keep (by simp) (fun k hk _ => Below.heap_setCell w ⟨h, 0, none⟩ rv' k (fun e => p.hA (by rw [← show k = h from e]; exact hk))), hs, ?_, p.hb, p.bh, p.hA, p.bA, fun k hk => by simpa using p.AL k hk⟩
  exact p.body.frame fun k hk => Below.heap_setCell w ⟨h, 0, none⟩ rv' k (fun e => p.bh (by rw [hk, e]))
/-- What a call that reads on may have changed: the piece's block, and the row of its body. -/
structure QK (w w' : World) (h : Nat) (bv bv' : Value) : Prop where
  os : w'.os = w.os
  tape : w'.tape = w.tape
  output : w'.output = w.output
  size : w.heap.size ≤ w'.heap.size
  block : ∀ k, k < w.heap.size → k ≠ h → bv.ownBlock ≠ some k → w'.heap[k]? = w.heap[k]?
  ba : ∀ k, k < w.heap.size → bv.ownBlock ≠ some k → bv'.ownBlock ≠ some k
theorem QK.refl (w : World) (h : Nat) (bv : Value) : QK w w h bv bv := ⟨rfl, rfl, rfl, Nat.le_refl _, fun _ _ _ _ => rfl, fun _ _ h => h⟩
theorem QK.trans {a b c : World} {h : Nat} {u v x : Value} (p : QK a b h u v) (q : QK b c h v x) : QK a c h u x :=
  ⟨q.os.trans p.os, q.tape.trans p.tape, q.output.trans p.output, Nat.le_trans p.size q.size, fun k hk h1 h2 => (q.block k (Nat.lt_of_lt_of_le hk p.size) h1 (p.ba k hk h2)).trans (p.block k hk h1 h2), fun k hk h2 => q.ba k (Nat.lt_of_lt_of_le hk p.size) (p.ba k hk h2)⟩
theorem QK.set (w : World) (h i : Nat) (v bv : Value) : QK w (w.setCell ⟨h, i, none⟩ v) h bv bv :=
  ⟨rfl, rfl, rfl, by simp, fun k _ hk _ => Below.heap_setCell w ⟨h, i, none⟩ v k hk, fun _ _ h => h⟩
theorem QK.of_below {w w' : World} (h : Nat) (bv : Value) (b : Below w.heap.size w w') : QK w w' h bv bv :=
  ⟨b.os, b.tape, b.output, b.size, fun k hk _ _ => b.block k hk, fun _ _ h => h⟩
theorem Bf.tail {w : World} {A : Nat → Prop} {g o : Nat} {c : Nat} {x : UInt8} {l : List UInt8} (h : Bf w A (.slice (some ⟨g, o, none⟩) (l.length + 1) c) (x :: l)) : Bf w A (.slice (some ⟨g, o + 1, none⟩) l.length (c - 1)) l := by
  obtain ⟨a, c', he, hc, hx⟩ := h
  simp only [Value.slice.injEq, List.length_cons] at he hc
  obtain ⟨rfl, _, rfl⟩ := he
  refine ⟨_, c - 1, rfl, by omega, fun j hj => ?_⟩
  obtain ⟨g', o', h1, h2, h3, h4⟩ := hx (j + 1) (by simp; omega)
  simp only [Option.some.injEq, Addr.mk.injEq] at h1
  obtain ⟨rfl, rfl, _⟩ := h1
  refine ⟨g, o + 1, rfl, h2, h3, ?_⟩
  rw [show o + 1 + j = o + (j + 1) by omega, h4]
  simp
set_option maxHeartbeats 2000000 in
theorem next_any {w : World} {base h : Nat} {A : Nat → Prop} {rv bv : Value} {x : UInt8} {rest body : List UInt8} (p : Pce w base A h rv bv (x :: rest) body) (hl : rest.length ≤ 140737488355328) :
    Calls Tryz.prog 182 #[.pointer (some ⟨h, 0, none⟩)] w fun e w' => e = .returned (.int .u8 (x.toNat : Int)) ∧ ∃ rv', Pce w' base A h rv' bv rest body ∧ QK w w' h bv bv := by
  have HP := hide p
  obtain ⟨a, c, rfl, hc, hx⟩ := p.rest
  obtain ⟨g, o, rfl, hg1, hg2, hx0⟩ := hx 0 (by simp)
  have HR := hide p.rest
  simp only [List.length_cons] at hc
  have hlen : (x :: rest).length = rest.length + 1 := rfl
  rw [hlen] at HP HR
  have c0 : w.cell? ⟨h, 0, none⟩ = some (.slice (some ⟨g, o, none⟩) (rest.length + 1) c) := HP.out.cell 0
  have f0 := HP.out.froz 0
  have r0 : w.cell? ⟨g, o, none⟩ = some (.int .u8 (x.toNat : Int)) := hx0
  clear p hx hx0 hlen
  by_cases h1 : c = 1
  · subst h1
    have hr0 : rest = [] := List.eq_nil_of_length_eq_zero (by omega)
    subst hr0
    go_enter Tryz.func182, Tryz.ntmps182
    go_wp2
    go_ret
    exact ⟨rfl, _, HP.out.turn ⟨_, 0, rfl, Nat.le_refl _, fun j hj => by simp at hj⟩ (.inr ⟨_, _, _, rfl⟩), QK.set _ _ _ _ _⟩
  · go_enter Tryz.func182, Tryz.ntmps182
    go_wp2
    go_ret
    exact ⟨rfl, _, HP.out.turn HR.out.tail (.inr ⟨_, _, _, rfl⟩), QK.set _ _ _ _ _⟩
end Go.Proofs.YtcagjipdldlehaaGreatDoor
