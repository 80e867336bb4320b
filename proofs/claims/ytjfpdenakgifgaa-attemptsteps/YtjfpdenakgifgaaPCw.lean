/- A drawn region whose callees make blocks, walked once by the quick steps: over the worlds that part in new blocks alone. -/
import Derived.Test.YtjfpdenakgifgaaPBcl
namespace Go.Proofs.Ytjfpdenakgifgaa
open Go.ChangeShapes Go.WideShapes Go.ChangeAt Go.RowKit

theorem Cl.fr {w W : World} (h : Cl w W) : Fr none' w W := ⟨h.out.os, h.out.tape, h.out.output, h.out.size, fun k hk _ => h.out.block k hk⟩
theorem Fr.bel {w W : World} (h : Fr none' w W) : Below w.heap.size w W := h.below (Nat.le_refl _) (fun _ _ x => x)
theorem Fr.cl {w W : World} (h : Fr none' w W) : Cl w W := h.bel
/-- A world that parts from w in new blocks alone. -/
def Sw (w : World) : Type := { W : World // Fr none' w W }
instance Sw.some (w : World) : Nonempty (Sw w) := ⟨⟨w, Fr.refl _ _⟩⟩
def cw {w : World} (u : Sw w) : World := u.1
theorem cw_fr {w : World} (u : Sw w) : Fr none' w (cw u) := u.2
theorem cw_cell {w : World} {a : Addr} {v : Value} (h : w.cell? a = some v) (u : Sw w) : (cw u).cell? a = some v := (cw_fr u).cl.cell h
theorem call_cw {P : Program} {f : Nat} {args : Array Value} {w : World} {u : Sw w} {r : Value} (c : Calls P f args (cw u) fun e w' => e = .returned r ∧ Fr none' (cw u) w') : Calls P f args (cw u) fun e w' => e = .returned r ∧ ∃ u' : Sw w, w' = cw u' :=
  c.mono fun _ w' ⟨h1, h2⟩ => ⟨h1, ⟨w', (cw_fr u).trans h2 (fun _ _ x => x)⟩, rfl⟩
theorem call_cw_same {P : Program} {f : Nat} {args : Array Value} {w : World} {u : Sw w} {r : Value} (c : Calls P f args (cw u) fun e w' => e = .returned r ∧ cw u = w') : Calls P f args (cw u) fun e w' => e = .returned r ∧ ∃ u' : Sw w, w' = cw u' :=
  c.mono fun _ _ ⟨h1, h2⟩ => ⟨h1, u, h2.symm⟩
theorem wp_region_cw {P : Program} {id : Nat} {Q : Exit → Act → World → Prop} {a : Act} {w : World} {l : List Oper} (hm : P.follows .mixedOrders = true) (hB : Region.lexB .any l.toArray = true)
    (h : wpQuiet P l.toArray (fun W => ∃ u : Sw w, W = cw u) (fun a' => ∀ w', (∃ u : Sw w, w' = cw u) → Q .normal a' w') l a) : (Code.region id l.toArray true).wp P Q a w :=
  wp_region_quiet (C := fun W => ∃ u : Sw w, W = cw u) hm hB ⟨⟨w.drew, Fr.drew _ _⟩, rfl⟩ (by simpa using h)
end Go.Proofs.Ytjfpdenakgifgaa
