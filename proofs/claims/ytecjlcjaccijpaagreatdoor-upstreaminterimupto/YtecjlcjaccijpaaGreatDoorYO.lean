/- YO. -/
import Derived.Test.YtecjlcjaccijpaaGreatDoorRows
import Derived.Test.YtecjlcjaccijpaaGreatDoorYP
import Derived.Deep.SlicePairs
import Derived.Deep.Slices
import Derived.Lib.SmallJoins
import Derived.OpenShut
import Derived.ShutString
import Derived.ChangeOld
import Derived.ProofKit
namespace Go.Proofs.YtecjlcjaccijpaaGreatDoor
open Go.ChangeShapes Go.WideShapes Go.ChangeAt Go.RowKit
set_option linter.unusedVariables false
open Go.ChangeShapes Go.WideShapes Go.ChangeAt Go.RowKit Go.Joins Go.Deep
set_option maxHeartbeats 16000000
set_option maxRecDepth 100000
theorem bulk_one {H : Type} (d : DataW H) : 1 <= Rows.uptoBulk d := by
 cases d with
 | lit l => cases l <;> simp [Rows.uptoBulk]
 | nil => simp [Rows.uptoBulk]
 | ptr d => simp [Rows.uptoBulk]
 | slice elems spare => simp [Rows.uptoBulk]
 | agg parts => simp [Rows.uptoBulk]
 | iface t d => simp [Rows.uptoBulk]
 | map entries => simp [Rows.uptoBulk]
 | held h => simp [Rows.uptoBulk]
theorem bulk_many {H : Type} (l : List (DataW H)) : l.length <= Rows.uptoBulkAll l := by
 induction l with
 | nil => simp
 | cons x r ih =>
  have := bulk_one x
  simp only [Rows.uptoBulkAll, List.length_cons]
  omega
theorem addr_plus (b off i : Nat) : (⟨b, off, none⟩ : Addr).add i = ⟨b, off + i, none⟩ := by unfold Addr.add; split <;> simp_all
section
variable {H : Type} {enc : TypeId × Value -> H} {P : Program} {w : World} {base : Nat} {spare : Nat -> Bool} {held : Bool}
end
section
variable {H : Type} {enc : TypeId × Value -> H} {P : Program} {w : World} {base : Nat} {spare : Nat -> Bool} {held : Bool}
end
theorem cells5 : Tryz.prog.cellsOf 5 = 1 := by kernel_rfl
theorem bytes_in {H : Type} {enc : TypeId × Value -> H} {W : World} {fuel : Nat} {v : Value} {x : DataW H × List MemPlace} (h : DataW.trod enc Tryz.prog W 0 (fun _ => true) true fuel 24 [v] = some x) :
  ∃ l : List UInt8, Bs W W.heap.size v l /\ Shp v /\ l.length <= Rows.uptoBulk x.1 := by
 rcases open_ints Tryz.underlying24 Tryz.underlying5 cells5 h with ⟨hcs, hx⟩ | ⟨ad, l, c, zs, hcs, _, hl, hm, hz, hx, hcell, hwz⟩
 ·simp only [List.cons.injEq, and_true] at hcs
  subst hcs
  exact ⟨[], ⟨none, 0, rfl, Nat.le_refl _, fun j hj => by simp at hj⟩, .inl rfl, Nat.zero_le _⟩
 ·simp only [List.cons.injEq, and_true] at hcs
  subst hcs
  have hzl : zs.length = c := by simpa using hz
  have el : ((zs.take l).map fun z => UInt8.ofNat z.toNat).length = l := by simp; omega
  obtain ⟨b, off, spot⟩ := ad
  refine ⟨(zs.take l).map fun z => UInt8.ofNat z.toNat, ⟨some ⟨b, off, spot⟩, c, by rw [el], by rw [el]; exact hl, fun j hj => ?_⟩, .inr ⟨_, _, _, rfl⟩, ?_⟩
  ·rw [el] at hj
   have hspot : spot = none := by simpa [Addr.add] using World.cell?_spot (hcell 0 (by omega))
   subst hspot
   have hc := hcell j (by omega)
   rw [addr_plus] at hc
   have hlt := World.block_lt_of_cell? W _ hc
   refine ⟨b, off, rfl, hlt, hlt, ?_⟩
   rw [hc]
   have hjz : j < zs.length := by omega
   have hb := bounds_u8 (hwz zs[j] (List.getElem_mem hjz))
   simp only [List.getD, List.getElem?_eq_getElem hjz, Option.getD_some, List.getElem_map, List.getElem_take]
   congr 2
   rw [UInt8.toNat_ofNat']
   omega
  ·rw [el, hx]
   have := bulk_many (H := H) (lits .u8 (zs.take l))
   simp only [lits, List.length_map, List.length_take] at this
   simp only [Rows.uptoBulk, lits]
   omega
end Go.Proofs.YtecjlcjaccijpaaGreatDoor
