/- VO. -/
import Derived.Test.YtcagjipdldlehaaGreatDoorRows
import Derived.Test.YtcagjipdldlehaaGreatDoorVC
import Derived.Deep.SlicePairs
import Derived.Deep.Slices
import Derived.Lib.SmallJoins
import Derived.OpenShut
import Derived.ShutString
import Derived.ChangeOld
import Derived.ProofKit
import Derived.Test.YtcagjipdldlehaaGreatDoorVB
import Derived.Test.YtcagjipdldlehaaGreatDoorVR3
namespace Go.Proofs.YtcagjipdldlehaaGreatDoor
open Go.ChangeShapes Go.WideShapes Go.ChangeAt Go.RowKit
set_option linter.unusedVariables false
open Go.ChangeShapes Go.WideShapes Go.ChangeAt Go.RowKit Go.Joins Go.Deep
set_option maxHeartbeats 16000000
set_option maxRecDepth 100000
theorem bulk_one {H : Type} (d : DataW H) : 1 <= Rows.uptoBulk d := by
 cases d with
 | lit l => cases l <;> simp [Rows.uptoBulk]
 | nil => simp [Rows.uptoBulk]
 | ptr d => simp [Rows.uptoBulk]
 | slice elems spare => simp [Rows.uptoBulk]
 | agg parts => simp [Rows.uptoBulk]
 | iface t d => simp [Rows.uptoBulk]
 | map entries => simp [Rows.uptoBulk]
 | held h => simp [Rows.uptoBulk]
theorem bulk_many {H : Type} (l : List (DataW H)) : l.length <= Rows.uptoBulkAll l := by
 induction l with
 | nil => simp
 | cons x r ih =>
  have := bulk_one x;simp only [Rows.uptoBulkAll,List.length_cons];omega
theorem addr_plus (b off i : Nat) : (⟨b,off,none⟩ : Addr).add i = ⟨b,off + i,none⟩ := by unfold Addr.add;split <;> simp_all
section
variable {H : Type} {enc : TypeId × Value -> H} {P : Program} {w : World} {base : Nat} {spare : Nat -> Bool} {held : Bool}
end
section
variable {H : Type} {enc : TypeId × Value -> H} {P : Program} {w : World} {base : Nat} {spare : Nat -> Bool} {held : Bool}
end
theorem cells5 : Tryz.prog.cellsOf 5 = 1 := by kernel_rfl
theorem bytes_in {H : Type} {enc : TypeId × Value -> H} {W : World} {fuel : Nat} {v : Value} {x : DataW H × List MemPlace} (h : DataW.trod enc Tryz.prog W 0 (fun _ => true) true fuel 31 [v] = some x) :
  ∃ l : List UInt8,Bs W W.heap.size v l /\ Shp v /\ l.length <= Rows.uptoBulk x.1 := by
 rcases open_ints Tryz.underlying31 Tryz.underlying5 cells5 h with ⟨hcs,hx⟩ | ⟨ad,l,c,zs,hcs,_,hl,hm,hz,hx,hcell,hwz⟩
 ·simp only [List.cons.injEq, and_true] at hcs
  subst hcs;exact ⟨[],⟨none,0,rfl,Nat.le_refl _,fun j hj => by simp at hj⟩,.inl rfl,Nat.zero_le _⟩
 ·simp only [List.cons.injEq, and_true] at hcs
  subst hcs;have hzl : zs.length = c := by simpa using hz
  have el : ((zs.take l).map fun z => UInt8.ofNat z.toNat).length = l := by simp;omega
  obtain ⟨b,off,spot⟩ := ad;refine ⟨(zs.take l).map fun z => UInt8.ofNat z.toNat,⟨some ⟨b,off,spot⟩,c,by rw [el],by rw [el];exact hl,fun j hj => ?_⟩,.inr ⟨_,_,_,rfl⟩,?_⟩
  ·rw [el] at hj
   have hspot : spot = none := by simpa [Addr.add] using World.cell?_spot (hcell 0 (by omega))
   subst hspot;have hc := hcell j (by omega);rw [addr_plus] at hc;have hlt := World.block_lt_of_cell? W _ hc;refine ⟨b,off,rfl,hlt,hlt,?_⟩;rw [hc];have hjz : j < zs.length := by omega
   have hb := bounds_u8 (hwz zs[j] (List.getElem_mem hjz));simp only [List.getD,List.getElem?_eq_getElem hjz,Option.getD_some,List.getElem_map,List.getElem_take]
   congr 2
   rw [UInt8.toNat_ofNat'];omega
  ·rw [el, hx]
   have := bulk_many (H := H) (lits .u8 (zs.take l));simp only [lits,List.length_map,List.length_take] at this;simp only [Rows.uptoBulk,lits];omega
theorem bulk_flat {H : Type} (D : Nat -> DataW H) (f : Nat -> List UInt8) : ∀ (l : List Nat), (∀ i ∈ l, (f i).length <= Rows.uptoBulk (D i)) -> ((l.map f).flatten).length <= Rows.uptoBulkAll (l.map D)
 | [],_ => Nat.zero_le _
 | i :: r,h => by
  have h1 := h i (by simp);have h2 := bulk_flat D f r (fun j hj => h j (List.mem_cons_of_mem _ hj));simp only [List.map_cons,List.flatten_cons,List.length_append,Rows.uptoBulkAll];omega
def SpR (W : World) (v : Value) (L : List (Int × List UInt8)) : Prop := ∃ (a : Option Addr) (c : Nat),v = .slice a L.length c /\ ∀ j (h : j < L.length),∃ g o va vc,a = some ⟨g,o,none⟩ /\ g < W.heap.size /\ W.cell? ⟨g,o + j * 2,none⟩ = some (.int .i64 L[j].1) /\ W.cell? ⟨g,o + j * 2 + 1,none⟩ = some (.slice va L[j].2.length vc) /\ Bs W W.heap.size (.slice va L[j].2.length vc) L[j].2 /\ Shp (.slice va L[j].2.length vc)
theorem spr_of {H : Type} {enc : TypeId × Value -> H} {W : World} {fuel : Nat} {v : Value} {x : DataW H × List MemPlace} (h : DataW.trod enc Tryz.prog W 0 (fun _ => true) true fuel 22 [v] = some x) :
  ∃ L : List (Int × List UInt8),SpR W v L /\ ((L.map (·.2)).flatten).length <= Rows.uptoBulk x.1 /\ L.length <= Rows.uptoBulk x.1 := by
 rcases open_slice_pairs Tryz.underlying22 Tryz.underlying33 (by kernel_rfl) (by rfl) (by rfl) (by kernel_rfl) (by kernel_rfl) h with ⟨hcs,_⟩ | ⟨ad,len,cap,m,n,V0,V1,D0,D1,P0,P1,hcs,_,hl,hm,hmm,hx,hel⟩
 ·simp only [List.cons.injEq, and_true] at hcs
  subst hcs;exact ⟨[],⟨none,0,rfl,fun j hj => by simp at hj⟩,Nat.zero_le _,Nat.zero_le _⟩
 ·simp only [List.cons.injEq, and_true] at hcs
  subst hcs;simp only [if_true] at hmm;subst hmm
  have each : ∀ i,∃ p : Int × List UInt8,i < len -> V0 i = .int .i64 p.1 /\ Bs W W.heap.size (V1 i) p.2 /\ Shp (V1 i) /\ p.2.length <= Rows.uptoBulk (DataW.agg [D0 i,D1 i] : DataW H) := fun i => by
   by_cases hi : i < len
   ·obtain ⟨_, _, h2, h3⟩ := hel i (by omega)
    obtain ⟨kd,e0,-,-⟩ := DataW.trod_int Tryz.underlying3 h2;simp only [List.cons.injEq,and_true] at e0;obtain ⟨l,b1,b2,b3⟩ := bytes_in h3;dsimp only at b3;exact ⟨(kd,l),fun _ => ⟨e0,b1,b2,by simp only [Rows.uptoBulk,Rows.uptoBulkAll];omega⟩⟩
   ·exact ⟨(0,[]),fun h => absurd h hi⟩
  obtain ⟨f,hf⟩ := Classical.axiomOfChoice each;obtain ⟨b,off,spot⟩ := ad;have hx1 : x.1 = .slice ((List.range len).map fun i => DataW.agg [D0 i,D1 i]) ((List.range (m - len)).map fun j => DataW.agg [D0 (len + j),D1 (len + j)]) := by rw [hx]
  refine ⟨(List.range len).map f,⟨some ⟨b,off,spot⟩,m,by simp,fun j hj => ?_⟩,?_,?_⟩
  ·have hj2 : j < len := by simpa using hj
   have hspot : spot = none := by simpa [Addr.add] using World.cell?_spot (hel 0 (by omega)).1
   subst hspot;obtain ⟨hc,hd,-,-⟩ := hel j (by omega);rw [addr_plus] at hc hd;obtain ⟨h0,h1,h2,_⟩ := hf j hj2;obtain ⟨va,vc,hv,hvc,hvx⟩ := h1;have e : ((List.range len).map f)[j] = f j := by simp
   rw [hv] at hd h2;rw [h0] at hc;refine ⟨b,off,va,vc,rfl,World.block_lt_of_cell? W _ hc,?_,?_,?_,?_⟩
   ·rw [e];exact hc
   ·rw [e,show off + j * 2 + 1 = off + (j * 2 + 1) by omega];exact hd
   ·rw [e];exact ⟨va,vc,rfl,hvc,hvx⟩
   ·rw [e];exact h2
  ·rw [hx1]
   have := bulk_flat (fun i => (DataW.agg [D0 i,D1 i] : DataW H)) (fun i => (f i).2) (List.range len) (fun i hi => (hf i (List.mem_range.1 hi)).2.2.2);rw [List.map_map];simp only [Rows.uptoBulk];have e2 : ((List.range len).map ((fun x : Int × List UInt8 => x.2) ∘ f)) = (List.range len).map fun i => (f i).2 := rfl
   rw [e2];omega
  ·rw [hx1]
   have := bulk_many ((List.range len).map fun i => (DataW.agg [D0 i,D1 i] : DataW H));simp only [List.length_map,List.length_range] at this;simp only [Rows.uptoBulk,List.length_map,List.length_range];omega
end Go.Proofs.YtcagjipdldlehaaGreatDoor
