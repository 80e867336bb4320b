/- The tables of ranges, out of the row's list; worlds that hold the list. -/
import Derived.Test.YtekkhjlipijmcaaGreatDoorZSay
import Derived.Test.YtekkhjlipijmcaaGreatDoorRows
import Derived.Lib.LaidTab
import Derived.Stop.LaidErr
import Derived.LaidLaws
import Derived.LaidSub
import Derived.Shelf.Vars
import Derived.Lay
import Derived.MakeChecks
namespace Go.Proofs.YtekkhjlipijmcaaGreatDoor
open Go.ChangeShapes Go.WideShapes Go.ChangeAt Go.RowKit
def laidZ : List (String × DataW Unit) := [("unicode/utf8.acceptRanges", Rows.laid_unicode_utf8_acceptRanges), ("headrace/config.hostRanges", Rows.laid_headrace_config_hostRanges), ("headrace/config.routeRanges", Rows.laid_headrace_config_routeRanges), ("headrace/config.restRanges", Rows.laid_headrace_config_restRanges), ("unicode/utf8.first", Rows.laid_unicode_utf8_first)]
theorem metZ (os : Os) (args : Array Value) : laidMet Tryz.prog laidZ ((World.laidAll Tryz.prog os laidZ).forCall (fun _ _ => 0) ⟨#[], args, []⟩).memory :=
  laidMet_laidAll args (by kernel_rfl) (by kernel_rfl)
theorem plainZ {W : World} (h : laidMetH Tryz.prog laidZ W) : laidMet Tryz.prog laidZ W := by
  rw [MakeChecks.laidMetH_plain _ _ _ (by kernel_rfl)] at h
  exact h
def pairsD {H : Type} (L : List (Int × Int)) : DataW H := .agg (L.map fun x => .agg [.lit (.int .i64 x.1), .lit (.int .i64 x.2)])
theorem cells_of_pairs {H : Type} {enc : TypeId × Value → H} {P : Program} {w : World} {base : Nat} {sp : Nat → Bool} {held : Bool} {fuel : Nat} {t e i64 : TypeId} {n : Nat} {f0 f1 : Field} {cs : List Value} {L : List (Int × Int)} {p : List MemPlace}
    (ht : P.underlying t = some (.array n e)) (he : P.underlying e = some (.struct #[f0, f1])) (hi : P.underlying i64 = some (.int .i64)) (t0 : f0.type = i64) (t1 : f1.type = i64) (o0 : f0.offset = 0) (o1 : f1.offset = 1) (hci : P.cellsOf i64 = 1) (hce : P.cellsOf e = 2)
    (h : DataW.trod enc P w base sp held fuel t cs = some (pairsD L, p)) : ∀ k a b, L[k]? = some (a, b) → cs[2 * k]? = some (.int .i64 a) ∧ cs[2 * k + 1]? = some (.int .i64 b) := by
  intro k a b hk
  obtain ⟨xs, m, _, hx, _, hlen, hel⟩ := DataW.trod_array ht h
  have hxs : xs.map (·.1) = L.map fun x => (DataW.agg [.lit (.int .i64 x.1), .lit (.int .i64 x.2)] : DataW H) := by
    have := congrArg Prod.fst hx
    simpa [pairsD] using this.symm
  have hkx : (xs.map (·.1))[k]? = some (DataW.agg [.lit (.int .i64 a), .lit (.int .i64 b)] : DataW H) := by rw [hxs]; simp [hk]
  rw [List.getElem?_map, Option.map_eq_some_iff] at hkx
  obtain ⟨y, hy, hy1⟩ := hkx
  have hkn : k < n := by rw [← hlen]; exact (List.getElem?_eq_some_iff.1 hy).1
  have hf := hel k hkn
  rw [hy] at hf
  obtain ⟨y0, y1, m2, hy2, _, h0, h1⟩ := trod_struct2 he hf
  rw [t0, o0, hci] at h0
  rw [t1, o1, hci] at h1
  obtain ⟨z0, hc0, hz0, _⟩ := DataW.trod_int hi h0
  obtain ⟨z1, hc1, hz1, _⟩ := DataW.trod_int hi h1
  rw [hy2, hz0, hz1] at hy1
  simp only [DataW.agg.injEq, List.cons.injEq, DataW.lit.injEq, Lit.int.injEq, true_and, and_true] at hy1
  obtain ⟨rfl, rfl⟩ := hy1
  rw [hce] at hc0 hc1
  constructor
  · have := congrArg (·[0]?) hc0
    simpa [List.getElem?_take, List.getElem?_drop, Nat.mul_comm] using this
  · have := congrArg (·[0]?) hc1
    simpa [List.getElem?_take, List.getElem?_drop, Nat.mul_comm] using this
theorem rg_head {W : World} {name : String} {L : List (Int × Int)} {rest : List (String × DataW Unit)} {g : Nat} {t e : TypeId} {n : Nat} {f0 f1 : Field}
    (hg : Tryz.prog.globalNamed name = some g) (hty : (Tryz.prog.globals[g]?).map (·.type) = some t) (ht : Tryz.prog.underlying t = some (.array n e)) (he : Tryz.prog.underlying e = some (.struct #[f0, f1])) (t0 : f0.type = 3) (t1 : f1.type = 3) (o0 : f0.offset = 0) (o1 : f1.offset = 1) (hce : Tryz.prog.cellsOf e = 2) (hL : L ≠ [])
    (h : laidMet Tryz.prog ((name, pairsD L) :: rest) W) : RG W g L := by
  obtain ⟨ps, ⟨g', t', cs, fuel, p, q, hg', ht', hvar, hd, _, _⟩, _⟩ := h
  obtain rfl := Option.some.inj (hg.symm.trans hg')
  obtain rfl := Option.some.inj (hty.symm.trans ht')
  have hc := cells_of_pairs ht he Tryz.underlying3 t0 t1 o0 o1 (by kernel_rfl) hce hd
  have hw : ∀ k a b, L[k]? = some (a, b) → W.cell? ⟨g, 2 * k, none⟩ = some (.int .i64 a) ∧ W.cell? ⟨g, 2 * k + 1, none⟩ = some (.int .i64 b) := fun k a b hk => by
    obtain ⟨h0, h1⟩ := hc k a b hk
    exact ⟨by rw [World.var?_cell hg hvar]; simpa using h0, by rw [World.var?_cell hg hvar]; simpa using h1⟩
  refine ⟨?_, hw⟩
  cases L with
  | nil => exact absurd rfl hL
  | cons x l => exact World.block_lt_of_cell? W _ (hw 0 x.1 x.2 rfl).1
theorem tbl_of {W : World} (h : laidMetH Tryz.prog laidZ W) (hs : W.ShapedOpen Tryz.prog) : Tbl W := by
  have h1 := laidMet.tail (plainZ h)
  have h2 := laidMet.tail h1
  have h3 := laidMet.tail h2
  refine ⟨?_, ?_, ?_, ?_⟩
  · exact rg_head (name := "headrace/config.hostRanges") (by kernel_rfl) (by kernel_rfl) Tryz.underlying71 Tryz.underlying70 rfl rfl rfl rfl (by kernel_rfl) (by decide) h1
  · exact rg_head (name := "headrace/config.routeRanges") (by kernel_rfl) (by kernel_rfl) Tryz.underlying75 Tryz.underlying70 rfl rfl rfl rfl (by kernel_rfl) (by decide) h2
  · exact rg_head (name := "headrace/config.restRanges") (by kernel_rfl) (by kernel_rfl) Tryz.underlying75 Tryz.underlying70 rfl rfl rfl rfl (by kernel_rfl) (by decide) h3
  · obtain ⟨m, hm⟩ := cell_of_shapedOpen_int (P := Tryz.prog) (g := 3) (t := 3) (zero := #[.int .i64 0]) hs (of_decide_eq_true (by kernel_rfl)) (by kernel_rfl) rfl (by kernel_rfl) (by kernel_rfl) Tryz.underlying3
    exact ⟨World.block_lt_of_cell? W _ hm, m, hm⟩
end Go.Proofs.YtekkhjlipijmcaaGreatDoor
