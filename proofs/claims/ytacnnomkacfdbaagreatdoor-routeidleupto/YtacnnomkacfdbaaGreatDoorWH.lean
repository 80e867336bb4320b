/- WH: FOpen Agg7 ZOpen ZLaid. -/
import Derived.Test.YtacnnomkacfdbaaGreatDoorRows
import Derived.Test.YtacnnomkacfdbaaGreatDoorWB
import Derived.Deep.SlicePairs
import Derived.OpenShut
import Derived.ShutString
import Derived.Lib.SmallJoins
import Derived.Test.YtacnnomkacfdbaaGreatDoorWF
import Derived.Test.YtacnnomkacfdbaaGreatDoorWG
import Derived.Deep.Slices
import Derived.Deep.Strs
import Derived.Lib.LaidTab
import Derived.Stop.LaidErr
import Derived.LaidLaws
import Derived.LaidSub
import Derived.Shelf.Vars
import Derived.Lay
import Derived.MakeChecks
/- Fields that came in: what they read as, and how great they may be. -/
namespace Go.Proofs.YtacnnomkacfdbaaGreatDoor
open Go.ChangeShapes Go.WideShapes Go.ChangeAt Go.RowKit Go.Deep

theorem bulk_one {H : Type} (d : DataW H) : 1 ≤ Rows.uptoBulk d := by
  cases d with
  | lit l => cases l <;> simp [Rows.uptoBulk]
  | nil => simp [Rows.uptoBulk]
  | ptr d => simp [Rows.uptoBulk]
  | slice elems spare => simp [Rows.uptoBulk]
  | agg parts => simp [Rows.uptoBulk]
  | iface t d => simp [Rows.uptoBulk]
  | map entries => simp [Rows.uptoBulk]
  | held h => simp [Rows.uptoBulk]
theorem bulk_many {H : Type} (l : List (DataW H)) : l.length ≤ Rows.uptoBulkAll l := by
  induction l with
  | nil => simp
  | cons x r ih =>
    have := bulk_one x
    simp only [Rows.uptoBulkAll, List.length_cons]
    omega
theorem bulk_mem {H : Type} {d : DataW H} : ∀ {l : List (DataW H)}, d ∈ l → Rows.uptoBulk d ≤ Rows.uptoBulkAll l
  | x :: r, h => by
    simp only [Rows.uptoBulkAll]
    rcases List.mem_cons.1 h with rfl | h
    · omega
    · have := bulk_mem h
      omega
theorem addr_plus (b off i : Nat) : (⟨b, off, none⟩ : Addr).add i = ⟨b, off + i, none⟩ := by unfold Addr.add; split <;> simp_all
def strOf : Value → ByteArray
  | .string s => s
  | _ => ByteArray.empty
theorem flds_of {H : Type} {enc : TypeId × Value → H} {W : World} {ad : Option Addr} {len cap : Nat} {d : DataW H} {p : List MemPlace} (h : DataW.Trod enc Tryz.prog W 0 (fun _ => true) true 26 (.slice ad len cap) d p) :
    ∃ A : List (ByteArray × ByteArray), Flds W (.slice ad len cap) A ∧ A.length ≤ Rows.uptoBulk d ∧ ∀ f ∈ A, f.1.size ≤ Rows.uptoBulk d ∧ f.2.size ≤ Rows.uptoBulk d := by
  obtain ⟨fuel, hf⟩ := h
  rcases open_slice_pairs Tryz.underlying26 Tryz.underlying45 (by kernel_rfl) (by rfl) (by rfl) (by kernel_rfl) (by kernel_rfl) hf with ⟨hcs, _⟩ | ⟨x, l, c, m, n, V0, V1, D0, D1, P0, P1, hcs, _, hl, hm, hmm, hx, hel⟩
  · simp [Value.cells] at hcs
    obtain ⟨rfl, rfl, rfl⟩ := hcs
    exact ⟨[], ⟨none, 0, rfl, ⟨Nat.le_refl _, fun _ => rfl⟩, fun j hj => by simp at hj⟩, Nat.zero_le _, fun f hf => by simp at hf⟩
  · simp [Value.cells] at hcs
    obtain ⟨rfl, rfl, rfl⟩ := hcs
    simp only [if_true] at hmm
    subst hmm
    obtain ⟨b, off, spot⟩ := x
    have hd := (Prod.mk.inj hx).1
    have each : ∀ i, i < len → ∃ s t : ByteArray, V0 i = .string s ∧ V1 i = .string t ∧ s.size ≤ Rows.uptoBulk d ∧ t.size ≤ Rows.uptoBulk d := by
      intro i hi
      obtain ⟨_, _, h2, h3⟩ := hel i (by omega)
      obtain ⟨s, e0, y0, _⟩ := DataW.trod_string Tryz.underlying9 h2
      obtain ⟨t, e1, y1, _⟩ := DataW.trod_string Tryz.underlying9 h3
      simp only [List.cons.injEq, and_true] at e0 e1
      have z0 := (Prod.mk.inj y0).1
      have z1 := (Prod.mk.inj y1).1
      have hmem : (DataW.agg [D0 i, D1 i] : DataW H) ∈ (List.range len).map fun i => DataW.agg [D0 i, D1 i] := List.mem_map.2 ⟨i, List.mem_range.2 hi, rfl⟩
      have hb := bulk_mem hmem
      rw [z0, z1] at hb
      simp only [Rows.uptoBulk, Rows.uptoBulkAll, size_len] at hb
      refine ⟨s, t, e0, e1, ?_, ?_⟩
      · rw [hd]; simp only [Rows.uptoBulk]; omega
      · rw [hd]; simp only [Rows.uptoBulk]; omega
    refine ⟨(List.range len).map fun i => (strOf (V0 i), strOf (V1 i)), ⟨some ⟨b, off, spot⟩, m, by simp, ⟨by simpa using hl, fun h => by cases h⟩, fun j hj => ?_⟩, ?_, ?_⟩
    · have hj' : j < len := by simpa using hj
      obtain ⟨h0, h1, _, _⟩ := hel j (by omega)
      have hspot : spot = none := by simpa [Addr.add] using World.cell?_spot (hel 0 (by omega)).1
      subst hspot
      rw [addr_plus] at h0 h1
      obtain ⟨s, t, e0, e1, _, _⟩ := each j hj'
      refine ⟨b, off, rfl, World.block_lt_of_cell? W _ h0, ?_, ?_⟩
      · rw [h0]; simp [e0, strOf]
      · rw [show off + j * 2 + 1 = off + (j * 2 + 1) by omega, h1]; simp [e1, strOf]
    · rw [hd]
      have := bulk_many ((List.range len).map fun i => (DataW.agg [D0 i, D1 i] : DataW H))
      rw [List.length_map] at this
      simp only [Rows.uptoBulk, List.length_map]
      omega
    · intro f hf
      obtain ⟨i, hi, rfl⟩ := List.mem_map.1 hf
      obtain ⟨s, t, e0, e1, h2, h3⟩ := each i (List.mem_range.1 hi)
      simp only [e0, e1, strOf]
      exact ⟨h2, h3⟩
theorem sm_of {A : List (ByteArray × ByteArray)} {n : Nat} (h1 : A.length ≤ n) (h2 : ∀ f ∈ A, f.1.size ≤ n ∧ f.2.size ≤ n) (hn : n ≤ 1048576) : Sm A :=
  ⟨by omega, fun f hf => by have := h2 f hf; omega⟩
end Go.Proofs.YtacnnomkacfdbaaGreatDoor
/- A struct of seven fields of one cell each, by value, opened. -/
namespace Go.Proofs.YtacnnomkacfdbaaGreatDoor
open Go.ChangeShapes Go.WideShapes Go.ChangeAt Go.RowKit Go.Joins Go.Deep
theorem array7 {α : Type} {cs : Array α} (h : cs.size = 7) : ∃ c0 c1 c2 c3 c4 c5 c6, cs = #[c0, c1, c2, c3, c4, c5, c6] := by
  obtain ⟨l⟩ := cs
  match l, h with
  | [c0, c1, c2, c3, c4, c5, c6], _ => exact ⟨c0, c1, c2, c3, c4, c5, c6, rfl⟩
section
variable {H : Type} {enc : TypeId × Value → H} {P : Program} {w : World} {base : Nat} {spare : Nat → Bool} {held : Bool}
theorem trod_struct7 {t : TypeId} {f0 f1 f2 f3 f4 f5 f6 : Field} {fuel : Nat} {cs : List Value} {x : DataW H × List MemPlace} (ht : P.underlying t = some (.struct #[f0, f1, f2, f3, f4, f5, f6])) (h : DataW.trod enc P w base spare held fuel t cs = some x) :
    ∃ y0 y1 y2 y3 y4 y5 y6 n, x = (.agg [y0.1, y1.1, y2.1, y3.1, y4.1, y5.1, y6.1], y0.2 ++ (y1.2 ++ (y2.2 ++ (y3.2 ++ (y4.2 ++ (y5.2 ++ y6.2)))))) ∧ DataW.trod enc P w base spare held n f0.type ((cs.drop f0.offset).take (P.cellsOf f0.type)) = some y0 ∧ DataW.trod enc P w base spare held n f1.type ((cs.drop f1.offset).take (P.cellsOf f1.type)) = some y1 ∧ DataW.trod enc P w base spare held n f2.type ((cs.drop f2.offset).take (P.cellsOf f2.type)) = some y2 ∧ DataW.trod enc P w base spare held n f3.type ((cs.drop f3.offset).take (P.cellsOf f3.type)) = some y3 ∧ DataW.trod enc P w base spare held n f4.type ((cs.drop f4.offset).take (P.cellsOf f4.type)) = some y4 ∧ DataW.trod enc P w base spare held n f5.type ((cs.drop f5.offset).take (P.cellsOf f5.type)) = some y5 ∧ DataW.trod enc P w base spare held n f6.type ((cs.drop f6.offset).take (P.cellsOf f6.type)) = some y6 := by
  obtain ⟨xs, n, _, rfl, hl, hlen, hf⟩ := DataW.trod_struct ht h
  match xs, hlen with
  | [y0, y1, y2, y3, y4, y5, y6], _ => exact ⟨y0, y1, y2, y3, y4, y5, y6, n, by simp, by simpa using hf 0 f0 rfl, by simpa using hf 1 f1 rfl, by simpa using hf 2 f2 rfl, by simpa using hf 3 f3 rfl, by simpa using hf 4 f4 rfl, by simpa using hf 5 f5 rfl, by simpa using hf 6 f6 rfl⟩
theorem open_agg7 {r : Reach} {b0 : Nat} {t : TypeId} {f0 f1 f2 f3 f4 f5 f6 : Field} {v : Value} {d : DataW H} {p : List MemPlace} (hs : P.underlying t = some (.struct #[f0, f1, f2, f3, f4, f5, f6])) (hone : oneCellFields P #[f0, f1, f2, f3, f4, f5, f6] = true) (hC : P.cellsOf t = 7)
    (hv : Value.okWide P w r b0 t v) (h : DataW.Trod enc P w base spare held t v d p) :
    ∃ (v0 v1 v2 v3 v4 v5 v6 : Value) (y0 y1 y2 y3 y4 y5 y6 : DataW H × List MemPlace) (n : Nat), v = .agg #[v0, v1, v2, v3, v4, v5, v6] ∧ d = .agg [y0.1, y1.1, y2.1, y3.1, y4.1, y5.1, y6.1] ∧ DataW.trod enc P w base spare held n f0.type [v0] = some y0 ∧ DataW.trod enc P w base spare held n f1.type [v1] = some y1 ∧ DataW.trod enc P w base spare held n f2.type [v2] = some y2 ∧ DataW.trod enc P w base spare held n f3.type [v3] = some y3 ∧ DataW.trod enc P w base spare held n f4.type [v4] = some y4 ∧ DataW.trod enc P w base spare held n f5.type [v5] = some y5 ∧ DataW.trod enc P w base spare held n f6.type [v6] = some y6 := by
  obtain ⟨cs, rfl, hsz⟩ := okWide_struct hs hv
  obtain ⟨c0, c1, c2, c3, c4, c5, c6, rfl⟩ := array7 (hsz.trans hC)
  obtain ⟨fuel, hf⟩ := h
  obtain ⟨y0, y1, y2, y3, y4, y5, y6, n, hx, h0, h1, h2, h3, h4, h5, h6⟩ := trod_struct7 hs hf
  obtain ⟨o0, k0⟩ := hone_of hone 0 f0 rfl
  obtain ⟨o1, k1⟩ := hone_of hone 1 f1 rfl
  obtain ⟨o2, k2⟩ := hone_of hone 2 f2 rfl
  obtain ⟨o3, k3⟩ := hone_of hone 3 f3 rfl
  obtain ⟨o4, k4⟩ := hone_of hone 4 f4 rfl
  obtain ⟨o5, k5⟩ := hone_of hone 5 f5 rfl
  obtain ⟨o6, k6⟩ := hone_of hone 6 f6 rfl
  simp only [Prod.mk.injEq] at hx
  exact ⟨c0, c1, c2, c3, c4, c5, c6, y0, y1, y2, y3, y4, y5, y6, n, rfl, hx.1, by simpa [Value.cells, o0, k0] using h0, by simpa [Value.cells, o1, k1] using h1, by simpa [Value.cells, o2, k2] using h2, by simpa [Value.cells, o3, k3] using h3, by simpa [Value.cells, o4, k4] using h4, by simpa [Value.cells, o5, k5] using h5, by simpa [Value.cells, o6, k6] using h6⟩
end
theorem flds_in {H : Type} {enc : TypeId × Value → H} {W : World} {v : Value} {y : DataW H × List MemPlace} {fuel : Nat} (hf : DataW.trod enc Tryz.prog W 0 (fun _ => true) true fuel 26 [v] = some y) :
    ∃ A : List (ByteArray × ByteArray), Flds W v A ∧ A.length ≤ Rows.uptoBulk y.1 ∧ ∀ f ∈ A, f.1.size ≤ Rows.uptoBulk y.1 ∧ f.2.size ≤ Rows.uptoBulk y.1 := by
  have hsh : ∃ ad len cap, v = .slice ad len cap := by
    rcases open_slice_pairs Tryz.underlying26 Tryz.underlying45 (by kernel_rfl) (by rfl) (by rfl) (by kernel_rfl) (by kernel_rfl) hf with ⟨hcs, _⟩ | ⟨x, l, c, m, n, V0, V1, D0, D1, P0, P1, hcs, _⟩
    · simp at hcs; exact ⟨_, _, _, hcs⟩
    · simp at hcs; exact ⟨_, _, _, hcs⟩
  obtain ⟨ad, len, cap, rfl⟩ := hsh
  obtain ⟨d, p⟩ := y
  exact flds_of (d := d) (p := p) ⟨fuel, by simpa [Value.cells] using hf⟩
end Go.Proofs.YtacnnomkacfdbaaGreatDoor
/- A configuration that came in, opened. -/
namespace Go.Proofs.YtacnnomkacfdbaaGreatDoor
open Go.ChangeShapes Go.WideShapes Go.ChangeAt Go.RowKit Go.Deep Go.Joins
set_option linter.unusedVariables false

theorem bulk_memZ {H : Type} {d : DataW H} : ∀ {l : List (DataW H)}, d ∈ l → Rows.uptoBulk d ≤ Rows.uptoBulkAll l
  | x :: r, h => by
    simp only [Rows.uptoBulkAll]
    rcases List.mem_cons.1 h with rfl | h
    · omega
    · have := bulk_memZ h
      omega
theorem addr_plusZ (b off i : Nat) : (⟨b, off, none⟩ : Addr).add i = ⟨b, off + i, none⟩ := by unfold Addr.add; split <;> simp_all
section
variable {H : Type} {enc : TypeId × Value → H} {W : World}
abbrev Trd (enc : TypeId × Value → H) (W : World) (fuel : Nat) (t : TypeId) (cs : List Value) (x : DataW H × List MemPlace) : Prop := DataW.trod enc Tryz.prog W 0 (fun _ => true) true fuel t cs = some x
theorem fld_at {fs : Array Field} {t : TypeId} {fuel : Nat} {cs : List Value} {x : DataW H × List MemPlace} (ht : Tryz.prog.underlying t = some (.struct fs)) (h : Trd enc W fuel t cs x) :
    cs.length = Tryz.prog.cellsOf t ∧ ∀ (i : Nat) (ty off : Nat), (fs[i]?).map (fun f => (f.type, f.offset)) = some (ty, off) → ∃ y n, Trd enc W n ty ((cs.drop off).take (Tryz.prog.cellsOf ty)) y ∧ Rows.uptoBulk y.1 ≤ Rows.uptoBulk x.1 := by
  obtain ⟨xs, n, _, rfl, hl, hlen, hf⟩ := DataW.trod_struct ht h
  refine ⟨hl, fun i ty off hi0 => ?_⟩
  obtain ⟨f, hi, hi1⟩ := Option.map_eq_some_iff.1 hi0
  simp only [Prod.mk.injEq] at hi1
  obtain ⟨rfl, rfl⟩ := hi1
  have h1 := hf i f hi
  have hix : i < xs.length := by rw [hlen]; exact (Array.getElem?_eq_some_iff.1 hi).1
  rw [List.getElem?_eq_getElem hix] at h1
  refine ⟨xs[i], n, h1, ?_⟩
  have := bulk_memZ (d := xs[i].1) (l := xs.map (·.1)) (List.mem_map.2 ⟨_, List.getElem_mem hix, rfl⟩)
  simp only [Rows.uptoBulk]
  omega
/-- A slice that came in, by what each of its elements is. -/
theorem slice_in {β : Type} [Inhabited β] {T E : TypeId} {m : Nat} (ht : Tryz.prog.underlying T = some (.slice E)) (hc : Tryz.prog.cellsOf E = m) (hm0 : 0 < m) (Rl : List Value → β → Nat → Prop)
    (each : ∀ fuel cs x, Trd enc W fuel E cs x → ∃ b, cs.length = m ∧ Rl cs b (Rows.uptoBulk x.1)) {fuel : Nat} {v : Value} {x : DataW H × List MemPlace} (h : Trd enc W fuel T [v] x) :
    ∃ (a : Option Addr) (c : Nat) (L : List β), v = .slice a L.length c ∧ (L.length ≤ c ∧ c ≤ maxLen) ∧ ∀ j (hj : j < L.length), ∃ g o cs k, a = some ⟨g, o, none⟩ ∧ g < W.heap.size ∧ (∀ i, i < m → W.cell? ⟨g, o + j * m + i, none⟩ = cs[i]?) ∧ Rl cs L[j] k ∧ k ≤ Rows.uptoBulk x.1 := by
  rcases open_slice ht h with ⟨hcs, _⟩ | ⟨ad, len, cap, mm, n, D, Pl, hcs, _, hl, hm, hmm, hx, hel⟩
  · simp only [List.cons.injEq, and_true] at hcs
    subst hcs
    exact ⟨none, 0, [], rfl, ⟨Nat.le_refl _, Nat.zero_le _⟩, fun j hj => absurd hj (Nat.not_lt_zero _)⟩
  · simp only [List.cons.injEq, and_true] at hcs
    subst hcs
    simp only [if_true] at hmm
    subst hmm
    have key : ∀ i, i < len → ∃ b : β, ∃ cs', W.cells? 0 (ad.add (i * m)) m = some cs' ∧ cs'.length = m ∧ Rl cs' b (Rows.uptoBulk (D i)) := fun i hi => by
      obtain ⟨cs', h1, h2⟩ := hel i (by omega)
      obtain ⟨b, h3, h4⟩ := each _ _ _ h2
      rw [hc] at h1
      exact ⟨b, cs', h1, h3, h4⟩
    refine ⟨some ad, mm, (List.range len).map (fun i => if hi : i < len then Classical.choose (key i hi) else default), by simp, by simpa using ⟨hl, hm⟩, fun j hj => ?_⟩
    have hj2 : j < len := by simpa using hj
    obtain ⟨b, off, spot⟩ := ad
    obtain ⟨cs0, h00, hl0, _⟩ := Classical.choose_spec (key 0 (by omega))
    have hspot : spot = none := by
      obtain ⟨_, _, hc0⟩ := World.cells?_some h00
      have e0 := hc0 0 (by omega)
      match cs0, hl0 with
      | v0 :: _, _ =>
        simp [Addr.add] at e0
        simpa using World.cell?_spot e0
      | [], hl1 => simp at hl1; omega
    subst hspot
    obtain ⟨cs', h1, h2, h3⟩ := Classical.choose_spec (key j hj2)
    obtain ⟨_, _, hcc⟩ := World.cells?_some h1
    have hcell : ∀ i, i < m → W.cell? ⟨b, off + j * m + i, none⟩ = cs'[i]? := fun i hi => by
      have := hcc i hi
      rw [addr_plusZ, addr_plusZ] at this
      exact this
    refine ⟨b, off, cs', Rows.uptoBulk (D j), rfl, ?_, hcell, ?_, ?_⟩
    · have := hcell 0 hm0
      rw [List.getElem?_eq_getElem (by omega)] at this
      exact World.block_lt_of_cell? W _ this
    · simp only [List.getElem_map, List.getElem_range, dif_pos hj2]
      exact h3
    · rw [(Prod.mk.inj hx).1]
      have := bulk_memZ (d := D j) (l := (List.range len).map D) (List.mem_map.2 ⟨j, List.mem_range.2 hj2, rfl⟩)
      simp only [Rows.uptoBulk]
      omega
theorem int_one {fuel : Nat} {cs : List Value} {x : DataW H × List MemPlace} (h : Trd enc W fuel 3 cs x) : ∃ b : Int, cs = [.int .i64 b] := by
  obtain ⟨n, e, _⟩ := DataW.trod_int Tryz.underlying3 h
  exact ⟨n, e⟩
theorem str_one {fuel : Nat} {cs : List Value} {x : DataW H × List MemPlace} (h : Trd enc W fuel 9 cs x) : ∃ b : ByteArray, cs = [.string b] ∧ b.size ≤ Rows.uptoBulk x.1 := by
  obtain ⟨s, e, hx, _⟩ := DataW.trod_string Tryz.underlying9 h
  refine ⟨s, e, ?_⟩
  rw [hx]
  simp only [Rows.uptoBulk, size_len]
  omega
set_option maxRecDepth 100000 in
theorem strs_in {fuel : Nat} {v : Value} {x : DataW H × List MemPlace} (h : Trd enc W fuel 36 [v] x) : ∃ M : List ByteArray, SRow W v M ∧ ∀ y ∈ M, y.size ≤ Rows.uptoBulk x.1 := by
  obtain ⟨a, c, L, rfl, _, hj⟩ := slice_in (β := ByteArray) (m := 1) Tryz.underlying36 (by kernel_rfl) (by omega) (fun cs b k => cs = [.string b] ∧ b.size ≤ k) (fun _ _ _ h => by obtain ⟨b, e, hb⟩ := str_one h; exact ⟨b, by rw [e]; rfl, e, hb⟩) h
  refine ⟨L, ⟨a, c, rfl, fun j hjl => ?_⟩, fun y hy => ?_⟩
  · obtain ⟨g, o, cs, k, h1, h2, h3, ⟨h4, _⟩, _⟩ := hj j hjl
    have := h3 0 (by omega)
    rw [h4] at this
    exact ⟨g, o, h1, h2, by simpa using this⟩
  · obtain ⟨j, hjl, rfl⟩ := List.getElem_of_mem hy
    obtain ⟨g, o, cs, k, _, _, _, ⟨_, h5⟩, h6⟩ := hj j hjl
    omega
set_option maxRecDepth 100000 in
theorem ints_in {fuel : Nat} {v : Value} {x : DataW H × List MemPlace} (h : Trd enc W fuel 39 [v] x) : ∃ M : List Int, IRow W v M ∧ capOk v := by
  obtain ⟨a, c, L, rfl, hcap, hj⟩ := slice_in (β := Int) (m := 1) Tryz.underlying39 (by kernel_rfl) (by omega) (fun cs b k => cs = [.int .i64 b]) (fun _ _ _ h => by obtain ⟨b, e⟩ := int_one h; exact ⟨b, by rw [e]; rfl, e⟩) h
  refine ⟨L, ⟨a, c, rfl, fun j hjl => ?_⟩, fun a' n' c' e => ?_⟩
  · obtain ⟨g, o, cs, k, h1, h2, h3, h4, _⟩ := hj j hjl
    have := h3 0 (by omega)
    rw [h4] at this
    exact ⟨g, o, h1, h2, by simpa using this⟩
  · simp only [Value.slice.injEq] at e
    obtain ⟨-, rfl, rfl⟩ := e
    exact hcap
theorem c1_3 : Tryz.prog.cellsOf 3 = 1 := by kernel_rfl
theorem c1_9 : Tryz.prog.cellsOf 9 = 1 := by kernel_rfl
theorem c1_s : Tryz.prog.cellsOf 36 = 1 := by kernel_rfl
theorem c1_i : Tryz.prog.cellsOf 39 = 1 := by kernel_rfl
theorem c1_h : Tryz.prog.cellsOf 22 = 1 := by kernel_rfl
theorem c1_r : Tryz.prog.cellsOf 23 = 1 := by kernel_rfl
theorem c5_m : Tryz.prog.cellsOf 38 = 5 := by kernel_rfl
theorem c3_h : Tryz.prog.cellsOf 73 = 3 := by kernel_rfl
theorem c21_r : Tryz.prog.cellsOf 41 = 21 := by kernel_rfl
theorem c18_c : Tryz.prog.cellsOf 25 = 18 := by kernel_rfl
instance : Inhabited Hst := ⟨⟨⟨#[]⟩, 0, 0⟩⟩
instance : Inhabited Rt := ⟨(⟨⟨#[]⟩, ⟨#[]⟩, [], ⟨#[]⟩, ⟨#[]⟩, [], 0, 0, 0, 0, 0, 0, 0, 0, 0, 0, 0, 0, 0, 0, 0⟩ : Rt)⟩
set_option maxRecDepth 100000 in
theorem host_one {fuel : Nat} {cs : List Value} {x : DataW H × List MemPlace} (h : Trd enc W fuel 73 cs x) : ∃ b : Hst, cs.length = 3 ∧ (cs = [.string b.nm, .int .i64 b.ca, .int .i64 b.pe] ∧ b.nm.size ≤ Rows.uptoBulk x.1) := by
  obtain ⟨hl, F⟩ := fld_at Tryz.underlying73 h
  rw [c3_h] at hl
  match cs, hl with
  | [v0, v1, v2], _ =>
    obtain ⟨y0, n0, h0, b0⟩ := F 0 9 0 rfl
    obtain ⟨y1, n1, h1, b1⟩ := F 1 3 1 rfl
    obtain ⟨y2, n2, h2, b2⟩ := F 2 3 2 rfl
    simp only [c1_3, c1_9, List.drop_zero, List.drop_succ_cons, List.take_succ_cons, List.take_zero] at h0 h1 h2
    obtain ⟨nm, e0, s0⟩ := str_one h0
    obtain ⟨ca, e1⟩ := int_one h1
    obtain ⟨pe, e2⟩ := int_one h2
    simp only [List.cons.injEq, and_true] at e0 e1 e2
    subst e0 e1 e2
    exact ⟨⟨nm, ca, pe⟩, rfl, rfl, by show nm.size ≤ _; omega⟩
structure MOk (W : World) (cs : List Value) (ho pf : ByteArray) (M : List ByteArray) (hd va : ByteArray) (k : Nat) : Prop where
  c : ∃ m, cs = [.string ho, .string pf, m, .string hd, .string va] ∧ SRow W m M
  ho : ho.size ≤ k
  hd : hd.size ≤ k
  va : va.size ≤ k
  M : ∀ y ∈ M, y.size ≤ k
set_option maxRecDepth 100000 in
theorem match_one {fuel : Nat} {cs : List Value} {x : DataW H × List MemPlace} (h : Trd enc W fuel 38 cs x) : ∃ ho pf M hd va, MOk W cs ho pf M hd va (Rows.uptoBulk x.1) := by
  obtain ⟨hl, F⟩ := fld_at Tryz.underlying38 h
  rw [c5_m] at hl
  match cs, hl with
  | [v0, v1, v2, v3, v4], _ =>
    obtain ⟨y0, n0, h0, b0⟩ := F 0 9 0 rfl
    obtain ⟨y1, n1, h1, b1⟩ := F 1 9 1 rfl
    obtain ⟨y2, n2, h2, b2⟩ := F 2 36 2 rfl
    obtain ⟨y3, n3, h3, b3⟩ := F 3 9 3 rfl
    obtain ⟨y4, n4, h4, b4⟩ := F 4 9 4 rfl
    simp only [c1_s, c1_9, List.drop_zero, List.drop_succ_cons, List.take_succ_cons, List.take_zero] at h0 h1 h2 h3 h4
    obtain ⟨ho, e0, s0⟩ := str_one h0
    obtain ⟨pf, e1, s1⟩ := str_one h1
    obtain ⟨M, e2, s2⟩ := strs_in h2
    obtain ⟨hd, e3, s3⟩ := str_one h3
    obtain ⟨va, e4, s4⟩ := str_one h4
    simp only [List.cons.injEq, and_true] at e0 e1 e3 e4
    subst e0 e1 e3 e4
    exact ⟨ho, pf, M, hd, va, ⟨v2, rfl, e2⟩, by omega, by omega, by omega, fun y hy => by have := s2 y hy; omega⟩
/-- The cells of a route. -/
structure ROk (W : World) (cs : List Value) (r : Rt) (k : Nat) : Prop where
  c : ∃ m q, cs = rtC r m q ∧ SRow W m r.M ∧ IRow W q r.H ∧ capOk q
  ho : r.ho.size ≤ k
  hd : r.hd.size ≤ k
  va : r.va.size ≤ k
  M : ∀ y ∈ r.M, y.size ≤ k
set_option maxHeartbeats 1000000 in
set_option maxRecDepth 100000 in
theorem route_one {fuel : Nat} {cs : List Value} {x : DataW H × List MemPlace} (h : Trd enc W fuel 41 cs x) : ∃ b : Rt, cs.length = 21 ∧ ROk W cs b (Rows.uptoBulk x.1) := by
  obtain ⟨hl, F⟩ := fld_at Tryz.underlying41 h
  rw [c21_r] at hl
  match cs, hl with
  | [v0, v1, v2, v3, v4, v5, v6, v7, v8, v9, v10, v11, v12, v13, v14, v15, v16, v17, v18, v19, v20], _ =>
    obtain ⟨y0, n0, h0, b0⟩ := F 0 38 0 rfl
    obtain ⟨y1, n1, h1, b1⟩ := F 1 39 5 rfl
    obtain ⟨y2, n2, h2, b2⟩ := F 2 3 6 rfl
    obtain ⟨y3, n3, h3, b3⟩ := F 3 3 7 rfl
    obtain ⟨y4, n4, h4, b4⟩ := F 4 3 8 rfl
    obtain ⟨y5, n5, h5, b5⟩ := F 5 3 9 rfl
    obtain ⟨y6, n6, h6, b6⟩ := F 6 3 10 rfl
    obtain ⟨y7, n7, h7, b7⟩ := F 7 3 11 rfl
    obtain ⟨y8, n8, h8, b8⟩ := F 8 3 12 rfl
    obtain ⟨y9, n9, h9, b9⟩ := F 9 3 13 rfl
    obtain ⟨y10, n10, h10, b10⟩ := F 10 3 14 rfl
    obtain ⟨y11, n11, h11, b11⟩ := F 11 3 15 rfl
    obtain ⟨y12, n12, h12, b12⟩ := F 12 3 16 rfl
    obtain ⟨y13, n13, h13, b13⟩ := F 13 3 17 rfl
    obtain ⟨y14, n14, h14, b14⟩ := F 14 3 18 rfl
    obtain ⟨y15, n15, h15, b15⟩ := F 15 3 19 rfl
    obtain ⟨y16, n16, h16, b16⟩ := F 16 3 20 rfl
    simp only [c5_m, c1_i, c1_3, List.drop_zero, List.drop_succ_cons, List.take_succ_cons, List.take_zero] at h0 h1 h2 h3 h4 h5 h6 h7 h8 h9 h10 h11 h12 h13 h14 h15 h16
    obtain ⟨ho, pf, M, hd, va, ⟨⟨m, em, hm⟩, s0, s1, s2, s3⟩⟩ := match_one h0
    obtain ⟨HL, e1, q1⟩ := ints_in h1
    obtain ⟨r0, e2⟩ := int_one h2
    obtain ⟨r1, e3⟩ := int_one h3
    obtain ⟨r2, e4⟩ := int_one h4
    obtain ⟨r3, e5⟩ := int_one h5
    obtain ⟨r4, e6⟩ := int_one h6
    obtain ⟨r5, e7⟩ := int_one h7
    obtain ⟨r6, e8⟩ := int_one h8
    obtain ⟨r7, e9⟩ := int_one h9
    obtain ⟨r8, e10⟩ := int_one h10
    obtain ⟨r9, e11⟩ := int_one h11
    obtain ⟨r10, e12⟩ := int_one h12
    obtain ⟨r11, e13⟩ := int_one h13
    obtain ⟨r12, e14⟩ := int_one h14
    obtain ⟨r13, e15⟩ := int_one h15
    obtain ⟨r14, e16⟩ := int_one h16
    simp only [List.cons.injEq, and_true] at em e2 e3 e4 e5 e6 e7 e8 e9 e10 e11 e12 e13 e14 e15 e16
    obtain ⟨rfl, rfl, rfl, rfl, rfl⟩ := em
    subst e2 e3 e4 e5 e6 e7 e8 e9 e10 e11 e12 e13 e14 e15 e16
    exact ⟨⟨ho, pf, M, hd, va, HL, r0, r1, r2, r3, r4, r5, r6, r7, r8, r9, r10, r11, r12, r13, r14⟩, rfl, ⟨_, _, rfl, hm, e1, q1⟩, by show ho.size ≤ _; omega, by show hd.size ≤ _; omega, by show va.size ≤ _; omega, fun y hy => by have := s3 y hy; omega⟩
set_option maxRecDepth 100000 in
theorem hosts_in {fuel : Nat} {v : Value} {x : DataW H × List MemPlace} (h : Trd enc W fuel 22 [v] x) : ∃ (a : Option Addr) (c : Nat) (L : List Hst), v = .slice a L.length c ∧ (L.length ≤ c ∧ c ≤ maxLen) ∧ HRow W v L ∧ ∀ y ∈ L, y.nm.size ≤ Rows.uptoBulk x.1 := by
  obtain ⟨a, c, L, rfl, hcap, hj⟩ := slice_in (β := Hst) (m := 3) Tryz.underlying22 c3_h (by omega) (fun cs b k => cs = [.string b.nm, .int .i64 b.ca, .int .i64 b.pe] ∧ b.nm.size ≤ k) (fun _ _ _ h => host_one h) h
  refine ⟨a, c, L, rfl, hcap, ⟨a, c, rfl, fun j hjl => ?_⟩, fun y hy => ?_⟩
  · obtain ⟨g, o, cs, k, h1, h2, h3, ⟨rfl, _⟩, _⟩ := hj j hjl
    exact ⟨g, o, h1, h2, h3 0 (by omega), h3 1 (by omega), h3 2 (by omega)⟩
  · obtain ⟨j, hjl, rfl⟩ := List.getElem_of_mem hy
    obtain ⟨g, o, cs, k, _, _, _, ⟨_, h5⟩, h6⟩ := hj j hjl
    omega
set_option maxRecDepth 100000 in
theorem routes_in {fuel : Nat} {v : Value} {x : DataW H × List MemPlace} (h : Trd enc W fuel 23 [v] x) (hb : Rows.uptoBulk x.1 ≤ 1048576) : ∃ (a : Option Addr) (c : Nat) (L : List Rt), v = .slice a L.length c ∧ (L.length ≤ c ∧ c ≤ maxLen) ∧ RRow W v L ∧ ∀ y ∈ L, y.Sz := by
  obtain ⟨a, c, L, rfl, hcap, hj⟩ := slice_in (β := Rt) (m := 21) Tryz.underlying23 c21_r (by omega) (fun cs b k => ROk W cs b k) (fun _ _ _ h => route_one h) h
  refine ⟨a, c, L, rfl, hcap, ⟨a, c, rfl, fun j hjl => ?_⟩, fun y hy => ?_⟩
  · obtain ⟨g, o, cs, k, h1, h2, h3, ⟨⟨m, q, rfl, hm, hq, hcq⟩, _, _, _, _⟩, _⟩ := hj j hjl
    exact ⟨g, o, m, q, h1, h2, hm, hq, hcq, h3 0 (by omega), h3 1 (by omega), h3 2 (by omega), h3 3 (by omega), h3 4 (by omega), h3 5 (by omega), h3 6 (by omega), h3 7 (by omega), h3 8 (by omega), h3 9 (by omega), h3 10 (by omega), h3 11 (by omega), h3 12 (by omega), h3 13 (by omega), h3 14 (by omega), h3 15 (by omega), h3 16 (by omega), h3 17 (by omega), h3 18 (by omega), h3 19 (by omega), h3 20 (by omega)⟩
  · obtain ⟨j, hjl, rfl⟩ := List.getElem_of_mem hy
    obtain ⟨g, o, cs, k, _, _, _, ⟨_, h5, h6, h7, h8⟩, h9⟩ := hj j hjl
    exact ⟨by omega, by omega, by omega, fun y hy => by have := h8 y hy; omega⟩
set_option maxRecDepth 100000 in
theorem array18 {α : Type} {cs : Array α} (h : cs.size = 18) : ∃ c0 c1 c2 c3 c4 c5 c6 c7 c8 c9 c10 c11 c12 c13 c14 c15 c16 c17, cs = #[c0, c1, c2, c3, c4, c5, c6, c7, c8, c9, c10, c11, c12, c13, c14, c15, c16, c17] := by
  obtain ⟨l⟩ := cs
  match l, h with
  | [c0, c1, c2, c3, c4, c5, c6, c7, c8, c9, c10, c11, c12, c13, c14, c15, c16, c17], _ => exact ⟨c0, c1, c2, c3, c4, c5, c6, c7, c8, c9, c10, c11, c12, c13, c14, c15, c16, c17, rfl⟩
set_option maxHeartbeats 1000000 in
set_option maxRecDepth 100000 in
theorem cfg_in {r : Reach} {b0 : Nat} {v : Value} {d : DataW H} {p : List MemPlace} (hv : Value.okWide Tryz.prog W r b0 25 v) (h : DataW.Trod enc Tryz.prog W 0 (fun _ => true) true 25 v d p) (hb : Rows.uptoBulk d ≤ 1048576) :
    ∃ a1 a2 k1 k2 C, v = cfgV a1 a2 k1 k2 C ∧ HRow W (.slice a1 C.H.length k1) C.H ∧ RRow W (.slice a2 C.R.length k2) C.R ∧ (∀ x ∈ C.H, x.nm.size ≤ 1048576) ∧ (∀ x ∈ C.R, x.Sz) ∧ (C.H.length ≤ k1 ∧ k1 ≤ maxLen) ∧ (C.R.length ≤ k2 ∧ k2 ≤ maxLen) := by
  obtain ⟨cs, rfl, hsz⟩ := okWide_struct Tryz.underlying25 hv
  obtain ⟨v0, v1, v2, v3, v4, v5, v6, v7, v8, v9, v10, v11, v12, v13, v14, v15, v16, v17, rfl⟩ := array18 (hsz.trans c18_c)
  obtain ⟨fuel, hf⟩ := h
  obtain ⟨hl, F⟩ := fld_at Tryz.underlying25 hf
  simp only [Value.cells] at F
  obtain ⟨y0, n0, h0, b0⟩ := F 0 22 0 rfl
  obtain ⟨y1, n1, h1, b1⟩ := F 1 23 1 rfl
  obtain ⟨y2, n2, h2, b2⟩ := F 2 3 2 rfl
  obtain ⟨y3, n3, h3, b3⟩ := F 3 3 3 rfl
  obtain ⟨y4, n4, h4, b4⟩ := F 4 3 4 rfl
  obtain ⟨y5, n5, h5, b5⟩ := F 5 3 5 rfl
  obtain ⟨y6, n6, h6, b6⟩ := F 6 9 6 rfl
  obtain ⟨y7, n7, h7, b7⟩ := F 7 3 7 rfl
  obtain ⟨y8, n8, h8, b8⟩ := F 8 3 8 rfl
  obtain ⟨y9, n9, h9, b9⟩ := F 9 3 9 rfl
  obtain ⟨y10, n10, h10, b10⟩ := F 10 3 10 rfl
  obtain ⟨y11, n11, h11, b11⟩ := F 11 3 11 rfl
  obtain ⟨y12, n12, h12, b12⟩ := F 12 3 12 rfl
  obtain ⟨y13, n13, h13, b13⟩ := F 13 3 13 rfl
  obtain ⟨y14, n14, h14, b14⟩ := F 14 3 14 rfl
  obtain ⟨y15, n15, h15, b15⟩ := F 15 3 15 rfl
  obtain ⟨y16, n16, h16, b16⟩ := F 16 3 16 rfl
  obtain ⟨y17, n17, h17, b17⟩ := F 17 3 17 rfl
  simp only [c1_h, c1_r, c1_3, c1_9, List.drop_zero, List.drop_succ_cons, List.take_succ_cons, List.take_zero] at h0 h1 h2 h3 h4 h5 h6 h7 h8 h9 h10 h11 h12 h13 h14 h15 h16 h17
  obtain ⟨a1, k1, LH, e0, q0, t0, s0⟩ := hosts_in h0
  obtain ⟨a2, k2, LR, e1, q1, t1, s1⟩ := routes_in h1 (by omega)
  obtain ⟨x2, e2⟩ := int_one h2
  obtain ⟨x3, e3⟩ := int_one h3
  obtain ⟨x4, e4⟩ := int_one h4
  obtain ⟨x5, e5⟩ := int_one h5
  obtain ⟨pa, e6, s6⟩ := str_one h6
  obtain ⟨x7, e7⟩ := int_one h7
  obtain ⟨x8, e8⟩ := int_one h8
  obtain ⟨x9, e9⟩ := int_one h9
  obtain ⟨x10, e10⟩ := int_one h10
  obtain ⟨x11, e11⟩ := int_one h11
  obtain ⟨x12, e12⟩ := int_one h12
  obtain ⟨x13, e13⟩ := int_one h13
  obtain ⟨x14, e14⟩ := int_one h14
  obtain ⟨x15, e15⟩ := int_one h15
  obtain ⟨x16, e16⟩ := int_one h16
  obtain ⟨x17, e17⟩ := int_one h17
  simp only [List.cons.injEq, and_true] at e2 e3 e4 e5 e6 e7 e8 e9 e10 e11 e12 e13 e14 e15 e16 e17
  subst e0 e1 e2 e3 e4 e5 e6 e7 e8 e9 e10 e11 e12 e13 e14 e15 e16 e17
  exact ⟨a1, a2, k1, k2, ⟨LH, LR, pa, x2, x3, x4, x5, x7, x8, x9, x10, x11, x12, x13, x14, x15, x16, x17⟩, rfl, t0, t1, fun x hx => by have := s0 x hx; omega, s1, q0, q1⟩
end
end Go.Proofs.YtacnnomkacfdbaaGreatDoor
/- The tables of ranges, out of the row's list; worlds that hold the list. -/
namespace Go.Proofs.YtacnnomkacfdbaaGreatDoor
open Go.ChangeShapes Go.WideShapes Go.ChangeAt Go.RowKit
/-- The tables of ranges, and the longest text. -/
structure Tbl (w : World) : Prop where
  g0 : RG w 0 hostFits_anyL
  g1 : RG w 1 routeFits_anyL
  g2 : RG w 2 restFits_anyL
  mx : MX w
def laidZ : List (String × DataW Unit) := [("unicode/utf8.acceptRanges", Rows.laid_unicode_utf8_acceptRanges), ("headrace/config.hostRanges", Rows.laid_headrace_config_hostRanges), ("headrace/config.routeRanges", Rows.laid_headrace_config_routeRanges), ("headrace/config.restRanges", Rows.laid_headrace_config_restRanges), ("unicode/utf8.first", Rows.laid_unicode_utf8_first)]
theorem metZ (os : Os) (args : Array Value) : laidMet Tryz.prog laidZ ((World.laidAll Tryz.prog os laidZ).forCall (fun _ _ => 0) ⟨#[], args, []⟩).memory :=
  laidMet_laidAll args (by kernel_rfl) (by kernel_rfl)
theorem plainZ {W : World} (h : laidMetH Tryz.prog laidZ W) : laidMet Tryz.prog laidZ W := by
  rw [MakeChecks.laidMetH_plain _ _ _ (by kernel_rfl)] at h
  exact h
def pairsD {H : Type} (L : List (Int × Int)) : DataW H := .agg (L.map fun x => .agg [.lit (.int .i64 x.1), .lit (.int .i64 x.2)])
theorem cells_of_pairs {H : Type} {enc : TypeId × Value → H} {P : Program} {w : World} {base : Nat} {sp : Nat → Bool} {held : Bool} {fuel : Nat} {t e i64 : TypeId} {n : Nat} {f0 f1 : Field} {cs : List Value} {L : List (Int × Int)} {p : List MemPlace}
    (ht : P.underlying t = some (.array n e)) (he : P.underlying e = some (.struct #[f0, f1])) (hi : P.underlying i64 = some (.int .i64)) (t0 : f0.type = i64) (t1 : f1.type = i64) (o0 : f0.offset = 0) (o1 : f1.offset = 1) (hci : P.cellsOf i64 = 1) (hce : P.cellsOf e = 2)
    (h : DataW.trod enc P w base sp held fuel t cs = some (pairsD L, p)) : ∀ k a b, L[k]? = some (a, b) → cs[2 * k]? = some (.int .i64 a) ∧ cs[2 * k + 1]? = some (.int .i64 b) := by
  intro k a b hk
  obtain ⟨xs, m, _, hx, _, hlen, hel⟩ := DataW.trod_array ht h
  have hxs : xs.map (·.1) = L.map fun x => (DataW.agg [.lit (.int .i64 x.1), .lit (.int .i64 x.2)] : DataW H) := by
    have := congrArg Prod.fst hx
    simpa [pairsD] using this.symm
  have hkx : (xs.map (·.1))[k]? = some (DataW.agg [.lit (.int .i64 a), .lit (.int .i64 b)] : DataW H) := by rw [hxs]; simp [hk]
  rw [List.getElem?_map, Option.map_eq_some_iff] at hkx
  obtain ⟨y, hy, hy1⟩ := hkx
  have hkn : k < n := by rw [← hlen]; exact (List.getElem?_eq_some_iff.1 hy).1
  have hf := hel k hkn
  rw [hy] at hf
  obtain ⟨y0, y1, m2, hy2, _, h0, h1⟩ := trod_struct2 he hf
  rw [t0, o0, hci] at h0
  rw [t1, o1, hci] at h1
  obtain ⟨z0, hc0, hz0, _⟩ := DataW.trod_int hi h0
  obtain ⟨z1, hc1, hz1, _⟩ := DataW.trod_int hi h1
  rw [hy2, hz0, hz1] at hy1
  simp only [DataW.agg.injEq, List.cons.injEq, DataW.lit.injEq, Lit.int.injEq, true_and, and_true] at hy1
  obtain ⟨rfl, rfl⟩ := hy1
  rw [hce] at hc0 hc1
  constructor
  · have := congrArg (·[0]?) hc0
    simpa [List.getElem?_take, List.getElem?_drop, Nat.mul_comm] using this
  · have := congrArg (·[0]?) hc1
    simpa [List.getElem?_take, List.getElem?_drop, Nat.mul_comm] using this
theorem rg_head {W : World} {name : String} {L : List (Int × Int)} {rest : List (String × DataW Unit)} {g : Nat} {t e : TypeId} {n : Nat} {f0 f1 : Field}
    (hg : Tryz.prog.globalNamed name = some g) (hty : (Tryz.prog.globals[g]?).map (·.type) = some t) (ht : Tryz.prog.underlying t = some (.array n e)) (he : Tryz.prog.underlying e = some (.struct #[f0, f1])) (t0 : f0.type = 3) (t1 : f1.type = 3) (o0 : f0.offset = 0) (o1 : f1.offset = 1) (hce : Tryz.prog.cellsOf e = 2) (hL : L ≠ [])
    (h : laidMet Tryz.prog ((name, pairsD L) :: rest) W) : RG W g L := by
  obtain ⟨ps, ⟨g', t', cs, fuel, p, q, hg', ht', hvar, hd, _, _⟩, _⟩ := h
  obtain rfl := Option.some.inj (hg.symm.trans hg')
  obtain rfl := Option.some.inj (hty.symm.trans ht')
  have hc := cells_of_pairs ht he Tryz.underlying3 t0 t1 o0 o1 (by kernel_rfl) hce hd
  have hw : ∀ k a b, L[k]? = some (a, b) → W.cell? ⟨g, 2 * k, none⟩ = some (.int .i64 a) ∧ W.cell? ⟨g, 2 * k + 1, none⟩ = some (.int .i64 b) := fun k a b hk => by
    obtain ⟨h0, h1⟩ := hc k a b hk
    exact ⟨by rw [World.var?_cell hg hvar]; simpa using h0, by rw [World.var?_cell hg hvar]; simpa using h1⟩
  refine ⟨?_, hw⟩
  cases L with
  | nil => exact absurd rfl hL
  | cons x l => exact World.block_lt_of_cell? W _ (hw 0 x.1 x.2 rfl).1
theorem tbl_of {W : World} (h : laidMetH Tryz.prog laidZ W) (hs : W.ShapedOpen Tryz.prog) : Tbl W := by
  have h1 := laidMet.tail (plainZ h)
  have h2 := laidMet.tail h1
  have h3 := laidMet.tail h2
  refine ⟨?_, ?_, ?_, ?_⟩
  · exact rg_head (name := "headrace/config.hostRanges") (by kernel_rfl) (by kernel_rfl) Tryz.underlying106 Tryz.underlying105 rfl rfl rfl rfl (by kernel_rfl) (by decide) h1
  · exact rg_head (name := "headrace/config.routeRanges") (by kernel_rfl) (by kernel_rfl) Tryz.underlying109 Tryz.underlying105 rfl rfl rfl rfl (by kernel_rfl) (by decide) h2
  · exact rg_head (name := "headrace/config.restRanges") (by kernel_rfl) (by kernel_rfl) Tryz.underlying109 Tryz.underlying105 rfl rfl rfl rfl (by kernel_rfl) (by decide) h3
  · obtain ⟨m, hm⟩ := cell_of_shapedOpen_int (P := Tryz.prog) (g := 3) (t := 3) (zero := #[.int .i64 0]) hs (of_decide_eq_true (by kernel_rfl)) (by kernel_rfl) rfl (by kernel_rfl) (by kernel_rfl) Tryz.underlying3
    exact ⟨World.block_lt_of_cell? W _ hm, m, hm⟩
end Go.Proofs.YtacnnomkacfdbaaGreatDoor
