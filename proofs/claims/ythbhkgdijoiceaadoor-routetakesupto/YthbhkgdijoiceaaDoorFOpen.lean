/- Fields that came in: what they read as, and how great they may be. -/
import Derived.Test.YthbhkgdijoiceaaDoorRows
import Derived.Test.YthbhkgdijoiceaaDoorFAll
import Derived.Deep.SlicePairs
import Derived.OpenShut
import Derived.ShutString
namespace Go.Proofs.YthbhkgdijoiceaaDoor
open Go.ChangeShapes Go.WideShapes Go.ChangeAt Go.RowKit Go.Deep

theorem bulk_one {H : Type} (d : DataW H) : 1 ≤ Rows.uptoBulk d := by
  cases d with
  | lit l => cases l <;> simp [Rows.uptoBulk]
  | nil => simp [Rows.uptoBulk]
  | ptr d => simp [Rows.uptoBulk]
  | slice elems spare => simp [Rows.uptoBulk]
  | agg parts => simp [Rows.uptoBulk]
  | iface t d => simp [Rows.uptoBulk]
  | map entries => simp [Rows.uptoBulk]
  | held h => simp [Rows.uptoBulk]
theorem bulk_many {H : Type} (l : List (DataW H)) : l.length ≤ Rows.uptoBulkAll l := by
  induction l with
  | nil => simp
  | cons x r ih =>
    have := bulk_one x
    simp only [Rows.uptoBulkAll, List.length_cons]
    omega
theorem bulk_mem {H : Type} {d : DataW H} : ∀ {l : List (DataW H)}, d ∈ l → Rows.uptoBulk d ≤ Rows.uptoBulkAll l
  | x :: r, h => by
    simp only [Rows.uptoBulkAll]
    rcases List.mem_cons.1 h with rfl | h
    · omega
    · have := bulk_mem h
      omega
theorem addr_plus (b off i : Nat) : (⟨b, off, none⟩ : Addr).add i = ⟨b, off + i, none⟩ := by unfold Addr.add; split <;> simp_all
def strOf : Value → ByteArray
  | .string s => s
  | _ => ByteArray.empty
theorem flds_of {H : Type} {enc : TypeId × Value → H} {W : World} {ad : Option Addr} {len cap : Nat} {d : DataW H} {p : List MemPlace} (h : DataW.Trod enc Tryd.prog W 0 (fun _ => true) true 22 (.slice ad len cap) d p) :
    ∃ A : List (ByteArray × ByteArray), Flds W (.slice ad len cap) A ∧ A.length ≤ Rows.uptoBulk d ∧ ∀ f ∈ A, f.1.size ≤ Rows.uptoBulk d ∧ f.2.size ≤ Rows.uptoBulk d := by
  obtain ⟨fuel, hf⟩ := h
  rcases open_slice_pairs Tryd.underlying22 Tryd.underlying54 (by kernel_rfl) (by rfl) (by rfl) (by kernel_rfl) (by kernel_rfl) hf with ⟨hcs, _⟩ | ⟨x, l, c, m, n, V0, V1, D0, D1, P0, P1, hcs, _, hl, hm, hmm, hx, hel⟩
  · simp [Value.cells] at hcs
    obtain ⟨rfl, rfl, rfl⟩ := hcs
    exact ⟨[], ⟨none, 0, rfl, ⟨Nat.le_refl _, fun _ => rfl⟩, fun j hj => by simp at hj⟩, Nat.zero_le _, fun f hf => by simp at hf⟩
  · simp [Value.cells] at hcs
    obtain ⟨rfl, rfl, rfl⟩ := hcs
    simp only [if_true] at hmm
    subst hmm
    obtain ⟨b, off, spot⟩ := x
    have hd := (Prod.mk.inj hx).1
    have each : ∀ i, i < len → ∃ s t : ByteArray, V0 i = .string s ∧ V1 i = .string t ∧ s.size ≤ Rows.uptoBulk d ∧ t.size ≤ Rows.uptoBulk d := by
      intro i hi
      obtain ⟨_, _, h2, h3⟩ := hel i (by omega)
      obtain ⟨s, e0, y0, _⟩ := DataW.trod_string Tryd.underlying9 h2
      obtain ⟨t, e1, y1, _⟩ := DataW.trod_string Tryd.underlying9 h3
      simp only [List.cons.injEq, and_true] at e0 e1
      have z0 := (Prod.mk.inj y0).1
      have z1 := (Prod.mk.inj y1).1
      have hmem : (DataW.agg [D0 i, D1 i] : DataW H) ∈ (List.range len).map fun i => DataW.agg [D0 i, D1 i] := List.mem_map.2 ⟨i, List.mem_range.2 hi, rfl⟩
      have hb := bulk_mem hmem
      rw [z0, z1] at hb
      simp only [Rows.uptoBulk, Rows.uptoBulkAll, size_len] at hb
      refine ⟨s, t, e0, e1, ?_, ?_⟩
      · rw [hd]; simp only [Rows.uptoBulk]; omega
      · rw [hd]; simp only [Rows.uptoBulk]; omega
    refine ⟨(List.range len).map fun i => (strOf (V0 i), strOf (V1 i)), ⟨some ⟨b, off, spot⟩, m, by simp, ⟨by simpa using hl, fun h => by cases h⟩, fun j hj => ?_⟩, ?_, ?_⟩
    · have hj' : j < len := by simpa using hj
      obtain ⟨h0, h1, _, _⟩ := hel j (by omega)
      have hspot : spot = none := by simpa [Addr.add] using World.cell?_spot (hel 0 (by omega)).1
      subst hspot
      rw [addr_plus] at h0 h1
      obtain ⟨s, t, e0, e1, _, _⟩ := each j hj'
      refine ⟨b, off, rfl, World.block_lt_of_cell? W _ h0, ?_, ?_⟩
      · rw [h0]; simp [e0, strOf]
      · rw [show off + j * 2 + 1 = off + (j * 2 + 1) by omega, h1]; simp [e1, strOf]
    · rw [hd]
      have := bulk_many ((List.range len).map fun i => (DataW.agg [D0 i, D1 i] : DataW H))
      rw [List.length_map] at this
      simp only [Rows.uptoBulk, List.length_map]
      omega
    · intro f hf
      obtain ⟨i, hi, rfl⟩ := List.mem_map.1 hf
      obtain ⟨s, t, e0, e1, h2, h3⟩ := each i (List.mem_range.1 hi)
      simp only [e0, e1, strOf]
      exact ⟨h2, h3⟩
theorem sm_of {A : List (ByteArray × ByteArray)} {n : Nat} (h1 : A.length ≤ n) (h2 : ∀ f ∈ A, f.1.size ≤ n ∧ f.2.size ≤ n) (hn : n ≤ 1048576) : Sm A :=
  ⟨by omega, fun f hf => by have := h2 f hf; omega⟩
end Go.Proofs.YthbhkgdijoiceaaDoor
