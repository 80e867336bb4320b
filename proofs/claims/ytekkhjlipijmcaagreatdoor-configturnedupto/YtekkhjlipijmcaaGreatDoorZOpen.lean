/- A configuration that came in, opened. -/
import Derived.Test.YtekkhjlipijmcaaGreatDoorZSay
import Derived.Test.YtekkhjlipijmcaaGreatDoorRows
import Derived.OpenShut
import Derived.ShutString
import Derived.Deep.Slices
import Derived.Deep.Strs
import Derived.Lib.SmallJoins
namespace Go.Proofs.YtekkhjlipijmcaaGreatDoor
open Go.ChangeShapes Go.WideShapes Go.ChangeAt Go.RowKit Go.Deep Go.Joins
set_option linter.unusedVariables false

theorem bulk_memZ {H : Type} {d : DataW H} : ∀ {l : List (DataW H)}, d ∈ l → Rows.uptoBulk d ≤ Rows.uptoBulkAll l
  | x :: r, h => by
    simp only [Rows.uptoBulkAll]
    rcases List.mem_cons.1 h with rfl | h
    · omega
    · have := bulk_memZ h
      omega
theorem addr_plusZ (b off i : Nat) : (⟨b, off, none⟩ : Addr).add i = ⟨b, off + i, none⟩ := by unfold Addr.add; split <;> simp_all
section
variable {H : Type} {enc : TypeId × Value → H} {W : World}
abbrev Trd (enc : TypeId × Value → H) (W : World) (fuel : Nat) (t : TypeId) (cs : List Value) (x : DataW H × List MemPlace) : Prop := DataW.trod enc Tryz.prog W 0 (fun _ => true) true fuel t cs = some x
theorem fld_at {fs : Array Field} {t : TypeId} {fuel : Nat} {cs : List Value} {x : DataW H × List MemPlace} (ht : Tryz.prog.underlying t = some (.struct fs)) (h : Trd enc W fuel t cs x) :
    cs.length = Tryz.prog.cellsOf t ∧ ∀ (i : Nat) (ty off : Nat), (fs[i]?).map (fun f => (f.type, f.offset)) = some (ty, off) → ∃ y n, Trd enc W n ty ((cs.drop off).take (Tryz.prog.cellsOf ty)) y ∧ Rows.uptoBulk y.1 ≤ Rows.uptoBulk x.1 := by
  obtain ⟨xs, n, _, rfl, hl, hlen, hf⟩ := DataW.trod_struct ht h
  refine ⟨hl, fun i ty off hi0 => ?_⟩
  obtain ⟨f, hi, hi1⟩ := Option.map_eq_some_iff.1 hi0
  simp only [Prod.mk.injEq] at hi1
  obtain ⟨rfl, rfl⟩ := hi1
  have h1 := hf i f hi
  have hix : i < xs.length := by rw [hlen]; exact (Array.getElem?_eq_some_iff.1 hi).1
  rw [List.getElem?_eq_getElem hix] at h1
  refine ⟨xs[i], n, h1, ?_⟩
  have := bulk_memZ (d := xs[i].1) (l := xs.map (·.1)) (List.mem_map.2 ⟨_, List.getElem_mem hix, rfl⟩)
  simp only [Rows.uptoBulk]
  omega
/-- A slice that came in, by what each of its elements is. -/
theorem slice_in {β : Type} [Inhabited β] {T E : TypeId} {m : Nat} (ht : Tryz.prog.underlying T = some (.slice E)) (hc : Tryz.prog.cellsOf E = m) (hm0 : 0 < m) (Rl : List Value → β → Nat → Prop)
    (each : ∀ fuel cs x, Trd enc W fuel E cs x → ∃ b, cs.length = m ∧ Rl cs b (Rows.uptoBulk x.1)) {fuel : Nat} {v : Value} {x : DataW H × List MemPlace} (h : Trd enc W fuel T [v] x) :
    ∃ (a : Option Addr) (c : Nat) (L : List β), v = .slice a L.length c ∧ (L.length ≤ c ∧ c ≤ maxLen) ∧ ∀ j (hj : j < L.length), ∃ g o cs k, a = some ⟨g, o, none⟩ ∧ g < W.heap.size ∧ (∀ i, i < m → W.cell? ⟨g, o + j * m + i, none⟩ = cs[i]?) ∧ Rl cs L[j] k ∧ k ≤ Rows.uptoBulk x.1 := by
  rcases open_slice ht h with ⟨hcs, _⟩ | ⟨ad, len, cap, mm, n, D, Pl, hcs, _, hl, hm, hmm, hx, hel⟩
  · simp only [List.cons.injEq, and_true] at hcs
    subst hcs
    exact ⟨none, 0, [], rfl, ⟨Nat.le_refl _, Nat.zero_le _⟩, fun j hj => absurd hj (Nat.not_lt_zero _)⟩
  · simp only [List.cons.injEq, and_true] at hcs
    subst hcs
    simp only [if_true] at hmm
    subst hmm
    have key : ∀ i, i < len → ∃ b : β, ∃ cs', W.cells? 0 (ad.add (i * m)) m = some cs' ∧ cs'.length = m ∧ Rl cs' b (Rows.uptoBulk (D i)) := fun i hi => by
      obtain ⟨cs', h1, h2⟩ := hel i (by omega)
      obtain ⟨b, h3, h4⟩ := each _ _ _ h2
      rw [hc] at h1
      exact ⟨b, cs', h1, h3, h4⟩
    refine ⟨some ad, mm, (List.range len).map (fun i => if hi : i < len then Classical.choose (key i hi) else default), by simp, by simpa using ⟨hl, hm⟩, fun j hj => ?_⟩
    have hj2 : j < len := by simpa using hj
    obtain ⟨b, off, spot⟩ := ad
    obtain ⟨cs0, h00, hl0, _⟩ := Classical.choose_spec (key 0 (by omega))
    have hspot : spot = none := by
      obtain ⟨_, _, hc0⟩ := World.cells?_some h00
      have e0 := hc0 0 (by omega)
      match cs0, hl0 with
      | v0 :: _, _ =>
        simp [Addr.add] at e0
        simpa using World.cell?_spot e0
      | [], hl1 => simp at hl1; omega
    subst hspot
    obtain ⟨cs', h1, h2, h3⟩ := Classical.choose_spec (key j hj2)
    obtain ⟨_, _, hcc⟩ := World.cells?_some h1
    have hcell : ∀ i, i < m → W.cell? ⟨b, off + j * m + i, none⟩ = cs'[i]? := fun i hi => by
      have := hcc i hi
      rw [addr_plusZ, addr_plusZ] at this
      exact this
    refine ⟨b, off, cs', Rows.uptoBulk (D j), rfl, ?_, hcell, ?_, ?_⟩
    · have := hcell 0 hm0
      rw [List.getElem?_eq_getElem (by omega)] at this
      exact World.block_lt_of_cell? W _ this
    · simp only [List.getElem_map, List.getElem_range, dif_pos hj2]
      exact h3
    · rw [(Prod.mk.inj hx).1]
      have := bulk_memZ (d := D j) (l := (List.range len).map D) (List.mem_map.2 ⟨j, List.mem_range.2 hj2, rfl⟩)
      simp only [Rows.uptoBulk]
      omega
theorem int_one {fuel : Nat} {cs : List Value} {x : DataW H × List MemPlace} (h : Trd enc W fuel 3 cs x) : ∃ b : Int, cs = [.int .i64 b] := by
  obtain ⟨n, e, _⟩ := DataW.trod_int Tryz.underlying3 h
  exact ⟨n, e⟩
theorem str_one {fuel : Nat} {cs : List Value} {x : DataW H × List MemPlace} (h : Trd enc W fuel 9 cs x) : ∃ b : ByteArray, cs = [.string b] ∧ b.size ≤ Rows.uptoBulk x.1 := by
  obtain ⟨s, e, hx, _⟩ := DataW.trod_string Tryz.underlying9 h
  refine ⟨s, e, ?_⟩
  rw [hx]
  simp only [Rows.uptoBulk, size_len]
  omega
set_option maxRecDepth 100000 in
theorem strs_in {fuel : Nat} {v : Value} {x : DataW H × List MemPlace} (h : Trd enc W fuel 35 [v] x) : ∃ M : List ByteArray, SRow W v M ∧ ∀ y ∈ M, y.size ≤ Rows.uptoBulk x.1 := by
  obtain ⟨a, c, L, rfl, _, hj⟩ := slice_in (β := ByteArray) (m := 1) Tryz.underlying35 (by kernel_rfl) (by omega) (fun cs b k => cs = [.string b] ∧ b.size ≤ k) (fun _ _ _ h => by obtain ⟨b, e, hb⟩ := str_one h; exact ⟨b, by rw [e]; rfl, e, hb⟩) h
  refine ⟨L, ⟨a, c, rfl, fun j hjl => ?_⟩, fun y hy => ?_⟩
  · obtain ⟨g, o, cs, k, h1, h2, h3, ⟨h4, _⟩, _⟩ := hj j hjl
    have := h3 0 (by omega)
    rw [h4] at this
    exact ⟨g, o, h1, h2, by simpa using this⟩
  · obtain ⟨j, hjl, rfl⟩ := List.getElem_of_mem hy
    obtain ⟨g, o, cs, k, _, _, _, ⟨_, h5⟩, h6⟩ := hj j hjl
    omega
set_option maxRecDepth 100000 in
theorem ints_in {fuel : Nat} {v : Value} {x : DataW H × List MemPlace} (h : Trd enc W fuel 38 [v] x) : ∃ M : List Int, IRow W v M ∧ capOk v := by
  obtain ⟨a, c, L, rfl, hcap, hj⟩ := slice_in (β := Int) (m := 1) Tryz.underlying38 (by kernel_rfl) (by omega) (fun cs b k => cs = [.int .i64 b]) (fun _ _ _ h => by obtain ⟨b, e⟩ := int_one h; exact ⟨b, by rw [e]; rfl, e⟩) h
  refine ⟨L, ⟨a, c, rfl, fun j hjl => ?_⟩, fun a' n' c' e => ?_⟩
  · obtain ⟨g, o, cs, k, h1, h2, h3, h4, _⟩ := hj j hjl
    have := h3 0 (by omega)
    rw [h4] at this
    exact ⟨g, o, h1, h2, by simpa using this⟩
  · simp only [Value.slice.injEq] at e
    obtain ⟨-, rfl, rfl⟩ := e
    exact hcap
theorem c1_3 : Tryz.prog.cellsOf 3 = 1 := by kernel_rfl
theorem c1_9 : Tryz.prog.cellsOf 9 = 1 := by kernel_rfl
theorem c1_s : Tryz.prog.cellsOf 35 = 1 := by kernel_rfl
theorem c1_i : Tryz.prog.cellsOf 38 = 1 := by kernel_rfl
theorem c1_h : Tryz.prog.cellsOf 22 = 1 := by kernel_rfl
theorem c1_r : Tryz.prog.cellsOf 23 = 1 := by kernel_rfl
theorem c5_m : Tryz.prog.cellsOf 37 = 5 := by kernel_rfl
theorem c3_h : Tryz.prog.cellsOf 43 = 3 := by kernel_rfl
theorem c21_r : Tryz.prog.cellsOf 40 = 21 := by kernel_rfl
theorem c18_c : Tryz.prog.cellsOf 25 = 18 := by kernel_rfl
instance : Inhabited Hst := ⟨⟨⟨#[]⟩, 0, 0⟩⟩
instance : Inhabited Rt := ⟨rtL 0⟩
set_option maxRecDepth 100000 in
theorem host_one {fuel : Nat} {cs : List Value} {x : DataW H × List MemPlace} (h : Trd enc W fuel 43 cs x) : ∃ b : Hst, cs.length = 3 ∧ (cs = [.string b.nm, .int .i64 b.ca, .int .i64 b.pe] ∧ b.nm.size ≤ Rows.uptoBulk x.1) := by
  obtain ⟨hl, F⟩ := fld_at Tryz.underlying43 h
  rw [c3_h] at hl
  match cs, hl with
  | [v0, v1, v2], _ =>
    obtain ⟨y0, n0, h0, b0⟩ := F 0 9 0 rfl
    obtain ⟨y1, n1, h1, b1⟩ := F 1 3 1 rfl
    obtain ⟨y2, n2, h2, b2⟩ := F 2 3 2 rfl
    simp only [c1_3, c1_9, List.drop_zero, List.drop_succ_cons, List.take_succ_cons, List.take_zero] at h0 h1 h2
    obtain ⟨nm, e0, s0⟩ := str_one h0
    obtain ⟨ca, e1⟩ := int_one h1
    obtain ⟨pe, e2⟩ := int_one h2
    simp only [List.cons.injEq, and_true] at e0 e1 e2
    subst e0 e1 e2
    exact ⟨⟨nm, ca, pe⟩, rfl, rfl, by show nm.size ≤ _; omega⟩
structure MOk (W : World) (cs : List Value) (ho pf : ByteArray) (M : List ByteArray) (hd va : ByteArray) (k : Nat) : Prop where
  c : ∃ m, cs = [.string ho, .string pf, m, .string hd, .string va] ∧ SRow W m M
  ho : ho.size ≤ k
  hd : hd.size ≤ k
  va : va.size ≤ k
  M : ∀ y ∈ M, y.size ≤ k
set_option maxRecDepth 100000 in
theorem match_one {fuel : Nat} {cs : List Value} {x : DataW H × List MemPlace} (h : Trd enc W fuel 37 cs x) : ∃ ho pf M hd va, MOk W cs ho pf M hd va (Rows.uptoBulk x.1) := by
  obtain ⟨hl, F⟩ := fld_at Tryz.underlying37 h
  rw [c5_m] at hl
  match cs, hl with
  | [v0, v1, v2, v3, v4], _ =>
    obtain ⟨y0, n0, h0, b0⟩ := F 0 9 0 rfl
    obtain ⟨y1, n1, h1, b1⟩ := F 1 9 1 rfl
    obtain ⟨y2, n2, h2, b2⟩ := F 2 35 2 rfl
    obtain ⟨y3, n3, h3, b3⟩ := F 3 9 3 rfl
    obtain ⟨y4, n4, h4, b4⟩ := F 4 9 4 rfl
    simp only [c1_s, c1_9, List.drop_zero, List.drop_succ_cons, List.take_succ_cons, List.take_zero] at h0 h1 h2 h3 h4
    obtain ⟨ho, e0, s0⟩ := str_one h0
    obtain ⟨pf, e1, s1⟩ := str_one h1
    obtain ⟨M, e2, s2⟩ := strs_in h2
    obtain ⟨hd, e3, s3⟩ := str_one h3
    obtain ⟨va, e4, s4⟩ := str_one h4
    simp only [List.cons.injEq, and_true] at e0 e1 e3 e4
    subst e0 e1 e3 e4
    exact ⟨ho, pf, M, hd, va, ⟨v2, rfl, e2⟩, by omega, by omega, by omega, fun y hy => by have := s2 y hy; omega⟩
/-- The cells of a route. -/
def rtC (r : Rt) (m q : Value) : List Value := [.string r.ho, .string r.pf, m, .string r.hd, .string r.va, q, .int .i64 r.r0, .int .i64 r.r1, .int .i64 r.r2, .int .i64 r.r3, .int .i64 r.r4, .int .i64 r.r5, .int .i64 r.r6, .int .i64 r.r7, .int .i64 r.r8, .int .i64 r.r9, .int .i64 r.r10, .int .i64 r.r11, .int .i64 r.r12, .int .i64 r.r13, .int .i64 r.r14]
structure ROk (W : World) (cs : List Value) (r : Rt) (k : Nat) : Prop where
  c : ∃ m q, cs = rtC r m q ∧ SRow W m r.M ∧ IRow W q r.H ∧ capOk q
  ho : r.ho.size ≤ k
  hd : r.hd.size ≤ k
  va : r.va.size ≤ k
  M : ∀ y ∈ r.M, y.size ≤ k
set_option maxHeartbeats 1000000 in
set_option maxRecDepth 100000 in
theorem route_one {fuel : Nat} {cs : List Value} {x : DataW H × List MemPlace} (h : Trd enc W fuel 40 cs x) : ∃ b : Rt, cs.length = 21 ∧ ROk W cs b (Rows.uptoBulk x.1) := by
  obtain ⟨hl, F⟩ := fld_at Tryz.underlying40 h
  rw [c21_r] at hl
  match cs, hl with
  | [v0, v1, v2, v3, v4, v5, v6, v7, v8, v9, v10, v11, v12, v13, v14, v15, v16, v17, v18, v19, v20], _ =>
    obtain ⟨y0, n0, h0, b0⟩ := F 0 37 0 rfl
    obtain ⟨y1, n1, h1, b1⟩ := F 1 38 5 rfl
    obtain ⟨y2, n2, h2, b2⟩ := F 2 3 6 rfl
    obtain ⟨y3, n3, h3, b3⟩ := F 3 3 7 rfl
    obtain ⟨y4, n4, h4, b4⟩ := F 4 3 8 rfl
    obtain ⟨y5, n5, h5, b5⟩ := F 5 3 9 rfl
    obtain ⟨y6, n6, h6, b6⟩ := F 6 3 10 rfl
    obtain ⟨y7, n7, h7, b7⟩ := F 7 3 11 rfl
    obtain ⟨y8, n8, h8, b8⟩ := F 8 3 12 rfl
    obtain ⟨y9, n9, h9, b9⟩ := F 9 3 13 rfl
    obtain ⟨y10, n10, h10, b10⟩ := F 10 3 14 rfl
    obtain ⟨y11, n11, h11, b11⟩ := F 11 3 15 rfl
    obtain ⟨y12, n12, h12, b12⟩ := F 12 3 16 rfl
    obtain ⟨y13, n13, h13, b13⟩ := F 13 3 17 rfl
    obtain ⟨y14, n14, h14, b14⟩ := F 14 3 18 rfl
    obtain ⟨y15, n15, h15, b15⟩ := F 15 3 19 rfl
    obtain ⟨y16, n16, h16, b16⟩ := F 16 3 20 rfl
    simp only [c5_m, c1_i, c1_3, List.drop_zero, List.drop_succ_cons, List.take_succ_cons, List.take_zero] at h0 h1 h2 h3 h4 h5 h6 h7 h8 h9 h10 h11 h12 h13 h14 h15 h16
    obtain ⟨ho, pf, M, hd, va, ⟨⟨m, em, hm⟩, s0, s1, s2, s3⟩⟩ := match_one h0
    obtain ⟨HL, e1, q1⟩ := ints_in h1
    obtain ⟨r0, e2⟩ := int_one h2
    obtain ⟨r1, e3⟩ := int_one h3
    obtain ⟨r2, e4⟩ := int_one h4
    obtain ⟨r3, e5⟩ := int_one h5
    obtain ⟨r4, e6⟩ := int_one h6
    obtain ⟨r5, e7⟩ := int_one h7
    obtain ⟨r6, e8⟩ := int_one h8
    obtain ⟨r7, e9⟩ := int_one h9
    obtain ⟨r8, e10⟩ := int_one h10
    obtain ⟨r9, e11⟩ := int_one h11
    obtain ⟨r10, e12⟩ := int_one h12
    obtain ⟨r11, e13⟩ := int_one h13
    obtain ⟨r12, e14⟩ := int_one h14
    obtain ⟨r13, e15⟩ := int_one h15
    obtain ⟨r14, e16⟩ := int_one h16
    simp only [List.cons.injEq, and_true] at em e2 e3 e4 e5 e6 e7 e8 e9 e10 e11 e12 e13 e14 e15 e16
    obtain ⟨rfl, rfl, rfl, rfl, rfl⟩ := em
    subst e2 e3 e4 e5 e6 e7 e8 e9 e10 e11 e12 e13 e14 e15 e16
    exact ⟨⟨ho, pf, M, hd, va, HL, r0, r1, r2, r3, r4, r5, r6, r7, r8, r9, r10, r11, r12, r13, r14⟩, rfl, ⟨_, _, rfl, hm, e1, q1⟩, by show ho.size ≤ _; omega, by show hd.size ≤ _; omega, by show va.size ≤ _; omega, fun y hy => by have := s3 y hy; omega⟩
set_option maxRecDepth 100000 in
theorem hosts_in {fuel : Nat} {v : Value} {x : DataW H × List MemPlace} (h : Trd enc W fuel 22 [v] x) : ∃ (a : Option Addr) (c : Nat) (L : List Hst), v = .slice a L.length c ∧ (L.length ≤ c ∧ c ≤ maxLen) ∧ HRow W v L ∧ ∀ y ∈ L, y.nm.size ≤ Rows.uptoBulk x.1 := by
  obtain ⟨a, c, L, rfl, hcap, hj⟩ := slice_in (β := Hst) (m := 3) Tryz.underlying22 c3_h (by omega) (fun cs b k => cs = [.string b.nm, .int .i64 b.ca, .int .i64 b.pe] ∧ b.nm.size ≤ k) (fun _ _ _ h => host_one h) h
  refine ⟨a, c, L, rfl, hcap, ⟨a, c, rfl, fun j hjl => ?_⟩, fun y hy => ?_⟩
  · obtain ⟨g, o, cs, k, h1, h2, h3, ⟨rfl, _⟩, _⟩ := hj j hjl
    exact ⟨g, o, h1, h2, h3 0 (by omega), h3 1 (by omega), h3 2 (by omega)⟩
  · obtain ⟨j, hjl, rfl⟩ := List.getElem_of_mem hy
    obtain ⟨g, o, cs, k, _, _, _, ⟨_, h5⟩, h6⟩ := hj j hjl
    omega
set_option maxRecDepth 100000 in
theorem routes_in {fuel : Nat} {v : Value} {x : DataW H × List MemPlace} (h : Trd enc W fuel 23 [v] x) (hb : Rows.uptoBulk x.1 ≤ 1048576) : ∃ (a : Option Addr) (c : Nat) (L : List Rt), v = .slice a L.length c ∧ (L.length ≤ c ∧ c ≤ maxLen) ∧ RRow W v L ∧ ∀ y ∈ L, y.Sz := by
  obtain ⟨a, c, L, rfl, hcap, hj⟩ := slice_in (β := Rt) (m := 21) Tryz.underlying23 c21_r (by omega) (fun cs b k => ROk W cs b k) (fun _ _ _ h => route_one h) h
  refine ⟨a, c, L, rfl, hcap, ⟨a, c, rfl, fun j hjl => ?_⟩, fun y hy => ?_⟩
  · obtain ⟨g, o, cs, k, h1, h2, h3, ⟨⟨m, q, rfl, hm, hq, hcq⟩, _, _, _, _⟩, _⟩ := hj j hjl
    exact ⟨g, o, m, q, h1, h2, hm, hq, hcq, h3 0 (by omega), h3 1 (by omega), h3 2 (by omega), h3 3 (by omega), h3 4 (by omega), h3 5 (by omega), h3 6 (by omega), h3 7 (by omega), h3 8 (by omega), h3 9 (by omega), h3 10 (by omega), h3 11 (by omega), h3 12 (by omega), h3 13 (by omega), h3 14 (by omega), h3 15 (by omega), h3 16 (by omega), h3 17 (by omega), h3 18 (by omega), h3 19 (by omega), h3 20 (by omega)⟩
  · obtain ⟨j, hjl, rfl⟩ := List.getElem_of_mem hy
    obtain ⟨g, o, cs, k, _, _, _, ⟨_, h5, h6, h7, h8⟩, h9⟩ := hj j hjl
    exact ⟨by omega, by omega, by omega, fun y hy => by have := h8 y hy; omega⟩
set_option maxRecDepth 100000 in
theorem array18 {α : Type} {cs : Array α} (h : cs.size = 18) : ∃ c0 c1 c2 c3 c4 c5 c6 c7 c8 c9 c10 c11 c12 c13 c14 c15 c16 c17, cs = #[c0, c1, c2, c3, c4, c5, c6, c7, c8, c9, c10, c11, c12, c13, c14, c15, c16, c17] := by
  obtain ⟨l⟩ := cs
  match l, h with
  | [c0, c1, c2, c3, c4, c5, c6, c7, c8, c9, c10, c11, c12, c13, c14, c15, c16, c17], _ => exact ⟨c0, c1, c2, c3, c4, c5, c6, c7, c8, c9, c10, c11, c12, c13, c14, c15, c16, c17, rfl⟩
set_option maxHeartbeats 1000000 in
set_option maxRecDepth 100000 in
theorem cfg_in {r : Reach} {b0 : Nat} {v : Value} {d : DataW H} {p : List MemPlace} (hv : Value.okWide Tryz.prog W r b0 25 v) (h : DataW.Trod enc Tryz.prog W 0 (fun _ => true) true 25 v d p) (hb : Rows.uptoBulk d ≤ 1048576) :
    ∃ a1 a2 k1 k2 C, v = cfgV a1 a2 k1 k2 C ∧ HRow W (.slice a1 C.H.length k1) C.H ∧ RRow W (.slice a2 C.R.length k2) C.R ∧ (∀ x ∈ C.H, x.nm.size ≤ 1048576) ∧ (∀ x ∈ C.R, x.Sz) ∧ (C.H.length ≤ k1 ∧ k1 ≤ maxLen) ∧ (C.R.length ≤ k2 ∧ k2 ≤ maxLen) := by
  obtain ⟨cs, rfl, hsz⟩ := okWide_struct Tryz.underlying25 hv
  obtain ⟨v0, v1, v2, v3, v4, v5, v6, v7, v8, v9, v10, v11, v12, v13, v14, v15, v16, v17, rfl⟩ := array18 (hsz.trans c18_c)
  obtain ⟨fuel, hf⟩ := h
  obtain ⟨hl, F⟩ := fld_at Tryz.underlying25 hf
  simp only [Value.cells] at F
  obtain ⟨y0, n0, h0, b0⟩ := F 0 22 0 rfl
  obtain ⟨y1, n1, h1, b1⟩ := F 1 23 1 rfl
  obtain ⟨y2, n2, h2, b2⟩ := F 2 3 2 rfl
  obtain ⟨y3, n3, h3, b3⟩ := F 3 3 3 rfl
  obtain ⟨y4, n4, h4, b4⟩ := F 4 3 4 rfl
  obtain ⟨y5, n5, h5, b5⟩ := F 5 3 5 rfl
  obtain ⟨y6, n6, h6, b6⟩ := F 6 9 6 rfl
  obtain ⟨y7, n7, h7, b7⟩ := F 7 3 7 rfl
  obtain ⟨y8, n8, h8, b8⟩ := F 8 3 8 rfl
  obtain ⟨y9, n9, h9, b9⟩ := F 9 3 9 rfl
  obtain ⟨y10, n10, h10, b10⟩ := F 10 3 10 rfl
  obtain ⟨y11, n11, h11, b11⟩ := F 11 3 11 rfl
  obtain ⟨y12, n12, h12, b12⟩ := F 12 3 12 rfl
  obtain ⟨y13, n13, h13, b13⟩ := F 13 3 13 rfl
  obtain ⟨y14, n14, h14, b14⟩ := F 14 3 14 rfl
  obtain ⟨y15, n15, h15, b15⟩ := F 15 3 15 rfl
  obtain ⟨y16, n16, h16, b16⟩ := F 16 3 16 rfl
  obtain ⟨y17, n17, h17, b17⟩ := F 17 3 17 rfl
  simp only [c1_h, c1_r, c1_3, c1_9, List.drop_zero, List.drop_succ_cons, List.take_succ_cons, List.take_zero] at h0 h1 h2 h3 h4 h5 h6 h7 h8 h9 h10 h11 h12 h13 h14 h15 h16 h17
  obtain ⟨a1, k1, LH, e0, q0, t0, s0⟩ := hosts_in h0
  obtain ⟨a2, k2, LR, e1, q1, t1, s1⟩ := routes_in h1 (by omega)
  obtain ⟨x2, e2⟩ := int_one h2
  obtain ⟨x3, e3⟩ := int_one h3
  obtain ⟨x4, e4⟩ := int_one h4
  obtain ⟨x5, e5⟩ := int_one h5
  obtain ⟨pa, e6, s6⟩ := str_one h6
  obtain ⟨x7, e7⟩ := int_one h7
  obtain ⟨x8, e8⟩ := int_one h8
  obtain ⟨x9, e9⟩ := int_one h9
  obtain ⟨x10, e10⟩ := int_one h10
  obtain ⟨x11, e11⟩ := int_one h11
  obtain ⟨x12, e12⟩ := int_one h12
  obtain ⟨x13, e13⟩ := int_one h13
  obtain ⟨x14, e14⟩ := int_one h14
  obtain ⟨x15, e15⟩ := int_one h15
  obtain ⟨x16, e16⟩ := int_one h16
  obtain ⟨x17, e17⟩ := int_one h17
  simp only [List.cons.injEq, and_true] at e2 e3 e4 e5 e6 e7 e8 e9 e10 e11 e12 e13 e14 e15 e16 e17
  subst e0 e1 e2 e3 e4 e5 e6 e7 e8 e9 e10 e11 e12 e13 e14 e15 e16 e17
  exact ⟨a1, a2, k1, k2, ⟨LH, LR, pa, x2, x3, x4, x5, x7, x8, x9, x10, x11, x12, x13, x14, x15, x16, x17⟩, rfl, t0, t1, fun x hx => by have := s0 x hx; omega, s1, q0, q1⟩
end
end Go.Proofs.YtekkhjlipijmcaaGreatDoor
