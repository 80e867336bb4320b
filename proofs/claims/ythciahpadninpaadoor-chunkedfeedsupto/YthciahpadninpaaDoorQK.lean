/- QK: COpP PFld CTw CBackW. -/
import Derived.Test.YthciahpadninpaaDoorQG
import Derived.Test.YthciahpadninpaaDoorQE
import Derived.Test.YthciahpadninpaaDoorQA
import Derived.Test.YthciahpadninpaaDoorQB
import Derived.Deep.QuietTactic
import Derived.Test.YthciahpadninpaaDoorQF
import Derived.Test.YthciahpadninpaaDoorQH
/- Pieces that came in, opened. -/
namespace Go.Proofs.YthciahpadninpaaDoor
open Go.ChangeShapes Go.WideShapes Go.ChangeAt Go.RowKit Go.Joins Go.Deep

theorem cellsB : Tryd.prog.cellsOf 29 = 1 := by kernel_rfl
theorem bulk_flat {H : Type} (D : Nat → DataW H) (f : Nat → List UInt8) : ∀ (l : List Nat), (∀ i ∈ l, (f i).length ≤ Rows.uptoBulk (D i)) → ((l.map f).flatten).length ≤ Rows.uptoBulkAll (l.map D)
  | [], _ => Nat.zero_le _
  | i :: r, h => by
    have h1 := h i (by simp)
    have h2 := bulk_flat D f r (fun j hj => h j (List.mem_cons_of_mem _ hj))
    simp only [List.map_cons, List.flatten_cons, List.length_append, Rows.uptoBulkAll]
    omega
theorem pcs_of {H : Type} {enc : TypeId × Value → H} {W : World} {fuel : Nat} {v : Value} {x : DataW H × List MemPlace} (h : DataW.trod enc Tryd.prog W 0 (fun _ => true) true fuel 22 [v] = some x) :
    ∃ L : List (List UInt8), Pcs W v L ∧ L.flatten.length ≤ Rows.uptoBulk x.1 ∧ L.length ≤ Rows.uptoBulk x.1 := by
  rcases open_slice1 Tryd.underlying22 cellsB h with ⟨hcs, _⟩ | ⟨a, len, cap, m, n, V, D, Pl, hcs, _, hl, hm, hmm, hx, hel⟩
  · simp only [List.cons.injEq, and_true] at hcs
    subst hcs
    exact ⟨[], ⟨none, 0, rfl, Nat.le_refl _, fun j hj => by simp at hj⟩, Nat.zero_le _, Nat.zero_le _⟩
  · simp only [List.cons.injEq, and_true] at hcs
    subst hcs
    simp only [if_true] at hmm
    subst hmm
    have each : ∀ i, ∃ l : List UInt8, i < len → Bs W W.heap.size (V i) l ∧ Shp (V i) ∧ l.length ≤ Rows.uptoBulk (D i) := fun i => by
      by_cases hi : i < len
      · obtain ⟨l, h1, h2, h3⟩ := bytes_in (hel i (by omega)).2
        exact ⟨l, fun _ => ⟨h1, h2, h3⟩⟩
      · exact ⟨[], fun h => absurd h hi⟩
    obtain ⟨f, hf⟩ := Classical.axiomOfChoice each
    obtain ⟨b, off, spot⟩ := a
    have hx1 : x.1 = .slice ((List.range len).map D) ((List.range (m - len)).map fun j => D (len + j)) := by rw [hx]
    refine ⟨(List.range len).map f, ⟨some ⟨b, off, spot⟩, m, by simp, by simpa using hl, fun j hj => ?_⟩, ?_, ?_⟩
    · have hj2 : j < len := by simpa using hj
      have hspot : spot = none := by simpa [Addr.add] using World.cell?_spot (hel 0 (by omega)).1
      subst hspot
      have hc := (hel j (by omega)).1
      rw [addr_plus] at hc
      obtain ⟨h1, h2, _⟩ := hf j hj2
      obtain ⟨va, vc, hv, hvc, hvx⟩ := h1
      have e : ((List.range len).map f)[j] = f j := by simp
      rw [hv] at hc h2
      refine ⟨b, off, va, vc, rfl, World.block_lt_of_cell? W _ hc, ?_, ?_, ?_⟩
      · rw [e]; exact hc
      · rw [e]; exact ⟨va, vc, rfl, hvc, hvx⟩
      · rw [e]; exact h2
    · rw [hx1]
      have := bulk_flat D f (List.range len) (fun i hi => (hf i (List.mem_range.1 hi)).2.2)
      simp only [Rows.uptoBulk]
      omega
    · rw [hx1]
      have := bulk_many ((List.range len).map D)
      simp only [List.length_map, List.length_range] at this
      simp only [Rows.uptoBulk, List.length_map, List.length_range]
      omega
end Go.Proofs.YthciahpadninpaaDoor
/- Fields held against one another. -/
namespace Go.Proofs.YthciahpadninpaaDoor
open Go.ChangeShapes Go.WideShapes Go.ChangeAt Go.RowKit

theorem take_snocP {α : Type} (A : List α) (k : Nat) (h : k < A.length) : A.take (k + 1) = A.take k ++ [A[k]] := List.take_succ_eq_append_getElem h
set_option maxHeartbeats 2000000 in
theorem plainF_any (w : World) (a b : Value) (A B : List (ByteArray × ByteArray)) (hA : Flds w a A) (hB : Flds w b B) (hl : A.length ≤ 1099511627776) (hl2 : B.length ≤ 1099511627776) :
    Calls Tryd.prog 14 #[a, b] w fun e w' => e = .returned (.bool (decide (A = B))) ∧ Below w.heap.size w w' := by
  obtain ⟨a0, c0, rfl, _, hca⟩ := hA
  obtain ⟨b0, d0, rfl, _, hcb⟩ := hB
  have HA := hide hca
  have HB := hide hcb
  clear hca hcb
  obtain ⟨D, hD⟩ : ∃ D, decide (A = B) = D := ⟨_, rfl⟩
  rw [hD]
  have HD := hide hD
  clear hD
  by_cases hn : A.length = B.length
  · have t : ((A.length : Int) != (B.length : Int)) = false := by rw [bne_eq_false_iff_eq]; omega
    have hl3 : B.length ≤ A.length := by omega
    have hl4 : A.length ≤ B.length := by omega
    clear hn
    go_enter Tryd.func14, Tryd.ntmps14
    go_wp2
    go_loopw [13] (fun i wr => ∃ k : Nat, k ≤ A.length ∧ i = .int .i64 k ∧ Hid (A.take k = B.take k) ∧ Hid (∃ n, wr = w.drewN n)) (fun i _ => A.length - (intOf i).toNat)
    case atStart => exact ⟨0, Nat.zero_le _, rfl, hide rfl, hide ⟨0, rfl⟩⟩
    case round =>
      obtain ⟨k, hk, rfl, H, HW⟩ := hrel
      by_cases hlt : k < A.length
      · have hlb : k < B.length := by omega
        obtain ⟨g1, o1, rfl, _, q1, q2⟩ := HA.out k hlt
        obtain ⟨g2, o2, rfl, _, q3, q4⟩ := HB.out k hlb
        obtain ⟨n, hwn⟩ := HW.out
        subst hwn
        have hsa := hide (take_snocP A k hlt)
        have hsb := hide (take_snocP B k hlb)
        obtain ⟨⟨fa, fb⟩, hf⟩ : ∃ f, A[k] = f := ⟨_, rfl⟩
        obtain ⟨⟨ga, gb⟩, hg⟩ : ∃ f, B[k] = f := ⟨_, rfl⟩
        have HNE : Hid ((fa, fb) ≠ (ga, gb) → A ≠ B) := hide (by rintro hne rfl; exact hne (hf.symm.trans hg))
        rw [hf] at q1 q2 hsa
        rw [hg] at q3 q4 hsb
        dsimp only at q1 q2 q3 q4
        clear hf hg
        have e1 := bytes_eq fa ga
        have e2 := bytes_eq fb gb
        by_cases h1 : fa = ga
        · subst h1
          clear e1
          by_cases h2 : fb = gb
          · subst h2
            clear e2
            have HT : Hid (A.take (k + 1) = B.take (k + 1)) := hide (by rw [hsa.out, hsb.out, H.out])
            go_wp2
            go_quiet (fail)
            go_wp2
            exact ⟨⟨k + 1, by omega, by go_num, HT, hide ⟨n + nq, rfl⟩⟩, by simp [intOf]; omega⟩
          · have t2 : (fb.toList == gb.toList) = false := by rw [e2]; exact decide_eq_false h2
            have HE : Hid (A ≠ B) := hide (HNE.out (fun e => h2 (Prod.mk.inj e).2))
            clear e2 h2
            go_wp2
            go_quiet (fail)
            go_wp2
            go_ret
            exact ⟨ret_bool (by rw [← HD.out]; exact (decide_eq_false HE.out).symm), by rw [World.drewN_drewN]; exact below_drewN w _⟩
        · have t1 : (fa.toList == ga.toList) = false := by rw [e1]; exact decide_eq_false h1
          have HE : Hid (A ≠ B) := hide (HNE.out (fun e => h1 (Prod.mk.inj e).1))
          clear e1 e2 h1
          go_wp2
          go_quiet (fail)
          go_wp2
          go_ret
          exact ⟨ret_bool (by rw [← HD.out]; exact (decide_eq_false HE.out).symm), by rw [World.drewN_drewN]; exact below_drewN w _⟩
      · have HE : Hid (A = B) := hide (by
          have := H.out
          rw [List.take_of_length_le (by omega), List.take_of_length_le (by omega)] at this
          exact this)
        obtain ⟨n, hwn⟩ := HW.out
        subst hwn
        go_wp2
        go_ret
        exact ⟨ret_bool (by rw [← HD.out]; exact (decide_eq_true HE.out).symm), below_drewN w _⟩
  · have t : ((A.length : Int) != (B.length : Int)) = true := by rw [bne_iff_ne]; omega
    have HE : Hid (A ≠ B) := hide (by rintro rfl; exact hn rfl)
    clear hn
    go_enter Tryd.func14, Tryd.ntmps14
    go_wp2
    go_ret
    exact ⟨ret_bool (by rw [← HD.out]; exact (decide_eq_false HE.out).symm), Below.refl _ _⟩
end Go.Proofs.YthciahpadninpaaDoor
/- Three rows of the call's own, beside each other; what is fed is coded. -/
namespace Go.Proofs.YthciahpadninpaaDoor
open Go.ChangeShapes Go.WideShapes Go.ChangeAt Go.RowKit

structure Tw (w W : World) (pv cv ev : Value) (P C E : List UInt8) : Prop where
  p : Row W w.heap.size 5 pv (bc P)
  c : Row W w.heap.size 5 cv (bc C)
  e : Row W w.heap.size 5 ev (bc E)
  pc : ∀ k, pv.ownBlock = some k → cv.ownBlock ≠ some k
  pe : ∀ k, pv.ownBlock = some k → ev.ownBlock ≠ some k
  ce : ∀ k, cv.ownBlock = some k → ev.ownBlock ≠ some k
  b : Below w.heap.size w W
theorem Tw.below {w W W' : World} {pv cv ev : Value} {P C E : List UInt8} (h : Tw w W pv cv ev P C E) (b : Below W.heap.size W W') : Tw w W' pv cv ev P C E :=
  ⟨h.p.below b, h.c.below b, h.e.below b, h.pc, h.pe, h.ce, h.b.trans (b.mono h.b.size)⟩
theorem Tw.growP {w W W' : World} {pv pv' cv ev : Value} {P P' C E : List UInt8} (h : Tw w W pv cv ev P C E) (hk : Kept W W' pv pv') (hR : Row W' w.heap.size 5 pv' (bc P')) (hB : Below w.heap.size W W') : Tw w W' pv' cv ev P' C E :=
  ⟨hR, h.c.frame fun k e => hk.block k (h.c.lt e).2 (fun e2 => h.pc k e2 e), h.e.frame fun k e => hk.block k (h.e.lt e).2 (fun e2 => h.pe k e2 e),
    fun k e e2 => hk.apart k (h.c.lt e2).2 (fun e3 => h.pc k e3 e2) e, fun k e e2 => hk.apart k (h.e.lt e2).2 (fun e3 => h.pe k e3 e2) e, h.ce, h.b.trans hB⟩
theorem Tw.growC {w W W' : World} {pv cv cv' ev : Value} {P C C' E : List UInt8} (h : Tw w W pv cv ev P C E) (hk : Kept W W' cv cv') (hR : Row W' w.heap.size 5 cv' (bc C')) (hB : Below w.heap.size W W') : Tw w W' pv cv' ev P C' E :=
  ⟨h.p.frame fun k e => hk.block k (h.p.lt e).2 (fun e2 => h.pc k e e2), hR, h.e.frame fun k e => hk.block k (h.e.lt e).2 (fun e2 => h.ce k e2 e),
    fun k e e2 => hk.apart k (h.p.lt e).2 (fun e3 => h.pc k e e3) e2, h.pe, fun k e e2 => hk.apart k (h.e.lt e2).2 (fun e3 => h.ce k e3 e2) e, h.b.trans hB⟩
theorem Row.shp {W : World} {base : Nat} {e : TypeId} {v : Value} {xs : List Value} (h : Row W base e v xs) : Shp v := by
  rcases h.2 with ⟨rfl, _⟩ | ⟨g, cap, cur, rfl, _⟩
  · exact .inl rfl
  · exact .inr ⟨_, _, _, rfl⟩
theorem chunk_len {p : List UInt8} (h : p.length ≤ 9007199254740992) : (chunkL p).length ≤ p.length + 18 := by
  unfold chunkL
  split
  · simp
  · have := hexD_len14 h
    simp
    omega
theorem chunks_len {L : List (List UInt8)} (h : L.flatten.length ≤ 9007199254740992) : ∀ k, k ≤ L.length → ((L.take k).flatMap chunkL).length ≤ (L.take k).flatten.length + 18 * k
  | 0, _ => by simp
  | k + 1, hk => by
    have ih := chunks_len h k (by omega)
    have hlt : k < L.length := by omega
    have h1 := flat_le L (k + 1)
    rw [flat_take hlt, List.length_append] at h1
    have h2 := chunk_len (p := L[k]) (by omega)
    rw [flat_take hlt, List.take_succ_eq_append_getElem hlt, List.flatMap_append, List.flatMap_singleton, List.length_append, List.length_append]
    omega
theorem chunks_snoc {L : List (List UInt8)} {k : Nat} (h : k < L.length) : (L.take (k + 1)).flatMap chunkL = (L.take k).flatMap chunkL ++ chunkL L[k] := by
  rw [List.take_succ_eq_append_getElem h, List.flatMap_append, List.flatMap_singleton]
theorem Bf.of_row {w : World} {base : Nat} {v : Value} {l : List UInt8} (h : Row w base 5 v (bc l)) : Bf w (fun k => k < w.heap.size) v l := by
  obtain ⟨a, c, rfl, hc, hx⟩ := Bs.of_row h
  refine ⟨a, c, rfl, hc, fun j hj => ?_⟩
  obtain ⟨g, o, h1, h2, h3, h4⟩ := hx j hj
  exact ⟨g, o, h1, h2, h3, h4⟩
/-- What a new decoder makes of a coded body. -/
theorem fed {L : List (List UInt8)} {A : List (ByteArray × ByteArray)} (R : List UInt8) (hA : chkL A = 0) (hz : ∀ f ∈ A, f.1.size + f.2.size ≤ 8190) (hL : L.flatten.length ≤ 4294967296) :
    ∃ d', dBytes (dNew L.flatten.length) (L.flatMap chunkL ++ (lastL A ++ R)) = (0, (L.flatMap chunkL).length + (lastL A).length, L.flatten, d') ∧ d'.whole = true ∧ A = d'.tr := by
  have hc := chk_all hA
  have h := At.back (most := L.flatten.length) (b := L.flatMap chunkL ++ (lastL A ++ R)) (rest := R) hc.2 hz hc.1 L (At.new _ _) hL (by rw [List.drop_zero])
  rw [List.nil_append, Nat.zero_add] at h
  obtain ⟨d', h1, h2, h3⟩ := h
  exact ⟨d', h1, h2, by rw [if_pos rfl] at h3; exact h3⟩
end Go.Proofs.YthciahpadninpaaDoor
/- ChunkedBack, walked. -/
namespace Go.Proofs.YthciahpadninpaaDoor
open Go.ChangeShapes Go.WideShapes Go.ChangeAt Go.RowKit

set_option maxHeartbeats 16000000 in
set_option maxRecDepth 100000 in
theorem back_walk (v l u : Value) (L : List (List UInt8)) (A : List (ByteArray × ByteArray)) (R : List UInt8) (w : World) (hP : Pcs w v L) (hF : Flds w l A) (hs : Sm A) (hU : Bs w w.heap.size u R) (hSU : Shp u) (hfl : L.flatten.length ≤ 1048576) (hn : L.length ≤ 1048576) (hr : R.length ≤ 1048576) (hm : MX w) (hdb : DB w) :
    Calls Tryd.prog 5 #[v, l, u] w fun e w' => e = .returned (.bool true) ∧ Below w.heap.size w w' := by
  have HM := hide hm
  have HDB := hide hdb
  have hw2 : 2 ≤ w.heap.size := hm.1
  have HF := hide hF
  have HU := hide hU
  have HSU := hide hSU
  have HLA := hide (last_any l A w hF hs)
  obtain ⟨pa, pc, rfl, hpc, hcells⟩ := hP
  obtain ⟨la, lc, rfl, _, _⟩ := hF
  obtain ⟨ua, uc, rfl, _, _⟩ := hU
  have HPC := hide hcells
  have HS := hide hs
  clear hm hdb hSU hcells hs
  generalize hck : chkL A = ck at HLA
  go_enter Tryd.func5, Tryd.ntmps5
  go_wp2_with fail
  refine HLA.out.mono ?_
  rintro e w1 ⟨vx, rfl, hx1, hx2, b1⟩
  have B1 := hide b1
  clear b1 HLA
  by_cases h0 : ck = 0
  · have t0 : ((ck : Int) != 0) = false := by rw [bne_eq_false_iff_eq]; omega
    have E1 := hide (hx1 h0)
    have HCK : Hid (chkL A = 0) := hide (hck.trans h0)
    obtain ⟨ea, en, ec, rfl⟩ : ∃ a n c, vx = .slice a n c := by
      obtain ⟨a, c, h, _⟩ := E1.out.shape
      exact ⟨a, _, c, h⟩
    have hA100 := (chk_all HCK.out).1
    have hLE : (lastL A).length ≤ 209715605 := by
      have h1 := trls_len HS.out A.length (Nat.le_refl _)
      rw [List.take_of_length_le (Nat.le_refl _)] at h1
      unfold lastL
      simp only [List.length_append, List.length_cons, List.length_nil]
      omega
    clear hx1 hx2 h0 hck
    go_wp2_with fail
    go_loopw [37] (fun i wr => ∃ (k : Nat), k ≤ A.length ∧ i = .int .i64 k ∧ Hid (∀ f ∈ A.take k, f.1.size + f.2.size ≤ 8190) ∧ Hid (Row wr w.heap.size 5 (.slice ea en ec) (bc (lastL A))) ∧ Hid (Below w.heap.size w wr)) (fun i _ => A.length - (intOf i).toNat)
    case atStart => exact ⟨0, Nat.zero_le _, rfl, hide (fun f hf => by simp at hf), E1, B1⟩
    case round =>
      clear E1 B1
      obtain ⟨k, hk, rfl, HZ, E1, HB⟩ := hrel
      by_cases hlt : k < A.length
      · obtain ⟨a', c', he, _, hc⟩ := HF.out
        simp only [Value.slice.injEq] at he
        obtain ⟨rfl, _, rfl⟩ := he
        obtain ⟨b1, o1, rfl, hb1, q1, q2⟩ := hc k hlt
        have r1 : wr.cell? ⟨b1, o1 + k * 2, none⟩ = some (.string A[k].1) := (HB.out.cell (p := ⟨b1, o1 + k * 2, none⟩) hb1).trans q1
        have r2 : wr.cell? ⟨b1, o1 + k * 2 + 1, none⟩ = some (.string A[k].2) := (HB.out.cell (p := ⟨b1, o1 + k * 2 + 1, none⟩) hb1).trans q2
        have hz := HS.out.at k hlt
        have HZ2 : Hid (A[k].1.size + A[k].2.size ≤ 8190 → ∀ f ∈ A.take (k + 1), f.1.size + f.2.size ≤ 8190) := hide (fun h f hf => by
          rw [take_snocF A k hlt, List.mem_append] at hf
          rcases hf with h1 | h1
          · exact HZ.out f h1
          · rw [List.mem_singleton.1 h1]; exact h)
        generalize A[k] = f at r1 r2 hz HZ2
        obtain ⟨na, nb⟩ := f
        dsimp only at r1 r2 hz HZ2
        obtain ⟨z1, z2⟩ := hz
        clear hc q1 q2
        go_upto_region 7 with fail
        have BA := hide ((Below.refl wr.heap.size wr).alloc (Nat.le_refl _) (.cells #[.string na, .string nb] 46))
        have H2 := hide (hp_new wr (.cells #[.string na, .string nb] 46))
        have EX := hide (E1.out.below BA.out)
        have HBX := hide (HB.out.trans (BA.out.mono HB.out.size))
        clear BA HB r1 r2 E1
        generalize wr.alloc (.cells #[.string na, .string nb] 46) = x at HBX H2 EX ⊢
        generalize wr.heap.size = bf at H2 ⊢
        have e0 : x.cell? ⟨bf, 0, none⟩ = some (.string na) := cell_at H2.out 0
        have e1 : x.cell? ⟨bf, 1, none⟩ = some (.string nb) := cell_at H2.out 1
        by_cases hbig : 8190 < na.size + nb.size
        · have t1 : (8190 : Int) < (na.size : Int) + (nb.size : Int) := by omega
          go_wp2_with fail
          refine (speaks_any x (HM.out.below HBX.out) (HDB.out.below HBX.out)).mono ?_
          rintro e w7 ⟨rfl, bb⟩
          have B8 := hide (HBX.out.trans (bb.mono HBX.out.size))
          clear bb e0 e1
          go_wp2
          go_ret
          exact ⟨rfl, B8.out⟩
        · have t1 : ¬ (8190 : Int) < (na.size : Int) + (nb.size : Int) := by omega
          have HZ3 := hide (HZ2.out (by omega))
          go_wp2_with fail
          exact ⟨⟨k + 1, by omega, by go_num, HZ3, EX, HBX⟩, by simp [intOf]; omega⟩
      · have hz := HZ.out
        rw [List.take_of_length_le (by omega)] at hz
        have HZA := hide hz
        clear hz HZ
        obtain rfl : k = A.length := by omega
        clear hlt hk
        go_wp2_with fail
        have TW0 : Hid (Tw w wr (.slice none 0 0) (.slice none 0 0) (.slice ea en ec) [] [] (lastL A)) := hide ⟨Row.nil _ _ _, Row.nil _ _ _, E1.out, by intro k e; simp [Value.ownBlock] at e, by intro k e; simp [Value.ownBlock] at e, by intro k e; simp [Value.ownBlock] at e, HB.out⟩
        clear E1 HB
        go_loopw [11, 12, 53] (fun pv cv i wr => ∃ (k : Nat) (pa2 : Option Addr) (pn pc2 : Nat) (ca : Option Addr) (cn cc : Nat), k ≤ L.length ∧ pv = .slice pa2 pn pc2 ∧ cv = .slice ca cn cc ∧ i = .int .i64 k ∧ Hid (Tw w wr (.slice pa2 pn pc2) (.slice ca cn cc) (.slice ea en ec) (L.take k).flatten ((L.take k).flatMap chunkL) (lastL A))) (fun _ _ i _ => L.length - (intOf i).toNat)
        case atStart => exact ⟨0, none, 0, 0, none, 0, 0, Nat.zero_le _, rfl, rfl, rfl, TW0⟩
        case round =>
          clear TW0
          obtain ⟨k, pa2, pn, pc2, ca, cn, cc, hk, rfl, rfl, rfl, TW⟩ := hrel
          have hfk := flat_le L k
          have hck := chunks_len (L := L) (by omega) k hk
          by_cases hlt : k < L.length
          · obtain ⟨g1, o1, ba, bcp, rfl, hg1, q1, hbs, hsh⟩ := HPC.out k hlt
            have HFT := hide (flat_take hlt)
            have HCT := hide (chunks_snoc hlt)
            have hle := flat_le L (k + 1)
            rw [HFT.out, List.length_append] at hle
            have HBS := hide hbs
            have HSH := hide hsh
            have r1 : wr.cell? ⟨g1, o1 + k, none⟩ = some (.slice ba L[k].length bcp) := (TW.out.b.cell (p := ⟨g1, o1 + k, none⟩) hg1).trans q1
            generalize L[k] = b at HFT HCT hle HBS HSH r1
            generalize hPK : (L.take k).flatten = PK0 at TW HFT hfk hck hle
            generalize hCK : (L.take k).flatMap chunkL = CK0 at TW HCT hck
            clear q1 hbs hsh hPK hCK
            go_wp2_with (at_builtin; apply Hid.out)
            unfold Hid
            refine wpList_append_bs_k rfl _ _ rfl wr w.heap.size w.heap.size (.slice pa2 pn pc2) (.slice ba b.length bcp) PK0 b rfl rfl TW.out.p (HBS.out.below (Nat.le_refl _) TW.out.b) HSH.out (by omega) TW.out.b.size ?_
            intro v' W1 O' B' K'
            obtain ⟨na, nn, nc, rfl⟩ : ∃ a n c, v' = .slice a n c := by
              obtain ⟨a, c, h, _⟩ := O'.shape
              exact ⟨a, _, c, h⟩
            have TW1 := hide (TW.out.growP K' O' B')
            clear O' B' K' r1 TW
            have HCH := hide (chunk_any (.slice ba b.length bcp) b W1 (HBS.out.below TW1.out.b.size TW1.out.b) HSH.out (by omega) (HDB.out.below TW1.out.b))
            go_wp2_with (first | (go_at_call 18; refine HCH.out.mono ?_; rintro e W2 ⟨u2, rfl, hu2, b2⟩; obtain ⟨xa, xn, xc, rfl⟩ : ∃ a n c, u2 = .slice a n c := (by obtain ⟨a, c, h, _⟩ := hu2.shape; exact ⟨a, _, c, h⟩)) | (at_builtin; apply Hid.out))
            unfold Hid
            have TW2 := hide (TW1.out.below b2)
            have hcl := chunk_len (p := b) (by omega)
            refine wpList_append_bs_k rfl _ _ rfl W2 w.heap.size W2.heap.size (.slice ca cn cc) (.slice xa xn xc) CK0 (chunkL b) rfl rfl TW2.out.c (Bs.of_row hu2) hu2.shp (by omega) TW2.out.b.size ?_
            intro v3 W3 O3 B3 K3
            obtain ⟨da, dn, dc, rfl⟩ : ∃ a n c, v3 = .slice a n c := by
              obtain ⟨a, c, h, _⟩ := O3.shape
              exact ⟨a, _, c, h⟩
            have TW3 := hide (TW2.out.growC K3 O3 B3)
            clear O3 B3 K3 TW2 TW1 hu2 b2 HCH
            go_wp2_with fail
            exact ⟨⟨k + 1, na, nn, nc, da, dn, dc, by omega, rfl, rfl, by go_num, hide (by rw [HFT.out, HCT.out]; exact TW3.out)⟩, by simp [intOf]; omega⟩
          · have tw := TW.out
            rw [List.take_of_length_le (by omega)] at tw hck hfk
            have TW1 := hide tw
            obtain rfl : k = L.length := by omega
            obtain ⟨d', hd1, hd2, hd3⟩ := fed (L := L) (A := A) R HCK.out HZA.out (by omega)
            clear tw TW hlt hk
            have hPn : pn = L.flatten.length := by
              obtain ⟨a, c, h, _⟩ := TW1.out.p.shape
              simp only [Value.slice.injEq, bc_len] at h
              exact h.2.1
            subst hPn
            have hFT := fit_dbytes (L.flatMap chunkL ++ (lastL A ++ R)) _ (fit_dnew L.flatten.length (by omega))
            have hTS := TrS.bytes (L.flatMap chunkL ++ (lastL A ++ R)) _ (fit_dnew L.flatten.length (by omega)) (TrS.new _)
            rw [hd1] at hFT hTS
            have HDB2 := hide hd1
            have HDT := hide hFT.tr
            have HTS := hide hTS
            have HDW := hide hd2
            have HDA := hide hd3
            clear hd1 hd2 hd3 hFT hTS
            obtain ⟨PL, hPL⟩ : ∃ X, L.flatten = X := ⟨_, rfl⟩
            obtain ⟨CL, hCL⟩ : ∃ X, L.flatMap chunkL = X := ⟨_, rfl⟩
            obtain ⟨EL, hEL⟩ : ∃ X, lastL A = X := ⟨_, rfl⟩
            rw [hPL] at TW1 HDB2 hfl hfk hck ⊢
            rw [hCL] at TW1 HDB2 hck
            rw [hEL] at TW1 HDB2 hLE
            clear hPL hCL hEL
            have hcb : CL.length ≤ 19922944 := by omega
            go_wp2_with (at_builtin; apply Hid.out)
            unfold Hid
            refine wpList_append_bs_k rfl _ _ rfl wr w.heap.size wr.heap.size (.slice ca cn cc) (.slice ea en ec) CL EL rfl rfl TW1.out.c (Bs.of_row TW1.out.e) TW1.out.e.shp (by omega) TW1.out.b.size ?_
            intro v3 W3 O3 B3 K3
            obtain ⟨da, dn, dc, rfl⟩ : ∃ a n c, v3 = .slice a n c := by
              obtain ⟨a, c, h, _⟩ := O3.shape
              exact ⟨a, _, c, h⟩
            have hdn : dn = (CL ++ EL).length := by
              obtain ⟨a, c, h, _⟩ := O3.shape
              simp only [Value.slice.injEq, bc_len] at h
              exact h.2.1
            have TW2 := hide (TW1.out.growC K3 O3 B3)
            clear O3 B3 K3 TW1
            have hCE : (CL ++ EL).length = CL.length + EL.length := List.length_append
            obtain ⟨sz, hsz⟩ : ∃ n, (CL ++ EL).length = n := ⟨_, rfl⟩
            rw [hsz] at hdn
            subst hdn
            have HSZ : Hid (CL.length + EL.length = dn) := hide (by omega)
            have hszb : dn ≤ 300000000 := by omega
            clear hsz hCE
            go_wp2_with (at_builtin; apply Hid.out)
            unfold Hid
            refine wpList_append_bs_k rfl _ _ rfl W3 w.heap.size W3.heap.size (.slice da dn dc) (.slice ua R.length uc) (CL ++ EL) R rfl rfl TW2.out.c (HU.out.below TW2.out.b.size TW2.out.b) HSU.out (by rw [List.length_append]; omega) TW2.out.b.size ?_
            intro v4 W4 O4 B4 K4
            obtain ⟨fa, fn, fc, rfl⟩ : ∃ a n c, v4 = .slice a n c := by
              obtain ⟨a, c, h, _⟩ := O4.shape
              exact ⟨a, _, c, h⟩
            have tw4 := TW2.out.growC K4 O4 B4
            rw [List.append_assoc] at tw4
            have TW4 := hide tw4
            clear O4 B4 K4 TW2 tw4
            have HAL : Hid ((CL ++ (EL ++ R)).length ≤ 70368744177664) := hide (by rw [List.length_append, List.length_append]; omega)
            generalize CL ++ (EL ++ R) = AL at TW4 HDB2 HAL
            go_wp2_with fail
            refine (new_any PL.length W4 (by omega)).mono ?_
            rintro e W5 ⟨rfl, D5, b5⟩
            have HD5 := hide D5
            have TW5 := hide (TW4.out.below b5)
            have HBF := hide ((Bf.of_row TW4.out.c).below b5)
            have hs5 : W4.heap.size ≤ W5.heap.size := b5.size
            have HFE := hide (feed_on (A := fun k => k < W4.heap.size) D5 (fit_dnew PL.length (by omega)) rfl rfl (HM.out.below TW5.out.b) (by have := TW4.out.b.size; omega) _ AL HBF.out TW4.out.c.shp (by omega) (fun k e => by simp [Value.ownBlock] at e) (fun k e => by simp [Value.ownBlock] at e) (fun k e => by omega) HAL.out)
            rw [HDB2.out] at HFE
            dsimp only at HFE
            rw [HSZ.out, HDW.out] at HFE
            have hw4 := TW4.out.b.size
            have P5 : Hid (∀ (W' : World), (∀ k, k < W4.heap.size → W'.heap[k]? = W5.heap[k]?) → Row W' w.heap.size 5 (.slice pa2 PL.length pc2) (bc PL)) := hide (fun W' hW => TW4.out.p.frame fun k e => (hW k (TW4.out.p.lt e).2).trans (b5.block k (TW4.out.p.lt e).2))
            clear D5 b5 HBF HDB2 TW4
            go_wp2_with fail
            refine HFE.out.mono ?_
            rintro e W6 ⟨bv, lv', tv', rfl, hr6, hd6, hk6⟩
            obtain ⟨xa, xn, xc, rfl⟩ : ∃ a n c, bv = .slice a n c := by
              obtain ⟨a, c, h, _⟩ := hr6.shape
              exact ⟨a, _, c, h⟩
            have BL6 : Hid (Below W4.heap.size W5 W6) := hide (hk6.low (Nat.le_refl _) hs5)
            have R6 := hide hr6
            have D6 := hide hd6
            clear hr6 hd6 hk6 HFE HD5
            have P6 := hide (P5.out W6 (fun k hk => BL6.out.block k hk))
            have B6 := hide (TW5.out.b.trans (BL6.out.mono hw4))
            have x1 : (convert 29 9 (.slice xa xn xc)).run Tryd.prog W6 = .ok (.string ⟨PL.toArray⟩) W6 := R6.out.text
            have x2 : (convert 29 9 (.slice pa2 PL.length pc2)).run Tryd.prog W6 = .ok (.string ⟨PL.toArray⟩) W6 := P6.out.text
            have htr : (dForget { d' with whole := true, wrong := 0 }).tr = d'.tr := rfl
            have HTR := hide (trailers_whole D6.out rfl (by rw [htr]; exact HDT.out) HTS.out)
            rw [htr] at HTR
            clear htr
            generalize (⟨PL.toArray⟩ : ByteArray) = ps at x1 x2
            go_wp2_with fail
            refine HTR.out.mono ?_
            rintro e W7 ⟨tvv, rfl, hfr, b7⟩
            obtain ⟨ya, yc, hye, _, _⟩ := hfr.shape
            subst hye
            have B7 := hide (B6.out.trans (b7.mono B6.out.size))
            have HPF := hide (plainF_any W7 _ (.slice la A.length lc) d'.tr A (Flds.of_row hfr) (HF.out.below B7.out) (by have := HDT.out; omega) (by omega))
            rw [decide_eq_true HDA.out.symm] at HPF
            clear hfr b7 HTR x1 x2
            go_wp2_with fail
            refine HPF.out.mono ?_
            rintro e W8 ⟨rfl, b8⟩
            have B8 := hide (B7.out.trans (b8.mono B7.out.size))
            clear b8 HPF
            go_wp2_with fail
            refine (speaks_any W8 (HM.out.below B8.out) (HDB.out.below B8.out)).mono ?_
            rintro e W9 ⟨rfl, b9⟩
            have B9 := hide (B8.out.trans (b9.mono B8.out.size))
            clear b9
            go_wp2
            go_ret
            exact ⟨rfl, B9.out⟩
  · have t0 : ((ck : Int) != 0) = true := bne_iff_ne.2 (by omega)
    obtain rfl := hx2 h0
    clear hx1 hx2 h0 hck
    go_wp2_with fail
    refine (speaks_any w1 (HM.out.below B1.out) (HDB.out.below B1.out)).mono ?_
    rintro e w7 ⟨rfl, bb⟩
    have B8 := hide (B1.out.trans (bb.mono B1.out.size))
    clear bb
    go_wp2
    go_ret
    exact ⟨rfl, B8.out⟩
end Go.Proofs.YthciahpadninpaaDoor
