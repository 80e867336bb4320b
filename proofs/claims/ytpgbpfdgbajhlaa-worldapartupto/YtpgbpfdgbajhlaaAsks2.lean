/- One step of a script that reads, writes or draws. -/
import Derived.Test.YtpgbpfdgbajhlaaAsks
namespace Go.Proofs.Ytpgbpfdgbajhlaa
open Go.ChangeShapes Go.WideShapes Go.ChangeAt Go.RowKit

section
variable {W0 : Bk} {W W1 : World} {c d : Nat} {S S' S2 S2' : List Cn} {dr dr' dr2 dr2' : List Int} {ow ow' ox ox' : Nat → Option Tag}

set_option maxRecDepth 100000 in
set_option maxHeartbeats 4000000 in
theorem asks4 (T : Two W0 W c d S dr S2 dr2 ow ox) (hS2 : SOk S2 dr2) (k n : Int) (a : Option Addr) (cap : Nat) (X : List Int) (hk : (Lit.int .i64 k).wf = true) :
    Calls Try.prog 9 #[.pointer (some ⟨c, 0, none⟩), .pointer (some ⟨d, 0, none⟩), .agg #[.int .i64 4, .int .i64 k, .int .i64 n, .slice a X.length cap]] W (AskPost W0 c d (sRead S k n).2 dr (sRead S2 k n).2 dr2 (S2 = S ∧ dr2 = dr)) := by
  have T0 := T.fr (Fr.alloc (fun _ => False) W (.cells #[.int .i64 4, .int .i64 k, .int .i64 n, .slice a X.length cap] 32))
  have hh : (W.alloc (.cells #[.int .i64 4, .int .i64 k, .int .i64 n, .slice a X.length cap] 32)).heap[W.heap.size]? = some (.cells #[.int .i64 4, .int .i64 k, .int .i64 n, .slice a X.length cap] 32 (0, 0)) := (MapKept.heap_alloc W _).1
  have hsn := T.wd.fresh (Nat.le_refl W.heap.size)
  have HW := hide (any_read T0.wd hk n)
  have HT := hide T0
  have HS2 := hide hS2
  clear T T0 hS2
  unfold ptr at HW
  go_enter Try.func9, Try.ntmps9
  go_wp2_with fail
  refine HW.out.mono ?_
  rintro e V ⟨v1, go1, ow1, rfl, R1, G1, D1, K1⟩
  have T1 := HT.out.w D1 K1
  have hbV : V.heap[W.heap.size]? = some (.cells #[.int .i64 4, .int .i64 k, .int .i64 n, .slice a X.length cap] 32 (0, 0)) := K1.fr.hd (fun e => e hsn) hh
  have s1 : V.cell? ⟨W.heap.size, 1, none⟩ = some (.int .i64 k) := by rw [cell_of hbV]; rfl
  have s2 : V.cell? ⟨W.heap.size, 2, none⟩ = some (.int .i64 n) := by rw [cell_of hbV]; rfl
  have s3 : V.cell? ⟨W.heap.size, 3, none⟩ = some (.slice a X.length cap) := by rw [cell_of hbV]; rfl
  have HX := hide (rany_read (k := k) T1.xd HS2.out n)
  have N1 : Hid (∀ g, go1 = some g → ox g = none) := hide (fun g e => by
    cases ho : ox g with
    | none => rfl
    | some t => have h1 := HT.out.xd.low g t ho; have h2 := (G1 g e).1; omega)
  have HR1 := hide R1
  have HT1 := hide T1
  obtain ⟨q1, hq1⟩ : ∃ q, q = (sRead S k n).1.2 := ⟨_, rfl⟩
  obtain ⟨l1, hl1⟩ : ∃ q, q = (sRead S k n).1.1 := ⟨_, rfl⟩
  rw [← hq1]
  rw [← hl1] at HR1
  replace hq1 := hide hq1
  replace hl1 := hide hl1
  clear R1 G1 D1 K1 T1 hbV HW HT hh hsn
  unfold ptr at HX
  go_wp2_with fail
  refine HX.out.mono ?_
  rintro e V2 ⟨v2, go2, ox2, rfl, R2, G2, D2, K2⟩
  have T2 := hide (HT1.out.x D2 K2)
  have t1 := (HR1.out.frame K2.fr.size (fun g e => K2.fr.block g (by rw [e] at HR1; exact HR1.out.lt) (fun e2 => e2 (N1.out g e)))).sl.text
  have t2 := R2.sl.text
  obtain ⟨q2, hq2⟩ : ∃ q, q = (sRead S2 k n).1.2 := ⟨_, rfl⟩
  obtain ⟨l2, hl2⟩ : ∃ q, q = (sRead S2 k n).1.1 := ⟨_, rfl⟩
  rw [← hq2]
  rw [← hl2] at t2
  clear R2 G2 D2 K2 HX HT1 HR1 N1
  by_cases hP : S2 = S ∧ dr2 = dr
  · have e1 : l2 = l1 := by rw [hl2, hl1.out, hP.1]
    have e2 : q2 = q1 := by rw [hq2, hq1.out, hP.1]
    subst e1 e2
    clear hq1 hq2 hl1 hl2 hP
    go_wp2_with fail
    go_ret
    exact askPost (fun _ => rfl) T2.out
  · clear hq1 hq2 hl1 hl2
    have HN := hide hP
    clear hP
    go_wp2_with fail
    all_goals go_ret
    all_goals exact askPost (fun h => absurd h HN.out) T2.out

set_option maxRecDepth 100000 in
set_option maxHeartbeats 4000000 in
theorem asks6 (T : Two W0 W c d S dr S2 dr2 ow ox) (hS2 : SOk S2 dr2) (k n : Int) (a : Option Addr) (cap : Nat) (X : List Int) (hk : (Lit.int .i64 k).wf = true) (hX : Sl W0.w .u8 (.slice a X.length cap) X) (hl : X.length ≤ 1048576) (hls : ∀ x ∈ S, x.sent.length ≤ 1048576) (hls2 : ∀ x ∈ S2, x.sent.length ≤ 1048576) :
    Calls Try.prog 9 #[.pointer (some ⟨c, 0, none⟩), .pointer (some ⟨d, 0, none⟩), .agg #[.int .i64 6, .int .i64 k, .int .i64 n, .slice a X.length cap]] W (AskPost W0 c d (sWrite S k X).2 dr (sWrite S2 k X).2 dr2 (S2 = S ∧ dr2 = dr)) := by
  have T0 := T.fr (Fr.alloc (fun _ => False) W (.cells #[.int .i64 6, .int .i64 k, .int .i64 n, .slice a X.length cap] 32))
  have hh : (W.alloc (.cells #[.int .i64 6, .int .i64 k, .int .i64 n, .slice a X.length cap] 32)).heap[W.heap.size]? = some (.cells #[.int .i64 6, .int .i64 k, .int .i64 n, .slice a X.length cap] 32 (0, 0)) := (MapKept.heap_alloc W _).1
  have hsn := T.wd.fresh (Nat.le_refl W.heap.size)
  have HW := hide (any_write T0.wd hk (T0.sl hX) (fun x hx => by have := hls x hx; omega))
  have HT := hide T0
  have HS2 := hide hS2
  have HX0 := hide hX
  have HL2 := hide hls2
  clear T T0 hS2 hX hls hls2
  unfold ptr at HW
  go_enter Try.func9, Try.ntmps9
  go_wp2_with fail
  refine HW.out.mono ?_
  rintro e V ⟨rfl, ow1, D1, K1⟩
  have T1 := HT.out.w D1 K1
  have hbV : V.heap[W.heap.size]? = some (.cells #[.int .i64 6, .int .i64 k, .int .i64 n, .slice a X.length cap] 32 (0, 0)) := K1.fr.hd (fun e => e hsn) hh
  have s1 : V.cell? ⟨W.heap.size, 1, none⟩ = some (.int .i64 k) := by rw [cell_of hbV]; rfl
  have s2 : V.cell? ⟨W.heap.size, 2, none⟩ = some (.int .i64 n) := by rw [cell_of hbV]; rfl
  have s3 : V.cell? ⟨W.heap.size, 3, none⟩ = some (.slice a X.length cap) := by rw [cell_of hbV]; rfl
  have HX := hide (rany_write (k := k) T1.xd HS2.out (T1.sl HX0.out) (fun h0 b off n' c' e => T1.noX b (by
    obtain ⟨b', off', e1, hc⟩ := Sl.cells' HX0.out 0 h0
    rw [e1] at e
    cases e
    exact World.block_lt_of_cell? _ _ hc)) hl HL2.out)
  have HT1 := hide T1
  obtain ⟨q1, hq1⟩ : ∃ q, q = (sWrite S k X).1.2 := ⟨_, rfl⟩
  obtain ⟨l1, hl1⟩ : ∃ q, q = (sWrite S k X).1.1 := ⟨_, rfl⟩
  rw [← hq1, ← hl1]
  replace hq1 := hide hq1
  replace hl1 := hide hl1
  clear D1 K1 T1 hbV HW HT hh hsn HX0
  unfold ptr at HX
  go_wp2_with fail
  refine HX.out.mono ?_
  rintro e V2 ⟨rfl, ox2, D2, K2⟩
  have T2 := hide (HT1.out.x D2 K2)
  obtain ⟨q2, hq2⟩ : ∃ q, q = (sWrite S2 k X).1.2 := ⟨_, rfl⟩
  obtain ⟨l2, hl2⟩ : ∃ q, q = (sWrite S2 k X).1.1 := ⟨_, rfl⟩
  rw [← hq2, ← hl2]
  clear D2 K2 HX HT1
  by_cases hP : S2 = S ∧ dr2 = dr
  · have e1 : l2 = l1 := by rw [hl2, hl1.out, hP.1]
    have e2 : q2 = q1 := by rw [hq2, hq1.out, hP.1]
    subst e1 e2
    clear hq1 hq2 hl1 hl2 hP
    go_wp2_with fail
    go_ret
    exact askPost (fun _ => by simp) T2.out
  · clear hq1 hq2 hl1 hl2
    have HN := hide hP
    clear hP
    go_wp2_with fail
    all_goals go_ret
    all_goals exact askPost (fun h => absurd h HN.out) T2.out

set_option maxRecDepth 100000 in
set_option maxHeartbeats 4000000 in
theorem asks8 (T : Two W0 W c d S dr S2 dr2 ow ox) (hS2 : SOk S2 dr2) (kd k n : Int) (a : Option Addr) (cap : Nat) (X : List Int) (h0 : kd ≠ 0) (h1 : kd ≠ 1) (h2 : kd ≠ 2) (h3 : kd ≠ 3) (h4 : kd ≠ 4) (h5 : kd ≠ 5) (h6 : kd ≠ 6) (h7 : kd ≠ 7) :
    Calls Try.prog 9 #[.pointer (some ⟨c, 0, none⟩), .pointer (some ⟨d, 0, none⟩), .agg #[.int .i64 kd, .int .i64 k, .int .i64 n, .slice a X.length cap]] W (AskPost W0 c d S (sDraw dr n).2 S2 (sDraw dr2 n).2 (S2 = S ∧ dr2 = dr)) := by
  have b0 : (kd == 0) = false := beq_eq_false_iff_ne.2 h0
  have b1 : (kd == 1) = false := beq_eq_false_iff_ne.2 h1
  have b2 : (kd == 2) = false := beq_eq_false_iff_ne.2 h2
  have b3 : (kd == 3) = false := beq_eq_false_iff_ne.2 h3
  have b4 : (kd == 4) = false := beq_eq_false_iff_ne.2 h4
  have b5 : (kd == 5) = false := beq_eq_false_iff_ne.2 h5
  have b6 : (kd == 6) = false := beq_eq_false_iff_ne.2 h6
  have b7 : (kd == 7) = false := beq_eq_false_iff_ne.2 h7
  have T0 := T.fr (Fr.alloc (fun _ => False) W (.cells #[.int .i64 kd, .int .i64 k, .int .i64 n, .slice a X.length cap] 32))
  have hh : (W.alloc (.cells #[.int .i64 kd, .int .i64 k, .int .i64 n, .slice a X.length cap] 32)).heap[W.heap.size]? = some (.cells #[.int .i64 kd, .int .i64 k, .int .i64 n, .slice a X.length cap] 32 (0, 0)) := (MapKept.heap_alloc W _).1
  have hsn := T.wd.fresh (Nat.le_refl W.heap.size)
  have HW := hide (any_draw T0.wd n)
  have HT := hide T0
  have HS2 := hide hS2
  clear T T0 hS2 h0 h1 h2 h3 h4 h5 h6 h7
  unfold ptr at HW
  go_enter Try.func9, Try.ntmps9
  go_wp2_with fail
  refine HW.out.mono ?_
  rintro e V ⟨rfl, ow1, D1, K1⟩
  have T1 := HT.out.w D1 K1
  have hbV : V.heap[W.heap.size]? = some (.cells #[.int .i64 kd, .int .i64 k, .int .i64 n, .slice a X.length cap] 32 (0, 0)) := K1.fr.hd (fun e => e hsn) hh
  have s1 : V.cell? ⟨W.heap.size, 1, none⟩ = some (.int .i64 k) := by rw [cell_of hbV]; rfl
  have s2 : V.cell? ⟨W.heap.size, 2, none⟩ = some (.int .i64 n) := by rw [cell_of hbV]; rfl
  have s3 : V.cell? ⟨W.heap.size, 3, none⟩ = some (.slice a X.length cap) := by rw [cell_of hbV]; rfl
  have HX := hide (rdraw_any T1.xd HS2.out n)
  have HT1 := hide T1
  obtain ⟨q1, hq1⟩ : ∃ q, q = (sDraw dr n).1.2 := ⟨_, rfl⟩
  obtain ⟨l1, hl1⟩ : ∃ q, q = (sDraw dr n).1.1 := ⟨_, rfl⟩
  rw [← hq1, ← hl1]
  replace hq1 := hide hq1
  replace hl1 := hide hl1
  clear D1 K1 T1 hbV HW HT hh hsn
  unfold ptr at HX
  go_wp2_with fail
  refine HX.out.mono ?_
  rintro e V2 ⟨rfl, ox2, D2, K2⟩
  have T2 := hide (HT1.out.x D2 K2)
  obtain ⟨q2, hq2⟩ : ∃ q, q = (sDraw dr2 n).1.2 := ⟨_, rfl⟩
  obtain ⟨l2, hl2⟩ : ∃ q, q = (sDraw dr2 n).1.1 := ⟨_, rfl⟩
  rw [← hq2, ← hl2]
  clear D2 K2 HX HT1
  by_cases hP : S2 = S ∧ dr2 = dr
  · have e1 : l2 = l1 := by rw [hl2, hl1.out, hP.2]
    have e2 : q2 = q1 := by rw [hq2, hq1.out, hP.2]
    subst e1 e2
    clear hq1 hq2 hl1 hl2 hP
    go_wp2_with fail
    go_ret
    exact askPost (fun _ => by simp) T2.out
  · clear hq1 hq2 hl1 hl2
    have HN := hide hP
    clear hP
    go_wp2_with fail
    all_goals go_ret
    all_goals exact askPost (fun h => absurd h HN.out) T2.out
end
end Go.Proofs.Ytpgbpfdgbajhlaa
