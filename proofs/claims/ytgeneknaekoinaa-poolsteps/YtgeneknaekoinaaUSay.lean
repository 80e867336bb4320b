/- That the small case which each statement asks comes out true; a nil pool; what a step does. -/
import Derived.Test.YtgeneknaekoinaaUAct4
namespace Go.Proofs.Ytgeneknaekoinaa
open Go.ChangeShapes Go.WideShapes Go.ChangeAt Go.RowKit
set_option linter.unusedVariables false

theorem act_cells {w : World} {v : Value} {L : List Ac} (h : Rw 49 3 w v L.length (fl encA L)) {i : Nat} {a : Ac} (hr : L[i]? = some a) : ∃ g off cap, v = .slice (some ⟨g, off, none⟩) L.length cap ∧ L.length ≤ cap ∧ cap ≤ 9223372036854775807 ∧ w.cell? ⟨g, off + i * 3, none⟩ = some (.int .i64 a.k) ∧ w.cell? ⟨g, off + i * 3 + 1, none⟩ = some (.int .i64 a.c) ∧ w.cell? ⟨g, off + i * 3 + 2, none⟩ = some (.int .i64 a.w) := by
  have hi : i < L.length := (List.getElem?_eq_some_iff.1 hr).1
  obtain ⟨g, off, cap, e, h1, h2, h3, h4, h5⟩ := h.at hi
  have k : ∀ j, j < 3 → w.cell? ⟨g, off + i * 3 + j, none⟩ = some (.int .i64 ((encA a).getD j 0)) := fun j hj => by
    rw [h3 j hj, fl_at encA_len L i j a hr hj]
  exact ⟨g, off, cap, e, h1, h2, k 0 (by omega), k 1 (by omega), k 2 (by omega)⟩
abbrev q1 : Pm := ⟨1, 1, 5, 100, 1, 0, [⟨0, 0, 7, 0, 0, 0⟩], []⟩
abbrev q2 : Pm := ⟨1, 1, 5, 100, 1, 0, [⟨0, 1, 7, 0, 0, 0⟩], []⟩
abbrev q3 : Pm := ⟨1, 1, 5, 100, 1, 0, [⟨0, 1, 7, 0, 0, 0⟩], [8]⟩
abbrev q4 : Pm := ⟨1, 1, 5, 100, 1, 1, [⟨0, 1, 8, 0, 0, 0⟩], []⟩
set_option maxHeartbeats 4000000 in
set_option maxRecDepth 100000 in
theorem speaks_any (w : World) : Calls Try.prog 10 #[] w fun e w' => e = .returned (.bool true) ∧ Fr none' w w' := by
  have A : okN 1 1 5 100 := ⟨⟨by omega, by omega⟩, ⟨by omega, by omega⟩, ⟨by omega, by omega⟩, by omega, by omega⟩
  have HN := hide (new_any w 1 1 5 100 A)
  have K0 := hide (POk.new A)
  have K1 := hide (K0.out.ask 0 7)
  have K2 : Hid (POk q2 1) := hide ⟨by decide, by decide, by decide, by decide, by decide, by decide, by decide, by decide, by decide, by decide, by decide, by decide, by decide, by decide, fun r hr => by simp at hr; subst hr; decide⟩
  have K3 : Hid (POk q3 2) := hide ⟨by decide, by decide, by decide, by decide, by decide, by decide, by decide, by decide, by decide, by decide, by decide, by decide, by decide, by decide, fun r hr => by simp at hr; subst hr; decide⟩
  rw [show askP (p0 1 1 5 100) 0 7 = q1 from rfl] at K1
  clear A
  go_enter Try.func10, Try.ntmps10
  go_wp2_with fail
  refine HN.out.mono ?_
  rintro e w1 ⟨rfl, d⟩
  have T1 := hide ((Top.nil w).put d)
  generalize w.heap.size = b at *
  obtain ⟨P, h1, h2⟩ := T1.out.at0
  have H2 := hide h2
  have H1 := hide (ask_any _ b w1 P 0 7 0 h1 K0.out (by omega))
  rw [show askP (p0 1 1 5 100) 0 7 = q1 from rfl, show askA (p0 1 1 5 100) 0 7 = ⟨1, 0, 7⟩ from rfl, show askE (p0 1 1 5 100) 0 7 = 0 from rfl] at H1
  unfold acV at H1
  clear d h1 h2 HN K0 T1
  go_wp2_with fail
  refine H1.out.mono ?_
  rintro e w2 ⟨rfl, d⟩
  have T2 := hide (H2.out _ _ d)
  clear d H1 H2
  have T3 := hide (T2.out.put (Blk.new w2 (acO ⟨1, 0, 7⟩)))
  rw [show acO ⟨1, 0, 7⟩ = .cells #[.int .i64 1, .int .i64 0, .int .i64 7] 49 (0, 0) from rfl] at T3
  go_upto_region 5 with fail
  clear T2
  generalize w2.alloc _ = w3 at *
  generalize w2.heap.size = ba at *
  obtain ⟨P, h1, h2⟩ := T3.out.at1
  have H2 := hide h2
  have H1 := hide (up_any _ b w3 P 0 1 h1 K1.out)
  rw [show upP q1 0 = q2 from rfl, show upW q1 0 = 7 from rfl, show upE q1 0 = 0 from rfl] at H1
  clear h1 h2 T3 K1
  go_wp2_with fail
  refine H1.out.mono ?_
  rintro e w4 ⟨rfl, d⟩
  have T4 := hide (H2.out _ _ d)
  clear d H1 H2
  obtain ⟨P, h1, h2⟩ := T4.out.at1
  have H2 := hide h2
  have H1 := hide (ask_any _ b w4 P 0 8 1 h1 K2.out (by omega))
  rw [show askP q2 0 8 = q3 from rfl, show askA q2 0 8 = ⟨3, -1, 8⟩ from rfl, show askE q2 0 8 = 0 from rfl] at H1
  unfold acV at H1
  clear h1 h2 T4 K2
  go_wp2_with fail
  refine H1.out.mono ?_
  rintro e w5 ⟨rfl, d⟩
  have T5 := hide (H2.out _ _ d)
  clear d H1 H2
  have T6 := hide (T5.out.put (Blk.new w5 (acO ⟨3, -1, 8⟩)))
  rw [show acO ⟨3, -1, 8⟩ = .cells #[.int .i64 3, .int .i64 (-1), .int .i64 8] 49 (0, 0) from rfl] at T6
  go_upto_region 7 with fail
  clear T5
  generalize w5.alloc _ = w6 at *
  generalize w5.heap.size = bb at *
  obtain ⟨P, h1, h2⟩ := T6.out.at2
  have H2 := hide h2
  have H1 := hide (ask_any _ b w6 P 0 9 2 h1 K3.out (by omega))
  rw [show askP q3 0 9 = q3 from rfl, show askA q3 0 9 = ⟨4, -1, 9⟩ from rfl, show askE q3 0 9 = 0 from rfl] at H1
  unfold acV at H1
  clear h1 h2 T6
  go_wp2_with fail
  refine H1.out.mono ?_
  rintro e w7 ⟨rfl, d⟩
  have T7 := hide (H2.out _ _ d)
  clear d H1 H2
  have T8 := hide (T7.out.put (Blk.new w7 (acO ⟨4, -1, 9⟩)))
  rw [show acO ⟨4, -1, 9⟩ = .cells #[.int .i64 4, .int .i64 (-1), .int .i64 9] 49 (0, 0) from rfl] at T8
  go_upto_region 8 with fail
  clear T7
  generalize w7.alloc _ = w8 at *
  generalize w7.heap.size = bc at *
  obtain ⟨P, h1, h2⟩ := T8.out.at3
  have H2 := hide h2
  have H1 := hide (done_any _ b w8 P 1 0 2 true h1 K3.out (by omega))
  rw [show dnP q3 1 0 true = q4 from rfl, show dnA q3 1 0 true = [⟨2, 0, 8⟩] from rfl, show dnE q3 1 0 = 0 from rfl] at H1
  clear h1 h2 T8 K3
  go_wp2_with fail
  refine H1.out.mono ?_
  rintro e w9 ⟨v, rfl, d⟩
  have T9 := hide (H2.out _ _ d)
  clear d H1 H2
  obtain ⟨P, ⟨P1, P2, ha, ⟨vr, vw, hp⟩, -, -⟩, -⟩ := T9.out.at3
  obtain ⟨ga, oa, ca, rfl, g1, g2, l0, l1, l2⟩ := act_cells (i := 0) (a := ⟨2, 0, 8⟩) ha.1 rfl
  have HZ := hide (size_any q4 b vr vw w9 hp.v (by decide))
  rw [show (nR q4.R : Int) = 0 from rfl] at HZ
  clear ha hp
  simp only [List.length_cons, List.length_nil, Nat.zero_mul, Nat.add_zero, Nat.zero_add] at l0 l1 l2 g1 T9 HZ ⊢
  go_wp2_with fail
  refine HZ.out.mono ?_
  rintro e w10 ⟨rfl, F⟩
  have T10 := hide (T9.out.same F)
  have m0 := F.cl.cell l0
  have m1 := F.cl.cell l1
  have m2 := F.cl.cell l2
  clear F HZ T9 l0 l1 l2
  obtain ⟨_, xc, -⟩ := T10.out.at0
  obtain ⟨c0, c1, c2, -⟩ := ac_cells (a := ⟨4, -1, 9⟩) xc.1
  obtain ⟨_, xb, -⟩ := T10.out.at1
  obtain ⟨b0, b1, b2, -⟩ := ac_cells (a := ⟨3, -1, 8⟩) xb.1
  obtain ⟨_, xa, -⟩ := T10.out.at2
  obtain ⟨a0, a1, a2, -⟩ := ac_cells (a := ⟨1, 0, 7⟩) xa.1
  dsimp only at c0 c1 c2 b0 b1 b2 a0 a1 a2
  clear xa xb xc
  go_wp2_with fail
  go_ret
  exact ⟨rfl, T10.out.fr⟩
end Go.Proofs.Ytgeneknaekoinaa
