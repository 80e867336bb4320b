/- Whether a match takes a request, by the document. -/
import Derived.Test.YthbhkgdijoiceaaDoorRTakes
namespace Go.Proofs.YthbhkgdijoiceaaDoor
open Go.ChangeShapes Go.WideShapes Go.ChangeAt Go.RowKit

theorem bytes_eq2 (x n : ByteArray) : (x.toList == n.toList) = decide (n = x) := by
  rw [bytes_eq]
  exact decide_eq_decide.2 eq_comm
set_option maxHeartbeats 4000000 in
theorem rtakes_any (w : World) (ho pf : ByteArray) (ml : Value) (M : List ByteArray) (hd va : ByteArray) (r : Bool) (me ta : ByteArray) (mi st : Int) (re : ByteArray) (l : Value) (A : List (ByteArray × ByteArray)) (host path : ByteArray)
    (hM : SRow w ml M) (hMl : M.length ≤ 1048576) (hA : Flds w l A) (hs : Sm A) (hho : ho.size ≤ 1048576) (hpf : pf.size ≤ 1048576) (hhd : hd.size ≤ 1048576) (hhost : host.size ≤ 1048576) (hpath : path.size ≤ 1048576) :
    Calls Tryd.prog 9 #[.agg (mtC ho pf ml hd va), .agg (hdC r me ta mi st re l), .string host, .string path] w fun e w' => e = .returned (.bool (takB ho pf M hd va me A host path)) ∧ Below w.heap.size w w' := by
  have H1 := hide (fun W => kind_any ho host W (by omega) (by omega))
  have H2 := hide (fun W => rcov_any pf path W (by omega) (by omega))
  have H4 := hide (fun W h => rget_any W l A hd h hs hhd)
  have M0 := hide hM
  have F0 := hide hA
  obtain ⟨a1, c1, rfl, _⟩ := hM
  obtain ⟨a0, c0, rfl, _, _⟩ := hA
  unfold takB hdC mtC
  obtain ⟨f4, hf4⟩ : ∃ f, fldB A hd va = f := ⟨_, rfl⟩
  have HF := hide hf4
  rw [hf4]
  unfold fldB at HF
  generalize hostK ho host = hk at H1 ⊢
  obtain ⟨bk, hbk⟩ : ∃ b, decide (hk ≠ 0) = b := ⟨_, rfl⟩
  rw [hbk]
  have HK := hide hbk
  clear hbk
  generalize covB pf path = b2 at H2 ⊢
  generalize getS (allS A hd) = gv at H4 HF
  generalize decide (0 < (allS A hd).length) = b at H4 HF
  clear hs hho hpf hhd hhost hpath hf4
  go_enter Tryd.func9, Tryd.ntmps9
  go_wp2_with fail
  have T0 := hide (Bl.two w #[.string ho, .string pf, .slice a1 M.length c1, .string hd, .string va] 34 #[.bool r, .string me, .string ta, .int .i64 mi, .int .i64 st, .string re, .slice a0 A.length c0] 24)
  generalize ((w.alloc (.cells #[.string ho, .string pf, .slice a1 M.length c1, .string hd, .string va] 34)).alloc (.cells #[.bool r, .string me, .string ta, .int .i64 mi, .int .i64 st, .string re, .slice a0 A.length c0] 24)) = x at T0 ⊢
  refine (H1.out _).mono ?_
  rintro e w1 ⟨rfl, bb⟩
  have T1 := hide (T0.out.below bb)
  clear bb T0 H1
  by_cases h0 : hk = 0
  · have E0 : Hid (bk = false) := hide (HK.out.symm.trans (decide_eq_false (fun h => h h0)))
    subst h0
    go_wp2
    go_ret
    exact ⟨ret_bool (by rw [E0.out]; rfl), T1.out.b⟩
  · have t0 : ((hk : Int) == 0) = false := beq_eq_false_iff_ne.2 (by omega)
    have E0 : Hid (bk = true) := hide (HK.out.symm.trans (decide_eq_true h0))
    clear h0 HK
    have m1 : w1.cell? ⟨w.heap.size, 1, none⟩ = some (.string pf) := T1.out.cell 0 rfl 1
    go_wp2_with fail
    refine (H2.out _).mono ?_
    rintro e w2 ⟨rfl, bb⟩
    have T2 := hide (T1.out.below bb)
    clear bb m1 T1 H2
    cases b2
    · go_wp2
      go_ret
      exact ⟨ret_bool (by rw [E0.out]; rfl), T2.out.b⟩
    · have m2 : w2.cell? ⟨w.heap.size, 2, none⟩ = some (.slice a1 M.length c1) := T2.out.cell 0 rfl 2
      have m3 : w2.cell? ⟨w.heap.size, 3, none⟩ = some (.string hd) := T2.out.cell 0 rfl 3
      have n1 : w2.cell? ⟨w.heap.size + 1, 1, none⟩ = some (.string me) := T2.out.cell 1 rfl 1
      have n6 : w2.cell? ⟨w.heap.size + 1, 6, none⟩ = some (.slice a0 A.length c0) := T2.out.cell 1 rfl 6
      have MR := hide (M0.out.below T2.out.b)
      go_wp2
      go_loop [33, 9] (fun i b => ∃ (k : Nat) (z : Bool), k ≤ M.length ∧ i = .int .i64 k ∧ b = .bool z ∧ Hid (z = (decide (M.length = 0) || memB (M.take k) me))) (fun i _ => M.length - (intOf i).toNat)
      case atStart => exact ⟨0, _, Nat.zero_le _, rfl, rfl, hide (by
        rw [show memB (M.take 0) me = false from rfl, Bool.or_false, Bool.eq_iff_iff, decide_eq_true_eq, beq_iff_eq]; omega)⟩
      case round =>
        obtain ⟨k, z, hk2, rfl, rfl, H⟩ := hrel
        by_cases hlt : k < M.length
        · obtain ⟨a2, c2, he2, hcv⟩ := MR.out
          simp only [Value.slice.injEq, true_and] at he2
          obtain ⟨rfl, rfl⟩ := he2
          obtain ⟨g, o, rfl, hg, r1⟩ := hcv k hlt
          have hbe := bytes_eq2 M[k] me
          have HM := hide (memB_snoc (A := M) (n := me) hlt)
          generalize M[k] = y at r1 hbe HM
          clear hcv hg
          cases z
          · generalize decide (me = y) = q at hbe HM
            have HN : Hid (q = (decide (M.length = 0) || memB (M.take (k + 1)) me)) := hide (by
              rw [HM.out, ← Bool.or_assoc, ← H.out]; rfl)
            clear HM H
            go_wp2
            exact ⟨⟨k + 1, q, by omega, by go_num, rfl, HN⟩, by simp [intOf]; omega⟩
          · have HN : Hid (true = (decide (M.length = 0) || memB (M.take (k + 1)) me)) := hide (by
              rw [HM.out, ← Bool.or_assoc, ← H.out]; rfl)
            clear HM H hbe
            go_wp2
            exact ⟨⟨k + 1, true, by omega, by go_num, rfl, HN⟩, by simp [intOf]; omega⟩
        · have HZ : Hid (methB M me = z) := hide (by rw [H.out, memB_all (Nat.le_of_not_lt hlt)]; rfl)
          clear H
          by_cases h0 : hd.size = 0
          · have he : hd.toList.isEmpty = true := by rw [Lib.toList_data, isEmpty_size]; exact decide_eq_true h0
            have HX : Hid (f4 = true) := hide (by rw [← HF.out, decide_eq_true h0]; rfl)
            clear h0 HF
            go_wp2
            go_ret
            exact ⟨ret_bool (by rw [E0.out, HX.out, HZ.out]; cases z <;> rfl), T2.out.b⟩
          · have he : hd.toList.isEmpty = false := by rw [Lib.toList_data, isEmpty_size]; exact decide_eq_false h0
            have HX : Hid (f4 = (b && decide (gv = va))) := hide (by rw [← HF.out, decide_eq_false h0]; rfl)
            clear h0 HF
            go_wp2_with fail
            refine (H4.out _ (F0.out.below T2.out.b)).mono ?_
            rintro e w3 ⟨rfl, bb⟩
            have T3 := hide (T2.out.below bb)
            clear bb m2 m3 n1 n6 MR
            have m4 : w3.cell? ⟨w.heap.size, 4, none⟩ = some (.string va) := T3.out.cell 0 rfl 4
            have hbe := bytes_eq gv va
            cases z
            · go_wp2
              go_ret
              exact ⟨ret_bool (by rw [E0.out, HZ.out]; rfl), T3.out.b⟩
            · cases b
              · go_wp2
                go_ret
                exact ⟨ret_bool (by rw [E0.out, HZ.out, HX.out]; rfl), T3.out.b⟩
              · go_wp2
                go_ret
                exact ⟨ret_bool (by rw [E0.out, HZ.out, HX.out]; simp), T3.out.b⟩
end Go.Proofs.YthbhkgdijoiceaaDoor
