/- Request and Response: the program's, the document's. -/
import Derived.Test.YtalihfohdejalaaDoorGTold
import Derived.Test.YtalihfohdejalaaDoorGRTold
import Derived.Test.YtalihfohdejalaaDoorStp
namespace Go.Proofs.YtalihfohdejalaaDoor
open Go.ChangeShapes Go.WideShapes Go.ChangeAt Go.RowKit

set_option maxHeartbeats 4000000 in
theorem req_any (w : World) (r : Bool) (me ta : ByteArray) (mi st : Int) (re : ByteArray) (l : Value) (A : List (ByteArray × ByteArray)) (hA : Flds w l A) (hs : Sm A) :
    Calls Tryd.prog 7 #[.agg (hdC r me ta mi st re l)] w fun e w' => e = .returned (foV (reqO A r mi)) ∧ Below w.heap.size w w' := by
  cases r
  · obtain ⟨a0, c0, rfl, _, _⟩ := hA
    unfold hdC
    go_enter Tryd.func7, Tryd.ntmps7
    go_wp2
    have T0 := hide (Bl.two w #[.bool false, .string me, .string ta, .int .i64 mi, .int .i64 st, .string re, .slice a0 A.length c0] 24 #[.int .i64 0, .int .i64 0, .bool false] 26)
    generalize ((w.alloc (.cells #[.bool false, .string me, .string ta, .int .i64 mi, .int .i64 st, .string re, .slice a0 A.length c0] 24)).alloc (.cells #[.int .i64 0, .int .i64 0, .bool false] 26)) = x at T0 ⊢
    obtain ⟨k0, k1, k2, _, _, _⟩ := T0.out.st 1 (w.heap.size + 1) rfl rfl
    exact bodyPost_ret (v := .tuple #[.agg #[.int .i64 0, .int .i64 0, .bool false], .int .i64 1]) (by simp [results, Tryd.results7, go_sem, k0, k1, k2]) rfl ⟨rfl, T0.out.b⟩
  · have HK := hide (fun W h => keep_any W true me ta mi st re l A h hs)
    have HT := hide (fun W b h => told_any W true me ta mi st re l A 1 b h hs)
    have F0 := hide hA
    obtain ⟨a0, c0, rfl, _, _⟩ := hA
    unfold hdC at HK HT ⊢
    obtain ⟨o, ho⟩ : ∃ o, toldO A mi 1 (keepB A mi) = o := ⟨_, rfl⟩
    have HO : Hid (reqO A true mi = o) := hide (by rw [← ho]; rfl)
    have HT2 := hide (fun W h => HT.out W (keepB A mi) h)
    rw [ho] at HT2
    clear ho HT
    generalize keepB A mi = b5 at HK HT2
    unfold frV at HT2
    have K1 : Hid (∀ W, Bl w W [(#[.bool true, .string me, .string ta, .int .i64 mi, .int .i64 st, .string re, .slice a0 A.length c0], 24), (#[.int .i64 0, .int .i64 0, .bool false], 26)] → Calls Tryd.prog 9 #[.agg #[.bool true, .string me, .string ta, .int .i64 mi, .int .i64 st, .string re, .slice a0 A.length c0]] W fun e w' => ∃ v, e = .returned v ∧ v = .bool b5 ∧ w'.cell? ⟨w.heap.size, 0, none⟩ = some (.bool true) ∧ w'.cell? ⟨w.heap.size, 1, none⟩ = some (.string me) ∧ w'.cell? ⟨w.heap.size, 2, none⟩ = some (.string ta) ∧ w'.cell? ⟨w.heap.size, 3, none⟩ = some (.int .i64 mi) ∧ w'.cell? ⟨w.heap.size, 4, none⟩ = some (.int .i64 st) ∧ w'.cell? ⟨w.heap.size, 5, none⟩ = some (.string re) ∧ w'.cell? ⟨w.heap.size, 6, none⟩ = some (.slice a0 A.length c0) ∧ Hid (Bl w w' [(#[.bool true, .string me, .string ta, .int .i64 mi, .int .i64 st, .string re, .slice a0 A.length c0], 24), (#[.int .i64 0, .int .i64 0, .bool false], 26)])) := hide (fun W hW => (HK.out W (F0.out.below hW.b)).mono (by
      rintro e w' ⟨rfl, bb⟩
      have T := hW.below bb
      obtain ⟨r0, r1, r2, r3, r4, r5, r6⟩ := T.hd 0 w.heap.size rfl rfl
      exact ⟨_, rfl, rfl, r0, r1, r2, r3, r4, r5, r6, hide T⟩))
    have K2 : Hid (∀ W, Bl w W [(#[.bool true, .string me, .string ta, .int .i64 mi, .int .i64 st, .string re, .slice a0 A.length c0], 24), (#[.int .i64 0, .int .i64 0, .bool false], 26)] → Calls Tryd.prog 16 #[.agg #[.bool true, .string me, .string ta, .int .i64 mi, .int .i64 st, .string re, .slice a0 A.length c0], .agg #[.int .i64 1, .int .i64 0, .bool b5]] W fun e w' => ∃ v, e = .returned v ∧ v = foV o ∧ w'.cell? ⟨w.heap.size + 1, 0, none⟩ = some (.int .i64 0) ∧ w'.cell? ⟨w.heap.size + 1, 1, none⟩ = some (.int .i64 0) ∧ w'.cell? ⟨w.heap.size + 1, 2, none⟩ = some (.bool false) ∧ w'.frozen? ⟨w.heap.size + 1, 0, none⟩ = false ∧ w'.frozen? ⟨w.heap.size + 1, 1, none⟩ = false ∧ w'.frozen? ⟨w.heap.size + 1, 2, none⟩ = false ∧ Hid (Bl w w' [(#[.bool true, .string me, .string ta, .int .i64 mi, .int .i64 st, .string re, .slice a0 A.length c0], 24), (#[.int .i64 0, .int .i64 0, .bool false], 26)])) := hide (fun W hW => (HT2.out W (F0.out.below hW.b)).mono (by
      rintro e w' ⟨rfl, bb⟩
      have T := hW.below bb
      obtain ⟨r0, r1, r2, r3, r4, r5⟩ := T.st 1 (w.heap.size + 1) rfl rfl
      exact ⟨_, rfl, rfl, r0, r1, r2, r3, r4, r5, hide T⟩))
    clear HK HT2 hs
    rw [HO.out]
    clear HO
    unfold foV frV at K2 ⊢
    go_enter Tryd.func7, Tryd.ntmps7
    go_upto_region 3 with fail
    have T0 := hide (Bl.two w #[.bool true, .string me, .string ta, .int .i64 mi, .int .i64 st, .string re, .slice a0 A.length c0] 24 #[.int .i64 0, .int .i64 0, .bool false] 26)
    generalize ((w.alloc (.cells #[.bool true, .string me, .string ta, .int .i64 mi, .int .i64 st, .string re, .slice a0 A.length c0] 24)).alloc (.cells #[.int .i64 0, .int .i64 0, .bool false] 26)) = x at T0 ⊢
    have T1 := hide T0.out.drew
    obtain ⟨r0, r1, r2, r3, r4, r5, r6⟩ := T0.out.hd 0 w.heap.size rfl rfl
    go_region_law (first
      | (refine step_callg rfl 9 _ _ rfl (enters_of Tryd.func9 (by kernel_rfl) rfl) #[.agg #[.bool true, .string me, .string ta, .int .i64 mi, .int .i64 st, .string re, .slice a0 A.length c0]] (by simp [Act.eval]) _ (K1.out _ T1.out) ?_; rintro v y ⟨rfl, q0, q1, q2, q3, q4, q5, q6, TY⟩)
      | (refine step_callg rfl 16 _ _ rfl (enters_of Tryd.func16 (by kernel_rfl) rfl) #[.agg #[.bool true, .string me, .string ta, .int .i64 mi, .int .i64 st, .string re, .slice a0 A.length c0], .agg #[.int .i64 1, .int .i64 0, .bool b5]] (by simp [Act.eval, Act.put]) _ (K2.out _ TY.out) ?_; rintro v z ⟨rfl, s0, s1, s2, f0, f1, f2, TZ⟩))
    all_goals (go_wp2)
    all_goals (obtain ⟨k0, k1, k2, kb⟩ := st3 TZ.out 1 (w.heap.size + 1) rfl rfl o.k o.n o.b)
    all_goals (generalize ((z.setCell ⟨w.heap.size + 1, 0, none⟩ (.int .i64 o.k)).setCell ⟨w.heap.size + 1, 1, none⟩ (.int .i64 o.n)).setCell ⟨w.heap.size + 1, 2, none⟩ (.bool o.b) = w9 at k0 k1 k2 kb ⊢)
    all_goals (clear s0 s1 s2 f0 f1 f2)
    all_goals (exact bodyPost_ret (v := .tuple #[.agg #[.int .i64 o.k, .int .i64 o.n, .bool o.b], .int .i64 o.e]) (by simp [results, Tryd.results7, go_sem, k0, k1, k2]) rfl ⟨rfl, kb⟩)
theorem keep_one (b : Bool) : (b && ((1 : Int) != 4)) = b := by cases b <;> rfl
theorem keep_four (b : Bool) : (b && ((4 : Int) != 4)) = false := by cases b <;> rfl
set_option maxHeartbeats 2000000 in
theorem rreq_any (w : World) (r : Bool) (me ta : ByteArray) (mi st : Int) (re : ByteArray) (l : Value) (A : List (ByteArray × ByteArray)) (hA : Flds w l A) (hs : Sm A) :
    Calls Tryd.prog 8 #[.agg (hdC r me ta mi st re l)] w fun e w' => e = .returned (foV (reqO A r mi)) ∧ Below w.heap.size w w' := by
  cases r
  · obtain ⟨a0, c0, rfl, _, _⟩ := hA
    unfold hdC
    go_enter Tryd.func8, Tryd.ntmps8
    go_wp2
    have T0 := hide (Bl.two w #[.bool false, .string me, .string ta, .int .i64 mi, .int .i64 st, .string re, .slice a0 A.length c0] 24 #[.int .i64 0, .int .i64 0, .bool false] 26)
    generalize ((w.alloc (.cells #[.bool false, .string me, .string ta, .int .i64 mi, .int .i64 st, .string re, .slice a0 A.length c0] 24)).alloc (.cells #[.int .i64 0, .int .i64 0, .bool false] 26)) = x at T0 ⊢
    obtain ⟨k0, k1, k2, _, _, _⟩ := T0.out.st 1 (w.heap.size + 1) rfl rfl
    exact bodyPost_ret (v := .tuple #[.agg #[.int .i64 0, .int .i64 0, .bool false], .int .i64 1]) (by simp [results, Tryd.results8, go_sem, k0, k1, k2]) rfl ⟨rfl, T0.out.b⟩
  · have HT := hide (fun W h => rtold_any W true me ta mi st re l A 1 h hs)
    rw [keep_one] at HT
    have F0 := hide hA
    obtain ⟨a0, c0, rfl, _, _⟩ := hA
    unfold hdC at HT ⊢
    have HO : Hid (reqO A true mi = toldO A mi 1 (keepB A mi)) := hide rfl
    rw [HO.out]
    generalize toldO A mi 1 (keepB A mi) = o at HT
    clear hs HO
    unfold foV frV at HT ⊢
    go_enter Tryd.func8, Tryd.ntmps8
    go_wp2_with fail
    have T0 := hide (Bl.two w #[.bool true, .string me, .string ta, .int .i64 mi, .int .i64 st, .string re, .slice a0 A.length c0] 24 #[.int .i64 0, .int .i64 0, .bool false] 26)
    generalize ((w.alloc (.cells #[.bool true, .string me, .string ta, .int .i64 mi, .int .i64 st, .string re, .slice a0 A.length c0] 24)).alloc (.cells #[.int .i64 0, .int .i64 0, .bool false] 26)) = x at T0 ⊢
    refine (HT.out _ (F0.out.below T0.out.b)).mono ?_
    rintro e w1 ⟨rfl, bb⟩
    have T1 := hide (T0.out.below bb)
    clear bb T0
    obtain ⟨s0, s1, s2, f0, f1, f2⟩ := T1.out.st 1 (w.heap.size + 1) rfl rfl
    go_wp2
    obtain ⟨k0, k1, k2, kb⟩ := st3 T1.out 1 (w.heap.size + 1) rfl rfl (o.k) (o.n) o.b
    generalize ((w1.setCell ⟨w.heap.size + 1, 0, none⟩ (.int .i64 (o.k))).setCell ⟨w.heap.size + 1, 1, none⟩ (.int .i64 (o.n))).setCell ⟨w.heap.size + 1, 2, none⟩ (.bool o.b) = w9 at k0 k1 k2 kb ⊢
    clear s0 s1 s2 f0 f1 f2
    exact bodyPost_ret (v := .tuple #[.agg #[.int .i64 (o.k), .int .i64 (o.n), .bool o.b], .int .i64 (o.e)]) (by simp [results, Tryd.results8, go_sem, k0, k1, k2]) rfl ⟨rfl, kb⟩
set_option maxHeartbeats 4000000 in
theorem res_any (w : World) (r : Bool) (me ta : ByteArray) (mi st : Int) (re : ByteArray) (l : Value) (A : List (ByteArray × ByteArray)) (mt : ByteArray) (hA : Flds w l A) (hs : Sm A) :
    Calls Tryd.prog 12 #[.agg (hdC r me ta mi st re l), .string mt] w fun e w' => e = .returned (foV (resO A r mi st mt)) ∧ Below w.heap.size w w' := by
  cases r
  · have HK := hide (fun W h => keep_any W false me ta mi st re l A h hs)
    have HT := hide (fun W h => told_any W false me ta mi st re l A 4 false h hs)
    have F0 := hide hA
    obtain ⟨a0, c0, rfl, _, _⟩ := hA
    unfold hdC at HK HT ⊢
    unfold resO
    rw [if_neg (by simp)]
    clear hs
    generalize toldO A mi 4 false = o at HT ⊢
    generalize keepB A mi = b5 at HK ⊢
    by_cases hc : st < 200 ∨ st = 204 ∨ st = 304 ∨ mt = headS
    · rw [if_pos hc]
      unfold foV frV
      clear HT
      by_cases c1 : st < 200
      · clear hc
        go_enter Tryd.func12, Tryd.ntmps12
        go_wp2_with fail
        have T0 := hide (Bl.two w #[.bool false, .string me, .string ta, .int .i64 mi, .int .i64 st, .string re, .slice a0 A.length c0] 24 #[.int .i64 0, .int .i64 0, .bool false] 26)
        generalize ((w.alloc (.cells #[.bool false, .string me, .string ta, .int .i64 mi, .int .i64 st, .string re, .slice a0 A.length c0] 24)).alloc (.cells #[.int .i64 0, .int .i64 0, .bool false] 26)) = x at T0 ⊢
        refine (HK.out _ (F0.out.below T0.out.b)).mono ?_
        rintro e w1 ⟨rfl, bb⟩
        have T1 := hide (T0.out.below bb)
        clear bb T0
        obtain ⟨s0, s1, s2, f0, f1, f2⟩ := T1.out.st 1 (w.heap.size + 1) rfl rfl
        go_wp2
        obtain ⟨k0, k1, k2, kb⟩ := st3 T1.out 1 (w.heap.size + 1) rfl rfl (1) (0) b5
        generalize ((w1.setCell ⟨w.heap.size + 1, 0, none⟩ (.int .i64 (1))).setCell ⟨w.heap.size + 1, 1, none⟩ (.int .i64 (0))).setCell ⟨w.heap.size + 1, 2, none⟩ (.bool b5) = w9 at k0 k1 k2 kb ⊢
        clear s0 s1 s2 f0 f1 f2
        exact bodyPost_ret (v := .tuple #[.agg #[.int .i64 (1), .int .i64 (0), .bool b5], .int .i64 (0)]) (by simp [results, Tryd.results12, go_sem, k0, k1, k2]) rfl ⟨rfl, kb⟩
      · by_cases c2 : st = 204
        · subst c2
          clear hc c1
          go_enter Tryd.func12, Tryd.ntmps12
          go_wp2_with fail
          have T0 := hide (Bl.two w #[.bool false, .string me, .string ta, .int .i64 mi, .int .i64 204, .string re, .slice a0 A.length c0] 24 #[.int .i64 0, .int .i64 0, .bool false] 26)
          generalize ((w.alloc (.cells #[.bool false, .string me, .string ta, .int .i64 mi, .int .i64 204, .string re, .slice a0 A.length c0] 24)).alloc (.cells #[.int .i64 0, .int .i64 0, .bool false] 26)) = x at T0 ⊢
          refine (HK.out _ (F0.out.below T0.out.b)).mono ?_
          rintro e w1 ⟨rfl, bb⟩
          have T1 := hide (T0.out.below bb)
          clear bb T0
          obtain ⟨s0, s1, s2, f0, f1, f2⟩ := T1.out.st 1 (w.heap.size + 1) rfl rfl
          go_wp2
          obtain ⟨k0, k1, k2, kb⟩ := st3 T1.out 1 (w.heap.size + 1) rfl rfl (1) (0) b5
          generalize ((w1.setCell ⟨w.heap.size + 1, 0, none⟩ (.int .i64 (1))).setCell ⟨w.heap.size + 1, 1, none⟩ (.int .i64 (0))).setCell ⟨w.heap.size + 1, 2, none⟩ (.bool b5) = w9 at k0 k1 k2 kb ⊢
          clear s0 s1 s2 f0 f1 f2
          exact bodyPost_ret (v := .tuple #[.agg #[.int .i64 (1), .int .i64 (0), .bool b5], .int .i64 (0)]) (by simp [results, Tryd.results12, go_sem, k0, k1, k2]) rfl ⟨rfl, kb⟩
        · have t2 : (st == 204) = false := beq_eq_false_iff_ne.2 c2
          by_cases c3 : st = 304
          · subst c3
            clear hc c1 c2 t2
            go_enter Tryd.func12, Tryd.ntmps12
            go_wp2_with fail
            have T0 := hide (Bl.two w #[.bool false, .string me, .string ta, .int .i64 mi, .int .i64 304, .string re, .slice a0 A.length c0] 24 #[.int .i64 0, .int .i64 0, .bool false] 26)
            generalize ((w.alloc (.cells #[.bool false, .string me, .string ta, .int .i64 mi, .int .i64 304, .string re, .slice a0 A.length c0] 24)).alloc (.cells #[.int .i64 0, .int .i64 0, .bool false] 26)) = x at T0 ⊢
            refine (HK.out _ (F0.out.below T0.out.b)).mono ?_
            rintro e w1 ⟨rfl, bb⟩
            have T1 := hide (T0.out.below bb)
            clear bb T0
            obtain ⟨s0, s1, s2, f0, f1, f2⟩ := T1.out.st 1 (w.heap.size + 1) rfl rfl
            go_wp2
            obtain ⟨k0, k1, k2, kb⟩ := st3 T1.out 1 (w.heap.size + 1) rfl rfl (1) (0) b5
            generalize ((w1.setCell ⟨w.heap.size + 1, 0, none⟩ (.int .i64 (1))).setCell ⟨w.heap.size + 1, 1, none⟩ (.int .i64 (0))).setCell ⟨w.heap.size + 1, 2, none⟩ (.bool b5) = w9 at k0 k1 k2 kb ⊢
            clear s0 s1 s2 f0 f1 f2
            exact bodyPost_ret (v := .tuple #[.agg #[.int .i64 (1), .int .i64 (0), .bool b5], .int .i64 (0)]) (by simp [results, Tryd.results12, go_sem, k0, k1, k2]) rfl ⟨rfl, kb⟩
          · have t3 : (st == 304) = false := beq_eq_false_iff_ne.2 c3
            have c4 : mt = headS := by rcases hc with h | h | h | h <;> first | exact absurd h (by assumption) | exact h
            subst c4
            unfold headS
            clear hc c2 c3
            go_enter Tryd.func12, Tryd.ntmps12
            go_wp2_with fail
            have T0 := hide (Bl.two w #[.bool false, .string me, .string ta, .int .i64 mi, .int .i64 st, .string re, .slice a0 A.length c0] 24 #[.int .i64 0, .int .i64 0, .bool false] 26)
            generalize ((w.alloc (.cells #[.bool false, .string me, .string ta, .int .i64 mi, .int .i64 st, .string re, .slice a0 A.length c0] 24)).alloc (.cells #[.int .i64 0, .int .i64 0, .bool false] 26)) = x at T0 ⊢
            refine (HK.out _ (F0.out.below T0.out.b)).mono ?_
            rintro e w1 ⟨rfl, bb⟩
            have T1 := hide (T0.out.below bb)
            clear bb T0
            obtain ⟨s0, s1, s2, f0, f1, f2⟩ := T1.out.st 1 (w.heap.size + 1) rfl rfl
            go_wp2
            obtain ⟨k0, k1, k2, kb⟩ := st3 T1.out 1 (w.heap.size + 1) rfl rfl (1) (0) b5
            generalize ((w1.setCell ⟨w.heap.size + 1, 0, none⟩ (.int .i64 (1))).setCell ⟨w.heap.size + 1, 1, none⟩ (.int .i64 (0))).setCell ⟨w.heap.size + 1, 2, none⟩ (.bool b5) = w9 at k0 k1 k2 kb ⊢
            clear s0 s1 s2 f0 f1 f2
            exact bodyPost_ret (v := .tuple #[.agg #[.int .i64 (1), .int .i64 (0), .bool b5], .int .i64 (0)]) (by simp [results, Tryd.results12, go_sem, k0, k1, k2]) rfl ⟨rfl, kb⟩
    · rw [if_neg hc]
      unfold foV frV
      unfold foV frV at HT
      clear HK
      have c1 : ¬ st < 200 := fun h => hc (.inl h)
      have t2 : (st == 204) = false := beq_eq_false_iff_ne.2 (fun h => hc (.inr (.inl h)))
      have t3 : (st == 304) = false := beq_eq_false_iff_ne.2 (fun h => hc (.inr (.inr (.inl h))))
      have t4 : (mt.toList == [72, 69, 65, 68]) = false := by rw [← show headS.toList = [72, 69, 65, 68] by rw [Lib.toList_data]; rfl, bytes_eq]; exact decide_eq_false (fun h => hc (.inr (.inr (.inr h))))
      clear hc
      go_enter Tryd.func12, Tryd.ntmps12
      go_wp2_with fail
      have T0 := hide (Bl.two w #[.bool false, .string me, .string ta, .int .i64 mi, .int .i64 st, .string re, .slice a0 A.length c0] 24 #[.int .i64 0, .int .i64 0, .bool false] 26)
      generalize ((w.alloc (.cells #[.bool false, .string me, .string ta, .int .i64 mi, .int .i64 st, .string re, .slice a0 A.length c0] 24)).alloc (.cells #[.int .i64 0, .int .i64 0, .bool false] 26)) = x at T0 ⊢
      refine (HT.out _ (F0.out.below T0.out.b)).mono ?_
      rintro e w1 ⟨rfl, bb⟩
      have T1 := hide (T0.out.below bb)
      clear bb T0
      obtain ⟨s0, s1, s2, f0, f1, f2⟩ := T1.out.st 1 (w.heap.size + 1) rfl rfl
      go_wp2
      obtain ⟨k0, k1, k2, kb⟩ := st3 T1.out 1 (w.heap.size + 1) rfl rfl (o.k) (o.n) o.b
      generalize ((w1.setCell ⟨w.heap.size + 1, 0, none⟩ (.int .i64 (o.k))).setCell ⟨w.heap.size + 1, 1, none⟩ (.int .i64 (o.n))).setCell ⟨w.heap.size + 1, 2, none⟩ (.bool o.b) = w9 at k0 k1 k2 kb ⊢
      clear s0 s1 s2 f0 f1 f2
      exact bodyPost_ret (v := .tuple #[.agg #[.int .i64 (o.k), .int .i64 (o.n), .bool o.b], .int .i64 (o.e)]) (by simp [results, Tryd.results12, go_sem, k0, k1, k2]) rfl ⟨rfl, kb⟩
  · obtain ⟨a0, c0, rfl, _, _⟩ := hA
    unfold hdC
    go_enter Tryd.func12, Tryd.ntmps12
    go_wp2
    have T0 := hide (Bl.two w #[.bool true, .string me, .string ta, .int .i64 mi, .int .i64 st, .string re, .slice a0 A.length c0] 24 #[.int .i64 0, .int .i64 0, .bool false] 26)
    generalize ((w.alloc (.cells #[.bool true, .string me, .string ta, .int .i64 mi, .int .i64 st, .string re, .slice a0 A.length c0] 24)).alloc (.cells #[.int .i64 0, .int .i64 0, .bool false] 26)) = x at T0 ⊢
    obtain ⟨k0, k1, k2, _, _, _⟩ := T0.out.st 1 (w.heap.size + 1) rfl rfl
    exact bodyPost_ret (v := .tuple #[.agg #[.int .i64 0, .int .i64 0, .bool false], .int .i64 1]) (by simp [results, Tryd.results12, go_sem, k0, k1, k2]) rfl ⟨rfl, T0.out.b⟩
set_option maxHeartbeats 4000000 in
theorem rres_any (w : World) (r : Bool) (me ta : ByteArray) (mi st : Int) (re : ByteArray) (l : Value) (A : List (ByteArray × ByteArray)) (mt : ByteArray) (hA : Flds w l A) (hs : Sm A) :
    Calls Tryd.prog 13 #[.agg (hdC r me ta mi st re l), .string mt] w fun e w' => e = .returned (foV (resO A r mi st mt)) ∧ Below w.heap.size w w' := by
  cases r
  · have HK := hide (fun W h => rkeep_any W false me ta mi st re l A h hs)
    have HT := hide (fun W h => rtold_any W false me ta mi st re l A 4 h hs)
    rw [keep_four] at HT
    have F0 := hide hA
    obtain ⟨a0, c0, rfl, _, _⟩ := hA
    unfold hdC at HK HT ⊢
    unfold resO
    rw [if_neg (by simp)]
    clear hs
    generalize toldO A mi 4 false = o at HT ⊢
    generalize keepB A mi = b5 at HK ⊢
    by_cases hc : st < 200 ∨ st = 204 ∨ st = 304 ∨ mt = headS
    · rw [if_pos hc]
      unfold foV frV
      clear HT
      by_cases c1 : st < 200
      · clear hc
        go_enter Tryd.func13, Tryd.ntmps13
        go_wp2_with fail
        have T0 := hide (Bl.two w #[.bool false, .string me, .string ta, .int .i64 mi, .int .i64 st, .string re, .slice a0 A.length c0] 24 #[.int .i64 0, .int .i64 0, .bool false] 26)
        generalize ((w.alloc (.cells #[.bool false, .string me, .string ta, .int .i64 mi, .int .i64 st, .string re, .slice a0 A.length c0] 24)).alloc (.cells #[.int .i64 0, .int .i64 0, .bool false] 26)) = x at T0 ⊢
        refine (HK.out _ (F0.out.below T0.out.b)).mono ?_
        rintro e w1 ⟨rfl, bb⟩
        have T1 := hide (T0.out.below bb)
        clear bb T0
        obtain ⟨s0, s1, s2, f0, f1, f2⟩ := T1.out.st 1 (w.heap.size + 1) rfl rfl
        go_wp2
        obtain ⟨k0, k1, k2, kb⟩ := st3 T1.out 1 (w.heap.size + 1) rfl rfl (1) (0) b5
        generalize ((w1.setCell ⟨w.heap.size + 1, 0, none⟩ (.int .i64 (1))).setCell ⟨w.heap.size + 1, 1, none⟩ (.int .i64 (0))).setCell ⟨w.heap.size + 1, 2, none⟩ (.bool b5) = w9 at k0 k1 k2 kb ⊢
        clear s0 s1 s2 f0 f1 f2
        exact bodyPost_ret (v := .tuple #[.agg #[.int .i64 (1), .int .i64 (0), .bool b5], .int .i64 (0)]) (by simp [results, Tryd.results13, go_sem, k0, k1, k2]) rfl ⟨rfl, kb⟩
      · by_cases c2 : st = 204
        · subst c2
          clear hc c1
          go_enter Tryd.func13, Tryd.ntmps13
          go_wp2_with fail
          have T0 := hide (Bl.two w #[.bool false, .string me, .string ta, .int .i64 mi, .int .i64 204, .string re, .slice a0 A.length c0] 24 #[.int .i64 0, .int .i64 0, .bool false] 26)
          generalize ((w.alloc (.cells #[.bool false, .string me, .string ta, .int .i64 mi, .int .i64 204, .string re, .slice a0 A.length c0] 24)).alloc (.cells #[.int .i64 0, .int .i64 0, .bool false] 26)) = x at T0 ⊢
          refine (HK.out _ (F0.out.below T0.out.b)).mono ?_
          rintro e w1 ⟨rfl, bb⟩
          have T1 := hide (T0.out.below bb)
          clear bb T0
          obtain ⟨s0, s1, s2, f0, f1, f2⟩ := T1.out.st 1 (w.heap.size + 1) rfl rfl
          go_wp2
          obtain ⟨k0, k1, k2, kb⟩ := st3 T1.out 1 (w.heap.size + 1) rfl rfl (1) (0) b5
          generalize ((w1.setCell ⟨w.heap.size + 1, 0, none⟩ (.int .i64 (1))).setCell ⟨w.heap.size + 1, 1, none⟩ (.int .i64 (0))).setCell ⟨w.heap.size + 1, 2, none⟩ (.bool b5) = w9 at k0 k1 k2 kb ⊢
          clear s0 s1 s2 f0 f1 f2
          exact bodyPost_ret (v := .tuple #[.agg #[.int .i64 (1), .int .i64 (0), .bool b5], .int .i64 (0)]) (by simp [results, Tryd.results13, go_sem, k0, k1, k2]) rfl ⟨rfl, kb⟩
        · have t2 : (st == 204) = false := beq_eq_false_iff_ne.2 c2
          by_cases c3 : st = 304
          · subst c3
            clear hc c1 c2 t2
            go_enter Tryd.func13, Tryd.ntmps13
            go_wp2_with fail
            have T0 := hide (Bl.two w #[.bool false, .string me, .string ta, .int .i64 mi, .int .i64 304, .string re, .slice a0 A.length c0] 24 #[.int .i64 0, .int .i64 0, .bool false] 26)
            generalize ((w.alloc (.cells #[.bool false, .string me, .string ta, .int .i64 mi, .int .i64 304, .string re, .slice a0 A.length c0] 24)).alloc (.cells #[.int .i64 0, .int .i64 0, .bool false] 26)) = x at T0 ⊢
            refine (HK.out _ (F0.out.below T0.out.b)).mono ?_
            rintro e w1 ⟨rfl, bb⟩
            have T1 := hide (T0.out.below bb)
            clear bb T0
            obtain ⟨s0, s1, s2, f0, f1, f2⟩ := T1.out.st 1 (w.heap.size + 1) rfl rfl
            go_wp2
            obtain ⟨k0, k1, k2, kb⟩ := st3 T1.out 1 (w.heap.size + 1) rfl rfl (1) (0) b5
            generalize ((w1.setCell ⟨w.heap.size + 1, 0, none⟩ (.int .i64 (1))).setCell ⟨w.heap.size + 1, 1, none⟩ (.int .i64 (0))).setCell ⟨w.heap.size + 1, 2, none⟩ (.bool b5) = w9 at k0 k1 k2 kb ⊢
            clear s0 s1 s2 f0 f1 f2
            exact bodyPost_ret (v := .tuple #[.agg #[.int .i64 (1), .int .i64 (0), .bool b5], .int .i64 (0)]) (by simp [results, Tryd.results13, go_sem, k0, k1, k2]) rfl ⟨rfl, kb⟩
          · have t3 : (st == 304) = false := beq_eq_false_iff_ne.2 c3
            have c4 : mt = headS := by rcases hc with h | h | h | h <;> first | exact absurd h (by assumption) | exact h
            subst c4
            unfold headS
            clear hc c2 c3
            go_enter Tryd.func13, Tryd.ntmps13
            go_wp2_with fail
            have T0 := hide (Bl.two w #[.bool false, .string me, .string ta, .int .i64 mi, .int .i64 st, .string re, .slice a0 A.length c0] 24 #[.int .i64 0, .int .i64 0, .bool false] 26)
            generalize ((w.alloc (.cells #[.bool false, .string me, .string ta, .int .i64 mi, .int .i64 st, .string re, .slice a0 A.length c0] 24)).alloc (.cells #[.int .i64 0, .int .i64 0, .bool false] 26)) = x at T0 ⊢
            refine (HK.out _ (F0.out.below T0.out.b)).mono ?_
            rintro e w1 ⟨rfl, bb⟩
            have T1 := hide (T0.out.below bb)
            clear bb T0
            obtain ⟨s0, s1, s2, f0, f1, f2⟩ := T1.out.st 1 (w.heap.size + 1) rfl rfl
            go_wp2
            obtain ⟨k0, k1, k2, kb⟩ := st3 T1.out 1 (w.heap.size + 1) rfl rfl (1) (0) b5
            generalize ((w1.setCell ⟨w.heap.size + 1, 0, none⟩ (.int .i64 (1))).setCell ⟨w.heap.size + 1, 1, none⟩ (.int .i64 (0))).setCell ⟨w.heap.size + 1, 2, none⟩ (.bool b5) = w9 at k0 k1 k2 kb ⊢
            clear s0 s1 s2 f0 f1 f2
            exact bodyPost_ret (v := .tuple #[.agg #[.int .i64 (1), .int .i64 (0), .bool b5], .int .i64 (0)]) (by simp [results, Tryd.results13, go_sem, k0, k1, k2]) rfl ⟨rfl, kb⟩
    · rw [if_neg hc]
      unfold foV frV
      unfold foV frV at HT
      clear HK
      have c1 : ¬ st < 200 := fun h => hc (.inl h)
      have t2 : (st == 204) = false := beq_eq_false_iff_ne.2 (fun h => hc (.inr (.inl h)))
      have t3 : (st == 304) = false := beq_eq_false_iff_ne.2 (fun h => hc (.inr (.inr (.inl h))))
      have t4 : (mt.toList == [72, 69, 65, 68]) = false := by rw [← show headS.toList = [72, 69, 65, 68] by rw [Lib.toList_data]; rfl, bytes_eq]; exact decide_eq_false (fun h => hc (.inr (.inr (.inr h))))
      clear hc
      go_enter Tryd.func13, Tryd.ntmps13
      go_wp2_with fail
      have T0 := hide (Bl.two w #[.bool false, .string me, .string ta, .int .i64 mi, .int .i64 st, .string re, .slice a0 A.length c0] 24 #[.int .i64 0, .int .i64 0, .bool false] 26)
      generalize ((w.alloc (.cells #[.bool false, .string me, .string ta, .int .i64 mi, .int .i64 st, .string re, .slice a0 A.length c0] 24)).alloc (.cells #[.int .i64 0, .int .i64 0, .bool false] 26)) = x at T0 ⊢
      refine (HT.out _ (F0.out.below T0.out.b)).mono ?_
      rintro e w1 ⟨rfl, bb⟩
      have T1 := hide (T0.out.below bb)
      clear bb T0
      obtain ⟨s0, s1, s2, f0, f1, f2⟩ := T1.out.st 1 (w.heap.size + 1) rfl rfl
      go_wp2
      obtain ⟨k0, k1, k2, kb⟩ := st3 T1.out 1 (w.heap.size + 1) rfl rfl (o.k) (o.n) o.b
      generalize ((w1.setCell ⟨w.heap.size + 1, 0, none⟩ (.int .i64 (o.k))).setCell ⟨w.heap.size + 1, 1, none⟩ (.int .i64 (o.n))).setCell ⟨w.heap.size + 1, 2, none⟩ (.bool o.b) = w9 at k0 k1 k2 kb ⊢
      clear s0 s1 s2 f0 f1 f2
      exact bodyPost_ret (v := .tuple #[.agg #[.int .i64 (o.k), .int .i64 (o.n), .bool o.b], .int .i64 (o.e)]) (by simp [results, Tryd.results13, go_sem, k0, k1, k2]) rfl ⟨rfl, kb⟩
  · obtain ⟨a0, c0, rfl, _, _⟩ := hA
    unfold hdC
    go_enter Tryd.func13, Tryd.ntmps13
    go_wp2
    have T0 := hide (Bl.two w #[.bool true, .string me, .string ta, .int .i64 mi, .int .i64 st, .string re, .slice a0 A.length c0] 24 #[.int .i64 0, .int .i64 0, .bool false] 26)
    generalize ((w.alloc (.cells #[.bool true, .string me, .string ta, .int .i64 mi, .int .i64 st, .string re, .slice a0 A.length c0] 24)).alloc (.cells #[.int .i64 0, .int .i64 0, .bool false] 26)) = x at T0 ⊢
    obtain ⟨k0, k1, k2, _, _, _⟩ := T0.out.st 1 (w.heap.size + 1) rfl rfl
    exact bodyPost_ret (v := .tuple #[.agg #[.int .i64 0, .int .i64 0, .bool false], .int .i64 1]) (by simp [results, Tryd.results13, go_sem, k0, k1, k2]) rfl ⟨rfl, T0.out.b⟩
end Go.Proofs.YtalihfohdejalaaDoor
