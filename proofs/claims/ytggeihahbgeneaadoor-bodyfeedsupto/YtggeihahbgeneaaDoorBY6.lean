/- Merged: BFe5. -/
import Derived.Test.YtggeihahbgeneaaDoorBY4
import Derived.Test.YtggeihahbgeneaaDoorCGrow
namespace Go.Proofs.YtggeihahbgeneaaDoor
open Go.ChangeShapes Go.WideShapes Go.ChangeAt Go.RowKit

set_option maxHeartbeats 32000000 in
set_option maxRecDepth 100000 in
theorem feeds_walk (k len : Int) (x : Bool) (most : Int) (v : Value) (L : List (List UInt8)) (w : World) (hP : Pcs w v L) (hfl : L.flatten.length ≤ 1048576) (hn : L.length ≤ 1048576) (hm : MX w) :
    Calls Tryd.prog 3 #[frV k len x, .int .i64 most, v] w fun e w' => e = .returned (.bool true) ∧ Below w.heap.size w w' := by
  have HM := hide hm
  have hw2 : 2 ≤ w.heap.size := hm.1
  obtain ⟨pa, pc, rfl, hpc, hcells⟩ := hP
  have HPC := hide hcells
  clear hm hcells
  by_cases hgd : GoodF k len most
  · have hm0 : 0 ≤ most := by
      unfold GoodF at hgd
      rw [not_or, not_or, not_or] at hgd
      omega
    obtain ⟨m, rfl⟩ := Int.eq_ofNat_of_zero_le hm0
    have HNW := hide (fun W h2 => new_b k len x m W hgd h2)
    have HAS := hide (fun W => asked_good k len x (m : Int) W hgd)
    clear hgd hm0
    unfold frV at HNW HAS ⊢
    go_enter Tryd.func3, Tryd.ntmps3
    have BA := hide ((Below.refl w.heap.size w).alloc (Nat.le_refl _) (.cells #[.int .i64 k, .int .i64 len, .bool x] 23))
    have HB := hide (hp_new w (.cells #[.int .i64 k, .int .i64 len, .bool x] 23))
    have HLT := lt_heap' HB.out
    go_upto_region 1 with fail
    generalize w.alloc (.cells #[.int .i64 k, .int .i64 len, .bool x] 23) = W0 at BA HB HLT ⊢
    have hs0 := BA.out.size
    have c0 : W0.cell? ⟨w.heap.size, 0, none⟩ = some (.int .i64 k) := ((Below.refl W0.heap.size W0).cell (p := ⟨w.heap.size, 0, none⟩) HLT).trans (cell_at HB.out 0)
    have c1 : W0.cell? ⟨w.heap.size, 1, none⟩ = some (.int .i64 len) := ((Below.refl W0.heap.size W0).cell (p := ⟨w.heap.size, 1, none⟩) HLT).trans (cell_at HB.out 1)
    have c2 : W0.cell? ⟨w.heap.size, 2, none⟩ = some (.bool x) := ((Below.refl W0.heap.size W0).cell (p := ⟨w.heap.size, 2, none⟩) HLT).trans (cell_at HB.out 2)
    have HN2 := hide (HNW.out W0 (by omega))
    clear HNW
    go_wp2_with fail
    refine HN2.out.mono ?_
    rintro e W1 ⟨gr, B, c, P, M0, rfl, A, hall, hp, b1, hO0, hN0, hbd⟩
    have HA := hide A
    have HALL := hide hall
    unfold AllB frV at HALL
    have HP1 := hide hp
    have HBD := hide hbd
    have B1 := hide b1
    clear A hall hp hbd b1 HN2 c0 c1 c2
    have c0 : W1.cell? ⟨w.heap.size, 0, none⟩ = some (.int .i64 k) := (B1.out.cell (p := ⟨w.heap.size, 0, none⟩) HLT).trans (cell_at HB.out 0)
    have c1 : W1.cell? ⟨w.heap.size, 1, none⟩ = some (.int .i64 len) := (B1.out.cell (p := ⟨w.heap.size, 1, none⟩) HLT).trans (cell_at HB.out 1)
    have c2 : W1.cell? ⟨w.heap.size, 2, none⟩ = some (.bool x) := (B1.out.cell (p := ⟨w.heap.size, 2, none⟩) HLT).trans (cell_at HB.out 2)
    go_wp2_with fail
    refine (HAS.out W1).mono ?_
    rintro e W2 ⟨rfl, b2⟩
    have HP2 := hide (HA.out.keep HP1.out (fun k hk => b2.block k (HA.out.mem HP1.out k hk).2))
    have HMM := hide (fun k hk => (HA.out.mem HP1.out k hk).2)
    have B2 := hide (B1.out.trans (b2.mono B1.out.size))
    have hs2 := b2.size
    clear b2 HAS HP1 c0 c1 c2
    have c0 : W2.cell? ⟨w.heap.size, 0, none⟩ = some (.int .i64 k) := (B2.out.cell (p := ⟨w.heap.size, 0, none⟩) HLT).trans (cell_at HB.out 0)
    have c1 : W2.cell? ⟨w.heap.size, 1, none⟩ = some (.int .i64 len) := (B2.out.cell (p := ⟨w.heap.size, 1, none⟩) HLT).trans (cell_at HB.out 1)
    have c2 : W2.cell? ⟨w.heap.size, 2, none⟩ = some (.bool x) := (B2.out.cell (p := ⟨w.heap.size, 2, none⟩) HLT).trans (cell_at HB.out 2)
    have PR := hide (HALL.out (.slice none 0 0) [] false W2 (Bs.of_row (Row.nil W2 0 5)) (by simp))
    simp only [Bool.false_eq_true, if_false] at PR
    rw [hO0, hN0] at PR
    go_upto_region 7 with fail
    go_wp2_with fail
    refine PR.out.mono ?_
    rintro e W3 ⟨ov, ya, yn, yc, rfl, hor, b3⟩
    obtain ⟨xa, xc, hxe, hxc, _⟩ := hor.shape
    rw [bc_len] at hxe hxc
    subst hxe
    have HP3 := hide (HA.out.keep HP2.out (fun k hk => b3.block k (HA.out.mem HP2.out k hk).2))
    have B3 := hide (B2.out.trans (b3.mono B2.out.size))
    have hs3 := b3.size
    clear b3 PR HP2 hor c0 c1 c2
    generalize hwh0 : B.Wh [] = wh0 at *
    generalize her0 : B.Er [] = er0 at *
    clear hwh0 her0
    go_upto_region 8 with fail
    have BN := hide ((Below.refl W3.heap.size W3).alloc (Nat.le_refl _) (.cells #[.slice xa 0 xc, .slice ya yn yc, .int .i64 0, .bool wh0, .int .i64 (er0 : Int)] 34))
    have HBW := hide (hp_new W3 (.cells #[.slice xa 0 xc, .slice ya yn yc, .int .i64 0, .bool wh0, .int .i64 (er0 : Int)] 34))
    have F0 : Hid (LS W0 (W3.alloc (.cells #[.slice xa 0 xc, .slice ya yn yc, .int .i64 0, .bool wh0, .int .i64 (er0 : Int)] 34)) W0.heap.size gr P W3.heap.size M0 (.slice none 0 0) [] [] #[.slice xa 0 xc, .slice ya yn yc, .int .i64 0, .bool wh0, .int .i64 (er0 : Int)]) := hide ⟨HA.out.keep HP3.out (fun k hk => BN.out.block k (HA.out.mem HP3.out k hk).2), Row.nil _ _ _, HBW.out, by intro k e; simp [Value.ownBlock] at e, fun h => by have := HMM.out _ h; omega, by simp [Value.ownBlock], by have := B3.out.size; omega, B3.out.trans (BN.out.mono B3.out.size), by have := B3.out.size; have := BN.out.size; omega⟩
    clear BN HBW HP3 HMM B1 B2 B3
    generalize W3.alloc (.cells #[.slice xa 0 xc, .slice ya yn yc, .int .i64 0, .bool wh0, .int .i64 (er0 : Int)] 34) = x3 at F0 ⊢
    generalize hbwq : W3.heap.size = bw at *
    clear hbwq
    go_wp2_with fail
    go_loopw [9, 44] (fun av i wr => ∃ (q : Nat) (all : List UInt8) (aa : Option Addr) (an ac : Nat) (M : Nat → Prop) (oa : Option Addr) (oc : Nat) (ta : Option Addr) (tn tc : Nat) (bh : Bool) (ee : Int), q ≤ L.length ∧ av = .slice aa an ac ∧ i = .int .i64 q ∧ Hid (all = (L.take q).flatten) ∧ Hid (LS W0 wr W0.heap.size gr P bw M (.slice aa an ac) all all #[.slice oa (B.O all).length oc, .slice ta tn tc, .int .i64 ((B.N all : Nat) : Int), .bool bh, .int .i64 ee])) (fun _ i _ => L.length - (intOf i).toNat)
    case atStart => exact ⟨0, [], none, 0, 0, M0, xa, xc, ya, yn, yc, wh0, (er0 : Int), Nat.zero_le _, rfl, rfl, hide rfl, hide (by rw [hO0, hN0]; exact F0.out)⟩
    case round =>
      clear F0 hO0 hN0 hxc
      obtain ⟨q, all, aa, an, ac, M, oa, oc, ta, tn, tc, bh, ee, hk, rfl, rfl, HAL, F1⟩ := hrel
      by_cases hlt : q < L.length
      · obtain ⟨g1, o1, ba, bcp, rfl, hgb, q1, hbs, hsh⟩ := HPC.out q hlt
        have hfk := flat_take hlt
        have hfl2 := flat_le L (q + 1)
        generalize L[q] = b at hfk q1 hbs hsh
        rw [hfk, ← HAL.out, List.length_append] at hfl2
        have HAL2 : Hid (all ++ b = (L.take (q + 1)).flatten) := hide (by rw [hfk, ← HAL.out])
        have HBS := hide hbs
        have HSH := hide hsh
        have HWB := hide (fun (W : World) (h : Below W0.heap.size W0 W) => BA.out.trans (h.mono BA.out.size))
        have r1 : wr.cell? ⟨g1, o1 + q, none⟩ = some (.slice ba b.length bcp) := ((HWB.out wr F1.out.b).cell (p := ⟨g1, o1 + q, none⟩) hgb).trans q1
        clear hfk q1 hbs hsh
        go_wp2_with (at_builtin; apply Hid.out)
        unfold Hid
        refine wpList_append_bs_k rfl _ _ rfl wr W0.heap.size w.heap.size (.slice aa an ac) (.slice ba b.length bcp) all b rfl rfl F1.out.row (HBS.out.below (Nat.le_refl _) (HWB.out wr F1.out.b)) HSH.out (by omega) F1.out.bs ?_
        intro v' W1' O' B' K'
        obtain ⟨na, nn, nc, rfl⟩ : ∃ a n c, v' = .slice a n c := by
          obtain ⟨a, c, h, _⟩ := O'.shape
          exact ⟨a, _, c, h⟩
        have F2 := hide (F1.out.grow HA.out K' O' B')
        clear O' B' K' r1 F1
        have PR := hide (HALL.out (.slice na nn nc) (all ++ b) false W1' (Bs.of_row F2.out.row) (by rw [List.length_append]; omega))
        simp only [Bool.false_eq_true, if_false] at PR
        have HMM := hide (fun k hk => (HA.out.mem F2.out.p k hk).2)
        have c0 : W1'.cell? ⟨w.heap.size, 0, none⟩ = some (.int .i64 k) := (F2.out.b.cell (p := ⟨w.heap.size, 0, none⟩) HLT).trans (cell_at HB.out 0)
        have c1 : W1'.cell? ⟨w.heap.size, 1, none⟩ = some (.int .i64 len) := (F2.out.b.cell (p := ⟨w.heap.size, 1, none⟩) HLT).trans (cell_at HB.out 1)
        have c2 : W1'.cell? ⟨w.heap.size, 2, none⟩ = some (.bool x) := (F2.out.b.cell (p := ⟨w.heap.size, 2, none⟩) HLT).trans (cell_at HB.out 2)
        go_wp2_with fail
        refine PR.out.mono ?_
        rintro e W2' ⟨ov, ya, yn, yc, rfl, hor, b2⟩
        obtain ⟨xa, xc, hxe, hxc, _⟩ := hor.shape
        rw [bc_len] at hxe hxc
        subst hxe
        have F3 := hide (F2.out.below HA.out b2)
        have OR := hide hor
        have hW1 : W1'.heap.size ≤ W2'.heap.size := b2.size
        have hbl := HBD.out (all ++ b)
        have hbl0 := HBD.out all
        rw [List.length_append] at hbl
        have HFDq := hide (fun (W : World) (h : P W M all) (h2 : W0.heap.size ≤ W.heap.size) (h3 : MX W) (h4 : Bs W W0.heap.size (.slice ba b.length bcp) b) => HA.out.feed h h2 h3 ba bcp b h4 HSH.out (by omega))
        unfold FeedP at HFDq
        have HWHq := hide (fun (W : World) (M' : Nat → Prop) (h : P W M' (all ++ b)) => HA.out.whole h)
        have HGTq := hide (fun (W : World) (M' : Nat → Prop) (h : P W M' (all ++ b)) => HA.out.got h)
        have hoO : Hid (∃ o, B.O (all ++ b) = o) := hide ⟨_, rfl⟩
        obtain ⟨o, HO⟩ : ∃ o, Hid (B.O (all ++ b) = o) := ⟨_, hide rfl⟩
        obtain ⟨Nn, HNn⟩ : ∃ n, Hid (B.N (all ++ b) = n) := ⟨_, hide rfl⟩
        obtain ⟨wh, HWh⟩ : ∃ n, Hid (B.Wh (all ++ b) = n) := ⟨_, hide rfl⟩
        obtain ⟨E, HEr⟩ : ∃ n, Hid (B.Er (all ++ b) = n) := ⟨_, hide rfl⟩
        obtain ⟨on0, HON0⟩ : ∃ n, Hid ((B.O all).length = n) := ⟨_, hide rfl⟩
        obtain ⟨n0, HN0⟩ : ∃ n, Hid (B.N all = n) := ⟨_, hide rfl⟩
        clear hor PR b2 F2 hoO c0 c1 c2
        simp only [HO.out, HNn.out, HWh.out, HEr.out, HON0.out, HN0.out] at F3 OR HFDq HWHq HGTq hbl hbl0 hxc ⊢
        go_upto_region 13 with fail
        have BAn := hide ((Below.refl W2'.heap.size W2').alloc (Nat.le_refl _) (.cells #[.slice xa o.length xc, .slice ya yn yc, .int .i64 (Nn : Int), .bool wh, .int .i64 (E : Int)] 34))
        have HBN := hide (hp_new W2' (.cells #[.slice xa o.length xc, .slice ya yn yc, .int .i64 (Nn : Int), .bool wh, .int .i64 (E : Int)] 34))
        have F4 := hide (F3.out.below HA.out BAn.out)
        have OR4 := hide (OR.out.below BAn.out)
        have hbn : W2'.heap.size < (W2'.alloc (.cells #[.slice xa o.length xc, .slice ya yn yc, .int .i64 (Nn : Int), .bool wh, .int .i64 (E : Int)] 34)).heap.size := lt_heap HBN.out
        clear BAn F3 OR
        generalize (W2'.alloc (.cells #[.slice xa o.length xc, .slice ya yn yc, .int .i64 (Nn : Int), .bool wh, .int .i64 (E : Int)] 34)) = W3' at HBN F4 OR4 hbn ⊢
        generalize W2'.heap.size = bn at HBN hbn hW1 ⊢
        have HFD := hide (HFDq.out W3' F4.out.p F4.out.bs (HM.out.below (HWB.out W3' F4.out.b)) (HBS.out.below hs0 (HWB.out W3' F4.out.b)))
        clear HFDq
        go_wp2_with fail
        refine HFD.out.mono ?_
        rintro e W4 ⟨za, zn, zc, ob, n, M', rfl, ho, hn2, hr4, hp4, hk4⟩
        have F5 := hide (F4.out.feed HA.out hp4 hk4)
        have HBN5 : Hid (W4.heap[bn]? = some (.cells #[.slice xa o.length xc, .slice ya yn yc, .int .i64 (Nn : Int), .bool wh, .int .i64 (E : Int)] 34 (0, 0))) := hide ((hk4.block bn hbn (fun h => by have := HMM.out bn h; omega)).trans HBN.out)
        have OR5 := hide (OR4.out.frame (W' := W4) fun j e => hk4.block j (OR4.out.lt e).2 (fun h => by have := HMM.out j h; have := (OR4.out.lt e).1; omega))
        have R5 := hide hr4
        have hbw5 : bw < W4.heap.size := lt_heap F5.out.was
        have hbn5 : bn < W4.heap.size := lt_heap HBN5.out
        have HWH := hide (fun (W : World) (h : Below W4.heap.size W4 W) => HWHq.out W M' (F5.out.below HA.out h).p)
        have HGT := hide (fun (W : World) (h : Below W4.heap.size W4 W) => HGTq.out W M' (F5.out.below HA.out h).p)
        clear hr4 hp4 hk4 HFD F4 OR4 HBN HWHq HGTq HMM
        have hol2 := congrArg List.length ho
        rw [List.length_append, HON0.out] at hol2
        have HDR : Hid (o.drop on0 = ob) := hide (by rw [ho, ← HON0.out, List.drop_left])
        have HHO := hide ho
        clear ho
        have hsub : (Nn : Int) - (n0 : Int) = (n : Int) := by omega
        have hwrap : IntKind.i64.wrap (n : Int) = (n : Int) := IntWalk.i64_in _ ⟨by omega, by omega⟩
        have b0 : W4.cell? ⟨bn, 0, none⟩ = some (.slice xa o.length xc) := cell_at HBN5.out 0
        have b2 : W4.cell? ⟨bn, 2, none⟩ = some (.int .i64 (Nn : Int)) := cell_at HBN5.out 2
        have b1 : W4.cell? ⟨bn, 1, none⟩ = some (.slice ya yn yc) := cell_at HBN5.out 1
        have b3 : W4.cell? ⟨bn, 3, none⟩ = some (.bool wh) := cell_at HBN5.out 3
        have b4 : W4.cell? ⟨bn, 4, none⟩ = some (.int .i64 (E : Int)) := cell_at HBN5.out 4
        have a0 : W4.cell? ⟨bw, 0, none⟩ = some (.slice oa on0 oc) := F5.out.cell 0
        have a2 : W4.cell? ⟨bw, 2, none⟩ = some (.int .i64 (n0 : Int)) := F5.out.cell 2
        have HB0 := hide b0
        have HB1 := hide b1
        have HB2 := hide b2
        have HB3 := hide b3
        have HB4 := hide b4
        have HA0 := hide a0
        have HA2 := hide a2
        have CV1 : Hid (∀ W, Below W4.heap.size W4 W → (convert 31 9 (.slice za zn zc)).run Tryd.prog W = .ok (.string ⟨ob.toArray⟩) W) := hide (fun W h => (R5.out.below h).text)
        have hol3 : on0 ≤ o.length := by omega
        have hol4 : (on0 : Int) ≤ (o.length : Int) := by omega
        have HOL2 := hide hol2
        clear hol2 hn2
        clear b0 b1 b2 b3 b4 a0 a2
        go_upto_region 14 with fail
        have hX : xa = none ∧ xc = 0 ∧ o.length = 0 ∨ (∃ gx, xa = some ⟨gx, 0, none⟩) := by
          rcases OR5.out.2 with ⟨h1, h2⟩ | ⟨g, cap, cur, h1, _⟩
          · simp only [Value.slice.injEq] at h1
            exact .inl ⟨h1.1, h1.2.2, h1.2.1⟩
          · simp only [Value.slice.injEq] at h1
            exact .inr ⟨g, h1.1⟩
        rcases hX with ⟨rfl, rfl, hz⟩ | ⟨gx, rfl⟩
        · obtain rfl : on0 = 0 := by omega
          have CV2 : Hid (∀ W, Below W4.heap.size W4 W → (convert 31 9 (.slice none 0 0)).run Tryd.prog W = .ok (.string ⟨ob.toArray⟩) W) := hide (fun W h => by
            have e : ob = [] := List.eq_nil_of_length_eq_zero (by have := HOL2.out; omega)
            subst e
            exact (Bs.of_row (Row.nil W 0 5)).text)
          have hoz : o = [] := List.eq_nil_of_length_eq_zero hz
          clear hz HOL2
          subst hoz
          generalize (⟨ob.toArray⟩ : ByteArray) = so at CV1 CV2
          have BD := hide ((Below.refl W4.heap.size W4).drew)
          have cS : Below W4.heap.size W4 W4.drew := BD.out
          refine wp_region_noPanic ?_
          refine wp_region_held_drew (S := fun W => Below W4.heap.size W4 W) (by kernel_rfl) cS (fun hHeld => ?_)
          refine wpAnyH_take (i := 0) (v := ?_) rfl (by kernel_rfl) (by kernel_rfl) (by kernel_rfl) (fun _ _ _ h => h) (Or.inl ⟨by rfl, ?_⟩) (by assumption) ?_
          rotate_left
          · (intro W hSw; (try dsimp only at hSw); go_simp; try with_reducible rfl)
          simp only [List.getElem_toArray, List.getElem_cons_zero, Act.put, List.setIfInBounds_toArray, List.set_cons_zero, List.set_cons_succ]
          refine wpAnyH_take (i := 1) (v := ?_) rfl (by kernel_rfl) (by kernel_rfl) (by kernel_rfl) (fun _ _ _ h => h) (Or.inl ⟨by rfl, ?_⟩) (by assumption) ?_
          rotate_left
          · (intro W hSw; have hc := CV1.out W hSw; go_simp; try with_reducible rfl)
          simp only [List.getElem_toArray, List.getElem_cons_zero, List.getElem_cons_succ, Act.put, List.setIfInBounds_toArray, List.set_cons_zero, List.set_cons_succ]
          refine wpAnyH_take (i := 2) (v := ?_) rfl (by kernel_rfl) (by kernel_rfl) (by kernel_rfl) (fun _ _ _ h => h) (Or.inl ⟨by rfl, ?_⟩) (by assumption) ?_
          rotate_left
          · (intro W hSw; (try dsimp only at hSw); go_simp; try with_reducible rfl)
          simp only [List.getElem_toArray, List.getElem_cons_zero, List.getElem_cons_succ, Act.put, List.setIfInBounds_toArray, List.set_cons_zero, List.set_cons_succ]
          refine wpAnyH_take (i := 3) (v := ?_) rfl (by kernel_rfl) (by kernel_rfl) (by kernel_rfl) (fun _ _ _ h => h) (Or.inl ⟨by rfl, ?_⟩) (by assumption) ?_
          rotate_left
          · (intro W hSw; have hc := (hSw.cell (p := ⟨bn, 0, none⟩) hbn5).trans HB0.out; go_simp; try with_reducible rfl)
          simp only [List.getElem_toArray, List.getElem_cons_zero, List.getElem_cons_succ, Act.put, List.setIfInBounds_toArray, List.set_cons_zero, List.set_cons_succ]
          refine wpAnyH_take (i := 4) (v := ?_) rfl (by kernel_rfl) (by kernel_rfl) (by kernel_rfl) (fun _ _ _ h => h) (Or.inl ⟨by rfl, ?_⟩) (by assumption) ?_
          rotate_left
          · (intro W hSw; (try dsimp only at hSw); go_simp; try with_reducible rfl)
          simp only [List.getElem_toArray, List.getElem_cons_zero, List.getElem_cons_succ, Act.put, List.setIfInBounds_toArray, List.set_cons_zero, List.set_cons_succ]
          refine wpAnyH_take (i := 5) (v := ?_) rfl (by kernel_rfl) (by kernel_rfl) (by kernel_rfl) (fun _ _ _ h => h) (Or.inl ⟨by rfl, ?_⟩) (by assumption) ?_
          rotate_left
          · (intro W hSw; have hc := (hSw.cell (p := ⟨bw, 0, none⟩) hbw5).trans HA0.out; go_simp; try with_reducible rfl)
          simp only [List.getElem_toArray, List.getElem_cons_zero, List.getElem_cons_succ, Act.put, List.setIfInBounds_toArray, List.set_cons_zero, List.set_cons_succ]
          refine wpAnyH_take (i := 6) (v := ?_) rfl (by kernel_rfl) (by kernel_rfl) (by kernel_rfl) (fun _ _ _ h => h) (Or.inl ⟨by rfl, ?_⟩) (by assumption) ?_
          rotate_left
          · (intro W hSw; (try dsimp only at hSw); go_simp; try with_reducible rfl)
          simp only [List.getElem_toArray, List.getElem_cons_zero, List.getElem_cons_succ, Act.put, List.setIfInBounds_toArray, List.set_cons_zero, List.set_cons_succ]
          refine wpAnyH_take (i := 7) (v := ?_) rfl (by kernel_rfl) (by kernel_rfl) (by kernel_rfl) (fun _ _ _ h => h) (Or.inl ⟨by rfl, ?_⟩) (by assumption) ?_
          rotate_left
          · (intro W hSw; (try dsimp only at hSw); go_simp; try with_reducible rfl)
          simp only [List.getElem_toArray, List.getElem_cons_zero, List.getElem_cons_succ, Act.put, List.setIfInBounds_toArray, List.set_cons_zero, List.set_cons_succ]
          refine wpAnyH_take (i := 8) (v := ?_) rfl (by kernel_rfl) (by kernel_rfl) (by kernel_rfl) (fun _ _ _ h => h) (Or.inl ⟨by rfl, ?_⟩) (by assumption) ?_
          rotate_left
          · (intro W hSw; have hc := CV2.out W hSw; go_simp; try with_reducible rfl)
          simp only [List.getElem_toArray, List.getElem_cons_zero, List.getElem_cons_succ, Act.put, List.setIfInBounds_toArray, List.set_cons_zero, List.set_cons_succ]
          refine wpAnyH_take (i := 9) (v := .bool false) rfl (by kernel_rfl) (by kernel_rfl) (by kernel_rfl) (fun _ _ _ h => h) (Or.inl ⟨by rfl, ?_⟩) (by assumption) ?_
          · (intro W hSw; go_simp)
          simp only [List.getElem_toArray, List.getElem_cons_zero, List.getElem_cons_succ, Act.put, List.setIfInBounds_toArray, List.set_cons_zero, List.set_cons_succ]
          refine wpAnyH_take (i := 10) (v := ?_) rfl (by kernel_rfl) (by kernel_rfl) (by kernel_rfl) (fun _ _ _ h => h) (Or.inl ⟨by rfl, ?_⟩) (by assumption) ?_
          rotate_left
          · (intro W hSw; (try dsimp only at hSw); go_simp; try with_reducible rfl)
          simp only [List.getElem_toArray, List.getElem_cons_zero, List.getElem_cons_succ, Act.put, List.setIfInBounds_toArray, List.set_cons_zero, List.set_cons_succ]
          refine wpAnyH_take (i := 11) (v := ?_) rfl (by kernel_rfl) (by kernel_rfl) (by kernel_rfl) (fun _ _ _ h => h) (Or.inl ⟨by rfl, ?_⟩) (by assumption) ?_
          rotate_left
          · (intro W hSw; (try dsimp only at hSw); go_simp; try with_reducible rfl)
          simp only [List.getElem_toArray, List.getElem_cons_zero, List.getElem_cons_succ, Act.put, List.setIfInBounds_toArray, List.set_cons_zero, List.set_cons_succ]
          refine wpAnyH_take (i := 12) (v := ?_) rfl (by kernel_rfl) (by kernel_rfl) (by kernel_rfl) (fun _ _ _ h => h) (Or.inl ⟨by rfl, ?_⟩) (by assumption) ?_
          rotate_left
          · (intro W hSw; (try dsimp only at hSw); go_simp; try with_reducible rfl)
          simp only [List.getElem_toArray, List.getElem_cons_zero, List.getElem_cons_succ, Act.put, List.setIfInBounds_toArray, List.set_cons_zero, List.set_cons_succ]
          refine wpAnyH_take (i := 13) (v := ?_) rfl (by kernel_rfl) (by kernel_rfl) (by kernel_rfl) (fun _ _ _ h => h) (Or.inl ⟨by rfl, ?_⟩) (by assumption) ?_
          rotate_left
          · (intro W hSw; have hc := (hSw.cell (p := ⟨bn, 2, none⟩) hbn5).trans HB2.out; go_simp; try with_reducible rfl)
          simp only [List.getElem_toArray, List.getElem_cons_zero, List.getElem_cons_succ, Act.put, List.setIfInBounds_toArray, List.set_cons_zero, List.set_cons_succ]
          refine wpAnyH_take (i := 14) (v := ?_) rfl (by kernel_rfl) (by kernel_rfl) (by kernel_rfl) (fun _ _ _ h => h) (Or.inl ⟨by rfl, ?_⟩) (by assumption) ?_
          rotate_left
          · (intro W hSw; (try dsimp only at hSw); go_simp; try with_reducible rfl)
          simp only [List.getElem_toArray, List.getElem_cons_zero, List.getElem_cons_succ, Act.put, List.setIfInBounds_toArray, List.set_cons_zero, List.set_cons_succ]
          refine wpAnyH_take (i := 15) (v := ?_) rfl (by kernel_rfl) (by kernel_rfl) (by kernel_rfl) (fun _ _ _ h => h) (Or.inl ⟨by rfl, ?_⟩) (by assumption) ?_
          rotate_left
          · (intro W hSw; have hc := (hSw.cell (p := ⟨bw, 2, none⟩) hbw5).trans HA2.out; go_simp; try with_reducible rfl)
          simp only [List.getElem_toArray, List.getElem_cons_zero, List.getElem_cons_succ, Act.put, List.setIfInBounds_toArray, List.set_cons_zero, List.set_cons_succ]
          refine wpAnyH_take (i := 16) (v := .int .i64 (n : Int)) rfl (by kernel_rfl) (by kernel_rfl) (by kernel_rfl) (fun _ _ _ h => h) (Or.inl ⟨by rfl, ?_⟩) (by assumption) ?_
          · (intro W hSw; go_simp)
          simp only [List.getElem_toArray, List.getElem_cons_zero, List.getElem_cons_succ, Act.put, List.setIfInBounds_toArray, List.set_cons_zero, List.set_cons_succ]
          refine wpAnyH_take (i := 17) (v := .bool false) rfl (by kernel_rfl) (by kernel_rfl) (by kernel_rfl) (fun _ _ _ h => h) (Or.inl ⟨by rfl, ?_⟩) (by assumption) ?_
          · (intro W hSw; go_simp)
          simp only [List.getElem_toArray, List.getElem_cons_zero, List.getElem_cons_succ, Act.put, List.setIfInBounds_toArray, List.set_cons_zero, List.set_cons_succ]
          refine wpAnyH_take (i := 18) (v := ?_) rfl (by kernel_rfl) (by kernel_rfl) (by kernel_rfl) (fun _ _ _ h => h) (Or.inl ⟨by rfl, ?_⟩) (by assumption) ?_
          rotate_left
          · (intro W hSw; (try dsimp only at hSw); go_simp; try with_reducible rfl)
          simp only [List.getElem_toArray, List.getElem_cons_zero, List.getElem_cons_succ, Act.put, List.setIfInBounds_toArray, List.set_cons_zero, List.set_cons_succ]
          refine wpAnyH_take (i := 19) (v := ?_) rfl (by kernel_rfl) (by kernel_rfl) (by kernel_rfl) (fun _ _ _ h => h) (Or.inl ⟨by rfl, ?_⟩) (by assumption) ?_
          rotate_left
          · (intro W hSw; (try dsimp only at hSw); go_simp; try with_reducible rfl)
          simp only [List.getElem_toArray, List.getElem_cons_zero, List.getElem_cons_succ, Act.put, List.setIfInBounds_toArray, List.set_cons_zero, List.set_cons_succ]
          refine wpAnyH_take (i := 20) (v := ?_) rfl (by kernel_rfl) (by kernel_rfl) (by kernel_rfl) (fun _ _ _ h => h) (Or.inl ⟨by rfl, ?_⟩) (by assumption) ?_
          rotate_left
          · (intro W hSw; (try dsimp only at hSw); go_simp; try with_reducible rfl)
          simp only [List.getElem_toArray, List.getElem_cons_zero, List.getElem_cons_succ, Act.put, List.setIfInBounds_toArray, List.set_cons_zero, List.set_cons_succ]
          refine wpAnyH_take (i := 21) (v := ?_) rfl (by kernel_rfl) (by kernel_rfl) (by kernel_rfl) (fun _ _ _ h => h) (Or.inl ⟨by rfl, ?_⟩) (by assumption) ?_
          rotate_left
          · (intro W hSw; (try dsimp only at hSw); go_simp; try with_reducible rfl)
          simp only [List.getElem_toArray, List.getElem_cons_zero, List.getElem_cons_succ, Act.put, List.setIfInBounds_toArray, List.set_cons_zero, List.set_cons_succ]
          refine wpAnyH_take (i := 22) (v := ?_) rfl (by kernel_rfl) (by kernel_rfl) (by kernel_rfl) (fun _ _ _ h => h) (Or.inl ⟨by rfl, ?_⟩) (by assumption) ?_
          rotate_left
          · (intro W hSw; have hc := (hSw.cell (p := ⟨bn, 3, none⟩) hbn5).trans HB3.out; go_simp; try with_reducible rfl)
          simp only [List.getElem_toArray, List.getElem_cons_zero, List.getElem_cons_succ, Act.put, List.setIfInBounds_toArray, List.set_cons_zero, List.set_cons_succ]
          refine wpAnyH_take (i := 23) (v := .bool false) rfl (by kernel_rfl) (by kernel_rfl) (by kernel_rfl) (fun _ _ _ h => h) (Or.inl ⟨by rfl, ?_⟩) (by assumption) ?_
          · (intro W hSw; go_simp)
          simp only [List.getElem_toArray, List.getElem_cons_zero, List.getElem_cons_succ, Act.put, List.setIfInBounds_toArray, List.set_cons_zero, List.set_cons_succ]
          refine wpAnyH_take (i := 24) (v := ?_) rfl (by kernel_rfl) (by kernel_rfl) (by kernel_rfl) (fun _ _ _ h => h) (Or.inl ⟨by rfl, ?_⟩) (by assumption) ?_
          rotate_left
          · (intro W hSw; (try dsimp only at hSw); go_simp; try with_reducible rfl)
          simp only [List.getElem_toArray, List.getElem_cons_zero, List.getElem_cons_succ, Act.put, List.setIfInBounds_toArray, List.set_cons_zero, List.set_cons_succ]
          refine wpAnyH_take (i := 25) (v := ?_) rfl (by kernel_rfl) (by kernel_rfl) (by kernel_rfl) (fun _ _ _ h => h) (Or.inl ⟨by rfl, ?_⟩) (by assumption) ?_
          rotate_left
          · (intro W hSw; (try dsimp only at hSw); go_simp; try with_reducible rfl)
          simp only [List.getElem_toArray, List.getElem_cons_zero, List.getElem_cons_succ, Act.put, List.setIfInBounds_toArray, List.set_cons_zero, List.set_cons_succ]
          refine wpAnyH_take (i := 26) (v := ?_) rfl (by kernel_rfl) (by kernel_rfl) (by kernel_rfl) (fun _ _ _ h => h) (Or.inl ⟨by rfl, ?_⟩) (by assumption) ?_
          rotate_left
          · (intro W hSw; (try dsimp only at hSw); go_simp; try with_reducible rfl)
          simp only [List.getElem_toArray, List.getElem_cons_zero, List.getElem_cons_succ, Act.put, List.setIfInBounds_toArray, List.set_cons_zero, List.set_cons_succ]
          refine wpAnyH_take (i := 27) (v := ?_) rfl (by kernel_rfl) (by kernel_rfl) (by kernel_rfl) (fun _ _ _ h => h) (Or.inl ⟨by rfl, ?_⟩) (by assumption) ?_
          rotate_left
          · (intro W hSw; (try dsimp only at hSw); go_simp; try with_reducible rfl)
          simp only [List.getElem_toArray, List.getElem_cons_zero, List.getElem_cons_succ, Act.put, List.setIfInBounds_toArray, List.set_cons_zero, List.set_cons_succ]
          refine wpAnyH_take (i := 28) (v := ?_) rfl (by kernel_rfl) (by kernel_rfl) (by kernel_rfl) (fun _ _ _ h => h) (Or.inl ⟨by rfl, ?_⟩) (by assumption) ?_
          rotate_left
          · (intro W hSw; have hc := (hSw.cell (p := ⟨bn, 4, none⟩) hbn5).trans HB4.out; go_simp; try with_reducible rfl)
          simp only [List.getElem_toArray, List.getElem_cons_zero, List.getElem_cons_succ, Act.put, List.setIfInBounds_toArray, List.set_cons_zero, List.set_cons_succ]
          refine wpAnyH_take (i := 29) (v := .bool false) rfl (by kernel_rfl) (by kernel_rfl) (by kernel_rfl) (fun _ _ _ h => h) (Or.inl ⟨by rfl, ?_⟩) (by assumption) ?_
          · (intro W hSw; go_simp)
          simp only [List.getElem_toArray, List.getElem_cons_zero, List.getElem_cons_succ, Act.put, List.setIfInBounds_toArray, List.set_cons_zero, List.set_cons_succ]
          refine wpAnyH_take (i := 30) (v := ?_) rfl (by kernel_rfl) (by kernel_rfl) (by kernel_rfl) (fun _ _ _ h => h) (Or.inl ⟨by rfl, ?_⟩) (by assumption) ?_
          rotate_left
          · (intro W hSw; (try dsimp only at hSw); go_simp; try with_reducible rfl)
          simp only [List.getElem_toArray, List.getElem_cons_zero, List.getElem_cons_succ, Act.put, List.setIfInBounds_toArray, List.set_cons_zero, List.set_cons_succ]
          refine wpAnyH_take (i := 31) (v := ?_) rfl (by kernel_rfl) (by kernel_rfl) (by kernel_rfl) (fun _ _ _ h => h) (Or.inl ⟨by rfl, ?_⟩) (by assumption) ?_
          rotate_left
          · (intro W hSw; (try dsimp only at hSw); go_simp; try with_reducible rfl)
          simp only [List.getElem_toArray, List.getElem_cons_zero, List.getElem_cons_succ, Act.put, List.setIfInBounds_toArray, List.set_cons_zero, List.set_cons_succ]
          refine wpAnyH_take (i := 32) (v := ?_) rfl (by kernel_rfl) (by kernel_rfl) (by kernel_rfl) (fun _ _ _ h => h) (Or.inl ⟨by rfl, ?_⟩) (by assumption) ?_
          rotate_left
          · (intro W hSw; (try dsimp only at hSw); go_simp; try with_reducible rfl)
          simp only [List.getElem_toArray, List.getElem_cons_zero, List.getElem_cons_succ, Act.put, List.setIfInBounds_toArray, List.set_cons_zero, List.set_cons_succ]
          refine wpAnyH_take (i := 34) (v := ?_) rfl (by kernel_rfl) (by kernel_rfl) (by kernel_rfl) (fun _ _ _ h => h) (Or.inl ⟨by rfl, ?_⟩) (by assumption) ?_
          rotate_left
          · (intro W hSw; (try dsimp only at hSw); go_simp; try with_reducible rfl)
          simp only [List.getElem_toArray, List.getElem_cons_zero, List.getElem_cons_succ, Act.put, List.setIfInBounds_toArray, List.set_cons_zero, List.set_cons_succ]
          refine wpAnyH_take (i := 35) (v := ?_) rfl (by kernel_rfl) (by kernel_rfl) (by kernel_rfl) (fun _ _ _ h => h) (Or.inl ⟨by rfl, ?_⟩) (by assumption) ?_
          rotate_left
          · (intro W hSw; have hc := (hSw.cell (p := ⟨bn, 3, none⟩) hbn5).trans HB3.out; go_simp; try with_reducible rfl)
          simp only [List.getElem_toArray, List.getElem_cons_zero, List.getElem_cons_succ, Act.put, List.setIfInBounds_toArray, List.set_cons_zero, List.set_cons_succ]
          refine wpAnyH_ready (rs := [33]) (by kernel_rfl) (by simp) ?_
          refine AllReadyH.cons rfl (fun K hK => ?_) AllReadyH.nil
          go_simp
          refine (HWH.out W4.drew cS).mono ?_
          rintro e W5 ⟨rfl, rfl⟩
          (try go_wp2_with fail)
          refine hK.out _ _ cS (fun hHeld => ?_)
          clear hK K
          try simp only [List.getElem_toArray, List.getElem_cons_zero, List.getElem_cons_succ, Act.put, List.setIfInBounds_toArray, List.set_cons_zero, List.set_cons_succ]
          refine wpAnyH_take (i := 36) (v := .bool false) rfl (by kernel_rfl) (by kernel_rfl) (by kernel_rfl) (fun _ _ _ h => h) (Or.inl ⟨by rfl, ?_⟩) (by assumption) ?_
          · (intro W hSw; go_simp)
          simp only [List.getElem_toArray, List.getElem_cons_zero, List.getElem_cons_succ, Act.put, List.setIfInBounds_toArray, List.set_cons_zero, List.set_cons_succ]
          refine wpAnyH_take (i := 37) (v := ?_) rfl (by kernel_rfl) (by kernel_rfl) (by kernel_rfl) (fun _ _ _ h => h) (Or.inl ⟨by rfl, ?_⟩) (by assumption) ?_
          rotate_left
          · (intro W hSw; (try dsimp only at hSw); go_simp; try with_reducible rfl)
          simp only [List.getElem_toArray, List.getElem_cons_zero, List.getElem_cons_succ, Act.put, List.setIfInBounds_toArray, List.set_cons_zero, List.set_cons_succ]
          refine wpAnyH_take (i := 38) (v := ?_) rfl (by kernel_rfl) (by kernel_rfl) (by kernel_rfl) (fun _ _ _ h => h) (Or.inl ⟨by rfl, ?_⟩) (by assumption) ?_
          rotate_left
          · (intro W hSw; (try dsimp only at hSw); go_simp; try with_reducible rfl)
          simp only [List.getElem_toArray, List.getElem_cons_zero, List.getElem_cons_succ, Act.put, List.setIfInBounds_toArray, List.set_cons_zero, List.set_cons_succ]
          refine wpAnyH_take (i := 39) (v := ?_) rfl (by kernel_rfl) (by kernel_rfl) (by kernel_rfl) (fun _ _ _ h => h) (Or.inl ⟨by rfl, ?_⟩) (by assumption) ?_
          rotate_left
          · (intro W hSw; (try dsimp only at hSw); go_simp; try with_reducible rfl)
          simp only [List.getElem_toArray, List.getElem_cons_zero, List.getElem_cons_succ, Act.put, List.setIfInBounds_toArray, List.set_cons_zero, List.set_cons_succ]
          refine wpAnyH_take (i := 41) (v := ?_) rfl (by kernel_rfl) (by kernel_rfl) (by kernel_rfl) (fun _ _ _ h => h) (Or.inl ⟨by rfl, ?_⟩) (by assumption) ?_
          rotate_left
          · (intro W hSw; (try dsimp only at hSw); go_simp; try with_reducible rfl)
          simp only [List.getElem_toArray, List.getElem_cons_zero, List.getElem_cons_succ, Act.put, List.setIfInBounds_toArray, List.set_cons_zero, List.set_cons_succ]
          refine wpAnyH_take (i := 42) (v := ?_) rfl (by kernel_rfl) (by kernel_rfl) (by kernel_rfl) (fun _ _ _ h => h) (Or.inl ⟨by rfl, ?_⟩) (by assumption) ?_
          rotate_left
          · (intro W hSw; have hc := (hSw.cell (p := ⟨bn, 0, none⟩) hbn5).trans HB0.out; go_simp; try with_reducible rfl)
          simp only [List.getElem_toArray, List.getElem_cons_zero, List.getElem_cons_succ, Act.put, List.setIfInBounds_toArray, List.set_cons_zero, List.set_cons_succ]
          refine wpAnyH_take (i := 43) (v := ?_) rfl (by kernel_rfl) (by kernel_rfl) (by kernel_rfl) (fun _ _ _ h => h) (Or.inl ⟨by rfl, ?_⟩) (by assumption) ?_
          rotate_left
          · (intro W hSw; (try dsimp only at hSw); go_simp; try with_reducible rfl)
          simp only [List.getElem_toArray, List.getElem_cons_zero, List.getElem_cons_succ, Act.put, List.setIfInBounds_toArray, List.set_cons_zero, List.set_cons_succ]
          refine wpAnyH_ready (rs := [40]) (by kernel_rfl) (by simp) ?_
          refine AllReadyH.cons rfl (fun K hK => ?_) AllReadyH.nil
          go_simp
          refine (HGT.out W4.drew cS).mono ?_
          rintro e W5 ⟨rfl, rfl⟩
          (try go_wp2_with fail)
          refine hK.out _ _ cS (fun hHeld => ?_)
          clear hK K
          try simp only [List.getElem_toArray, List.getElem_cons_zero, List.getElem_cons_succ, Act.put, List.setIfInBounds_toArray, List.set_cons_zero, List.set_cons_succ]
          refine wpAnyH_take (i := 44) (v := .bool false) rfl (by kernel_rfl) (by kernel_rfl) (by kernel_rfl) (fun _ _ _ h => h) (Or.inl ⟨by rfl, ?_⟩) (by assumption) ?_
          · (intro W hSw; go_simp)
          simp only [List.getElem_toArray, List.getElem_cons_zero, List.getElem_cons_succ, Act.put, List.setIfInBounds_toArray, List.set_cons_zero, List.set_cons_succ]
          refine wpAnyH_take (i := 45) (v := ?_) rfl (by kernel_rfl) (by kernel_rfl) (by kernel_rfl) (fun _ _ _ h => h) (Or.inl ⟨by rfl, ?_⟩) (by assumption) ?_
          rotate_left
          · (intro W hSw; (try dsimp only at hSw); go_simp; try with_reducible rfl)
          simp only [List.getElem_toArray, List.getElem_cons_zero, List.getElem_cons_succ, Act.put, List.setIfInBounds_toArray, List.set_cons_zero, List.set_cons_succ]
          refine wpAnyH_done (by kernel_rfl) ?_ _
          clear hHeld
          refine NoPanic.normal ?_
          have F6 := hide (F5.out.below HA.out cS)
          generalize W4.drew = W6 at F6 cS ⊢
          have b0 : W6.cell? ⟨bn, 0, none⟩ = some (.slice none 0 0) := (cS.cell (p := ⟨bn, 0, none⟩) hbn5).trans HB0.out
          have b1 : W6.cell? ⟨bn, 1, none⟩ = some (.slice ya yn yc) := (cS.cell (p := ⟨bn, 1, none⟩) hbn5).trans HB1.out
          have b2 : W6.cell? ⟨bn, 2, none⟩ = some (.int .i64 (Nn : Int)) := (cS.cell (p := ⟨bn, 2, none⟩) hbn5).trans HB2.out
          have b3 : W6.cell? ⟨bn, 3, none⟩ = some (.bool wh) := (cS.cell (p := ⟨bn, 3, none⟩) hbn5).trans HB3.out
          have b4 : W6.cell? ⟨bn, 4, none⟩ = some (.int .i64 (E : Int)) := (cS.cell (p := ⟨bn, 4, none⟩) hbn5).trans HB4.out
          have a0 : W6.cell? ⟨bw, 0, none⟩ = some (.slice oa 0 oc) := F6.out.cell 0
          have f0 : W6.frozen? ⟨bw, 0, none⟩ = false := F6.out.froz 0
          have a1 : W6.cell? ⟨bw, 1, none⟩ = some (.slice ta tn tc) := F6.out.cell 1
          have f1 : W6.frozen? ⟨bw, 1, none⟩ = false := F6.out.froz 1
          have a2 : W6.cell? ⟨bw, 2, none⟩ = some (.int .i64 (n0 : Int)) := F6.out.cell 2
          have f2 : W6.frozen? ⟨bw, 2, none⟩ = false := F6.out.froz 2
          have a3 : W6.cell? ⟨bw, 3, none⟩ = some (.bool bh) := F6.out.cell 3
          have f3 : W6.frozen? ⟨bw, 3, none⟩ = false := F6.out.froz 3
          have a4 : W6.cell? ⟨bw, 4, none⟩ = some (.int .i64 ee) := F6.out.cell 4
          have f4 : W6.frozen? ⟨bw, 4, none⟩ = false := F6.out.froz 4
          clear cS BD F5
          go_wp2_with fail
          have G0 : Hid (LS W0 (W6.setCell ⟨bw, 0, none⟩ (.slice none 0 0)) W0.heap.size gr P bw M' (.slice na nn nc) (all ++ b) (all ++ b) #[.slice none 0 0, .slice ta tn tc, .int .i64 (n0 : Int), .bool bh, .int .i64 ee]) := hide (F6.out.set HA.out 0 (.slice none 0 0))
          have G1 : Hid (LS W0 ((W6.setCell ⟨bw, 0, none⟩ (.slice none 0 0)).setCell ⟨bw, 1, none⟩ (.slice ya yn yc)) W0.heap.size gr P bw M' (.slice na nn nc) (all ++ b) (all ++ b) #[.slice none 0 0, .slice ya yn yc, .int .i64 (n0 : Int), .bool bh, .int .i64 ee]) := hide (G0.out.set HA.out 1 (.slice ya yn yc))
          have G2 : Hid (LS W0 (((W6.setCell ⟨bw, 0, none⟩ (.slice none 0 0)).setCell ⟨bw, 1, none⟩ (.slice ya yn yc)).setCell ⟨bw, 2, none⟩ (.int .i64 (Nn : Int))) W0.heap.size gr P bw M' (.slice na nn nc) (all ++ b) (all ++ b) #[.slice none 0 0, .slice ya yn yc, .int .i64 (Nn : Int), .bool bh, .int .i64 ee]) := hide (G1.out.set HA.out 2 (.int .i64 (Nn : Int)))
          have G3 : Hid (LS W0 ((((W6.setCell ⟨bw, 0, none⟩ (.slice none 0 0)).setCell ⟨bw, 1, none⟩ (.slice ya yn yc)).setCell ⟨bw, 2, none⟩ (.int .i64 (Nn : Int))).setCell ⟨bw, 3, none⟩ (.bool wh)) W0.heap.size gr P bw M' (.slice na nn nc) (all ++ b) (all ++ b) #[.slice none 0 0, .slice ya yn yc, .int .i64 (Nn : Int), .bool wh, .int .i64 ee]) := hide (G2.out.set HA.out 3 (.bool wh))
          have G4 : Hid (LS W0 (((((W6.setCell ⟨bw, 0, none⟩ (.slice none 0 0)).setCell ⟨bw, 1, none⟩ (.slice ya yn yc)).setCell ⟨bw, 2, none⟩ (.int .i64 (Nn : Int))).setCell ⟨bw, 3, none⟩ (.bool wh)).setCell ⟨bw, 4, none⟩ (.int .i64 (E : Int))) W0.heap.size gr P bw M' (.slice na nn nc) (all ++ b) (all ++ b) #[.slice none 0 0, .slice ya yn yc, .int .i64 (Nn : Int), .bool wh, .int .i64 (E : Int)]) := hide (G3.out.set HA.out 4 (.int .i64 (E : Int)))
          clear F6 G0 G1 G2 G3 b0 a0 f0 b1 a1 f1 b2 a2 f2 b3 a3 f3 b4 a4 f4
          generalize (((((W6.setCell ⟨bw, 0, none⟩ (.slice none 0 0)).setCell ⟨bw, 1, none⟩ (.slice ya yn yc)).setCell ⟨bw, 2, none⟩ (.int .i64 (Nn : Int))).setCell ⟨bw, 3, none⟩ (.bool wh)).setCell ⟨bw, 4, none⟩ (.int .i64 (E : Int))) = W9 at G4 ⊢
          have GX : Hid (LS W0 W9 W0.heap.size gr P bw M' (.slice na nn nc) (all ++ b) (all ++ b) #[.slice none (B.O (all ++ b)).length 0, .slice ya yn yc, .int .i64 ((B.N (all ++ b) : Nat) : Int), .bool wh, .int .i64 (E : Int)]) := hide (by rw [HO.out, HNn.out]; exact G4.out)
          clear G4
          go_wp2_with fail
          exact ⟨⟨q + 1, all ++ b, na, nn, nc, M', _, _, ya, yn, yc, wh, (E : Int), by omega, rfl, by go_num, HAL2, GX⟩, by simp [intOf]; omega⟩
        · by_cases hxp : xc = on0
          · have CV2 : Hid (∀ W, Below W4.heap.size W4 W → (convert 31 9 (.slice (some ⟨gx, 0, none⟩) (o.length - on0) 0)).run Tryd.prog W = .ok (.string ⟨ob.toArray⟩) W) := hide (fun W h => by
              have hxc2 := hxc
              have e : ob = [] := List.eq_nil_of_length_eq_zero (by have := HOL2.out; omega)
              subst e
              have e2 : o.length - on0 = 0 := by omega
              rw [e2]
              exact run_convert_bytes_back W 31 9 5 ⟨gx, 0, none⟩ _ [] Tryd.underlying31 Tryd.underlying5 Tryd.underlying9 (fun j hj => by simp at hj))
            generalize (⟨ob.toArray⟩ : ByteArray) = so at CV1 CV2
            have BD := hide ((Below.refl W4.heap.size W4).drew)
            have cS : Below W4.heap.size W4 W4.drew := BD.out
            refine wp_region_noPanic ?_
            refine wp_region_held_drew (S := fun W => Below W4.heap.size W4 W) (by kernel_rfl) cS (fun hHeld => ?_)
            refine wpAnyH_take (i := 0) (v := ?_) rfl (by kernel_rfl) (by kernel_rfl) (by kernel_rfl) (fun _ _ _ h => h) (Or.inl ⟨by rfl, ?_⟩) (by assumption) ?_
            rotate_left
            · (intro W hSw; (try dsimp only at hSw); go_simp; try with_reducible rfl)
            simp only [List.getElem_toArray, List.getElem_cons_zero, Act.put, List.setIfInBounds_toArray, List.set_cons_zero, List.set_cons_succ]
            refine wpAnyH_take (i := 1) (v := ?_) rfl (by kernel_rfl) (by kernel_rfl) (by kernel_rfl) (fun _ _ _ h => h) (Or.inl ⟨by rfl, ?_⟩) (by assumption) ?_
            rotate_left
            · (intro W hSw; have hc := CV1.out W hSw; go_simp; try with_reducible rfl)
            simp only [List.getElem_toArray, List.getElem_cons_zero, List.getElem_cons_succ, Act.put, List.setIfInBounds_toArray, List.set_cons_zero, List.set_cons_succ]
            refine wpAnyH_take (i := 2) (v := ?_) rfl (by kernel_rfl) (by kernel_rfl) (by kernel_rfl) (fun _ _ _ h => h) (Or.inl ⟨by rfl, ?_⟩) (by assumption) ?_
            rotate_left
            · (intro W hSw; (try dsimp only at hSw); go_simp; try with_reducible rfl)
            simp only [List.getElem_toArray, List.getElem_cons_zero, List.getElem_cons_succ, Act.put, List.setIfInBounds_toArray, List.set_cons_zero, List.set_cons_succ]
            refine wpAnyH_take (i := 3) (v := ?_) rfl (by kernel_rfl) (by kernel_rfl) (by kernel_rfl) (fun _ _ _ h => h) (Or.inl ⟨by rfl, ?_⟩) (by assumption) ?_
            rotate_left
            · (intro W hSw; have hc := (hSw.cell (p := ⟨bn, 0, none⟩) hbn5).trans HB0.out; go_simp; try with_reducible rfl)
            simp only [List.getElem_toArray, List.getElem_cons_zero, List.getElem_cons_succ, Act.put, List.setIfInBounds_toArray, List.set_cons_zero, List.set_cons_succ]
            refine wpAnyH_take (i := 4) (v := ?_) rfl (by kernel_rfl) (by kernel_rfl) (by kernel_rfl) (fun _ _ _ h => h) (Or.inl ⟨by rfl, ?_⟩) (by assumption) ?_
            rotate_left
            · (intro W hSw; (try dsimp only at hSw); go_simp; try with_reducible rfl)
            simp only [List.getElem_toArray, List.getElem_cons_zero, List.getElem_cons_succ, Act.put, List.setIfInBounds_toArray, List.set_cons_zero, List.set_cons_succ]
            refine wpAnyH_take (i := 5) (v := ?_) rfl (by kernel_rfl) (by kernel_rfl) (by kernel_rfl) (fun _ _ _ h => h) (Or.inl ⟨by rfl, ?_⟩) (by assumption) ?_
            rotate_left
            · (intro W hSw; have hc := (hSw.cell (p := ⟨bw, 0, none⟩) hbw5).trans HA0.out; go_simp; try with_reducible rfl)
            simp only [List.getElem_toArray, List.getElem_cons_zero, List.getElem_cons_succ, Act.put, List.setIfInBounds_toArray, List.set_cons_zero, List.set_cons_succ]
            refine wpAnyH_take (i := 6) (v := ?_) rfl (by kernel_rfl) (by kernel_rfl) (by kernel_rfl) (fun _ _ _ h => h) (Or.inl ⟨by rfl, ?_⟩) (by assumption) ?_
            rotate_left
            · (intro W hSw; (try dsimp only at hSw); go_simp; try with_reducible rfl)
            simp only [List.getElem_toArray, List.getElem_cons_zero, List.getElem_cons_succ, Act.put, List.setIfInBounds_toArray, List.set_cons_zero, List.set_cons_succ]
            refine wpAnyH_take (i := 7) (v := ?_) rfl (by kernel_rfl) (by kernel_rfl) (by kernel_rfl) (fun _ _ _ h => h) (Or.inl ⟨by rfl, ?_⟩) (by assumption) ?_
            rotate_left
            · (intro W hSw; (try dsimp only at hSw); go_simp; try with_reducible rfl)
            simp only [List.getElem_toArray, List.getElem_cons_zero, List.getElem_cons_succ, Act.put, List.setIfInBounds_toArray, List.set_cons_zero, List.set_cons_succ]
            refine wpAnyH_take (i := 8) (v := ?_) rfl (by kernel_rfl) (by kernel_rfl) (by kernel_rfl) (fun _ _ _ h => h) (Or.inl ⟨by rfl, ?_⟩) (by assumption) ?_
            rotate_left
            · (intro W hSw; have hc := CV2.out W hSw; go_simp; try with_reducible rfl)
            simp only [List.getElem_toArray, List.getElem_cons_zero, List.getElem_cons_succ, Act.put, List.setIfInBounds_toArray, List.set_cons_zero, List.set_cons_succ]
            refine wpAnyH_take (i := 9) (v := .bool false) rfl (by kernel_rfl) (by kernel_rfl) (by kernel_rfl) (fun _ _ _ h => h) (Or.inl ⟨by rfl, ?_⟩) (by assumption) ?_
            · (intro W hSw; go_simp)
            simp only [List.getElem_toArray, List.getElem_cons_zero, List.getElem_cons_succ, Act.put, List.setIfInBounds_toArray, List.set_cons_zero, List.set_cons_succ]
            refine wpAnyH_take (i := 10) (v := ?_) rfl (by kernel_rfl) (by kernel_rfl) (by kernel_rfl) (fun _ _ _ h => h) (Or.inl ⟨by rfl, ?_⟩) (by assumption) ?_
            rotate_left
            · (intro W hSw; (try dsimp only at hSw); go_simp; try with_reducible rfl)
            simp only [List.getElem_toArray, List.getElem_cons_zero, List.getElem_cons_succ, Act.put, List.setIfInBounds_toArray, List.set_cons_zero, List.set_cons_succ]
            refine wpAnyH_take (i := 11) (v := ?_) rfl (by kernel_rfl) (by kernel_rfl) (by kernel_rfl) (fun _ _ _ h => h) (Or.inl ⟨by rfl, ?_⟩) (by assumption) ?_
            rotate_left
            · (intro W hSw; (try dsimp only at hSw); go_simp; try with_reducible rfl)
            simp only [List.getElem_toArray, List.getElem_cons_zero, List.getElem_cons_succ, Act.put, List.setIfInBounds_toArray, List.set_cons_zero, List.set_cons_succ]
            refine wpAnyH_take (i := 12) (v := ?_) rfl (by kernel_rfl) (by kernel_rfl) (by kernel_rfl) (fun _ _ _ h => h) (Or.inl ⟨by rfl, ?_⟩) (by assumption) ?_
            rotate_left
            · (intro W hSw; (try dsimp only at hSw); go_simp; try with_reducible rfl)
            simp only [List.getElem_toArray, List.getElem_cons_zero, List.getElem_cons_succ, Act.put, List.setIfInBounds_toArray, List.set_cons_zero, List.set_cons_succ]
            refine wpAnyH_take (i := 13) (v := ?_) rfl (by kernel_rfl) (by kernel_rfl) (by kernel_rfl) (fun _ _ _ h => h) (Or.inl ⟨by rfl, ?_⟩) (by assumption) ?_
            rotate_left
            · (intro W hSw; have hc := (hSw.cell (p := ⟨bn, 2, none⟩) hbn5).trans HB2.out; go_simp; try with_reducible rfl)
            simp only [List.getElem_toArray, List.getElem_cons_zero, List.getElem_cons_succ, Act.put, List.setIfInBounds_toArray, List.set_cons_zero, List.set_cons_succ]
            refine wpAnyH_take (i := 14) (v := ?_) rfl (by kernel_rfl) (by kernel_rfl) (by kernel_rfl) (fun _ _ _ h => h) (Or.inl ⟨by rfl, ?_⟩) (by assumption) ?_
            rotate_left
            · (intro W hSw; (try dsimp only at hSw); go_simp; try with_reducible rfl)
            simp only [List.getElem_toArray, List.getElem_cons_zero, List.getElem_cons_succ, Act.put, List.setIfInBounds_toArray, List.set_cons_zero, List.set_cons_succ]
            refine wpAnyH_take (i := 15) (v := ?_) rfl (by kernel_rfl) (by kernel_rfl) (by kernel_rfl) (fun _ _ _ h => h) (Or.inl ⟨by rfl, ?_⟩) (by assumption) ?_
            rotate_left
            · (intro W hSw; have hc := (hSw.cell (p := ⟨bw, 2, none⟩) hbw5).trans HA2.out; go_simp; try with_reducible rfl)
            simp only [List.getElem_toArray, List.getElem_cons_zero, List.getElem_cons_succ, Act.put, List.setIfInBounds_toArray, List.set_cons_zero, List.set_cons_succ]
            refine wpAnyH_take (i := 16) (v := .int .i64 (n : Int)) rfl (by kernel_rfl) (by kernel_rfl) (by kernel_rfl) (fun _ _ _ h => h) (Or.inl ⟨by rfl, ?_⟩) (by assumption) ?_
            · (intro W hSw; go_simp)
            simp only [List.getElem_toArray, List.getElem_cons_zero, List.getElem_cons_succ, Act.put, List.setIfInBounds_toArray, List.set_cons_zero, List.set_cons_succ]
            refine wpAnyH_take (i := 17) (v := .bool false) rfl (by kernel_rfl) (by kernel_rfl) (by kernel_rfl) (fun _ _ _ h => h) (Or.inl ⟨by rfl, ?_⟩) (by assumption) ?_
            · (intro W hSw; go_simp)
            simp only [List.getElem_toArray, List.getElem_cons_zero, List.getElem_cons_succ, Act.put, List.setIfInBounds_toArray, List.set_cons_zero, List.set_cons_succ]
            refine wpAnyH_take (i := 18) (v := ?_) rfl (by kernel_rfl) (by kernel_rfl) (by kernel_rfl) (fun _ _ _ h => h) (Or.inl ⟨by rfl, ?_⟩) (by assumption) ?_
            rotate_left
            · (intro W hSw; (try dsimp only at hSw); go_simp; try with_reducible rfl)
            simp only [List.getElem_toArray, List.getElem_cons_zero, List.getElem_cons_succ, Act.put, List.setIfInBounds_toArray, List.set_cons_zero, List.set_cons_succ]
            refine wpAnyH_take (i := 19) (v := ?_) rfl (by kernel_rfl) (by kernel_rfl) (by kernel_rfl) (fun _ _ _ h => h) (Or.inl ⟨by rfl, ?_⟩) (by assumption) ?_
            rotate_left
            · (intro W hSw; (try dsimp only at hSw); go_simp; try with_reducible rfl)
            simp only [List.getElem_toArray, List.getElem_cons_zero, List.getElem_cons_succ, Act.put, List.setIfInBounds_toArray, List.set_cons_zero, List.set_cons_succ]
            refine wpAnyH_take (i := 20) (v := ?_) rfl (by kernel_rfl) (by kernel_rfl) (by kernel_rfl) (fun _ _ _ h => h) (Or.inl ⟨by rfl, ?_⟩) (by assumption) ?_
            rotate_left
            · (intro W hSw; (try dsimp only at hSw); go_simp; try with_reducible rfl)
            simp only [List.getElem_toArray, List.getElem_cons_zero, List.getElem_cons_succ, Act.put, List.setIfInBounds_toArray, List.set_cons_zero, List.set_cons_succ]
            refine wpAnyH_take (i := 21) (v := ?_) rfl (by kernel_rfl) (by kernel_rfl) (by kernel_rfl) (fun _ _ _ h => h) (Or.inl ⟨by rfl, ?_⟩) (by assumption) ?_
            rotate_left
            · (intro W hSw; (try dsimp only at hSw); go_simp; try with_reducible rfl)
            simp only [List.getElem_toArray, List.getElem_cons_zero, List.getElem_cons_succ, Act.put, List.setIfInBounds_toArray, List.set_cons_zero, List.set_cons_succ]
            refine wpAnyH_take (i := 22) (v := ?_) rfl (by kernel_rfl) (by kernel_rfl) (by kernel_rfl) (fun _ _ _ h => h) (Or.inl ⟨by rfl, ?_⟩) (by assumption) ?_
            rotate_left
            · (intro W hSw; have hc := (hSw.cell (p := ⟨bn, 3, none⟩) hbn5).trans HB3.out; go_simp; try with_reducible rfl)
            simp only [List.getElem_toArray, List.getElem_cons_zero, List.getElem_cons_succ, Act.put, List.setIfInBounds_toArray, List.set_cons_zero, List.set_cons_succ]
            refine wpAnyH_take (i := 23) (v := .bool false) rfl (by kernel_rfl) (by kernel_rfl) (by kernel_rfl) (fun _ _ _ h => h) (Or.inl ⟨by rfl, ?_⟩) (by assumption) ?_
            · (intro W hSw; go_simp)
            simp only [List.getElem_toArray, List.getElem_cons_zero, List.getElem_cons_succ, Act.put, List.setIfInBounds_toArray, List.set_cons_zero, List.set_cons_succ]
            refine wpAnyH_take (i := 24) (v := ?_) rfl (by kernel_rfl) (by kernel_rfl) (by kernel_rfl) (fun _ _ _ h => h) (Or.inl ⟨by rfl, ?_⟩) (by assumption) ?_
            rotate_left
            · (intro W hSw; (try dsimp only at hSw); go_simp; try with_reducible rfl)
            simp only [List.getElem_toArray, List.getElem_cons_zero, List.getElem_cons_succ, Act.put, List.setIfInBounds_toArray, List.set_cons_zero, List.set_cons_succ]
            refine wpAnyH_take (i := 25) (v := ?_) rfl (by kernel_rfl) (by kernel_rfl) (by kernel_rfl) (fun _ _ _ h => h) (Or.inl ⟨by rfl, ?_⟩) (by assumption) ?_
            rotate_left
            · (intro W hSw; (try dsimp only at hSw); go_simp; try with_reducible rfl)
            simp only [List.getElem_toArray, List.getElem_cons_zero, List.getElem_cons_succ, Act.put, List.setIfInBounds_toArray, List.set_cons_zero, List.set_cons_succ]
            refine wpAnyH_take (i := 26) (v := ?_) rfl (by kernel_rfl) (by kernel_rfl) (by kernel_rfl) (fun _ _ _ h => h) (Or.inl ⟨by rfl, ?_⟩) (by assumption) ?_
            rotate_left
            · (intro W hSw; (try dsimp only at hSw); go_simp; try with_reducible rfl)
            simp only [List.getElem_toArray, List.getElem_cons_zero, List.getElem_cons_succ, Act.put, List.setIfInBounds_toArray, List.set_cons_zero, List.set_cons_succ]
            refine wpAnyH_take (i := 27) (v := ?_) rfl (by kernel_rfl) (by kernel_rfl) (by kernel_rfl) (fun _ _ _ h => h) (Or.inl ⟨by rfl, ?_⟩) (by assumption) ?_
            rotate_left
            · (intro W hSw; (try dsimp only at hSw); go_simp; try with_reducible rfl)
            simp only [List.getElem_toArray, List.getElem_cons_zero, List.getElem_cons_succ, Act.put, List.setIfInBounds_toArray, List.set_cons_zero, List.set_cons_succ]
            refine wpAnyH_take (i := 28) (v := ?_) rfl (by kernel_rfl) (by kernel_rfl) (by kernel_rfl) (fun _ _ _ h => h) (Or.inl ⟨by rfl, ?_⟩) (by assumption) ?_
            rotate_left
            · (intro W hSw; have hc := (hSw.cell (p := ⟨bn, 4, none⟩) hbn5).trans HB4.out; go_simp; try with_reducible rfl)
            simp only [List.getElem_toArray, List.getElem_cons_zero, List.getElem_cons_succ, Act.put, List.setIfInBounds_toArray, List.set_cons_zero, List.set_cons_succ]
            refine wpAnyH_take (i := 29) (v := .bool false) rfl (by kernel_rfl) (by kernel_rfl) (by kernel_rfl) (fun _ _ _ h => h) (Or.inl ⟨by rfl, ?_⟩) (by assumption) ?_
            · (intro W hSw; go_simp)
            simp only [List.getElem_toArray, List.getElem_cons_zero, List.getElem_cons_succ, Act.put, List.setIfInBounds_toArray, List.set_cons_zero, List.set_cons_succ]
            refine wpAnyH_take (i := 30) (v := ?_) rfl (by kernel_rfl) (by kernel_rfl) (by kernel_rfl) (fun _ _ _ h => h) (Or.inl ⟨by rfl, ?_⟩) (by assumption) ?_
            rotate_left
            · (intro W hSw; (try dsimp only at hSw); go_simp; try with_reducible rfl)
            simp only [List.getElem_toArray, List.getElem_cons_zero, List.getElem_cons_succ, Act.put, List.setIfInBounds_toArray, List.set_cons_zero, List.set_cons_succ]
            refine wpAnyH_take (i := 31) (v := ?_) rfl (by kernel_rfl) (by kernel_rfl) (by kernel_rfl) (fun _ _ _ h => h) (Or.inl ⟨by rfl, ?_⟩) (by assumption) ?_
            rotate_left
            · (intro W hSw; (try dsimp only at hSw); go_simp; try with_reducible rfl)
            simp only [List.getElem_toArray, List.getElem_cons_zero, List.getElem_cons_succ, Act.put, List.setIfInBounds_toArray, List.set_cons_zero, List.set_cons_succ]
            refine wpAnyH_take (i := 32) (v := ?_) rfl (by kernel_rfl) (by kernel_rfl) (by kernel_rfl) (fun _ _ _ h => h) (Or.inl ⟨by rfl, ?_⟩) (by assumption) ?_
            rotate_left
            · (intro W hSw; (try dsimp only at hSw); go_simp; try with_reducible rfl)
            simp only [List.getElem_toArray, List.getElem_cons_zero, List.getElem_cons_succ, Act.put, List.setIfInBounds_toArray, List.set_cons_zero, List.set_cons_succ]
            refine wpAnyH_take (i := 34) (v := ?_) rfl (by kernel_rfl) (by kernel_rfl) (by kernel_rfl) (fun _ _ _ h => h) (Or.inl ⟨by rfl, ?_⟩) (by assumption) ?_
            rotate_left
            · (intro W hSw; (try dsimp only at hSw); go_simp; try with_reducible rfl)
            simp only [List.getElem_toArray, List.getElem_cons_zero, List.getElem_cons_succ, Act.put, List.setIfInBounds_toArray, List.set_cons_zero, List.set_cons_succ]
            refine wpAnyH_take (i := 35) (v := ?_) rfl (by kernel_rfl) (by kernel_rfl) (by kernel_rfl) (fun _ _ _ h => h) (Or.inl ⟨by rfl, ?_⟩) (by assumption) ?_
            rotate_left
            · (intro W hSw; have hc := (hSw.cell (p := ⟨bn, 3, none⟩) hbn5).trans HB3.out; go_simp; try with_reducible rfl)
            simp only [List.getElem_toArray, List.getElem_cons_zero, List.getElem_cons_succ, Act.put, List.setIfInBounds_toArray, List.set_cons_zero, List.set_cons_succ]
            refine wpAnyH_ready (rs := [33]) (by kernel_rfl) (by simp) ?_
            refine AllReadyH.cons rfl (fun K hK => ?_) AllReadyH.nil
            go_simp
            refine (HWH.out W4.drew cS).mono ?_
            rintro e W5 ⟨rfl, rfl⟩
            (try go_wp2_with fail)
            refine hK.out _ _ cS (fun hHeld => ?_)
            clear hK K
            try simp only [List.getElem_toArray, List.getElem_cons_zero, List.getElem_cons_succ, Act.put, List.setIfInBounds_toArray, List.set_cons_zero, List.set_cons_succ]
            refine wpAnyH_take (i := 36) (v := .bool false) rfl (by kernel_rfl) (by kernel_rfl) (by kernel_rfl) (fun _ _ _ h => h) (Or.inl ⟨by rfl, ?_⟩) (by assumption) ?_
            · (intro W hSw; go_simp)
            simp only [List.getElem_toArray, List.getElem_cons_zero, List.getElem_cons_succ, Act.put, List.setIfInBounds_toArray, List.set_cons_zero, List.set_cons_succ]
            refine wpAnyH_take (i := 37) (v := ?_) rfl (by kernel_rfl) (by kernel_rfl) (by kernel_rfl) (fun _ _ _ h => h) (Or.inl ⟨by rfl, ?_⟩) (by assumption) ?_
            rotate_left
            · (intro W hSw; (try dsimp only at hSw); go_simp; try with_reducible rfl)
            simp only [List.getElem_toArray, List.getElem_cons_zero, List.getElem_cons_succ, Act.put, List.setIfInBounds_toArray, List.set_cons_zero, List.set_cons_succ]
            refine wpAnyH_take (i := 38) (v := ?_) rfl (by kernel_rfl) (by kernel_rfl) (by kernel_rfl) (fun _ _ _ h => h) (Or.inl ⟨by rfl, ?_⟩) (by assumption) ?_
            rotate_left
            · (intro W hSw; (try dsimp only at hSw); go_simp; try with_reducible rfl)
            simp only [List.getElem_toArray, List.getElem_cons_zero, List.getElem_cons_succ, Act.put, List.setIfInBounds_toArray, List.set_cons_zero, List.set_cons_succ]
            refine wpAnyH_take (i := 39) (v := ?_) rfl (by kernel_rfl) (by kernel_rfl) (by kernel_rfl) (fun _ _ _ h => h) (Or.inl ⟨by rfl, ?_⟩) (by assumption) ?_
            rotate_left
            · (intro W hSw; (try dsimp only at hSw); go_simp; try with_reducible rfl)
            simp only [List.getElem_toArray, List.getElem_cons_zero, List.getElem_cons_succ, Act.put, List.setIfInBounds_toArray, List.set_cons_zero, List.set_cons_succ]
            refine wpAnyH_take (i := 41) (v := ?_) rfl (by kernel_rfl) (by kernel_rfl) (by kernel_rfl) (fun _ _ _ h => h) (Or.inl ⟨by rfl, ?_⟩) (by assumption) ?_
            rotate_left
            · (intro W hSw; (try dsimp only at hSw); go_simp; try with_reducible rfl)
            simp only [List.getElem_toArray, List.getElem_cons_zero, List.getElem_cons_succ, Act.put, List.setIfInBounds_toArray, List.set_cons_zero, List.set_cons_succ]
            refine wpAnyH_take (i := 42) (v := ?_) rfl (by kernel_rfl) (by kernel_rfl) (by kernel_rfl) (fun _ _ _ h => h) (Or.inl ⟨by rfl, ?_⟩) (by assumption) ?_
            rotate_left
            · (intro W hSw; have hc := (hSw.cell (p := ⟨bn, 0, none⟩) hbn5).trans HB0.out; go_simp; try with_reducible rfl)
            simp only [List.getElem_toArray, List.getElem_cons_zero, List.getElem_cons_succ, Act.put, List.setIfInBounds_toArray, List.set_cons_zero, List.set_cons_succ]
            refine wpAnyH_take (i := 43) (v := ?_) rfl (by kernel_rfl) (by kernel_rfl) (by kernel_rfl) (fun _ _ _ h => h) (Or.inl ⟨by rfl, ?_⟩) (by assumption) ?_
            rotate_left
            · (intro W hSw; (try dsimp only at hSw); go_simp; try with_reducible rfl)
            simp only [List.getElem_toArray, List.getElem_cons_zero, List.getElem_cons_succ, Act.put, List.setIfInBounds_toArray, List.set_cons_zero, List.set_cons_succ]
            refine wpAnyH_ready (rs := [40]) (by kernel_rfl) (by simp) ?_
            refine AllReadyH.cons rfl (fun K hK => ?_) AllReadyH.nil
            go_simp
            refine (HGT.out W4.drew cS).mono ?_
            rintro e W5 ⟨rfl, rfl⟩
            (try go_wp2_with fail)
            refine hK.out _ _ cS (fun hHeld => ?_)
            clear hK K
            try simp only [List.getElem_toArray, List.getElem_cons_zero, List.getElem_cons_succ, Act.put, List.setIfInBounds_toArray, List.set_cons_zero, List.set_cons_succ]
            refine wpAnyH_take (i := 44) (v := .bool false) rfl (by kernel_rfl) (by kernel_rfl) (by kernel_rfl) (fun _ _ _ h => h) (Or.inl ⟨by rfl, ?_⟩) (by assumption) ?_
            · (intro W hSw; go_simp)
            simp only [List.getElem_toArray, List.getElem_cons_zero, List.getElem_cons_succ, Act.put, List.setIfInBounds_toArray, List.set_cons_zero, List.set_cons_succ]
            refine wpAnyH_take (i := 45) (v := ?_) rfl (by kernel_rfl) (by kernel_rfl) (by kernel_rfl) (fun _ _ _ h => h) (Or.inl ⟨by rfl, ?_⟩) (by assumption) ?_
            rotate_left
            · (intro W hSw; (try dsimp only at hSw); go_simp; try with_reducible rfl)
            simp only [List.getElem_toArray, List.getElem_cons_zero, List.getElem_cons_succ, Act.put, List.setIfInBounds_toArray, List.set_cons_zero, List.set_cons_succ]
            refine wpAnyH_done (by kernel_rfl) ?_ _
            clear hHeld
            clear hxp
            refine NoPanic.normal ?_
            have F6 := hide (F5.out.below HA.out cS)
            generalize W4.drew = W6 at F6 cS ⊢
            have b0 : W6.cell? ⟨bn, 0, none⟩ = some (.slice (some ⟨gx, 0, none⟩) o.length xc) := (cS.cell (p := ⟨bn, 0, none⟩) hbn5).trans HB0.out
            have b1 : W6.cell? ⟨bn, 1, none⟩ = some (.slice ya yn yc) := (cS.cell (p := ⟨bn, 1, none⟩) hbn5).trans HB1.out
            have b2 : W6.cell? ⟨bn, 2, none⟩ = some (.int .i64 (Nn : Int)) := (cS.cell (p := ⟨bn, 2, none⟩) hbn5).trans HB2.out
            have b3 : W6.cell? ⟨bn, 3, none⟩ = some (.bool wh) := (cS.cell (p := ⟨bn, 3, none⟩) hbn5).trans HB3.out
            have b4 : W6.cell? ⟨bn, 4, none⟩ = some (.int .i64 (E : Int)) := (cS.cell (p := ⟨bn, 4, none⟩) hbn5).trans HB4.out
            have a0 : W6.cell? ⟨bw, 0, none⟩ = some (.slice oa on0 oc) := F6.out.cell 0
            have f0 : W6.frozen? ⟨bw, 0, none⟩ = false := F6.out.froz 0
            have a1 : W6.cell? ⟨bw, 1, none⟩ = some (.slice ta tn tc) := F6.out.cell 1
            have f1 : W6.frozen? ⟨bw, 1, none⟩ = false := F6.out.froz 1
            have a2 : W6.cell? ⟨bw, 2, none⟩ = some (.int .i64 (n0 : Int)) := F6.out.cell 2
            have f2 : W6.frozen? ⟨bw, 2, none⟩ = false := F6.out.froz 2
            have a3 : W6.cell? ⟨bw, 3, none⟩ = some (.bool bh) := F6.out.cell 3
            have f3 : W6.frozen? ⟨bw, 3, none⟩ = false := F6.out.froz 3
            have a4 : W6.cell? ⟨bw, 4, none⟩ = some (.int .i64 ee) := F6.out.cell 4
            have f4 : W6.frozen? ⟨bw, 4, none⟩ = false := F6.out.froz 4
            clear cS BD F5
            go_wp2_with fail
            have G0 : Hid (LS W0 (W6.setCell ⟨bw, 0, none⟩ (.slice (some ⟨gx, 0, none⟩) o.length xc)) W0.heap.size gr P bw M' (.slice na nn nc) (all ++ b) (all ++ b) #[.slice (some ⟨gx, 0, none⟩) o.length xc, .slice ta tn tc, .int .i64 (n0 : Int), .bool bh, .int .i64 ee]) := hide (F6.out.set HA.out 0 (.slice (some ⟨gx, 0, none⟩) o.length xc))
            have G1 : Hid (LS W0 ((W6.setCell ⟨bw, 0, none⟩ (.slice (some ⟨gx, 0, none⟩) o.length xc)).setCell ⟨bw, 1, none⟩ (.slice ya yn yc)) W0.heap.size gr P bw M' (.slice na nn nc) (all ++ b) (all ++ b) #[.slice (some ⟨gx, 0, none⟩) o.length xc, .slice ya yn yc, .int .i64 (n0 : Int), .bool bh, .int .i64 ee]) := hide (G0.out.set HA.out 1 (.slice ya yn yc))
            have G2 : Hid (LS W0 (((W6.setCell ⟨bw, 0, none⟩ (.slice (some ⟨gx, 0, none⟩) o.length xc)).setCell ⟨bw, 1, none⟩ (.slice ya yn yc)).setCell ⟨bw, 2, none⟩ (.int .i64 (Nn : Int))) W0.heap.size gr P bw M' (.slice na nn nc) (all ++ b) (all ++ b) #[.slice (some ⟨gx, 0, none⟩) o.length xc, .slice ya yn yc, .int .i64 (Nn : Int), .bool bh, .int .i64 ee]) := hide (G1.out.set HA.out 2 (.int .i64 (Nn : Int)))
            have G3 : Hid (LS W0 ((((W6.setCell ⟨bw, 0, none⟩ (.slice (some ⟨gx, 0, none⟩) o.length xc)).setCell ⟨bw, 1, none⟩ (.slice ya yn yc)).setCell ⟨bw, 2, none⟩ (.int .i64 (Nn : Int))).setCell ⟨bw, 3, none⟩ (.bool wh)) W0.heap.size gr P bw M' (.slice na nn nc) (all ++ b) (all ++ b) #[.slice (some ⟨gx, 0, none⟩) o.length xc, .slice ya yn yc, .int .i64 (Nn : Int), .bool wh, .int .i64 ee]) := hide (G2.out.set HA.out 3 (.bool wh))
            have G4 : Hid (LS W0 (((((W6.setCell ⟨bw, 0, none⟩ (.slice (some ⟨gx, 0, none⟩) o.length xc)).setCell ⟨bw, 1, none⟩ (.slice ya yn yc)).setCell ⟨bw, 2, none⟩ (.int .i64 (Nn : Int))).setCell ⟨bw, 3, none⟩ (.bool wh)).setCell ⟨bw, 4, none⟩ (.int .i64 (E : Int))) W0.heap.size gr P bw M' (.slice na nn nc) (all ++ b) (all ++ b) #[.slice (some ⟨gx, 0, none⟩) o.length xc, .slice ya yn yc, .int .i64 (Nn : Int), .bool wh, .int .i64 (E : Int)]) := hide (G3.out.set HA.out 4 (.int .i64 (E : Int)))
            clear F6 G0 G1 G2 G3 b0 a0 f0 b1 a1 f1 b2 a2 f2 b3 a3 f3 b4 a4 f4
            generalize (((((W6.setCell ⟨bw, 0, none⟩ (.slice (some ⟨gx, 0, none⟩) o.length xc)).setCell ⟨bw, 1, none⟩ (.slice ya yn yc)).setCell ⟨bw, 2, none⟩ (.int .i64 (Nn : Int))).setCell ⟨bw, 3, none⟩ (.bool wh)).setCell ⟨bw, 4, none⟩ (.int .i64 (E : Int))) = W9 at G4 ⊢
            have GX : Hid (LS W0 W9 W0.heap.size gr P bw M' (.slice na nn nc) (all ++ b) (all ++ b) #[.slice (some ⟨gx, 0, none⟩) (B.O (all ++ b)).length xc, .slice ya yn yc, .int .i64 ((B.N (all ++ b) : Nat) : Int), .bool wh, .int .i64 (E : Int)]) := hide (by rw [HO.out, HNn.out]; exact G4.out)
            clear G4
            go_wp2_with fail
            exact ⟨⟨q + 1, all ++ b, na, nn, nc, M', _, _, ya, yn, yc, wh, (E : Int), by omega, rfl, by go_num, HAL2, GX⟩, by simp [intOf]; omega⟩
          · have CV2 : Hid (∀ W, Below W4.heap.size W4 W → (convert 31 9 (.slice (some ⟨gx, on0, none⟩) (o.length - on0) (xc - on0))).run Tryd.prog W = .ok (.string ⟨ob.toArray⟩) W) := hide (fun W h => by
              have hx := (Bs.of_row (OR5.out.below h))
              have := conv_part (w := W) (g := gx) (o := 0) (c := xc - on0) (n := on0) (m := o.length) (l := o) (fun i hi => by
                obtain ⟨_, _, g', o', e', _, hh⟩ := hx.cellAt hi
                simp only [Option.some.injEq, Addr.mk.injEq] at e'
                obtain ⟨rfl, rfl, _⟩ := e'
                exact hh i hi) hol3 (Nat.le_refl _)
              rw [Nat.zero_add] at this
              rw [this, List.take_of_length_le (by rw [List.length_drop]; omega), HDR.out]
              rfl)
            generalize (⟨ob.toArray⟩ : ByteArray) = so at CV1 CV2
            have BD := hide ((Below.refl W4.heap.size W4).drew)
            have cS : Below W4.heap.size W4 W4.drew := BD.out
            refine wp_region_noPanic ?_
            refine wp_region_held_drew (S := fun W => Below W4.heap.size W4 W) (by kernel_rfl) cS (fun hHeld => ?_)
            refine wpAnyH_take (i := 0) (v := ?_) rfl (by kernel_rfl) (by kernel_rfl) (by kernel_rfl) (fun _ _ _ h => h) (Or.inl ⟨by rfl, ?_⟩) (by assumption) ?_
            rotate_left
            · (intro W hSw; (try dsimp only at hSw); go_simp; try with_reducible rfl)
            simp only [List.getElem_toArray, List.getElem_cons_zero, Act.put, List.setIfInBounds_toArray, List.set_cons_zero, List.set_cons_succ]
            refine wpAnyH_take (i := 1) (v := ?_) rfl (by kernel_rfl) (by kernel_rfl) (by kernel_rfl) (fun _ _ _ h => h) (Or.inl ⟨by rfl, ?_⟩) (by assumption) ?_
            rotate_left
            · (intro W hSw; have hc := CV1.out W hSw; go_simp; try with_reducible rfl)
            simp only [List.getElem_toArray, List.getElem_cons_zero, List.getElem_cons_succ, Act.put, List.setIfInBounds_toArray, List.set_cons_zero, List.set_cons_succ]
            refine wpAnyH_take (i := 2) (v := ?_) rfl (by kernel_rfl) (by kernel_rfl) (by kernel_rfl) (fun _ _ _ h => h) (Or.inl ⟨by rfl, ?_⟩) (by assumption) ?_
            rotate_left
            · (intro W hSw; (try dsimp only at hSw); go_simp; try with_reducible rfl)
            simp only [List.getElem_toArray, List.getElem_cons_zero, List.getElem_cons_succ, Act.put, List.setIfInBounds_toArray, List.set_cons_zero, List.set_cons_succ]
            refine wpAnyH_take (i := 3) (v := ?_) rfl (by kernel_rfl) (by kernel_rfl) (by kernel_rfl) (fun _ _ _ h => h) (Or.inl ⟨by rfl, ?_⟩) (by assumption) ?_
            rotate_left
            · (intro W hSw; have hc := (hSw.cell (p := ⟨bn, 0, none⟩) hbn5).trans HB0.out; go_simp; try with_reducible rfl)
            simp only [List.getElem_toArray, List.getElem_cons_zero, List.getElem_cons_succ, Act.put, List.setIfInBounds_toArray, List.set_cons_zero, List.set_cons_succ]
            refine wpAnyH_take (i := 4) (v := ?_) rfl (by kernel_rfl) (by kernel_rfl) (by kernel_rfl) (fun _ _ _ h => h) (Or.inl ⟨by rfl, ?_⟩) (by assumption) ?_
            rotate_left
            · (intro W hSw; (try dsimp only at hSw); go_simp; try with_reducible rfl)
            simp only [List.getElem_toArray, List.getElem_cons_zero, List.getElem_cons_succ, Act.put, List.setIfInBounds_toArray, List.set_cons_zero, List.set_cons_succ]
            refine wpAnyH_take (i := 5) (v := ?_) rfl (by kernel_rfl) (by kernel_rfl) (by kernel_rfl) (fun _ _ _ h => h) (Or.inl ⟨by rfl, ?_⟩) (by assumption) ?_
            rotate_left
            · (intro W hSw; have hc := (hSw.cell (p := ⟨bw, 0, none⟩) hbw5).trans HA0.out; go_simp; try with_reducible rfl)
            simp only [List.getElem_toArray, List.getElem_cons_zero, List.getElem_cons_succ, Act.put, List.setIfInBounds_toArray, List.set_cons_zero, List.set_cons_succ]
            refine wpAnyH_take (i := 6) (v := ?_) rfl (by kernel_rfl) (by kernel_rfl) (by kernel_rfl) (fun _ _ _ h => h) (Or.inl ⟨by rfl, ?_⟩) (by assumption) ?_
            rotate_left
            · (intro W hSw; (try dsimp only at hSw); go_simp; try with_reducible rfl)
            simp only [List.getElem_toArray, List.getElem_cons_zero, List.getElem_cons_succ, Act.put, List.setIfInBounds_toArray, List.set_cons_zero, List.set_cons_succ]
            refine wpAnyH_take (i := 7) (v := ?_) rfl (by kernel_rfl) (by kernel_rfl) (by kernel_rfl) (fun _ _ _ h => h) (Or.inl ⟨by rfl, ?_⟩) (by assumption) ?_
            rotate_left
            · (intro W hSw; (try dsimp only at hSw); go_simp; try with_reducible rfl)
            simp only [List.getElem_toArray, List.getElem_cons_zero, List.getElem_cons_succ, Act.put, List.setIfInBounds_toArray, List.set_cons_zero, List.set_cons_succ]
            refine wpAnyH_take (i := 8) (v := ?_) rfl (by kernel_rfl) (by kernel_rfl) (by kernel_rfl) (fun _ _ _ h => h) (Or.inl ⟨by rfl, ?_⟩) (by assumption) ?_
            rotate_left
            · (intro W hSw; have hc := CV2.out W hSw; go_simp; try with_reducible rfl)
            simp only [List.getElem_toArray, List.getElem_cons_zero, List.getElem_cons_succ, Act.put, List.setIfInBounds_toArray, List.set_cons_zero, List.set_cons_succ]
            refine wpAnyH_take (i := 9) (v := .bool false) rfl (by kernel_rfl) (by kernel_rfl) (by kernel_rfl) (fun _ _ _ h => h) (Or.inl ⟨by rfl, ?_⟩) (by assumption) ?_
            · (intro W hSw; go_simp)
            simp only [List.getElem_toArray, List.getElem_cons_zero, List.getElem_cons_succ, Act.put, List.setIfInBounds_toArray, List.set_cons_zero, List.set_cons_succ]
            refine wpAnyH_take (i := 10) (v := ?_) rfl (by kernel_rfl) (by kernel_rfl) (by kernel_rfl) (fun _ _ _ h => h) (Or.inl ⟨by rfl, ?_⟩) (by assumption) ?_
            rotate_left
            · (intro W hSw; (try dsimp only at hSw); go_simp; try with_reducible rfl)
            simp only [List.getElem_toArray, List.getElem_cons_zero, List.getElem_cons_succ, Act.put, List.setIfInBounds_toArray, List.set_cons_zero, List.set_cons_succ]
            refine wpAnyH_take (i := 11) (v := ?_) rfl (by kernel_rfl) (by kernel_rfl) (by kernel_rfl) (fun _ _ _ h => h) (Or.inl ⟨by rfl, ?_⟩) (by assumption) ?_
            rotate_left
            · (intro W hSw; (try dsimp only at hSw); go_simp; try with_reducible rfl)
            simp only [List.getElem_toArray, List.getElem_cons_zero, List.getElem_cons_succ, Act.put, List.setIfInBounds_toArray, List.set_cons_zero, List.set_cons_succ]
            refine wpAnyH_take (i := 12) (v := ?_) rfl (by kernel_rfl) (by kernel_rfl) (by kernel_rfl) (fun _ _ _ h => h) (Or.inl ⟨by rfl, ?_⟩) (by assumption) ?_
            rotate_left
            · (intro W hSw; (try dsimp only at hSw); go_simp; try with_reducible rfl)
            simp only [List.getElem_toArray, List.getElem_cons_zero, List.getElem_cons_succ, Act.put, List.setIfInBounds_toArray, List.set_cons_zero, List.set_cons_succ]
            refine wpAnyH_take (i := 13) (v := ?_) rfl (by kernel_rfl) (by kernel_rfl) (by kernel_rfl) (fun _ _ _ h => h) (Or.inl ⟨by rfl, ?_⟩) (by assumption) ?_
            rotate_left
            · (intro W hSw; have hc := (hSw.cell (p := ⟨bn, 2, none⟩) hbn5).trans HB2.out; go_simp; try with_reducible rfl)
            simp only [List.getElem_toArray, List.getElem_cons_zero, List.getElem_cons_succ, Act.put, List.setIfInBounds_toArray, List.set_cons_zero, List.set_cons_succ]
            refine wpAnyH_take (i := 14) (v := ?_) rfl (by kernel_rfl) (by kernel_rfl) (by kernel_rfl) (fun _ _ _ h => h) (Or.inl ⟨by rfl, ?_⟩) (by assumption) ?_
            rotate_left
            · (intro W hSw; (try dsimp only at hSw); go_simp; try with_reducible rfl)
            simp only [List.getElem_toArray, List.getElem_cons_zero, List.getElem_cons_succ, Act.put, List.setIfInBounds_toArray, List.set_cons_zero, List.set_cons_succ]
            refine wpAnyH_take (i := 15) (v := ?_) rfl (by kernel_rfl) (by kernel_rfl) (by kernel_rfl) (fun _ _ _ h => h) (Or.inl ⟨by rfl, ?_⟩) (by assumption) ?_
            rotate_left
            · (intro W hSw; have hc := (hSw.cell (p := ⟨bw, 2, none⟩) hbw5).trans HA2.out; go_simp; try with_reducible rfl)
            simp only [List.getElem_toArray, List.getElem_cons_zero, List.getElem_cons_succ, Act.put, List.setIfInBounds_toArray, List.set_cons_zero, List.set_cons_succ]
            refine wpAnyH_take (i := 16) (v := .int .i64 (n : Int)) rfl (by kernel_rfl) (by kernel_rfl) (by kernel_rfl) (fun _ _ _ h => h) (Or.inl ⟨by rfl, ?_⟩) (by assumption) ?_
            · (intro W hSw; go_simp)
            simp only [List.getElem_toArray, List.getElem_cons_zero, List.getElem_cons_succ, Act.put, List.setIfInBounds_toArray, List.set_cons_zero, List.set_cons_succ]
            refine wpAnyH_take (i := 17) (v := .bool false) rfl (by kernel_rfl) (by kernel_rfl) (by kernel_rfl) (fun _ _ _ h => h) (Or.inl ⟨by rfl, ?_⟩) (by assumption) ?_
            · (intro W hSw; go_simp)
            simp only [List.getElem_toArray, List.getElem_cons_zero, List.getElem_cons_succ, Act.put, List.setIfInBounds_toArray, List.set_cons_zero, List.set_cons_succ]
            refine wpAnyH_take (i := 18) (v := ?_) rfl (by kernel_rfl) (by kernel_rfl) (by kernel_rfl) (fun _ _ _ h => h) (Or.inl ⟨by rfl, ?_⟩) (by assumption) ?_
            rotate_left
            · (intro W hSw; (try dsimp only at hSw); go_simp; try with_reducible rfl)
            simp only [List.getElem_toArray, List.getElem_cons_zero, List.getElem_cons_succ, Act.put, List.setIfInBounds_toArray, List.set_cons_zero, List.set_cons_succ]
            refine wpAnyH_take (i := 19) (v := ?_) rfl (by kernel_rfl) (by kernel_rfl) (by kernel_rfl) (fun _ _ _ h => h) (Or.inl ⟨by rfl, ?_⟩) (by assumption) ?_
            rotate_left
            · (intro W hSw; (try dsimp only at hSw); go_simp; try with_reducible rfl)
            simp only [List.getElem_toArray, List.getElem_cons_zero, List.getElem_cons_succ, Act.put, List.setIfInBounds_toArray, List.set_cons_zero, List.set_cons_succ]
            refine wpAnyH_take (i := 20) (v := ?_) rfl (by kernel_rfl) (by kernel_rfl) (by kernel_rfl) (fun _ _ _ h => h) (Or.inl ⟨by rfl, ?_⟩) (by assumption) ?_
            rotate_left
            · (intro W hSw; (try dsimp only at hSw); go_simp; try with_reducible rfl)
            simp only [List.getElem_toArray, List.getElem_cons_zero, List.getElem_cons_succ, Act.put, List.setIfInBounds_toArray, List.set_cons_zero, List.set_cons_succ]
            refine wpAnyH_take (i := 21) (v := ?_) rfl (by kernel_rfl) (by kernel_rfl) (by kernel_rfl) (fun _ _ _ h => h) (Or.inl ⟨by rfl, ?_⟩) (by assumption) ?_
            rotate_left
            · (intro W hSw; (try dsimp only at hSw); go_simp; try with_reducible rfl)
            simp only [List.getElem_toArray, List.getElem_cons_zero, List.getElem_cons_succ, Act.put, List.setIfInBounds_toArray, List.set_cons_zero, List.set_cons_succ]
            refine wpAnyH_take (i := 22) (v := ?_) rfl (by kernel_rfl) (by kernel_rfl) (by kernel_rfl) (fun _ _ _ h => h) (Or.inl ⟨by rfl, ?_⟩) (by assumption) ?_
            rotate_left
            · (intro W hSw; have hc := (hSw.cell (p := ⟨bn, 3, none⟩) hbn5).trans HB3.out; go_simp; try with_reducible rfl)
            simp only [List.getElem_toArray, List.getElem_cons_zero, List.getElem_cons_succ, Act.put, List.setIfInBounds_toArray, List.set_cons_zero, List.set_cons_succ]
            refine wpAnyH_take (i := 23) (v := .bool false) rfl (by kernel_rfl) (by kernel_rfl) (by kernel_rfl) (fun _ _ _ h => h) (Or.inl ⟨by rfl, ?_⟩) (by assumption) ?_
            · (intro W hSw; go_simp)
            simp only [List.getElem_toArray, List.getElem_cons_zero, List.getElem_cons_succ, Act.put, List.setIfInBounds_toArray, List.set_cons_zero, List.set_cons_succ]
            refine wpAnyH_take (i := 24) (v := ?_) rfl (by kernel_rfl) (by kernel_rfl) (by kernel_rfl) (fun _ _ _ h => h) (Or.inl ⟨by rfl, ?_⟩) (by assumption) ?_
            rotate_left
            · (intro W hSw; (try dsimp only at hSw); go_simp; try with_reducible rfl)
            simp only [List.getElem_toArray, List.getElem_cons_zero, List.getElem_cons_succ, Act.put, List.setIfInBounds_toArray, List.set_cons_zero, List.set_cons_succ]
            refine wpAnyH_take (i := 25) (v := ?_) rfl (by kernel_rfl) (by kernel_rfl) (by kernel_rfl) (fun _ _ _ h => h) (Or.inl ⟨by rfl, ?_⟩) (by assumption) ?_
            rotate_left
            · (intro W hSw; (try dsimp only at hSw); go_simp; try with_reducible rfl)
            simp only [List.getElem_toArray, List.getElem_cons_zero, List.getElem_cons_succ, Act.put, List.setIfInBounds_toArray, List.set_cons_zero, List.set_cons_succ]
            refine wpAnyH_take (i := 26) (v := ?_) rfl (by kernel_rfl) (by kernel_rfl) (by kernel_rfl) (fun _ _ _ h => h) (Or.inl ⟨by rfl, ?_⟩) (by assumption) ?_
            rotate_left
            · (intro W hSw; (try dsimp only at hSw); go_simp; try with_reducible rfl)
            simp only [List.getElem_toArray, List.getElem_cons_zero, List.getElem_cons_succ, Act.put, List.setIfInBounds_toArray, List.set_cons_zero, List.set_cons_succ]
            refine wpAnyH_take (i := 27) (v := ?_) rfl (by kernel_rfl) (by kernel_rfl) (by kernel_rfl) (fun _ _ _ h => h) (Or.inl ⟨by rfl, ?_⟩) (by assumption) ?_
            rotate_left
            · (intro W hSw; (try dsimp only at hSw); go_simp; try with_reducible rfl)
            simp only [List.getElem_toArray, List.getElem_cons_zero, List.getElem_cons_succ, Act.put, List.setIfInBounds_toArray, List.set_cons_zero, List.set_cons_succ]
            refine wpAnyH_take (i := 28) (v := ?_) rfl (by kernel_rfl) (by kernel_rfl) (by kernel_rfl) (fun _ _ _ h => h) (Or.inl ⟨by rfl, ?_⟩) (by assumption) ?_
            rotate_left
            · (intro W hSw; have hc := (hSw.cell (p := ⟨bn, 4, none⟩) hbn5).trans HB4.out; go_simp; try with_reducible rfl)
            simp only [List.getElem_toArray, List.getElem_cons_zero, List.getElem_cons_succ, Act.put, List.setIfInBounds_toArray, List.set_cons_zero, List.set_cons_succ]
            refine wpAnyH_take (i := 29) (v := .bool false) rfl (by kernel_rfl) (by kernel_rfl) (by kernel_rfl) (fun _ _ _ h => h) (Or.inl ⟨by rfl, ?_⟩) (by assumption) ?_
            · (intro W hSw; go_simp)
            simp only [List.getElem_toArray, List.getElem_cons_zero, List.getElem_cons_succ, Act.put, List.setIfInBounds_toArray, List.set_cons_zero, List.set_cons_succ]
            refine wpAnyH_take (i := 30) (v := ?_) rfl (by kernel_rfl) (by kernel_rfl) (by kernel_rfl) (fun _ _ _ h => h) (Or.inl ⟨by rfl, ?_⟩) (by assumption) ?_
            rotate_left
            · (intro W hSw; (try dsimp only at hSw); go_simp; try with_reducible rfl)
            simp only [List.getElem_toArray, List.getElem_cons_zero, List.getElem_cons_succ, Act.put, List.setIfInBounds_toArray, List.set_cons_zero, List.set_cons_succ]
            refine wpAnyH_take (i := 31) (v := ?_) rfl (by kernel_rfl) (by kernel_rfl) (by kernel_rfl) (fun _ _ _ h => h) (Or.inl ⟨by rfl, ?_⟩) (by assumption) ?_
            rotate_left
            · (intro W hSw; (try dsimp only at hSw); go_simp; try with_reducible rfl)
            simp only [List.getElem_toArray, List.getElem_cons_zero, List.getElem_cons_succ, Act.put, List.setIfInBounds_toArray, List.set_cons_zero, List.set_cons_succ]
            refine wpAnyH_take (i := 32) (v := ?_) rfl (by kernel_rfl) (by kernel_rfl) (by kernel_rfl) (fun _ _ _ h => h) (Or.inl ⟨by rfl, ?_⟩) (by assumption) ?_
            rotate_left
            · (intro W hSw; (try dsimp only at hSw); go_simp; try with_reducible rfl)
            simp only [List.getElem_toArray, List.getElem_cons_zero, List.getElem_cons_succ, Act.put, List.setIfInBounds_toArray, List.set_cons_zero, List.set_cons_succ]
            refine wpAnyH_take (i := 34) (v := ?_) rfl (by kernel_rfl) (by kernel_rfl) (by kernel_rfl) (fun _ _ _ h => h) (Or.inl ⟨by rfl, ?_⟩) (by assumption) ?_
            rotate_left
            · (intro W hSw; (try dsimp only at hSw); go_simp; try with_reducible rfl)
            simp only [List.getElem_toArray, List.getElem_cons_zero, List.getElem_cons_succ, Act.put, List.setIfInBounds_toArray, List.set_cons_zero, List.set_cons_succ]
            refine wpAnyH_take (i := 35) (v := ?_) rfl (by kernel_rfl) (by kernel_rfl) (by kernel_rfl) (fun _ _ _ h => h) (Or.inl ⟨by rfl, ?_⟩) (by assumption) ?_
            rotate_left
            · (intro W hSw; have hc := (hSw.cell (p := ⟨bn, 3, none⟩) hbn5).trans HB3.out; go_simp; try with_reducible rfl)
            simp only [List.getElem_toArray, List.getElem_cons_zero, List.getElem_cons_succ, Act.put, List.setIfInBounds_toArray, List.set_cons_zero, List.set_cons_succ]
            refine wpAnyH_ready (rs := [33]) (by kernel_rfl) (by simp) ?_
            refine AllReadyH.cons rfl (fun K hK => ?_) AllReadyH.nil
            go_simp
            refine (HWH.out W4.drew cS).mono ?_
            rintro e W5 ⟨rfl, rfl⟩
            (try go_wp2_with fail)
            refine hK.out _ _ cS (fun hHeld => ?_)
            clear hK K
            try simp only [List.getElem_toArray, List.getElem_cons_zero, List.getElem_cons_succ, Act.put, List.setIfInBounds_toArray, List.set_cons_zero, List.set_cons_succ]
            refine wpAnyH_take (i := 36) (v := .bool false) rfl (by kernel_rfl) (by kernel_rfl) (by kernel_rfl) (fun _ _ _ h => h) (Or.inl ⟨by rfl, ?_⟩) (by assumption) ?_
            · (intro W hSw; go_simp)
            simp only [List.getElem_toArray, List.getElem_cons_zero, List.getElem_cons_succ, Act.put, List.setIfInBounds_toArray, List.set_cons_zero, List.set_cons_succ]
            refine wpAnyH_take (i := 37) (v := ?_) rfl (by kernel_rfl) (by kernel_rfl) (by kernel_rfl) (fun _ _ _ h => h) (Or.inl ⟨by rfl, ?_⟩) (by assumption) ?_
            rotate_left
            · (intro W hSw; (try dsimp only at hSw); go_simp; try with_reducible rfl)
            simp only [List.getElem_toArray, List.getElem_cons_zero, List.getElem_cons_succ, Act.put, List.setIfInBounds_toArray, List.set_cons_zero, List.set_cons_succ]
            refine wpAnyH_take (i := 38) (v := ?_) rfl (by kernel_rfl) (by kernel_rfl) (by kernel_rfl) (fun _ _ _ h => h) (Or.inl ⟨by rfl, ?_⟩) (by assumption) ?_
            rotate_left
            · (intro W hSw; (try dsimp only at hSw); go_simp; try with_reducible rfl)
            simp only [List.getElem_toArray, List.getElem_cons_zero, List.getElem_cons_succ, Act.put, List.setIfInBounds_toArray, List.set_cons_zero, List.set_cons_succ]
            refine wpAnyH_take (i := 39) (v := ?_) rfl (by kernel_rfl) (by kernel_rfl) (by kernel_rfl) (fun _ _ _ h => h) (Or.inl ⟨by rfl, ?_⟩) (by assumption) ?_
            rotate_left
            · (intro W hSw; (try dsimp only at hSw); go_simp; try with_reducible rfl)
            simp only [List.getElem_toArray, List.getElem_cons_zero, List.getElem_cons_succ, Act.put, List.setIfInBounds_toArray, List.set_cons_zero, List.set_cons_succ]
            refine wpAnyH_take (i := 41) (v := ?_) rfl (by kernel_rfl) (by kernel_rfl) (by kernel_rfl) (fun _ _ _ h => h) (Or.inl ⟨by rfl, ?_⟩) (by assumption) ?_
            rotate_left
            · (intro W hSw; (try dsimp only at hSw); go_simp; try with_reducible rfl)
            simp only [List.getElem_toArray, List.getElem_cons_zero, List.getElem_cons_succ, Act.put, List.setIfInBounds_toArray, List.set_cons_zero, List.set_cons_succ]
            refine wpAnyH_take (i := 42) (v := ?_) rfl (by kernel_rfl) (by kernel_rfl) (by kernel_rfl) (fun _ _ _ h => h) (Or.inl ⟨by rfl, ?_⟩) (by assumption) ?_
            rotate_left
            · (intro W hSw; have hc := (hSw.cell (p := ⟨bn, 0, none⟩) hbn5).trans HB0.out; go_simp; try with_reducible rfl)
            simp only [List.getElem_toArray, List.getElem_cons_zero, List.getElem_cons_succ, Act.put, List.setIfInBounds_toArray, List.set_cons_zero, List.set_cons_succ]
            refine wpAnyH_take (i := 43) (v := ?_) rfl (by kernel_rfl) (by kernel_rfl) (by kernel_rfl) (fun _ _ _ h => h) (Or.inl ⟨by rfl, ?_⟩) (by assumption) ?_
            rotate_left
            · (intro W hSw; (try dsimp only at hSw); go_simp; try with_reducible rfl)
            simp only [List.getElem_toArray, List.getElem_cons_zero, List.getElem_cons_succ, Act.put, List.setIfInBounds_toArray, List.set_cons_zero, List.set_cons_succ]
            refine wpAnyH_ready (rs := [40]) (by kernel_rfl) (by simp) ?_
            refine AllReadyH.cons rfl (fun K hK => ?_) AllReadyH.nil
            go_simp
            refine (HGT.out W4.drew cS).mono ?_
            rintro e W5 ⟨rfl, rfl⟩
            (try go_wp2_with fail)
            refine hK.out _ _ cS (fun hHeld => ?_)
            clear hK K
            try simp only [List.getElem_toArray, List.getElem_cons_zero, List.getElem_cons_succ, Act.put, List.setIfInBounds_toArray, List.set_cons_zero, List.set_cons_succ]
            refine wpAnyH_take (i := 44) (v := .bool false) rfl (by kernel_rfl) (by kernel_rfl) (by kernel_rfl) (fun _ _ _ h => h) (Or.inl ⟨by rfl, ?_⟩) (by assumption) ?_
            · (intro W hSw; go_simp)
            simp only [List.getElem_toArray, List.getElem_cons_zero, List.getElem_cons_succ, Act.put, List.setIfInBounds_toArray, List.set_cons_zero, List.set_cons_succ]
            refine wpAnyH_take (i := 45) (v := ?_) rfl (by kernel_rfl) (by kernel_rfl) (by kernel_rfl) (fun _ _ _ h => h) (Or.inl ⟨by rfl, ?_⟩) (by assumption) ?_
            rotate_left
            · (intro W hSw; (try dsimp only at hSw); go_simp; try with_reducible rfl)
            simp only [List.getElem_toArray, List.getElem_cons_zero, List.getElem_cons_succ, Act.put, List.setIfInBounds_toArray, List.set_cons_zero, List.set_cons_succ]
            refine wpAnyH_done (by kernel_rfl) ?_ _
            clear hHeld
            refine NoPanic.normal ?_
            have F6 := hide (F5.out.below HA.out cS)
            generalize W4.drew = W6 at F6 cS ⊢
            have b0 : W6.cell? ⟨bn, 0, none⟩ = some (.slice (some ⟨gx, 0, none⟩) o.length xc) := (cS.cell (p := ⟨bn, 0, none⟩) hbn5).trans HB0.out
            have b1 : W6.cell? ⟨bn, 1, none⟩ = some (.slice ya yn yc) := (cS.cell (p := ⟨bn, 1, none⟩) hbn5).trans HB1.out
            have b2 : W6.cell? ⟨bn, 2, none⟩ = some (.int .i64 (Nn : Int)) := (cS.cell (p := ⟨bn, 2, none⟩) hbn5).trans HB2.out
            have b3 : W6.cell? ⟨bn, 3, none⟩ = some (.bool wh) := (cS.cell (p := ⟨bn, 3, none⟩) hbn5).trans HB3.out
            have b4 : W6.cell? ⟨bn, 4, none⟩ = some (.int .i64 (E : Int)) := (cS.cell (p := ⟨bn, 4, none⟩) hbn5).trans HB4.out
            have a0 : W6.cell? ⟨bw, 0, none⟩ = some (.slice oa on0 oc) := F6.out.cell 0
            have f0 : W6.frozen? ⟨bw, 0, none⟩ = false := F6.out.froz 0
            have a1 : W6.cell? ⟨bw, 1, none⟩ = some (.slice ta tn tc) := F6.out.cell 1
            have f1 : W6.frozen? ⟨bw, 1, none⟩ = false := F6.out.froz 1
            have a2 : W6.cell? ⟨bw, 2, none⟩ = some (.int .i64 (n0 : Int)) := F6.out.cell 2
            have f2 : W6.frozen? ⟨bw, 2, none⟩ = false := F6.out.froz 2
            have a3 : W6.cell? ⟨bw, 3, none⟩ = some (.bool bh) := F6.out.cell 3
            have f3 : W6.frozen? ⟨bw, 3, none⟩ = false := F6.out.froz 3
            have a4 : W6.cell? ⟨bw, 4, none⟩ = some (.int .i64 ee) := F6.out.cell 4
            have f4 : W6.frozen? ⟨bw, 4, none⟩ = false := F6.out.froz 4
            clear cS BD F5
            go_wp2_with fail
            have G0 : Hid (LS W0 (W6.setCell ⟨bw, 0, none⟩ (.slice (some ⟨gx, 0, none⟩) o.length xc)) W0.heap.size gr P bw M' (.slice na nn nc) (all ++ b) (all ++ b) #[.slice (some ⟨gx, 0, none⟩) o.length xc, .slice ta tn tc, .int .i64 (n0 : Int), .bool bh, .int .i64 ee]) := hide (F6.out.set HA.out 0 (.slice (some ⟨gx, 0, none⟩) o.length xc))
            have G1 : Hid (LS W0 ((W6.setCell ⟨bw, 0, none⟩ (.slice (some ⟨gx, 0, none⟩) o.length xc)).setCell ⟨bw, 1, none⟩ (.slice ya yn yc)) W0.heap.size gr P bw M' (.slice na nn nc) (all ++ b) (all ++ b) #[.slice (some ⟨gx, 0, none⟩) o.length xc, .slice ya yn yc, .int .i64 (n0 : Int), .bool bh, .int .i64 ee]) := hide (G0.out.set HA.out 1 (.slice ya yn yc))
            have G2 : Hid (LS W0 (((W6.setCell ⟨bw, 0, none⟩ (.slice (some ⟨gx, 0, none⟩) o.length xc)).setCell ⟨bw, 1, none⟩ (.slice ya yn yc)).setCell ⟨bw, 2, none⟩ (.int .i64 (Nn : Int))) W0.heap.size gr P bw M' (.slice na nn nc) (all ++ b) (all ++ b) #[.slice (some ⟨gx, 0, none⟩) o.length xc, .slice ya yn yc, .int .i64 (Nn : Int), .bool bh, .int .i64 ee]) := hide (G1.out.set HA.out 2 (.int .i64 (Nn : Int)))
            have G3 : Hid (LS W0 ((((W6.setCell ⟨bw, 0, none⟩ (.slice (some ⟨gx, 0, none⟩) o.length xc)).setCell ⟨bw, 1, none⟩ (.slice ya yn yc)).setCell ⟨bw, 2, none⟩ (.int .i64 (Nn : Int))).setCell ⟨bw, 3, none⟩ (.bool wh)) W0.heap.size gr P bw M' (.slice na nn nc) (all ++ b) (all ++ b) #[.slice (some ⟨gx, 0, none⟩) o.length xc, .slice ya yn yc, .int .i64 (Nn : Int), .bool wh, .int .i64 ee]) := hide (G2.out.set HA.out 3 (.bool wh))
            have G4 : Hid (LS W0 (((((W6.setCell ⟨bw, 0, none⟩ (.slice (some ⟨gx, 0, none⟩) o.length xc)).setCell ⟨bw, 1, none⟩ (.slice ya yn yc)).setCell ⟨bw, 2, none⟩ (.int .i64 (Nn : Int))).setCell ⟨bw, 3, none⟩ (.bool wh)).setCell ⟨bw, 4, none⟩ (.int .i64 (E : Int))) W0.heap.size gr P bw M' (.slice na nn nc) (all ++ b) (all ++ b) #[.slice (some ⟨gx, 0, none⟩) o.length xc, .slice ya yn yc, .int .i64 (Nn : Int), .bool wh, .int .i64 (E : Int)]) := hide (G3.out.set HA.out 4 (.int .i64 (E : Int)))
            clear F6 G0 G1 G2 G3 b0 a0 f0 b1 a1 f1 b2 a2 f2 b3 a3 f3 b4 a4 f4
            generalize (((((W6.setCell ⟨bw, 0, none⟩ (.slice (some ⟨gx, 0, none⟩) o.length xc)).setCell ⟨bw, 1, none⟩ (.slice ya yn yc)).setCell ⟨bw, 2, none⟩ (.int .i64 (Nn : Int))).setCell ⟨bw, 3, none⟩ (.bool wh)).setCell ⟨bw, 4, none⟩ (.int .i64 (E : Int))) = W9 at G4 ⊢
            have GX : Hid (LS W0 W9 W0.heap.size gr P bw M' (.slice na nn nc) (all ++ b) (all ++ b) #[.slice (some ⟨gx, 0, none⟩) (B.O (all ++ b)).length xc, .slice ya yn yc, .int .i64 ((B.N (all ++ b) : Nat) : Int), .bool wh, .int .i64 (E : Int)]) := hide (by rw [HO.out, HNn.out]; exact G4.out)
            clear G4
            go_wp2_with fail
            exact ⟨⟨q + 1, all ++ b, na, nn, nc, M', _, _, ya, yn, yc, wh, (E : Int), by omega, rfl, by go_num, HAL2, GX⟩, by simp [intOf]; omega⟩
      · have eq : q = L.length := by omega
        subst eq
        have hal : all.length ≤ 1048576 := by
          have := flat_le L L.length
          rw [← HAL.out] at this
          omega
        have PR := hide (HALL.out (.slice aa an ac) all true wr (Bs.of_row F1.out.row) (by omega))
        simp only [if_true] at PR
        have c0 : wr.cell? ⟨w.heap.size, 0, none⟩ = some (.int .i64 k) := (F1.out.b.cell (p := ⟨w.heap.size, 0, none⟩) HLT).trans (cell_at HB.out 0)
        have c1 : wr.cell? ⟨w.heap.size, 1, none⟩ = some (.int .i64 len) := (F1.out.b.cell (p := ⟨w.heap.size, 1, none⟩) HLT).trans (cell_at HB.out 1)
        have c2 : wr.cell? ⟨w.heap.size, 2, none⟩ = some (.bool x) := (F1.out.b.cell (p := ⟨w.heap.size, 2, none⟩) HLT).trans (cell_at HB.out 2)
        go_wp2_with fail
        refine PR.out.mono ?_
        rintro e W7 ⟨ov, ya2, yn2, yc2, rfl, hor, b7⟩
        obtain ⟨xa2, xc2, hxe, hxc2, _⟩ := hor.shape
        rw [bc_len] at hxe hxc2
        subst hxe
        have F7 := hide (F1.out.below HA.out b7)
        have HEN := hide (ended_any HA.out F7.out.p F7.out.bs xa2 xc2 ya2 yn2 yc2 ((B.N all : Nat) : Int))
        have B7 := hide (BA.out.trans (F7.out.b.mono BA.out.size))
        have hb7 := F7.out.bs
        clear hor b7 PR F7 F1 c0 c1 c2
        go_wp2_with fail
        refine HEN.out.mono ?_
        rintro e W8 ⟨rfl, b8⟩
        have B8 := hide (B7.out.trans (b8.mono BA.out.size))
        clear b8 HEN
        go_wp2_with fail
        refine (speaks_any W8).mono ?_
        rintro e W9 ⟨rfl, b9⟩
        have B9 := hide (B8.out.trans (b9.mono B8.out.size))
        clear b9
        go_wp2
        go_ret
        exact ⟨rfl, B9.out⟩
  · obtain ⟨er, te, h8, h9⟩ := bad_both k len x most hgd
    have HN := hide h8
    have HA := hide h9
    clear h8 h9 hgd
    unfold frV at HN HA ⊢
    go_enter Tryd.func3, Tryd.ntmps3
    have BA := hide ((Below.refl w.heap.size w).alloc (Nat.le_refl _) (.cells #[.int .i64 k, .int .i64 len, .bool x] 23))
    have HB := hide (hp_new w (.cells #[.int .i64 k, .int .i64 len, .bool x] 23))
    have HLT := lt_heap' HB.out
    go_upto_region 1 with fail
    generalize w.alloc (.cells #[.int .i64 k, .int .i64 len, .bool x] 23) = W0 at BA HB HLT ⊢
    have c0 : W0.cell? ⟨w.heap.size, 0, none⟩ = some (.int .i64 k) := ((Below.refl W0.heap.size W0).cell (p := ⟨w.heap.size, 0, none⟩) HLT).trans (cell_at HB.out 0)
    have c1 : W0.cell? ⟨w.heap.size, 1, none⟩ = some (.int .i64 len) := ((Below.refl W0.heap.size W0).cell (p := ⟨w.heap.size, 1, none⟩) HLT).trans (cell_at HB.out 1)
    have c2 : W0.cell? ⟨w.heap.size, 2, none⟩ = some (.bool x) := ((Below.refl W0.heap.size W0).cell (p := ⟨w.heap.size, 2, none⟩) HLT).trans (cell_at HB.out 2)
    go_wp2_with fail
    refine (HN.out W0).mono ?_
    rintro e W1 ⟨rfl, b1⟩
    have B1 := hide b1
    clear c0 c1 c2 b1 HN
    have c0 : W1.cell? ⟨w.heap.size, 0, none⟩ = some (.int .i64 k) := (B1.out.cell (p := ⟨w.heap.size, 0, none⟩) HLT).trans (cell_at HB.out 0)
    have c1 : W1.cell? ⟨w.heap.size, 1, none⟩ = some (.int .i64 len) := (B1.out.cell (p := ⟨w.heap.size, 1, none⟩) HLT).trans (cell_at HB.out 1)
    have c2 : W1.cell? ⟨w.heap.size, 2, none⟩ = some (.bool x) := (B1.out.cell (p := ⟨w.heap.size, 2, none⟩) HLT).trans (cell_at HB.out 2)
    go_wp2_with fail
    refine (HA.out W1).mono ?_
    rintro e W2 ⟨rfl, b2⟩
    have B2 := hide (BA.out.trans ((B1.out.trans (b2.mono B1.out.size)).mono BA.out.size))
    clear c0 c1 c2 b2 HA
    go_wp2_with fail
    refine (speaks_any W2).mono ?_
    rintro e W3 ⟨rfl, b3⟩
    have B3 := hide (B2.out.trans (b3.mono B2.out.size))
    clear b3
    go_wp2
    go_ret
    exact ⟨rfl, B3.out⟩
end Go.Proofs.YtggeihahbgeneaaDoor
