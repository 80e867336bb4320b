/- WorldSteps returns true for all steps of bulk at most 1048576, and changes nothing that was there. -/
import Derived.Test.YtpgbpfdgbajhlaaAsks3
import Derived.Deep.RegionHeld3
namespace Go.Proofs.Ytpgbpfdgbajhlaa
open Go.ChangeShapes Go.WideShapes Go.ChangeAt Go.RowKit

theorem wpAnyH_weaken {P : Program} {md : Region.Mode} {ops : Array Oper} {Q : Exit → Act → World → Prop} {S S' : World → Prop} (hS : ∀ w, S' w → S w) :
    ∀ (fuel : Nat) (listed : Array Bool) (a : Act) (w : World), wpAnyH P md ops Q S' fuel listed a w → wpAnyH P md ops Q S fuel listed a w
  | 0, _, _, _, h => h
  | fuel + 1, _, _, _, h => ⟨h.1, fun i hi => wpOp_mono (fun a' w' h' => ⟨hS w' h'.1, wpAnyH_weaken hS fuel _ a' w' h'.2⟩) (h.2 i hi)⟩

/-- What holds ahead of each round. -/
structure StInv (W0 : World) (c d m n : Nat) (wr : World) (S : List Cn) (dr : List Int) (ow ox : Nat → Option Tag) : Prop where
  wd : Wd wr c S dr ow
  xd : Xd wr d S dr ox
  dis : ∀ b t, ox b = some t → ow b = none
  old : Fr (fun i => W0.heap.size ≤ i) W0 wr
  noW : ∀ b, b < W0.heap.size → ow b = none
  noX : ∀ b, b < W0.heap.size → ox b = none
  len : S.length ≤ n
  sent : ∀ x ∈ S, x.sent.length ≤ m
theorem Xd.fresh {W : World} {d : Nat} {S : List Cn} {dr : List Int} {ox : Nat → Option Tag} (h : Xd W d S dr ox) {g : Nat} (hg : W.heap.size ≤ g) : ox g = none := by
  cases ho : ox g with
  | none => rfl
  | some t => have := h.low g t ho; omega
theorem StInv.two {W0 : World} {c d m n : Nat} {wr : World} {S : List Cn} {dr : List Int} {ow ox : Nat → Option Tag} (h : StInv W0 c d m n wr S dr ow ox) (C : Array Value) : Two ⟨W0, wr.heap.size, .cells C 32 (0, 0)⟩ (wr.alloc (.cells C 32)) c d S dr S dr ow ox := by
  have F := Fr.alloc (fun _ => False) wr (.cells C 32)
  exact ⟨h.wd.frame F.size (fun b t e => F.block b (h.wd.low b t e) (fun e => e)), h.xd.frame F.size (fun b t e => F.block b (h.xd.low b t e) (fun e => e)), h.dis, h.old.trans F (fun _ _ e => e.elim), h.noW, h.noX, (MapKept.heap_alloc wr _).1, h.wd.fresh (Nat.le_refl _), h.xd.fresh (Nat.le_refl _)⟩

section
variable {W0 : Bk} {c d : Nat} {S : List Cn} {dr : List Int} {ow ox : Nat → Option Tag}
theorem two12 (k : Int) (hk : (Lit.int .i64 k).wf = true) (V : World) (T : Two W0 V c d S dr S dr ow ox) : Calls Try.prog 12 #[.pointer (some ⟨c, 0, none⟩), .int .i64 k] V fun e V' => ∃ v go, e = .returned v ∧ Row V' .u8 v (sSent S k) go ∧ (∀ g, go = some g → ow g = none ∧ ox g = none) ∧ Two W0 V' c d S dr S dr ow ox :=
  (any_sent T.wd hk).mono (fun _ _ ⟨v, go, he, R, G, D, K⟩ => ⟨v, go, he, R, fun g eg => ⟨(G g eg).2, T.xd.fresh (G g eg).1⟩, T.w D K⟩)
theorem two13 (k : Int) (V : World) (T : Two W0 V c d S dr S dr ow ox) : Calls Try.prog 13 #[.pointer (some ⟨d, 0, none⟩), .int .i64 k] V fun e V' => ∃ v go, e = .returned v ∧ Row V' .u8 v (sSent S k) go ∧ Two W0 V' c d S dr S dr ow ox ∧ Kp ox ox V V' :=
  (rany_sent T.xd T.wd.ok).mono (fun _ _ ⟨v, go, he, R, D, K⟩ => ⟨v, go, he, R, T.x D K, K⟩)
theorem two15 (V : World) (T : Two W0 V c d S dr S dr ow ox) : Calls Try.prog 15 #[.pointer (some ⟨c, 0, none⟩)] V fun e V' => ∃ v go, e = .returned v ∧ Row V' .i64 v (sorted (opens S)) go ∧ (∀ g, go = some g → ox g = none) ∧ Two W0 V' c d S dr S dr ow ox ∧ Kp ow ow V V' :=
  (does_all T.wd).mono (fun _ _ ⟨v, go, he, R, G, D, K⟩ => ⟨v, go, he, R, fun g eg => T.xd.fresh (G g eg).1, T.w D K, K⟩)
theorem two16 (V : World) (T : Two W0 V c d S dr S dr ow ox) : Calls Try.prog 16 #[.pointer (some ⟨d, 0, none⟩)] V fun e V' => ∃ v go, e = .returned v ∧ Row V' .i64 v (sorted (opens S)) go ∧ Two W0 V' c d S dr S dr ow ox ∧ Kp ox ox V V' :=
  (rany_all T.xd T.wd.ok).mono (fun _ _ ⟨v, go, he, R, _, D, K⟩ => ⟨v, go, he, R, T.x D K, K⟩)
end

set_option maxHeartbeats 4000000 in
set_option maxRecDepth 100000 in
theorem steps_walk (a0 : Option Addr) (len0 cap0 : Nat) (Xf : Nat → List Int) (W : World) (hlen : len0 ≤ 1048576)
    (hst : Hid (∀ i, i < len0 → ∃ b off kd c n a cap, a0 = some ⟨b, off, none⟩ ∧ StepAt W b off i kd c n a cap (Xf i))) (htot : Hid (∀ j, j ≤ len0 → total Xf j ≤ 1048576)) :
    Calls Try.prog 3 #[.slice a0 len0 cap0] W fun e w' => e = .returned (.bool true) ∧ Below W.heap.size W w' := by
  go_enter Try.func3, Try.ntmps3
  go_wp2_with fail
  refine (does_new W).mono ?_
  rintro e w1 ⟨rfl, rfl⟩
  have hz : (W.alloc (.cells #[.map none, .map none, .slice none 0 0] 61)).heap.size = W.heap.size + 1 := by simp
  have F1 := Fr.alloc (fun _ => False) (W.alloc (.cells #[.map none, .map none, .slice none 0 0] 61)) (.cells #[.slice none 0 0, .slice none 0 0] 29)
  have X1 := Xd.begin (W.alloc (.cells #[.map none, .map none, .slice none 0 0] 61))
  rw [hz] at X1
  have I0 : Hid (∃ S dr ow ox, StInv W W.heap.size (W.heap.size + 1) (total Xf 0) 0 ((W.alloc (.cells #[.map none, .map none, .slice none 0 0] 61)).alloc (.cells #[.slice none 0 0, .slice none 0 0] 29)) S dr ow ox) :=
    hide ⟨[], [], _, _, (Wd.begin W).frame F1.size (fun b t e => F1.block b ((Wd.begin W).low b t e) (fun e => e)), X1, (fun b t e => by
      unfold ownOne at e ⊢
      split at e
      · rename_i hb; rw [if_neg (by omega)]
      · cases e), (Fr.alloc _ W _).trans F1 (fun _ _ e => e.elim), fun b hb => by unfold ownOne; rw [if_neg (by omega)], fun b hb => by unfold ownOne; rw [if_neg (by omega)], by simp, nofun⟩
  clear F1 X1 hz
  unfold ptr
  go_wp2_with fail
  go_loopw [19] (fun v wr => ∃ (j : Nat), j ≤ len0 ∧ v = .int .i64 (j : Int) ∧ Hid (∃ S dr ow ox, StInv W W.heap.size (W.heap.size + 1) (total Xf j) j wr S dr ow ox)) (fun v _ => len0 - (intOf v).toNat)
  case atStart => exact ⟨0, Nat.zero_le _, rfl, I0⟩
  case round =>
    clear I0
    obtain ⟨j, hj, rfl, HI⟩ := hrel
    obtain ⟨S0, dr0, ow0, ox0, HI⟩ := HI.out
    by_cases hlt : j < len0
    · have ht1 := htot.out (j + 1) (by omega)
      have ht2 : total Xf (j + 1) = total Xf j + (Xf j).length := rfl
      obtain ⟨pb, po, kd, k, n, xa, xc, rfl, P0⟩ := hst.out j hlt
      have P1 := P0.frame HI.old
      have c0 := P1.c0
      have c1 := P1.c1
      have c2 := P1.c2
      have c3 := P1.c3
      have kwf := hide P0.cwf
      obtain ⟨X, HX⟩ : ∃ X, Hid (Xf j = X) := ⟨_, hide rfl⟩
      rw [HX.out] at c3 ht2 P0
      have hXl : X.length ≤ 1048576 := by omega
      have hm : total Xf j ≤ 1048576 := by omega
      have hl0 : S0.length ≤ 1048576 := by have := HI.len; omega
      have hA := hide (asks_any (HI.two #[.int .i64 kd, .int .i64 k, .int .i64 n, .slice xa X.length xc]) HI.wd.ok kd k n xa xc X kwf.out P0.sl hXl hl0 hl0 (fun x hx => by have := HI.sent x hx; omega) (fun x hx => by have := HI.sent x hx; omega))
      have hC := sStep_chg S0 dr0 kd k n X
      have HL : Hid ((sStep S0 dr0 kd k n X).1.length ≤ j + 1) := hide (by have := hC.len; have := HI.len; omega)
      have HSe : Hid (∀ x ∈ (sStep S0 dr0 kd k n X).1, x.sent.length ≤ total Xf (j + 1)) := hide (by rw [ht2]; exact hC.sent HI.sent)
      obtain ⟨S, hS⟩ : ∃ S, S = (sStep S0 dr0 kd k n X).1 := ⟨_, rfl⟩
      obtain ⟨dr, hdr⟩ : ∃ dr, dr = (sStep S0 dr0 kd k n X).2 := ⟨_, rfl⟩
      rw [← hS, ← hdr] at hA
      rw [← hS] at HL HSe
      clear P1 P0 hst HX htot HI ht1 ht2 hC hS hdr
      go_wp2_with fail
      refine hA.out.mono ?_
      intro e V hV
      obtain ⟨b, rfl, hb, ow, ox, T1⟩ := hV
      have hb' := hb (by simp)
      subst hb'
      have s1 : V.cell? ⟨wr.heap.size, 1, none⟩ = some (.int .i64 k) := by rw [cell_of T1.kz]; rfl
      have HT := hide T1
      clear hA hb T1 c0 c1 c2 c3 hXl hm
      go_wp2_with fail
      refine (any_waits HT.out.wd kwf.out).mono ?_
      rintro e V2 ⟨rfl, D2, K2⟩
      have T2 := HT.out.w D2 K2
      clear HT D2 K2 s1
      have s1 : V2.cell? ⟨wr.heap.size, 1, none⟩ = some (.int .i64 k) := by rw [cell_of T2.kz]; rfl
      have H12 := hide (two12 (W0 := ⟨W, wr.heap.size, .cells #[.int .i64 kd, .int .i64 k, .int .i64 n, .slice xa X.length xc] 32 (0, 0)⟩) (c := W.heap.size) (d := W.heap.size + 1) (S := S) (dr := dr) (ow := ow) (ox := ox) k kwf.out)
      have H13 := hide (two13 (W0 := ⟨W, wr.heap.size, .cells #[.int .i64 kd, .int .i64 k, .int .i64 n, .slice xa X.length xc] 32 (0, 0)⟩) (c := W.heap.size) (d := W.heap.size + 1) (S := S) (dr := dr) (ow := ow) (ox := ox) k)
      have H15 := hide (two15 (W0 := ⟨W, wr.heap.size, .cells #[.int .i64 kd, .int .i64 k, .int .i64 n, .slice xa X.length xc] 32 (0, 0)⟩) (c := W.heap.size) (d := W.heap.size + 1) (S := S) (dr := dr) (ow := ow) (ox := ox))
      have H16 := hide (two16 (W0 := ⟨W, wr.heap.size, .cells #[.int .i64 kd, .int .i64 k, .int .i64 n, .slice xa X.length xc] 32 (0, 0)⟩) (c := W.heap.size) (d := W.heap.size + 1) (S := S) (dr := dr) (ow := ow) (ox := ox))
      obtain ⟨A, hA⟩ : ∃ A, Hid (A = sorted (opens S)) := ⟨_, hide rfl⟩
      have hAl : A.length ≤ 1099511627776 := by
        have h := T2.wd.ok.cnt
        have e : A.length = (S.filter Cn.isOpen).length := by rw [hA.out, (sorted_perm _).length_eq]; simp [opens]
        omega
      rw [← hA.out] at H15 H16
      obtain ⟨Q, hQ⟩ : ∃ Q, Hid (Q = sSent S k) := ⟨_, hide rfl⟩
      rw [← hQ.out] at H12 H13
      obtain ⟨sx, Hsx⟩ : ∃ s, Hid (strOfNums Q = s) := ⟨_, hide rfl⟩
      clear hA hQ
      unfold sWaits
      rcases withAt_cases S k with ⟨i, x, hx, hxk, ho, hw⟩ | ⟨hn, hw⟩
      · rw [hw]
        subst hxk
        clear hw
        have hi : i < 1048576 := by have := (List.getElem?_eq_some_iff.1 hx).1; have := HL.out; omega
        have HT := hide T2
        have hxd := T2.xd
        obtain ⟨lv, lg, px, dv, dg, hxd⟩ := hxd
        have HX := hide hxd
        have h11 := hide (rat_yes hxd T2.wd.ok hx ho)
        have Hx := hide hx
        clear T2 hxd hx
        go_wp2_with fail
        refine h11.out.mono ?_
        intro e V3 hV
        obtain ⟨rfl, F3⟩ := hV
        have T3 := hide (HT.out.fr F3)
        have X3 := HX.out.frame F3.size (fun b t e => F3.block b (HX.out.low b t e) (fun e => e))
        replace s1 : V3.cell? ⟨wr.heap.size, 1, none⟩ = some (.int .i64 x.num) := by rw [cell_of T3.out.kz]; rfl
        have d0 : V3.cell? ⟨W.heap.size + 1, 0, none⟩ = some lv := by rw [cell_of X3.blk]; rfl
        have hil := (List.getElem?_eq_some_iff.1 Hx.out).1
        rcases X3.row with ⟨-, -, e0⟩ | ⟨g, lcap, rfl, rfl, h1, h2, h3, h4⟩
        · rw [e0] at hil; simp at hil
        have g2 : V3.cell? ⟨g, i * 6 + 2, none⟩ = some (.bool x.ended) := h4 i x Hx.out 2 (by omega)
        have g3 : V3.cell? ⟨g, i * 6 + 3, none⟩ = some (px i).wv := h4 i x Hx.out 3 (by omega)
        obtain ⟨wa, wc, ew, _⟩ := (X3.ent i x Hx.out).wrow.sl
        rw [ew] at g3
        clear h11 HT HX F3 X3 h3 h4 h2 ew
        go_wp2_with fail
        clear d0 g2 g3
        replace T3 := hide (T3.out.fr (Fr.drew (fun _ => False) _))
        have sd : V3.drew.cell? ⟨wr.heap.size, 1, none⟩ = some (.int .i64 x.num) := by rw [cell_of T3.out.kz]; rfl
        clear s1
        refine wp_region_noPanic ?_
        refine wp_region_held_drew (S := fun w' => w'.cell? ⟨wr.heap.size, 1, none⟩ = some (.int .i64 x.num)) (by kernel_rfl) sd (fun hHeld => ?_)
        refine wpAnyH_take (i := 0) (v := ?_) rfl (by kernel_rfl) (by kernel_rfl) (by kernel_rfl) (fun _ _ _ h => h) (Or.inl ⟨by rfl, ?_⟩) (by assumption) ?_
        rotate_left
        · (intro w hSw; (try dsimp only at hSw); go_simp; try with_reducible rfl)
        simp only [List.getElem_toArray, List.getElem_cons_zero, Act.put, List.setIfInBounds_toArray, List.set_cons_zero, List.set_cons_succ]
        refine wpAnyH_take (i := 1) (v := ?_) rfl (by kernel_rfl) (by kernel_rfl) (by kernel_rfl) (fun _ _ _ h => h) (Or.inl ⟨by rfl, ?_⟩) (by assumption) ?_
        rotate_left
        · (intro w hSw; (try dsimp only at hSw); go_simp; try with_reducible rfl)
        simp only [List.getElem_toArray, List.getElem_cons_zero, List.getElem_cons_succ, Act.put, List.setIfInBounds_toArray, List.set_cons_zero, List.set_cons_succ]
        refine wpAnyH_take (i := 2) (v := ?_) rfl (by kernel_rfl) (by kernel_rfl) (by kernel_rfl) (fun _ _ _ h => h) (Or.inl ⟨by rfl, ?_⟩) (by assumption) ?_
        rotate_left
        · (intro w hSw; (try dsimp only at hSw); go_simp; try with_reducible rfl)
        simp only [List.getElem_toArray, List.getElem_cons_zero, List.getElem_cons_succ, Act.put, List.setIfInBounds_toArray, List.set_cons_zero, List.set_cons_succ]
        refine wpAnyH_take (i := 3) (v := ?_) rfl (by kernel_rfl) (by kernel_rfl) (by kernel_rfl) (fun _ _ _ h => h) (Or.inl ⟨by rfl, ?_⟩) (by assumption) ?_
        rotate_left
        · (intro w hSw; (try dsimp only at hSw); go_simp; try with_reducible rfl)
        simp only [List.getElem_toArray, List.getElem_cons_zero, List.getElem_cons_succ, Act.put, List.setIfInBounds_toArray, List.set_cons_zero, List.set_cons_succ]
        refine wpAnyH_take (i := 4) (v := ?_) rfl (by kernel_rfl) (by kernel_rfl) (by kernel_rfl) (fun _ _ _ h => h) (Or.inl ⟨by rfl, ?_⟩) (by assumption) ?_
        rotate_left
        · (intro w hSw; (try dsimp only at hSw); go_simp; try with_reducible rfl)
        simp only [List.getElem_toArray, List.getElem_cons_zero, List.getElem_cons_succ, Act.put, List.setIfInBounds_toArray, List.set_cons_zero, List.set_cons_succ]
        refine wpAnyH_take (i := 5) (v := ?_) rfl (by kernel_rfl) (by kernel_rfl) (by kernel_rfl) (fun _ _ _ h => h) (Or.inl ⟨by rfl, ?_⟩) (by assumption) ?_
        rotate_left
        · (intro w hSw; (try dsimp only at hSw); go_simp; try with_reducible rfl)
        simp only [List.getElem_toArray, List.getElem_cons_zero, List.getElem_cons_succ, Act.put, List.setIfInBounds_toArray, List.set_cons_zero, List.set_cons_succ]
        refine wpAnyH_take (i := 6) (v := ?_) rfl (by kernel_rfl) (by kernel_rfl) (by kernel_rfl) (fun _ _ _ h => h) (Or.inl ⟨by rfl, ?_⟩) (by assumption) ?_
        rotate_left
        · (intro w hSw; (try dsimp only at hSw); go_simp; try with_reducible rfl)
        simp only [List.getElem_toArray, List.getElem_cons_zero, List.getElem_cons_succ, Act.put, List.setIfInBounds_toArray, List.set_cons_zero, List.set_cons_succ]
        refine wpAnyH_take (i := 7) (v := ?_) rfl (by kernel_rfl) (by kernel_rfl) (by kernel_rfl) (fun _ _ _ h => h) (Or.inl ⟨by rfl, ?_⟩) (by assumption) ?_
        rotate_left
        · (intro w hSw; (try dsimp only at hSw); go_simp; try with_reducible rfl)
        simp only [List.getElem_toArray, List.getElem_cons_zero, List.getElem_cons_succ, Act.put, List.setIfInBounds_toArray, List.set_cons_zero, List.set_cons_succ]
        refine wpAnyH_take (i := 8) (v := ?_) rfl (by kernel_rfl) (by kernel_rfl) (by kernel_rfl) (fun _ _ _ h => h) (Or.inl ⟨by rfl, ?_⟩) (by assumption) ?_
        rotate_left
        · (intro w hSw; (try dsimp only at hSw); go_simp; try with_reducible rfl)
        simp only [List.getElem_toArray, List.getElem_cons_zero, List.getElem_cons_succ, Act.put, List.setIfInBounds_toArray, List.set_cons_zero, List.set_cons_succ]
        refine wpAnyH_take (i := 9) (v := ?_) rfl (by kernel_rfl) (by kernel_rfl) (by kernel_rfl) (fun _ _ _ h => h) (Or.inl ⟨by rfl, ?_⟩) (by assumption) ?_
        rotate_left
        · (intro w hSw; (try dsimp only at hSw); go_simp; try with_reducible rfl)
        simp only [List.getElem_toArray, List.getElem_cons_zero, List.getElem_cons_succ, Act.put, List.setIfInBounds_toArray, List.set_cons_zero, List.set_cons_succ]
        refine wpAnyH_take (i := 10) (v := ?_) rfl (by kernel_rfl) (by kernel_rfl) (by kernel_rfl) (fun _ _ _ h => h) (Or.inl ⟨by rfl, ?_⟩) (by assumption) ?_
        rotate_left
        · (intro w hSw; (try dsimp only at hSw); go_simp; try with_reducible rfl)
        simp only [List.getElem_toArray, List.getElem_cons_zero, List.getElem_cons_succ, Act.put, List.setIfInBounds_toArray, List.set_cons_zero, List.set_cons_succ]
        refine wpAnyH_take (i := 11) (v := ?_) rfl (by kernel_rfl) (by kernel_rfl) (by kernel_rfl) (fun _ _ _ h => h) (Or.inl ⟨by rfl, ?_⟩) (by assumption) ?_
        rotate_left
        · (intro w hSw; (try dsimp only at hSw); go_simp; try with_reducible rfl)
        simp only [List.getElem_toArray, List.getElem_cons_zero, List.getElem_cons_succ, Act.put, List.setIfInBounds_toArray, List.set_cons_zero, List.set_cons_succ]
        refine wpAnyH_take (i := 14) (v := ?_) rfl (by kernel_rfl) (by kernel_rfl) (by kernel_rfl) (fun _ _ _ h => h) (Or.inl ⟨by rfl, ?_⟩) (by assumption) ?_
        rotate_left
        · (intro w hSw; (try dsimp only at hSw); go_simp; try with_reducible rfl)
        simp only [List.getElem_toArray, List.getElem_cons_zero, List.getElem_cons_succ, Act.put, List.setIfInBounds_toArray, List.set_cons_zero, List.set_cons_succ]
        refine wpAnyH_take (i := 15) (v := ?_) rfl (by kernel_rfl) (by kernel_rfl) (by kernel_rfl) (fun _ _ _ h => h) (Or.inl ⟨by rfl, ?_⟩) (by assumption) ?_
        rotate_left
        · (intro w hSw; (try dsimp only at hSw); go_simp; try with_reducible rfl)
        simp only [List.getElem_toArray, List.getElem_cons_zero, List.getElem_cons_succ, Act.put, List.setIfInBounds_toArray, List.set_cons_zero, List.set_cons_succ]
        refine wpAnyH_take (i := 16) (v := ?_) rfl (by kernel_rfl) (by kernel_rfl) (by kernel_rfl) (fun _ _ _ h => h) (Or.inl ⟨by rfl, ?_⟩) (by assumption) ?_
        rotate_left
        · (intro w hSw; (try dsimp only at hSw); go_simp; try with_reducible rfl)
        simp only [List.getElem_toArray, List.getElem_cons_zero, List.getElem_cons_succ, Act.put, List.setIfInBounds_toArray, List.set_cons_zero, List.set_cons_succ]
        refine wpAnyH_ready (rs := [12]) (by kernel_rfl) (by simp) ?_
        refine AllReadyH.cons rfl (fun K hK => ?_) AllReadyH.nil
        go_simp
        refine (H12.out _ T3.out).mono ?_
        rintro e V4 ⟨v4, go4, rfl, R4, N4, T4⟩
        have s4 : V4.cell? ⟨wr.heap.size, 1, none⟩ = some (.int .i64 x.num) := by rw [cell_of T4.kz]; rfl
        have t4 := R4.sl.text
        rw [Hsx.out] at t4
        replace R4 := hide R4
        replace N4 := hide N4
        replace T4 := hide T4
        clear T3 sd
        go_wp2_with fail
        refine hK.out _ _ s4 (fun hHeld => ?_)
        clear hK K
        try simp only [List.getElem_toArray, List.getElem_cons_zero, List.getElem_cons_succ, Act.put, List.setIfInBounds_toArray, List.set_cons_zero, List.set_cons_succ]
        refine wpAnyH_weaken (S' := fun w' => w'.cell? ⟨wr.heap.size, 1, none⟩ = some (.int .i64 x.num) ∧ (convert 30 9 v4).run Try.prog w' = .ok (.string sx) w') (fun W h => h.1) _ _ _ _ ?_
        have hH2 : V4.cell? ⟨wr.heap.size, 1, none⟩ = some (.int .i64 x.num) ∧ (convert 30 9 v4).run Try.prog V4 = .ok (.string sx) V4 := ⟨s4, t4⟩
        refine wpAnyH_take (i := 13) (v := ?_) rfl (by kernel_rfl) (by kernel_rfl) (by kernel_rfl) (fun _ _ _ h => h) (Or.inl ⟨by rfl, ?_⟩) (by assumption) ?_
        rotate_left
        · (intro w hSw; (try dsimp only at hSw); go_simp; try with_reducible rfl)
        simp only [List.getElem_toArray, List.getElem_cons_zero, List.getElem_cons_succ, Act.put, List.setIfInBounds_toArray, List.set_cons_zero, List.set_cons_succ]
        refine wpAnyH_ready (rs := [17]) (by kernel_rfl) (by simp) ?_
        refine AllReadyH.cons rfl (fun K hK => ?_) AllReadyH.nil
        go_simp
        refine (H13.out _ T4.out).mono ?_
        rintro e V5 ⟨v5, go5, rfl, R5, T5, K5⟩
        have s5 : V5.cell? ⟨wr.heap.size, 1, none⟩ = some (.int .i64 x.num) := by rw [cell_of T5.kz]; rfl
        have t5 := R5.sl.text
        have R45 := R4.out.frame K5.fr.size (fun g e => K5.fr.block g (by rw [e] at R4; exact R4.out.lt) (fun e2 => e2 (N4.out g e).2))
        have u5 := R45.sl.text
        rw [Hsx.out] at t5 u5
        replace R45 := hide R45
        replace T5 := hide T5
        clear R5 K5 R4 T4 s4 t4 hH2
        go_wp2_with fail
        refine hK.out _ _ ⟨s5, u5⟩ (fun hHeld => ?_)
        clear hK K
        try simp only [List.getElem_toArray, List.getElem_cons_zero, List.getElem_cons_succ, Act.put, List.setIfInBounds_toArray, List.set_cons_zero, List.set_cons_succ]
        refine wpAnyH_ready (rs := [18]) (by kernel_rfl) (by simp) ?_
        refine AllReadyH.cons rfl (fun K hK => ?_) AllReadyH.nil
        go_simp
        refine hK.out _ _ ⟨s5, u5⟩ (fun hHeld => ?_)
        clear hK K
        try simp only [List.getElem_toArray, List.getElem_cons_zero, List.getElem_cons_succ, Act.put, List.setIfInBounds_toArray, List.set_cons_zero, List.set_cons_succ]
        have hH3 : V5.cell? ⟨wr.heap.size, 1, none⟩ = some (.int .i64 x.num) ∧ (convert 30 9 v4).run Try.prog V5 = .ok (.string sx) V5 := ⟨s5, u5⟩
        refine wpAnyH_take (i := 19) (v := ?_) rfl (by kernel_rfl) (by kernel_rfl) (by kernel_rfl) (fun _ _ _ h => h) (Or.inl ⟨by rfl, ?_⟩) (by assumption) ?_
        rotate_left
        · (intro w hSw; (try dsimp only at hSw); go_simp; try with_reducible rfl)
        simp only [List.getElem_toArray, List.getElem_cons_zero, List.getElem_cons_succ, Act.put, List.setIfInBounds_toArray, List.set_cons_zero, List.set_cons_succ]
        refine wpAnyH_take (i := 20) (v := ?_) rfl (by kernel_rfl) (by kernel_rfl) (by kernel_rfl) (fun _ _ _ h => h) (Or.inl ⟨by rfl, ?_⟩) (by assumption) ?_
        rotate_left
        · (intro w hSw; (try dsimp only at hSw); go_simp; try with_reducible rfl)
        simp only [List.getElem_toArray, List.getElem_cons_zero, List.getElem_cons_succ, Act.put, List.setIfInBounds_toArray, List.set_cons_zero, List.set_cons_succ]
        refine wpAnyH_take (i := 21) (v := ?_) rfl (by kernel_rfl) (by kernel_rfl) (by kernel_rfl) (fun _ _ _ h => h) (Or.inl ⟨by rfl, ?_⟩) (by assumption) ?_
        rotate_left
        · (intro w hSw; (try dsimp only at hSw); go_simp; try with_reducible rfl)
        simp only [List.getElem_toArray, List.getElem_cons_zero, List.getElem_cons_succ, Act.put, List.setIfInBounds_toArray, List.set_cons_zero, List.set_cons_succ]
        refine wpAnyH_take (i := 22) (v := ?_) rfl (by kernel_rfl) (by kernel_rfl) (by kernel_rfl) (fun _ _ _ h => h) (Or.inl ⟨by rfl, ?_⟩) (by assumption) ?_
        rotate_left
        · (intro w hSw; (try dsimp only at hSw); go_simp; try with_reducible rfl)
        simp only [List.getElem_toArray, List.getElem_cons_zero, List.getElem_cons_succ, Act.put, List.setIfInBounds_toArray, List.set_cons_zero, List.set_cons_succ]
        refine wpAnyH_take (i := 24) (v := ?_) rfl (by kernel_rfl) (by kernel_rfl) (by kernel_rfl) (fun _ _ _ h => h) (Or.inl ⟨by rfl, ?_⟩) (by assumption) ?_
        rotate_left
        · (intro w hSw; (try dsimp only at hSw); go_simp; try with_reducible rfl)
        simp only [List.getElem_toArray, List.getElem_cons_zero, List.getElem_cons_succ, Act.put, List.setIfInBounds_toArray, List.set_cons_zero, List.set_cons_succ]
        refine wpAnyH_ready (rs := [23]) (by kernel_rfl) (by simp) ?_
        refine AllReadyH.cons rfl (fun K hK => ?_) AllReadyH.nil
        go_simp
        refine (H15.out _ T5.out).mono ?_
        rintro e V6 ⟨v6, go6, rfl, R6, N6, T6, K6⟩
        have s6 : V6.cell? ⟨wr.heap.size, 1, none⟩ = some (.int .i64 x.num) := by rw [cell_of T6.kz]; rfl
        have R46 := R45.out.frame K6.fr.size (fun g e => K6.fr.block g (by rw [e] at R45; exact R45.out.lt) (fun e2 => e2 (N4.out g e).1))
        have u6 := R46.sl.text
        rw [Hsx.out] at u6
        replace R46 := hide R46
        replace T6 := hide T6
        replace R6 := hide R6
        replace N6 := hide N6
        clear K6 R45 T5 s5 t5 u5 hH3
        go_wp2_with fail
        refine hK.out _ _ ⟨s6, u6⟩ (fun hHeld => ?_)
        clear hK K
        try simp only [List.getElem_toArray, List.getElem_cons_zero, List.getElem_cons_succ, Act.put, List.setIfInBounds_toArray, List.set_cons_zero, List.set_cons_succ]
        refine wpAnyH_ready (rs := [25]) (by kernel_rfl) (by simp) ?_
        refine AllReadyH.cons rfl (fun K hK => ?_) AllReadyH.nil
        go_simp
        refine (H16.out _ T6.out).mono ?_
        rintro e V7 ⟨v7, go7, rfl, R7, T7, K7⟩
        have s7 : V7.cell? ⟨wr.heap.size, 1, none⟩ = some (.int .i64 x.num) := by rw [cell_of T7.kz]; rfl
        have R47 := R46.out.frame K7.fr.size (fun g e => K7.fr.block g (by rw [e] at R46; exact R46.out.lt) (fun e2 => e2 (N4.out g e).2))
        have R67 := R6.out.frame K7.fr.size (fun g e => K7.fr.block g (by rw [e] at R6; exact R6.out.lt) (fun e2 => e2 (N6.out g e)))
        have u7 := R47.sl.text
        rw [Hsx.out] at u7
        have h14 := hide (ints_any R67.sl R7.sl hAl)
        replace R47 := hide R47
        replace T7 := hide T7
        clear K7 R46 T6 s6 u6 R6 R7 R67
        go_wp2_with fail
        refine hK.out _ _ ⟨s7, u7⟩ (fun hHeld => ?_)
        clear hK K
        try simp only [List.getElem_toArray, List.getElem_cons_zero, List.getElem_cons_succ, Act.put, List.setIfInBounds_toArray, List.set_cons_zero, List.set_cons_succ]
        refine wpAnyH_ready (rs := [26]) (by kernel_rfl) (by simp) ?_
        refine AllReadyH.cons rfl (fun K hK => ?_) AllReadyH.nil
        go_simp
        refine h14.out.mono ?_
        rintro e V8 ⟨rfl, F8⟩
        have T8 := T7.out.fr F8
        have s8 : V8.cell? ⟨wr.heap.size, 1, none⟩ = some (.int .i64 x.num) := by rw [cell_of T8.kz]; rfl
        have u8 := (R47.out.frame F8.size (fun g e => F8.block g (by rw [e] at R47; exact R47.out.lt) (fun e2 => e2))).sl.text
        rw [Hsx.out] at u8
        replace T8 := hide T8
        simp only [decide_true]
        clear F8 T7 R47 s7 u7 h14
        go_wp2_with fail
        refine hK.out _ _ ⟨s8, u8⟩ (fun hHeld => ?_)
        clear hK K
        try simp only [List.getElem_toArray, List.getElem_cons_zero, List.getElem_cons_succ, Act.put, List.setIfInBounds_toArray, List.set_cons_zero, List.set_cons_succ]
        have hH4 : V8.cell? ⟨wr.heap.size, 1, none⟩ = some (.int .i64 x.num) ∧ (convert 30 9 v4).run Try.prog V8 = .ok (.string sx) V8 := ⟨s8, u8⟩
        refine wpAnyH_take (i := 27) (v := ?_) rfl (by kernel_rfl) (by kernel_rfl) (by kernel_rfl) (fun _ _ _ h => h) (Or.inl ⟨by rfl, ?_⟩) (by assumption) ?_
        rotate_left
        · (intro w hSw; (try dsimp only at hSw); go_simp; try with_reducible rfl)
        simp only [List.getElem_toArray, List.getElem_cons_zero, List.getElem_cons_succ, Act.put, List.setIfInBounds_toArray, List.set_cons_zero, List.set_cons_succ]
        refine wpAnyH_take (i := 28) (v := ?_) rfl (by kernel_rfl) (by kernel_rfl) (by kernel_rfl) (fun _ _ _ h => h) (Or.inl ⟨by rfl, ?_⟩) (by assumption) ?_
        rotate_left
        · (intro w hSw; (try dsimp only at hSw); go_simp; try with_reducible rfl)
        simp only [List.getElem_toArray, List.getElem_cons_zero, List.getElem_cons_succ, Act.put, List.setIfInBounds_toArray, List.set_cons_zero, List.set_cons_succ]
        refine wpAnyH_done (by kernel_rfl) ?_ _
        refine NoPanic.normal ?_
        clear hH4 s8 u8
        go_wp2_with fail
        go_roundw
        case rel => exact ⟨j + 1, by omega, by go_num, hide ⟨_, _, _, _, T8.out.wd, T8.out.xd, T8.out.dis, T8.out.old, T8.out.noW, T8.out.noX, HL.out, HSe.out⟩⟩
        case measure => simp [intOf]; omega
      · rw [hw]
        clear hw
        have HT := hide T2
        have hxd := T2.xd
        obtain ⟨lv, lg, px, dv, dg, hxd⟩ := hxd
        have h11 := hide (rat_no hxd T2.wd.ok hn)
        clear T2 hxd hn
        go_wp2_with fail
        refine h11.out.mono ?_
        intro e V3 hV
        obtain ⟨rfl, F3⟩ := hV
        have T3 := hide (HT.out.fr F3)
        replace s1 : V3.cell? ⟨wr.heap.size, 1, none⟩ = some (.int .i64 k) := by rw [cell_of T3.out.kz]; rfl
        clear h11 HT F3
        go_wp2_with fail
        replace T3 := hide (T3.out.fr (Fr.drew (fun _ => False) _))
        have sd : V3.drew.cell? ⟨wr.heap.size, 1, none⟩ = some (.int .i64 k) := by rw [cell_of T3.out.kz]; rfl
        clear s1
        refine wp_region_noPanic ?_
        refine wp_region_held_drew (S := fun w' => w'.cell? ⟨wr.heap.size, 1, none⟩ = some (.int .i64 k)) (by kernel_rfl) sd (fun hHeld => ?_)
        refine wpAnyH_take (i := 0) (v := ?_) rfl (by kernel_rfl) (by kernel_rfl) (by kernel_rfl) (fun _ _ _ h => h) (Or.inl ⟨by rfl, ?_⟩) (by assumption) ?_
        rotate_left
        · (intro w hSw; (try dsimp only at hSw); go_simp; try with_reducible rfl)
        simp only [List.getElem_toArray, List.getElem_cons_zero, Act.put, List.setIfInBounds_toArray, List.set_cons_zero, List.set_cons_succ]
        refine wpAnyH_take (i := 1) (v := ?_) rfl (by kernel_rfl) (by kernel_rfl) (by kernel_rfl) (fun _ _ _ h => h) (Or.inl ⟨by rfl, ?_⟩) (by assumption) ?_
        rotate_left
        · (intro w hSw; (try dsimp only at hSw); go_simp; try with_reducible rfl)
        simp only [List.getElem_toArray, List.getElem_cons_zero, List.getElem_cons_succ, Act.put, List.setIfInBounds_toArray, List.set_cons_zero, List.set_cons_succ]
        refine wpAnyH_take (i := 2) (v := ?_) rfl (by kernel_rfl) (by kernel_rfl) (by kernel_rfl) (fun _ _ _ h => h) (Or.inl ⟨by rfl, ?_⟩) (by assumption) ?_
        rotate_left
        · (intro w hSw; (try dsimp only at hSw); go_simp; try with_reducible rfl)
        simp only [List.getElem_toArray, List.getElem_cons_zero, List.getElem_cons_succ, Act.put, List.setIfInBounds_toArray, List.set_cons_zero, List.set_cons_succ]
        refine wpAnyH_take (i := 3) (v := ?_) rfl (by kernel_rfl) (by kernel_rfl) (by kernel_rfl) (fun _ _ _ h => h) (Or.inl ⟨by rfl, ?_⟩) (by assumption) ?_
        rotate_left
        · (intro w hSw; (try dsimp only at hSw); go_simp; try with_reducible rfl)
        simp only [List.getElem_toArray, List.getElem_cons_zero, List.getElem_cons_succ, Act.put, List.setIfInBounds_toArray, List.set_cons_zero, List.set_cons_succ]
        refine wpAnyH_take (i := 4) (v := ?_) rfl (by kernel_rfl) (by kernel_rfl) (by kernel_rfl) (fun _ _ _ h => h) (Or.inl ⟨by rfl, ?_⟩) (by assumption) ?_
        rotate_left
        · (intro w hSw; (try dsimp only at hSw); go_simp; try with_reducible rfl)
        simp only [List.getElem_toArray, List.getElem_cons_zero, List.getElem_cons_succ, Act.put, List.setIfInBounds_toArray, List.set_cons_zero, List.set_cons_succ]
        refine wpAnyH_take (i := 5) (v := ?_) rfl (by kernel_rfl) (by kernel_rfl) (by kernel_rfl) (fun _ _ _ h => h) (Or.inl ⟨by rfl, ?_⟩) (by assumption) ?_
        rotate_left
        · (intro w hSw; (try dsimp only at hSw); go_simp; try with_reducible rfl)
        simp only [List.getElem_toArray, List.getElem_cons_zero, List.getElem_cons_succ, Act.put, List.setIfInBounds_toArray, List.set_cons_zero, List.set_cons_succ]
        refine wpAnyH_take (i := 6) (v := ?_) rfl (by kernel_rfl) (by kernel_rfl) (by kernel_rfl) (fun _ _ _ h => h) (Or.inl ⟨by rfl, ?_⟩) (by assumption) ?_
        rotate_left
        · (intro w hSw; (try dsimp only at hSw); go_simp; try with_reducible rfl)
        simp only [List.getElem_toArray, List.getElem_cons_zero, List.getElem_cons_succ, Act.put, List.setIfInBounds_toArray, List.set_cons_zero, List.set_cons_succ]
        refine wpAnyH_take (i := 7) (v := ?_) rfl (by kernel_rfl) (by kernel_rfl) (by kernel_rfl) (fun _ _ _ h => h) (Or.inl ⟨by rfl, ?_⟩) (by assumption) ?_
        rotate_left
        · (intro w hSw; (try dsimp only at hSw); go_simp; try with_reducible rfl)
        simp only [List.getElem_toArray, List.getElem_cons_zero, List.getElem_cons_succ, Act.put, List.setIfInBounds_toArray, List.set_cons_zero, List.set_cons_succ]
        refine wpAnyH_take (i := 8) (v := ?_) rfl (by kernel_rfl) (by kernel_rfl) (by kernel_rfl) (fun _ _ _ h => h) (Or.inl ⟨by rfl, ?_⟩) (by assumption) ?_
        rotate_left
        · (intro w hSw; (try dsimp only at hSw); go_simp; try with_reducible rfl)
        simp only [List.getElem_toArray, List.getElem_cons_zero, List.getElem_cons_succ, Act.put, List.setIfInBounds_toArray, List.set_cons_zero, List.set_cons_succ]
        refine wpAnyH_take (i := 9) (v := ?_) rfl (by kernel_rfl) (by kernel_rfl) (by kernel_rfl) (fun _ _ _ h => h) (Or.inl ⟨by rfl, ?_⟩) (by assumption) ?_
        rotate_left
        · (intro w hSw; (try dsimp only at hSw); go_simp; try with_reducible rfl)
        simp only [List.getElem_toArray, List.getElem_cons_zero, List.getElem_cons_succ, Act.put, List.setIfInBounds_toArray, List.set_cons_zero, List.set_cons_succ]
        refine wpAnyH_take (i := 10) (v := ?_) rfl (by kernel_rfl) (by kernel_rfl) (by kernel_rfl) (fun _ _ _ h => h) (Or.inl ⟨by rfl, ?_⟩) (by assumption) ?_
        rotate_left
        · (intro w hSw; (try dsimp only at hSw); go_simp; try with_reducible rfl)
        simp only [List.getElem_toArray, List.getElem_cons_zero, List.getElem_cons_succ, Act.put, List.setIfInBounds_toArray, List.set_cons_zero, List.set_cons_succ]
        refine wpAnyH_take (i := 11) (v := ?_) rfl (by kernel_rfl) (by kernel_rfl) (by kernel_rfl) (fun _ _ _ h => h) (Or.inl ⟨by rfl, ?_⟩) (by assumption) ?_
        rotate_left
        · (intro w hSw; (try dsimp only at hSw); go_simp; try with_reducible rfl)
        simp only [List.getElem_toArray, List.getElem_cons_zero, List.getElem_cons_succ, Act.put, List.setIfInBounds_toArray, List.set_cons_zero, List.set_cons_succ]
        refine wpAnyH_take (i := 14) (v := ?_) rfl (by kernel_rfl) (by kernel_rfl) (by kernel_rfl) (fun _ _ _ h => h) (Or.inl ⟨by rfl, ?_⟩) (by assumption) ?_
        rotate_left
        · (intro w hSw; (try dsimp only at hSw); go_simp; try with_reducible rfl)
        simp only [List.getElem_toArray, List.getElem_cons_zero, List.getElem_cons_succ, Act.put, List.setIfInBounds_toArray, List.set_cons_zero, List.set_cons_succ]
        refine wpAnyH_take (i := 15) (v := ?_) rfl (by kernel_rfl) (by kernel_rfl) (by kernel_rfl) (fun _ _ _ h => h) (Or.inl ⟨by rfl, ?_⟩) (by assumption) ?_
        rotate_left
        · (intro w hSw; (try dsimp only at hSw); go_simp; try with_reducible rfl)
        simp only [List.getElem_toArray, List.getElem_cons_zero, List.getElem_cons_succ, Act.put, List.setIfInBounds_toArray, List.set_cons_zero, List.set_cons_succ]
        refine wpAnyH_take (i := 16) (v := ?_) rfl (by kernel_rfl) (by kernel_rfl) (by kernel_rfl) (fun _ _ _ h => h) (Or.inl ⟨by rfl, ?_⟩) (by assumption) ?_
        rotate_left
        · (intro w hSw; (try dsimp only at hSw); go_simp; try with_reducible rfl)
        simp only [List.getElem_toArray, List.getElem_cons_zero, List.getElem_cons_succ, Act.put, List.setIfInBounds_toArray, List.set_cons_zero, List.set_cons_succ]
        refine wpAnyH_ready (rs := [12]) (by kernel_rfl) (by simp) ?_
        refine AllReadyH.cons rfl (fun K hK => ?_) AllReadyH.nil
        go_simp
        refine (H12.out _ T3.out).mono ?_
        rintro e V4 ⟨v4, go4, rfl, R4, N4, T4⟩
        have s4 : V4.cell? ⟨wr.heap.size, 1, none⟩ = some (.int .i64 k) := by rw [cell_of T4.kz]; rfl
        have t4 := R4.sl.text
        rw [Hsx.out] at t4
        replace R4 := hide R4
        replace N4 := hide N4
        replace T4 := hide T4
        clear T3 sd
        go_wp2_with fail
        refine hK.out _ _ s4 (fun hHeld => ?_)
        clear hK K
        try simp only [List.getElem_toArray, List.getElem_cons_zero, List.getElem_cons_succ, Act.put, List.setIfInBounds_toArray, List.set_cons_zero, List.set_cons_succ]
        refine wpAnyH_weaken (S' := fun w' => w'.cell? ⟨wr.heap.size, 1, none⟩ = some (.int .i64 k) ∧ (convert 30 9 v4).run Try.prog w' = .ok (.string sx) w') (fun W h => h.1) _ _ _ _ ?_
        have hH2 : V4.cell? ⟨wr.heap.size, 1, none⟩ = some (.int .i64 k) ∧ (convert 30 9 v4).run Try.prog V4 = .ok (.string sx) V4 := ⟨s4, t4⟩
        refine wpAnyH_take (i := 13) (v := ?_) rfl (by kernel_rfl) (by kernel_rfl) (by kernel_rfl) (fun _ _ _ h => h) (Or.inl ⟨by rfl, ?_⟩) (by assumption) ?_
        rotate_left
        · (intro w hSw; (try dsimp only at hSw); go_simp; try with_reducible rfl)
        simp only [List.getElem_toArray, List.getElem_cons_zero, List.getElem_cons_succ, Act.put, List.setIfInBounds_toArray, List.set_cons_zero, List.set_cons_succ]
        refine wpAnyH_ready (rs := [17]) (by kernel_rfl) (by simp) ?_
        refine AllReadyH.cons rfl (fun K hK => ?_) AllReadyH.nil
        go_simp
        refine (H13.out _ T4.out).mono ?_
        rintro e V5 ⟨v5, go5, rfl, R5, T5, K5⟩
        have s5 : V5.cell? ⟨wr.heap.size, 1, none⟩ = some (.int .i64 k) := by rw [cell_of T5.kz]; rfl
        have t5 := R5.sl.text
        have R45 := R4.out.frame K5.fr.size (fun g e => K5.fr.block g (by rw [e] at R4; exact R4.out.lt) (fun e2 => e2 (N4.out g e).2))
        have u5 := R45.sl.text
        rw [Hsx.out] at t5 u5
        replace R45 := hide R45
        replace T5 := hide T5
        clear R5 K5 R4 T4 s4 t4 hH2
        go_wp2_with fail
        refine hK.out _ _ ⟨s5, u5⟩ (fun hHeld => ?_)
        clear hK K
        try simp only [List.getElem_toArray, List.getElem_cons_zero, List.getElem_cons_succ, Act.put, List.setIfInBounds_toArray, List.set_cons_zero, List.set_cons_succ]
        refine wpAnyH_ready (rs := [18]) (by kernel_rfl) (by simp) ?_
        refine AllReadyH.cons rfl (fun K hK => ?_) AllReadyH.nil
        go_simp
        refine hK.out _ _ ⟨s5, u5⟩ (fun hHeld => ?_)
        clear hK K
        try simp only [List.getElem_toArray, List.getElem_cons_zero, List.getElem_cons_succ, Act.put, List.setIfInBounds_toArray, List.set_cons_zero, List.set_cons_succ]
        have hH3 : V5.cell? ⟨wr.heap.size, 1, none⟩ = some (.int .i64 k) ∧ (convert 30 9 v4).run Try.prog V5 = .ok (.string sx) V5 := ⟨s5, u5⟩
        refine wpAnyH_take (i := 19) (v := ?_) rfl (by kernel_rfl) (by kernel_rfl) (by kernel_rfl) (fun _ _ _ h => h) (Or.inl ⟨by rfl, ?_⟩) (by assumption) ?_
        rotate_left
        · (intro w hSw; (try dsimp only at hSw); go_simp; try with_reducible rfl)
        simp only [List.getElem_toArray, List.getElem_cons_zero, List.getElem_cons_succ, Act.put, List.setIfInBounds_toArray, List.set_cons_zero, List.set_cons_succ]
        refine wpAnyH_take (i := 20) (v := ?_) rfl (by kernel_rfl) (by kernel_rfl) (by kernel_rfl) (fun _ _ _ h => h) (Or.inl ⟨by rfl, ?_⟩) (by assumption) ?_
        rotate_left
        · (intro w hSw; (try dsimp only at hSw); go_simp; try with_reducible rfl)
        simp only [List.getElem_toArray, List.getElem_cons_zero, List.getElem_cons_succ, Act.put, List.setIfInBounds_toArray, List.set_cons_zero, List.set_cons_succ]
        refine wpAnyH_take (i := 21) (v := ?_) rfl (by kernel_rfl) (by kernel_rfl) (by kernel_rfl) (fun _ _ _ h => h) (Or.inl ⟨by rfl, ?_⟩) (by assumption) ?_
        rotate_left
        · (intro w hSw; (try dsimp only at hSw); go_simp; try with_reducible rfl)
        simp only [List.getElem_toArray, List.getElem_cons_zero, List.getElem_cons_succ, Act.put, List.setIfInBounds_toArray, List.set_cons_zero, List.set_cons_succ]
        refine wpAnyH_take (i := 22) (v := ?_) rfl (by kernel_rfl) (by kernel_rfl) (by kernel_rfl) (fun _ _ _ h => h) (Or.inl ⟨by rfl, ?_⟩) (by assumption) ?_
        rotate_left
        · (intro w hSw; (try dsimp only at hSw); go_simp; try with_reducible rfl)
        simp only [List.getElem_toArray, List.getElem_cons_zero, List.getElem_cons_succ, Act.put, List.setIfInBounds_toArray, List.set_cons_zero, List.set_cons_succ]
        refine wpAnyH_take (i := 24) (v := ?_) rfl (by kernel_rfl) (by kernel_rfl) (by kernel_rfl) (fun _ _ _ h => h) (Or.inl ⟨by rfl, ?_⟩) (by assumption) ?_
        rotate_left
        · (intro w hSw; (try dsimp only at hSw); go_simp; try with_reducible rfl)
        simp only [List.getElem_toArray, List.getElem_cons_zero, List.getElem_cons_succ, Act.put, List.setIfInBounds_toArray, List.set_cons_zero, List.set_cons_succ]
        refine wpAnyH_ready (rs := [23]) (by kernel_rfl) (by simp) ?_
        refine AllReadyH.cons rfl (fun K hK => ?_) AllReadyH.nil
        go_simp
        refine (H15.out _ T5.out).mono ?_
        rintro e V6 ⟨v6, go6, rfl, R6, N6, T6, K6⟩
        have s6 : V6.cell? ⟨wr.heap.size, 1, none⟩ = some (.int .i64 k) := by rw [cell_of T6.kz]; rfl
        have R46 := R45.out.frame K6.fr.size (fun g e => K6.fr.block g (by rw [e] at R45; exact R45.out.lt) (fun e2 => e2 (N4.out g e).1))
        have u6 := R46.sl.text
        rw [Hsx.out] at u6
        replace R46 := hide R46
        replace T6 := hide T6
        replace R6 := hide R6
        replace N6 := hide N6
        clear K6 R45 T5 s5 t5 u5 hH3
        go_wp2_with fail
        refine hK.out _ _ ⟨s6, u6⟩ (fun hHeld => ?_)
        clear hK K
        try simp only [List.getElem_toArray, List.getElem_cons_zero, List.getElem_cons_succ, Act.put, List.setIfInBounds_toArray, List.set_cons_zero, List.set_cons_succ]
        refine wpAnyH_ready (rs := [25]) (by kernel_rfl) (by simp) ?_
        refine AllReadyH.cons rfl (fun K hK => ?_) AllReadyH.nil
        go_simp
        refine (H16.out _ T6.out).mono ?_
        rintro e V7 ⟨v7, go7, rfl, R7, T7, K7⟩
        have s7 : V7.cell? ⟨wr.heap.size, 1, none⟩ = some (.int .i64 k) := by rw [cell_of T7.kz]; rfl
        have R47 := R46.out.frame K7.fr.size (fun g e => K7.fr.block g (by rw [e] at R46; exact R46.out.lt) (fun e2 => e2 (N4.out g e).2))
        have R67 := R6.out.frame K7.fr.size (fun g e => K7.fr.block g (by rw [e] at R6; exact R6.out.lt) (fun e2 => e2 (N6.out g e)))
        have u7 := R47.sl.text
        rw [Hsx.out] at u7
        have h14 := hide (ints_any R67.sl R7.sl hAl)
        replace R47 := hide R47
        replace T7 := hide T7
        clear K7 R46 T6 s6 u6 R6 R7 R67
        go_wp2_with fail
        refine hK.out _ _ ⟨s7, u7⟩ (fun hHeld => ?_)
        clear hK K
        try simp only [List.getElem_toArray, List.getElem_cons_zero, List.getElem_cons_succ, Act.put, List.setIfInBounds_toArray, List.set_cons_zero, List.set_cons_succ]
        refine wpAnyH_ready (rs := [26]) (by kernel_rfl) (by simp) ?_
        refine AllReadyH.cons rfl (fun K hK => ?_) AllReadyH.nil
        go_simp
        refine h14.out.mono ?_
        rintro e V8 ⟨rfl, F8⟩
        have T8 := T7.out.fr F8
        have s8 : V8.cell? ⟨wr.heap.size, 1, none⟩ = some (.int .i64 k) := by rw [cell_of T8.kz]; rfl
        have u8 := (R47.out.frame F8.size (fun g e => F8.block g (by rw [e] at R47; exact R47.out.lt) (fun e2 => e2))).sl.text
        rw [Hsx.out] at u8
        replace T8 := hide T8
        simp only [decide_true]
        clear F8 T7 R47 s7 u7 h14
        go_wp2_with fail
        refine hK.out _ _ ⟨s8, u8⟩ (fun hHeld => ?_)
        clear hK K
        try simp only [List.getElem_toArray, List.getElem_cons_zero, List.getElem_cons_succ, Act.put, List.setIfInBounds_toArray, List.set_cons_zero, List.set_cons_succ]
        have hH4 : V8.cell? ⟨wr.heap.size, 1, none⟩ = some (.int .i64 k) ∧ (convert 30 9 v4).run Try.prog V8 = .ok (.string sx) V8 := ⟨s8, u8⟩
        refine wpAnyH_take (i := 27) (v := ?_) rfl (by kernel_rfl) (by kernel_rfl) (by kernel_rfl) (fun _ _ _ h => h) (Or.inl ⟨by rfl, ?_⟩) (by assumption) ?_
        rotate_left
        · (intro w hSw; (try dsimp only at hSw); go_simp; try with_reducible rfl)
        simp only [List.getElem_toArray, List.getElem_cons_zero, List.getElem_cons_succ, Act.put, List.setIfInBounds_toArray, List.set_cons_zero, List.set_cons_succ]
        refine wpAnyH_take (i := 28) (v := ?_) rfl (by kernel_rfl) (by kernel_rfl) (by kernel_rfl) (fun _ _ _ h => h) (Or.inl ⟨by rfl, ?_⟩) (by assumption) ?_
        rotate_left
        · (intro w hSw; (try dsimp only at hSw); go_simp; try with_reducible rfl)
        simp only [List.getElem_toArray, List.getElem_cons_zero, List.getElem_cons_succ, Act.put, List.setIfInBounds_toArray, List.set_cons_zero, List.set_cons_succ]
        refine wpAnyH_done (by kernel_rfl) ?_ _
        refine NoPanic.normal ?_
        clear hH4 s8 u8
        go_wp2_with fail
        go_roundw
        case rel => exact ⟨j + 1, by omega, by go_num, hide ⟨_, _, _, _, T8.out.wd, T8.out.xd, T8.out.dis, T8.out.old, T8.out.noW, T8.out.noX, HL.out, HSe.out⟩⟩
        case measure => simp [intOf]; omega
    · have ej : j = len0 := by omega
      subst ej
      have HF := hide HI.old
      clear hst htot HI
      go_wp2_with fail
      refine (speaks_any _).mono ?_
      rintro e w9 ⟨rfl, F9⟩
      replace HF := hide (HF.out.trans F9 (fun _ _ e => e.elim))
      clear F9
      go_wp2_with fail
      go_ret
      exact ⟨rfl, HF.out.below (Nat.le_refl _) (fun k hk e => by omega)⟩
end Go.Proofs.Ytpgbpfdgbajhlaa
