/- FramingCase, walked. -/
import Derived.Test.YtalihfohdejalaaDoorGOneP
import Derived.Test.YtalihfohdejalaaDoorGLaw
import Derived.Deep.RegionHeld3
namespace Go.Proofs.YtalihfohdejalaaDoor
open Go.ChangeShapes Go.WideShapes Go.ChangeAt Go.RowKit

theorem map_snoc (A : List (ByteArray × ByteArray)) (k : Nat) (hk : k < A.length) (a b : ByteArray) (hf : A[k] = (a, b)) : (A.take (k + 1)).map upF = (A.take k).map upF ++ [(upS a, upS b)] := by
  rw [take_snocF A k hk, hf, List.map_append]
  rfl
theorem append_fld_k (W : World) (base : Nat) (ty : TypeId) (v : Value) (A : List (ByteArray × ByteArray)) (f : ByteArray × ByteArray) (hown : FRow W base v A) (hn : A.length ≤ 1099511627776) (hbase : base ≤ W.heap.size) :
    ∃ v' W', (Builtin.append_ #[22, 22] ty #[v, .slice (some ⟨W.heap.size, 0, none⟩) 1 1]).run Tryd.prog (W.alloc (.cells #[.string f.1, .string f.2] 39)) = .ok v' W' ∧ FRow W' base v' (A ++ [f]) ∧ Below base W W' ∧ ∀ k, k < W.heap.size → v.ownBlock ≠ some k → W'.heap[k]? = W.heap[k]? := by
  obtain ⟨i, hi, hz, hs1, hb1⟩ := infoF
  have ho : FRow (W.alloc (.cells #[.string f.1, .string f.2] 39)) base v A := hown.frame fun g hg => Below.heap_alloc W _ g (hown.lt hg).2
  obtain ⟨v', W', hr, h1, hg, _⟩ := run_append_own (w := W.alloc (.cells #[.string f.1, .string f.2] 39)) base 22 ty 39 i _ 2 32 Tryd.underlying22 hi hz hs1 hb1 rfl (by omega) v A.length (fcs A) ho ⟨W.heap.size, 0, none⟩ 1 1 (fc f) rfl (two_cells W f) (by intro u hu; simp [fc] at hu; rcases hu with rfl | rfl <;> rfl) (by unfold maxLen; omega) (by omega) (by simp; omega)
  refine ⟨v', W', hr, ?_, ?_, ?_⟩
  · unfold FRow
    rw [List.length_append, fcs_snoc]
    exact h1
  · exact ((Below.refl base W).alloc hbase _).grown hg (by simp; omega) (fun k hk => (hown.lt hk).1)
  · intro k hk hne
    exact (hg.block k (by simp; omega) (fun e => hne e.symm)).trans (Below.heap_alloc W _ k hk)
theorem cell_heap {W W' : World} {b : Nat} (h : W'.heap[b]? = W.heap[b]?) (j : Nat) : W'.cell? ⟨b, j, none⟩ = W.cell? ⟨b, j, none⟩ := by
  unfold World.cell?
  simp [h]
theorem Bl.low {w x y : World} {L : List (Array Value × TypeId)} (h : Bl w x L) {base : Nat} (hb : w.heap.size + L.length ≤ base) (b : Below base x y) : Bl w y L :=
  ⟨fun i c t hi => (b.block _ (by have := (List.getElem?_eq_some_iff.1 hi).1; omega)).trans (h.hp i c t hi), h.b.trans (b.mono (by omega))⟩
theorem FRow.setOld {W : World} {base : Nat} {v : Value} {A : List (ByteArray × ByteArray)} (h : FRow W base v A) {g : Nat} (hg : g < base) (i : Nat) (u : Value) : FRow (W.setCell ⟨g, i, none⟩ u) base v A :=
  h.frame fun k hk => Below.heap_setCell W ⟨g, i, none⟩ u k (by have := (h.lt hk).1; simp; omega)
set_option maxHeartbeats 8000000 in
set_option maxRecDepth 100000 in
theorem case_walk (w : World) (r : Bool) (me ta : ByteArray) (mi st : Int) (re : ByteArray) (l : Value) (A : List (ByteArray × ByteArray)) (mt : ByteArray) (hA : Flds w l A) (hs : Sm A) :
    Calls Tryd.prog 6 #[.agg (hdC r me ta mi st re l), .string mt] w fun e w' => e = .returned (.bool true) ∧ Below w.heap.size w w' := by
  have HQ1 := hide (fun W h => req_any W r me ta mi st re l A h hs)
  have HQ2 := hide (fun W v h => req_any W r me ta mi st re v (A.map upF) h (sm_up hs))
  have HP1 := hide (fun W h => res_any W r me ta mi st re l A mt h hs)
  have HP2 := hide (fun W v h => res_any W r me ta mi st re v (A.map upF) mt h (sm_up hs))
  have HK1 := hide (fun W h => keep_any W r me ta mi st re l A h hs)
  have HK2 := hide (fun W v h => keep_any W r me ta mi st re v (A.map upF) h (sm_up hs))
  simp only [req_up, res_up, keep_up] at HQ2 HP2 HK2
  generalize reqO A r mi = o1 at HQ1 HQ2
  generalize resO A r mi st mt = o2 at HP1 HP2
  generalize keepB A mi = b5 at HK1 HK2
  obtain ⟨k1, n1, b1, e1⟩ := o1
  obtain ⟨k2, n2, b2, e2⟩ := o2
  unfold foV frV hdC at HQ1 HQ2 HP1 HP2
  unfold hdC at HK1 HK2 ⊢
  have F0 := hide hA
  have HS := hide hs
  have hal := hs.1
  obtain ⟨a0, c0, rfl, _, hcells⟩ := hA
  have HC0 := hide hcells
  clear hs hcells
  go_enter Tryd.func6, Tryd.ntmps6
  go_upto_region 3 with fail
  have T0 := hide (Bl.two w #[.bool r, .string me, .string ta, .int .i64 mi, .int .i64 st, .string re, .slice a0 A.length c0] 24 #[.bool r, .string me, .string ta, .int .i64 mi, .int .i64 st, .string re, .slice none 0 0] 24)
  generalize ((w.alloc (.cells #[.bool r, .string me, .string ta, .int .i64 mi, .int .i64 st, .string re, .slice a0 A.length c0] 24)).alloc (.cells #[.bool r, .string me, .string ta, .int .i64 mi, .int .i64 st, .string re, .slice none 0 0] 24)) = x at T0 ⊢
  have r6 : x.cell? ⟨w.heap.size, 6, none⟩ = some (.slice a0 A.length c0) := T0.out.cell 0 rfl 6
  go_wp2_with fail
  go_loopw [21] (fun i wr => ∃ (k : Nat) (rv : Value), k ≤ A.length ∧ i = .int .i64 k ∧ Hid (FRow wr (w.heap.size + 2) rv ((A.take k).map upF)) ∧ Hid (Bl w wr [(#[.bool r, .string me, .string ta, .int .i64 mi, .int .i64 st, .string re, .slice a0 A.length c0], 24), (#[.bool r, .string me, .string ta, .int .i64 mi, .int .i64 st, .string re, rv], 24)])) (fun i _ => A.length - (intOf i).toNat)
  case atStart => exact ⟨0, _, Nat.zero_le _, rfl, hide (FRow.nil _ _), T0⟩
  case round =>
    obtain ⟨k, rv, hk, rfl, HR, HT0⟩ := hrel
    obtain ⟨ra, rl, rc, rfl⟩ : ∃ a n c, rv = .slice a n c := by
      obtain ⟨a, c, h, _⟩ := HR.out.shape
      exact ⟨a, _, c, h⟩
    clear r6
    by_cases hlt : k < A.length
    · obtain ⟨g1, o1, rfl, hg1, q1, q2⟩ := HC0.out k hlt
      have hz := HS.out.at k hlt
      have HSN := hide (fun a b h => map_snoc A k hlt a b h)
      obtain ⟨⟨fa, fb⟩, hf⟩ : ∃ f, A[k] = f := ⟨_, rfl⟩
      rw [hf] at q1 q2 hz
      have HSN := hide (HSN.out fa fb hf)
      obtain ⟨hza, hzb⟩ := hz
      dsimp only at q1 q2 hza hzb
      have q3 : wr.cell? ⟨g1, o1 + k * 2, none⟩ = some (.string fa) := (HT0.out.b.cell (p := ⟨g1, o1 + k * 2, none⟩) hg1).trans q1
      have q4 : wr.cell? ⟨g1, o1 + k * 2 + 1, none⟩ = some (.string fb) := (HT0.out.b.cell (p := ⟨g1, o1 + k * 2 + 1, none⟩) hg1).trans q2
      clear q1 q2 hg1 hf
      go_upto_region 6 with fail
      have HC : Hid ((wr.alloc (.cells #[.string fa, .string fb] 39)).cell? ⟨wr.heap.size, 0, none⟩ = some (.string fa) ∧ (wr.alloc (.cells #[.string fa, .string fb] 39)).cell? ⟨wr.heap.size, 1, none⟩ = some (.string fb)) := hide ⟨cell_at (hp_new wr _) 0, cell_at (hp_new wr _) 1⟩
      have DD := hide ((Below.refl _ wr).alloc (Nat.le_refl _) (.cells #[.string fa, .string fb] 39))
      have HT := hide (HT0.out.below DD.out)
      have HROW := hide (HR.out.below DD.out)
      have HLT : Hid (wr.heap.size < (wr.alloc (.cells #[.string fa, .string fb] 39)).heap.size) := hide (by simp)
      have HOWN : Hid ((.slice ra rl rc : Value).ownBlock ≠ some wr.heap.size) := hide (fun h => by have := (HR.out.lt h).2; omega)
      have HF2 : Hid (w.heap.size + 1 < wr.heap.size) := hide (blk_lt (HT0.out.hp 1 _ _ rfl))
      have HLN : Hid (((A.take k).map upF).length ≤ 1099511627776) := hide (by rw [List.length_map, List.length_take]; omega)
      generalize (wr.alloc (.cells #[.string fa, .string fb] 39)) = y at HC DD HT HROW HLT ⊢
      have HSZ : Hid (w.heap.size + 2 ≤ y.heap.size) := hide (by have := HF2.out; have := HLT.out; omega)
      have HL1 : Hid (w.heap.size + 1 < y.heap.size) := hide (by have := HF2.out; have := HLT.out; omega)
      have HR6 : Hid (y.cell? ⟨w.heap.size + 1, 6, none⟩ = some (.slice ra rl rc)) := hide (HT.out.cell 1 rfl 6)
      clear DD HT0 HR q3 q4
      generalize wr.heap.size = f at HC HLT HOWN HF2 ⊢
      have D0 := hide ((Below.refl y.heap.size y).drew)
      have cS : y.drew.cell? ⟨f, 0, none⟩ = some (.string fa) ∧ y.drew.cell? ⟨f, 1, none⟩ = some (.string fb) := ⟨(D0.out.cell (p := ⟨f, 0, none⟩) HLT.out).trans HC.out.1, (D0.out.cell (p := ⟨f, 1, none⟩) HLT.out).trans HC.out.2⟩
      have l6 : y.drew.cell? ⟨w.heap.size + 1, 6, none⟩ = some (.slice ra rl rc) := (D0.out.cell (p := ⟨w.heap.size + 1, 6, none⟩) HL1.out).trans HR6.out
      refine wp_region_noPanic ?_
      refine wp_region_held_drew (S := fun W => W.cell? ⟨f, 0, none⟩ = some (.string fa) ∧ W.cell? ⟨f, 1, none⟩ = some (.string fb)) (by kernel_rfl) cS (fun hHeld => ?_)
      refine wpAnyH_take (i := 0) (v := ?_) rfl (by kernel_rfl) (by kernel_rfl) (by kernel_rfl) (fun _ _ _ h => h) (Or.inl ⟨by rfl, ?_⟩) (by assumption) ?_
      rotate_left
      · (intro w hSw; (try dsimp only at hSw); go_simp; try with_reducible rfl)
      simp only [List.getElem_toArray, List.getElem_cons_zero, Act.put, List.setIfInBounds_toArray, List.set_cons_zero, List.set_cons_succ]
      refine wpAnyH_take (i := 2) (v := ?_) rfl (by kernel_rfl) (by kernel_rfl) (by kernel_rfl) (fun _ _ _ h => h) (Or.inl ⟨by rfl, ?_⟩) (by assumption) ?_
      rotate_left
      · (intro w hSw; (try dsimp only at hSw); go_simp; try with_reducible rfl)
      simp only [List.getElem_toArray, List.getElem_cons_zero, List.getElem_cons_succ, Act.put, List.setIfInBounds_toArray, List.set_cons_zero, List.set_cons_succ]
      refine wpAnyH_take (i := 3) (v := ?_) rfl (by kernel_rfl) (by kernel_rfl) (by kernel_rfl) (fun _ _ _ h => h) (Or.inl ⟨by rfl, ?_⟩) (by assumption) ?_
      rotate_left
      · (intro w hSw; (try dsimp only at hSw); go_simp; try with_reducible rfl)
      simp only [List.getElem_toArray, List.getElem_cons_zero, List.getElem_cons_succ, Act.put, List.setIfInBounds_toArray, List.set_cons_zero, List.set_cons_succ]
      refine wpAnyH_take (i := 5) (v := ?_) rfl (by kernel_rfl) (by kernel_rfl) (by kernel_rfl) (fun _ _ _ h => h) (Or.inl ⟨by rfl, ?_⟩) (by assumption) ?_
      rotate_left
      · (intro w hSw; (try dsimp only at hSw); go_simp; try with_reducible rfl)
      simp only [List.getElem_toArray, List.getElem_cons_zero, List.getElem_cons_succ, Act.put, List.setIfInBounds_toArray, List.set_cons_zero, List.set_cons_succ]
      refine wpAnyH_take (i := 6) (v := ?_) rfl (by kernel_rfl) (by kernel_rfl) (by kernel_rfl) (fun _ _ _ h => h) (Or.inl ⟨by rfl, ?_⟩) (by assumption) ?_
      rotate_left
      · (intro w hSw; (try dsimp only at hSw); go_simp; try with_reducible rfl)
      simp only [List.getElem_toArray, List.getElem_cons_zero, List.getElem_cons_succ, Act.put, List.setIfInBounds_toArray, List.set_cons_zero, List.set_cons_succ]
      refine wpAnyH_ready (rs := [1, 4]) (by kernel_rfl) (by simp) ?_
      refine AllReadyH.cons rfl (fun K hK => ?_) (AllReadyH.cons rfl (fun K hK => ?_) AllReadyH.nil)
      · go_simp
        refine hK.out _ _ cS (fun hHeld => ?_)
        clear hK K
        try simp only [List.getElem_toArray, List.getElem_cons_zero, List.getElem_cons_succ, Act.put, List.setIfInBounds_toArray, List.set_cons_zero, List.set_cons_succ]
        refine wpAnyH_ready (rs := [4]) (by kernel_rfl) (by simp) ?_
        refine AllReadyH.cons rfl (fun K hK => ?_) AllReadyH.nil
        go_simp
        refine (great_any fa _ (by omega)).mono ?_
        rintro e y1 ⟨rfl, bb⟩
        have D1 := hide (D0.out.trans (bb.mono D0.out.size))
        clear bb cS l6
        have cS : y1.cell? ⟨f, 0, none⟩ = some (.string fa) ∧ y1.cell? ⟨f, 1, none⟩ = some (.string fb) := ⟨(D1.out.cell (p := ⟨f, 0, none⟩) HLT.out).trans HC.out.1, (D1.out.cell (p := ⟨f, 1, none⟩) HLT.out).trans HC.out.2⟩
        have l6 : y1.cell? ⟨w.heap.size + 1, 6, none⟩ = some (.slice ra rl rc) := (D1.out.cell (p := ⟨w.heap.size + 1, 6, none⟩) HL1.out).trans HR6.out
        go_wp2_with fail
        refine hK.out _ _ cS (fun hHeld => ?_)
        clear hK K
        try simp only [List.getElem_toArray, List.getElem_cons_zero, List.getElem_cons_succ, Act.put, List.setIfInBounds_toArray, List.set_cons_zero, List.set_cons_succ]
        refine wpAnyH_ready (rs := [7]) (by kernel_rfl) (by simp) ?_
        refine AllReadyH.cons rfl (fun K hK => ?_) AllReadyH.nil
        go_simp
        refine (great_any fb _ (by omega)).mono ?_
        rintro e y2 ⟨rfl, bb⟩
        have D2 := hide (D1.out.trans (bb.mono D1.out.size))
        clear bb cS l6
        have cS : y2.cell? ⟨f, 0, none⟩ = some (.string fa) ∧ y2.cell? ⟨f, 1, none⟩ = some (.string fb) := ⟨(D2.out.cell (p := ⟨f, 0, none⟩) HLT.out).trans HC.out.1, (D2.out.cell (p := ⟨f, 1, none⟩) HLT.out).trans HC.out.2⟩
        have l6 : y2.cell? ⟨w.heap.size + 1, 6, none⟩ = some (.slice ra rl rc) := (D2.out.cell (p := ⟨w.heap.size + 1, 6, none⟩) HL1.out).trans HR6.out
        go_wp2_with fail
        refine hK.out _ _ cS (fun hHeld => ?_)
        clear hK K
        try simp only [List.getElem_toArray, List.getElem_cons_zero, List.getElem_cons_succ, Act.put, List.setIfInBounds_toArray, List.set_cons_zero, List.set_cons_succ]
        refine wpAnyH_take (i := 8) (v := ?_) rfl (by kernel_rfl) (by kernel_rfl) (by kernel_rfl) (fun _ _ _ h => h) (Or.inl ⟨by rfl, ?_⟩) (by assumption) ?_
        rotate_left
        · (intro w hSw; (try dsimp only at hSw); go_simp; try with_reducible rfl)
        simp only [List.getElem_toArray, List.getElem_cons_zero, List.getElem_cons_succ, Act.put, List.setIfInBounds_toArray, List.set_cons_zero, List.set_cons_succ]
        refine wpAnyH_ready (rs := [9]) (by kernel_rfl) (by simp) ?_
        refine AllReadyH.cons rfl (fun K hK => ?_) AllReadyH.nil
        go_simp
        have DA := hide (D2.out.alloc D2.out.size (.cells #[.string (upS fa), .string (upS fb)] 39))
        clear cS l6
        have cS : (y2.alloc (.cells #[.string (upS fa), .string (upS fb)] 39)).cell? ⟨f, 0, none⟩ = some (.string fa) ∧ (y2.alloc (.cells #[.string (upS fa), .string (upS fb)] 39)).cell? ⟨f, 1, none⟩ = some (.string fb) := ⟨(DA.out.cell (p := ⟨f, 0, none⟩) HLT.out).trans HC.out.1, (DA.out.cell (p := ⟨f, 1, none⟩) HLT.out).trans HC.out.2⟩
        have l6 : (y2.alloc (.cells #[.string (upS fa), .string (upS fb)] 39)).cell? ⟨w.heap.size + 1, 6, none⟩ = some (.slice ra rl rc) := (DA.out.cell (p := ⟨w.heap.size + 1, 6, none⟩) HL1.out).trans HR6.out
        refine hK.out _ _ cS (fun hHeld => ?_)
        clear hK K
        try simp only [List.getElem_toArray, List.getElem_cons_zero, List.getElem_cons_succ, Act.put, List.setIfInBounds_toArray, List.set_cons_zero, List.set_cons_succ]
        refine wpAnyH_ready (rs := [10]) (by kernel_rfl) (by simp) ?_
        refine AllReadyH.cons rfl (fun K hK => ?_) AllReadyH.nil
        obtain ⟨v', W', hrun, RW, BW, KW⟩ := append_fld_k y2 (w.heap.size + 2) 22 (.slice ra rl rc) ((A.take k).map upF) (upS fa, upS fb) (HROW.out.below D2.out) HLN.out (Nat.le_trans HSZ.out D2.out.size)
        have KA := hide KW
        clear KW cS l6
        have cS : W'.cell? ⟨f, 0, none⟩ = some (.string fa) ∧ W'.cell? ⟨f, 1, none⟩ = some (.string fb) := ⟨(cell_heap (KA.out f (Nat.lt_of_lt_of_le HLT.out D2.out.size) HOWN.out) 0).trans ((D2.out.cell (p := ⟨f, 0, none⟩) HLT.out).trans HC.out.1), (cell_heap (KA.out f (Nat.lt_of_lt_of_le HLT.out D2.out.size) HOWN.out) 1).trans ((D2.out.cell (p := ⟨f, 1, none⟩) HLT.out).trans HC.out.2)⟩
        have TW := hide ((HT.out.below D2.out).low (by simp) BW)
        have RW2 := hide RW
        clear RW BW KA
        refine step_append_is rfl (.tmp 26) (.tmp 34) 22 rfl (.slice ra rl rc) (.slice (some ⟨y2.heap.size, 0, none⟩) 1 1) v' (by simp [Act.eval]) (by simp [Act.eval]) hrun ?_
        clear hrun
        refine hK.out _ _ cS (fun hHeld => ?_)
        clear hK K
        try simp only [List.getElem_toArray, List.getElem_cons_zero, List.getElem_cons_succ, Act.put, List.setIfInBounds_toArray, List.set_cons_zero, List.set_cons_succ]
        refine wpAnyH_take (i := 11) (v := ?_) rfl (by kernel_rfl) (by kernel_rfl) (by kernel_rfl) (fun _ _ _ h => h) (Or.inl ⟨by rfl, ?_⟩) (by assumption) ?_
        rotate_left
        · (intro w hSw; (try dsimp only at hSw); go_simp; try with_reducible rfl)
        simp only [List.getElem_toArray, List.getElem_cons_zero, List.getElem_cons_succ, Act.put, List.setIfInBounds_toArray, List.set_cons_zero, List.set_cons_succ]
        refine wpAnyH_ready (rs := [12]) (by kernel_rfl) (by simp) ?_
        refine AllReadyH.cons rfl (fun K hK => ?_) AllReadyH.nil
        obtain ⟨va, vl, vc, rfl⟩ : ∃ a n c, v' = .slice a n c := by
          obtain ⟨a, c, h, _⟩ := RW2.out.shape
          exact ⟨a, _, c, h⟩
        have l6 : W'.cell? ⟨w.heap.size + 1, 6, none⟩ = some (.slice ra rl rc) := TW.out.cell 1 rfl 6
        have f6 : W'.frozen? ⟨w.heap.size + 1, 6, none⟩ = false := TW.out.fr 1 rfl 6
        go_simp
        have TX : Hid (Bl w (W'.setCell ⟨w.heap.size + 1, 6, none⟩ (.slice va vl vc)) [(#[.bool r, .string me, .string ta, .int .i64 mi, .int .i64 st, .string re, .slice (some ⟨g1, o1, none⟩) A.length c0], 24), (#[.bool r, .string me, .string ta, .int .i64 mi, .int .i64 st, .string re, .slice va vl vc], 24)]) := hide (TW.out.set 1 rfl 6 (.slice va vl vc))
        have RX := hide (RW2.out.setOld (g := w.heap.size + 1) (by omega) 6 (.slice va vl vc))
        have cS2 : (W'.setCell ⟨w.heap.size + 1, 6, none⟩ (.slice va vl vc)).cell? ⟨f, 0, none⟩ = some (.string fa) ∧ (W'.setCell ⟨w.heap.size + 1, 6, none⟩ (.slice va vl vc)).cell? ⟨f, 1, none⟩ = some (.string fb) := ⟨(World.cell?_setCell_far _ _ _ _ (by have := HF2.out; simp; omega)).trans cS.1, (World.cell?_setCell_far _ _ _ _ (by have := HF2.out; simp; omega)).trans cS.2⟩
        generalize W'.setCell ⟨w.heap.size + 1, 6, none⟩ (.slice va vl vc) = w9 at TX RX cS2 ⊢
        clear cS l6 f6
        refine hK.out _ _ cS2 (fun hHeld => ?_)
        clear hK K
        try simp only [List.getElem_toArray, List.getElem_cons_zero, List.getElem_cons_succ, Act.put, List.setIfInBounds_toArray, List.set_cons_zero, List.set_cons_succ]
        refine wpAnyH_done (by kernel_rfl) ?_ _
        clear hHeld cS2 TW RW2
        refine NoPanic.normal ?_
        go_wp2
        go_roundw
        case rel => exact ⟨k + 1, _, by omega, by go_num, hide (by rw [HSN.out]; exact RX.out), TX⟩
        case measure => simp [intOf]; omega
      · go_simp
        refine (great_any fa _ (by omega)).mono ?_
        rintro e y1 ⟨rfl, bb⟩
        have D1 := hide (D0.out.trans (bb.mono D0.out.size))
        clear bb cS l6
        have cS : y1.cell? ⟨f, 0, none⟩ = some (.string fa) ∧ y1.cell? ⟨f, 1, none⟩ = some (.string fb) := ⟨(D1.out.cell (p := ⟨f, 0, none⟩) HLT.out).trans HC.out.1, (D1.out.cell (p := ⟨f, 1, none⟩) HLT.out).trans HC.out.2⟩
        have l6 : y1.cell? ⟨w.heap.size + 1, 6, none⟩ = some (.slice ra rl rc) := (D1.out.cell (p := ⟨w.heap.size + 1, 6, none⟩) HL1.out).trans HR6.out
        go_wp2_with fail
        refine hK.out _ _ cS (fun hHeld => ?_)
        clear hK K
        try simp only [List.getElem_toArray, List.getElem_cons_zero, List.getElem_cons_succ, Act.put, List.setIfInBounds_toArray, List.set_cons_zero, List.set_cons_succ]
        refine wpAnyH_ready (rs := [1, 7]) (by kernel_rfl) (by simp) ?_
        refine AllReadyH.cons rfl (fun K hK => ?_) (AllReadyH.cons rfl (fun K hK => ?_) AllReadyH.nil)
        · go_simp
          refine hK.out _ _ cS (fun hHeld => ?_)
          clear hK K
          try simp only [List.getElem_toArray, List.getElem_cons_zero, List.getElem_cons_succ, Act.put, List.setIfInBounds_toArray, List.set_cons_zero, List.set_cons_succ]
          refine wpAnyH_ready (rs := [7]) (by kernel_rfl) (by simp) ?_
          refine AllReadyH.cons rfl (fun K hK => ?_) AllReadyH.nil
          go_simp
          refine (great_any fb _ (by omega)).mono ?_
          rintro e y2 ⟨rfl, bb⟩
          have D2 := hide (D1.out.trans (bb.mono D1.out.size))
          clear bb cS l6
          have cS : y2.cell? ⟨f, 0, none⟩ = some (.string fa) ∧ y2.cell? ⟨f, 1, none⟩ = some (.string fb) := ⟨(D2.out.cell (p := ⟨f, 0, none⟩) HLT.out).trans HC.out.1, (D2.out.cell (p := ⟨f, 1, none⟩) HLT.out).trans HC.out.2⟩
          have l6 : y2.cell? ⟨w.heap.size + 1, 6, none⟩ = some (.slice ra rl rc) := (D2.out.cell (p := ⟨w.heap.size + 1, 6, none⟩) HL1.out).trans HR6.out
          go_wp2_with fail
          refine hK.out _ _ cS (fun hHeld => ?_)
          clear hK K
          try simp only [List.getElem_toArray, List.getElem_cons_zero, List.getElem_cons_succ, Act.put, List.setIfInBounds_toArray, List.set_cons_zero, List.set_cons_succ]
          refine wpAnyH_take (i := 8) (v := ?_) rfl (by kernel_rfl) (by kernel_rfl) (by kernel_rfl) (fun _ _ _ h => h) (Or.inl ⟨by rfl, ?_⟩) (by assumption) ?_
          rotate_left
          · (intro w hSw; (try dsimp only at hSw); go_simp; try with_reducible rfl)
          simp only [List.getElem_toArray, List.getElem_cons_zero, List.getElem_cons_succ, Act.put, List.setIfInBounds_toArray, List.set_cons_zero, List.set_cons_succ]
          refine wpAnyH_ready (rs := [9]) (by kernel_rfl) (by simp) ?_
          refine AllReadyH.cons rfl (fun K hK => ?_) AllReadyH.nil
          go_simp
          have DA := hide (D2.out.alloc D2.out.size (.cells #[.string (upS fa), .string (upS fb)] 39))
          clear cS l6
          have cS : (y2.alloc (.cells #[.string (upS fa), .string (upS fb)] 39)).cell? ⟨f, 0, none⟩ = some (.string fa) ∧ (y2.alloc (.cells #[.string (upS fa), .string (upS fb)] 39)).cell? ⟨f, 1, none⟩ = some (.string fb) := ⟨(DA.out.cell (p := ⟨f, 0, none⟩) HLT.out).trans HC.out.1, (DA.out.cell (p := ⟨f, 1, none⟩) HLT.out).trans HC.out.2⟩
          have l6 : (y2.alloc (.cells #[.string (upS fa), .string (upS fb)] 39)).cell? ⟨w.heap.size + 1, 6, none⟩ = some (.slice ra rl rc) := (DA.out.cell (p := ⟨w.heap.size + 1, 6, none⟩) HL1.out).trans HR6.out
          refine hK.out _ _ cS (fun hHeld => ?_)
          clear hK K
          try simp only [List.getElem_toArray, List.getElem_cons_zero, List.getElem_cons_succ, Act.put, List.setIfInBounds_toArray, List.set_cons_zero, List.set_cons_succ]
          refine wpAnyH_ready (rs := [10]) (by kernel_rfl) (by simp) ?_
          refine AllReadyH.cons rfl (fun K hK => ?_) AllReadyH.nil
          obtain ⟨v', W', hrun, RW, BW, KW⟩ := append_fld_k y2 (w.heap.size + 2) 22 (.slice ra rl rc) ((A.take k).map upF) (upS fa, upS fb) (HROW.out.below D2.out) HLN.out (Nat.le_trans HSZ.out D2.out.size)
          have KA := hide KW
          clear KW cS l6
          have cS : W'.cell? ⟨f, 0, none⟩ = some (.string fa) ∧ W'.cell? ⟨f, 1, none⟩ = some (.string fb) := ⟨(cell_heap (KA.out f (Nat.lt_of_lt_of_le HLT.out D2.out.size) HOWN.out) 0).trans ((D2.out.cell (p := ⟨f, 0, none⟩) HLT.out).trans HC.out.1), (cell_heap (KA.out f (Nat.lt_of_lt_of_le HLT.out D2.out.size) HOWN.out) 1).trans ((D2.out.cell (p := ⟨f, 1, none⟩) HLT.out).trans HC.out.2)⟩
          have TW := hide ((HT.out.below D2.out).low (by simp) BW)
          have RW2 := hide RW
          clear RW BW KA
          refine step_append_is rfl (.tmp 26) (.tmp 34) 22 rfl (.slice ra rl rc) (.slice (some ⟨y2.heap.size, 0, none⟩) 1 1) v' (by simp [Act.eval]) (by simp [Act.eval]) hrun ?_
          clear hrun
          refine hK.out _ _ cS (fun hHeld => ?_)
          clear hK K
          try simp only [List.getElem_toArray, List.getElem_cons_zero, List.getElem_cons_succ, Act.put, List.setIfInBounds_toArray, List.set_cons_zero, List.set_cons_succ]
          refine wpAnyH_take (i := 11) (v := ?_) rfl (by kernel_rfl) (by kernel_rfl) (by kernel_rfl) (fun _ _ _ h => h) (Or.inl ⟨by rfl, ?_⟩) (by assumption) ?_
          rotate_left
          · (intro w hSw; (try dsimp only at hSw); go_simp; try with_reducible rfl)
          simp only [List.getElem_toArray, List.getElem_cons_zero, List.getElem_cons_succ, Act.put, List.setIfInBounds_toArray, List.set_cons_zero, List.set_cons_succ]
          refine wpAnyH_ready (rs := [12]) (by kernel_rfl) (by simp) ?_
          refine AllReadyH.cons rfl (fun K hK => ?_) AllReadyH.nil
          obtain ⟨va, vl, vc, rfl⟩ : ∃ a n c, v' = .slice a n c := by
            obtain ⟨a, c, h, _⟩ := RW2.out.shape
            exact ⟨a, _, c, h⟩
          have l6 : W'.cell? ⟨w.heap.size + 1, 6, none⟩ = some (.slice ra rl rc) := TW.out.cell 1 rfl 6
          have f6 : W'.frozen? ⟨w.heap.size + 1, 6, none⟩ = false := TW.out.fr 1 rfl 6
          go_simp
          have TX : Hid (Bl w (W'.setCell ⟨w.heap.size + 1, 6, none⟩ (.slice va vl vc)) [(#[.bool r, .string me, .string ta, .int .i64 mi, .int .i64 st, .string re, .slice (some ⟨g1, o1, none⟩) A.length c0], 24), (#[.bool r, .string me, .string ta, .int .i64 mi, .int .i64 st, .string re, .slice va vl vc], 24)]) := hide (TW.out.set 1 rfl 6 (.slice va vl vc))
          have RX := hide (RW2.out.setOld (g := w.heap.size + 1) (by omega) 6 (.slice va vl vc))
          have cS2 : (W'.setCell ⟨w.heap.size + 1, 6, none⟩ (.slice va vl vc)).cell? ⟨f, 0, none⟩ = some (.string fa) ∧ (W'.setCell ⟨w.heap.size + 1, 6, none⟩ (.slice va vl vc)).cell? ⟨f, 1, none⟩ = some (.string fb) := ⟨(World.cell?_setCell_far _ _ _ _ (by have := HF2.out; simp; omega)).trans cS.1, (World.cell?_setCell_far _ _ _ _ (by have := HF2.out; simp; omega)).trans cS.2⟩
          generalize W'.setCell ⟨w.heap.size + 1, 6, none⟩ (.slice va vl vc) = w9 at TX RX cS2 ⊢
          clear cS l6 f6
          refine hK.out _ _ cS2 (fun hHeld => ?_)
          clear hK K
          try simp only [List.getElem_toArray, List.getElem_cons_zero, List.getElem_cons_succ, Act.put, List.setIfInBounds_toArray, List.set_cons_zero, List.set_cons_succ]
          refine wpAnyH_done (by kernel_rfl) ?_ _
          clear hHeld cS2 TW RW2
          refine NoPanic.normal ?_
          go_wp2
          go_roundw
          case rel => exact ⟨k + 1, _, by omega, by go_num, hide (by rw [HSN.out]; exact RX.out), TX⟩
          case measure => simp [intOf]; omega
        · go_simp
          refine (great_any fb _ (by omega)).mono ?_
          rintro e y2 ⟨rfl, bb⟩
          have D2 := hide (D1.out.trans (bb.mono D1.out.size))
          clear bb cS l6
          have cS : y2.cell? ⟨f, 0, none⟩ = some (.string fa) ∧ y2.cell? ⟨f, 1, none⟩ = some (.string fb) := ⟨(D2.out.cell (p := ⟨f, 0, none⟩) HLT.out).trans HC.out.1, (D2.out.cell (p := ⟨f, 1, none⟩) HLT.out).trans HC.out.2⟩
          have l6 : y2.cell? ⟨w.heap.size + 1, 6, none⟩ = some (.slice ra rl rc) := (D2.out.cell (p := ⟨w.heap.size + 1, 6, none⟩) HL1.out).trans HR6.out
          go_wp2_with fail
          refine hK.out _ _ cS (fun hHeld => ?_)
          clear hK K
          try simp only [List.getElem_toArray, List.getElem_cons_zero, List.getElem_cons_succ, Act.put, List.setIfInBounds_toArray, List.set_cons_zero, List.set_cons_succ]
          refine wpAnyH_take (i := 8) (v := ?_) rfl (by kernel_rfl) (by kernel_rfl) (by kernel_rfl) (fun _ _ _ h => h) (Or.inl ⟨by rfl, ?_⟩) (by assumption) ?_
          rotate_left
          · (intro w hSw; (try dsimp only at hSw); go_simp; try with_reducible rfl)
          simp only [List.getElem_toArray, List.getElem_cons_zero, List.getElem_cons_succ, Act.put, List.setIfInBounds_toArray, List.set_cons_zero, List.set_cons_succ]
          refine wpAnyH_ready (rs := [1, 9]) (by kernel_rfl) (by simp) ?_
          refine AllReadyH.cons rfl (fun K hK => ?_) (AllReadyH.cons rfl (fun K hK => ?_) AllReadyH.nil)
          · go_simp
            refine hK.out _ _ cS (fun hHeld => ?_)
            clear hK K
            try simp only [List.getElem_toArray, List.getElem_cons_zero, List.getElem_cons_succ, Act.put, List.setIfInBounds_toArray, List.set_cons_zero, List.set_cons_succ]
            refine wpAnyH_ready (rs := [9]) (by kernel_rfl) (by simp) ?_
            refine AllReadyH.cons rfl (fun K hK => ?_) AllReadyH.nil
            go_simp
            have DA := hide (D2.out.alloc D2.out.size (.cells #[.string (upS fa), .string (upS fb)] 39))
            clear cS l6
            have cS : (y2.alloc (.cells #[.string (upS fa), .string (upS fb)] 39)).cell? ⟨f, 0, none⟩ = some (.string fa) ∧ (y2.alloc (.cells #[.string (upS fa), .string (upS fb)] 39)).cell? ⟨f, 1, none⟩ = some (.string fb) := ⟨(DA.out.cell (p := ⟨f, 0, none⟩) HLT.out).trans HC.out.1, (DA.out.cell (p := ⟨f, 1, none⟩) HLT.out).trans HC.out.2⟩
            have l6 : (y2.alloc (.cells #[.string (upS fa), .string (upS fb)] 39)).cell? ⟨w.heap.size + 1, 6, none⟩ = some (.slice ra rl rc) := (DA.out.cell (p := ⟨w.heap.size + 1, 6, none⟩) HL1.out).trans HR6.out
            refine hK.out _ _ cS (fun hHeld => ?_)
            clear hK K
            try simp only [List.getElem_toArray, List.getElem_cons_zero, List.getElem_cons_succ, Act.put, List.setIfInBounds_toArray, List.set_cons_zero, List.set_cons_succ]
            refine wpAnyH_ready (rs := [10]) (by kernel_rfl) (by simp) ?_
            refine AllReadyH.cons rfl (fun K hK => ?_) AllReadyH.nil
            obtain ⟨v', W', hrun, RW, BW, KW⟩ := append_fld_k y2 (w.heap.size + 2) 22 (.slice ra rl rc) ((A.take k).map upF) (upS fa, upS fb) (HROW.out.below D2.out) HLN.out (Nat.le_trans HSZ.out D2.out.size)
            have KA := hide KW
            clear KW cS l6
            have cS : W'.cell? ⟨f, 0, none⟩ = some (.string fa) ∧ W'.cell? ⟨f, 1, none⟩ = some (.string fb) := ⟨(cell_heap (KA.out f (Nat.lt_of_lt_of_le HLT.out D2.out.size) HOWN.out) 0).trans ((D2.out.cell (p := ⟨f, 0, none⟩) HLT.out).trans HC.out.1), (cell_heap (KA.out f (Nat.lt_of_lt_of_le HLT.out D2.out.size) HOWN.out) 1).trans ((D2.out.cell (p := ⟨f, 1, none⟩) HLT.out).trans HC.out.2)⟩
            have TW := hide ((HT.out.below D2.out).low (by simp) BW)
            have RW2 := hide RW
            clear RW BW KA
            refine step_append_is rfl (.tmp 26) (.tmp 34) 22 rfl (.slice ra rl rc) (.slice (some ⟨y2.heap.size, 0, none⟩) 1 1) v' (by simp [Act.eval]) (by simp [Act.eval]) hrun ?_
            clear hrun
            refine hK.out _ _ cS (fun hHeld => ?_)
            clear hK K
            try simp only [List.getElem_toArray, List.getElem_cons_zero, List.getElem_cons_succ, Act.put, List.setIfInBounds_toArray, List.set_cons_zero, List.set_cons_succ]
            refine wpAnyH_take (i := 11) (v := ?_) rfl (by kernel_rfl) (by kernel_rfl) (by kernel_rfl) (fun _ _ _ h => h) (Or.inl ⟨by rfl, ?_⟩) (by assumption) ?_
            rotate_left
            · (intro w hSw; (try dsimp only at hSw); go_simp; try with_reducible rfl)
            simp only [List.getElem_toArray, List.getElem_cons_zero, List.getElem_cons_succ, Act.put, List.setIfInBounds_toArray, List.set_cons_zero, List.set_cons_succ]
            refine wpAnyH_ready (rs := [12]) (by kernel_rfl) (by simp) ?_
            refine AllReadyH.cons rfl (fun K hK => ?_) AllReadyH.nil
            obtain ⟨va, vl, vc, rfl⟩ : ∃ a n c, v' = .slice a n c := by
              obtain ⟨a, c, h, _⟩ := RW2.out.shape
              exact ⟨a, _, c, h⟩
            have l6 : W'.cell? ⟨w.heap.size + 1, 6, none⟩ = some (.slice ra rl rc) := TW.out.cell 1 rfl 6
            have f6 : W'.frozen? ⟨w.heap.size + 1, 6, none⟩ = false := TW.out.fr 1 rfl 6
            go_simp
            have TX : Hid (Bl w (W'.setCell ⟨w.heap.size + 1, 6, none⟩ (.slice va vl vc)) [(#[.bool r, .string me, .string ta, .int .i64 mi, .int .i64 st, .string re, .slice (some ⟨g1, o1, none⟩) A.length c0], 24), (#[.bool r, .string me, .string ta, .int .i64 mi, .int .i64 st, .string re, .slice va vl vc], 24)]) := hide (TW.out.set 1 rfl 6 (.slice va vl vc))
            have RX := hide (RW2.out.setOld (g := w.heap.size + 1) (by omega) 6 (.slice va vl vc))
            have cS2 : (W'.setCell ⟨w.heap.size + 1, 6, none⟩ (.slice va vl vc)).cell? ⟨f, 0, none⟩ = some (.string fa) ∧ (W'.setCell ⟨w.heap.size + 1, 6, none⟩ (.slice va vl vc)).cell? ⟨f, 1, none⟩ = some (.string fb) := ⟨(World.cell?_setCell_far _ _ _ _ (by have := HF2.out; simp; omega)).trans cS.1, (World.cell?_setCell_far _ _ _ _ (by have := HF2.out; simp; omega)).trans cS.2⟩
            generalize W'.setCell ⟨w.heap.size + 1, 6, none⟩ (.slice va vl vc) = w9 at TX RX cS2 ⊢
            clear cS l6 f6
            refine hK.out _ _ cS2 (fun hHeld => ?_)
            clear hK K
            try simp only [List.getElem_toArray, List.getElem_cons_zero, List.getElem_cons_succ, Act.put, List.setIfInBounds_toArray, List.set_cons_zero, List.set_cons_succ]
            refine wpAnyH_done (by kernel_rfl) ?_ _
            clear hHeld cS2 TW RW2
            refine NoPanic.normal ?_
            go_wp2
            go_roundw
            case rel => exact ⟨k + 1, _, by omega, by go_num, hide (by rw [HSN.out]; exact RX.out), TX⟩
            case measure => simp [intOf]; omega
          · go_simp
            have DA := hide (D2.out.alloc D2.out.size (.cells #[.string (upS fa), .string (upS fb)] 39))
            clear cS l6
            have cS : (y2.alloc (.cells #[.string (upS fa), .string (upS fb)] 39)).cell? ⟨f, 0, none⟩ = some (.string fa) ∧ (y2.alloc (.cells #[.string (upS fa), .string (upS fb)] 39)).cell? ⟨f, 1, none⟩ = some (.string fb) := ⟨(DA.out.cell (p := ⟨f, 0, none⟩) HLT.out).trans HC.out.1, (DA.out.cell (p := ⟨f, 1, none⟩) HLT.out).trans HC.out.2⟩
            have l6 : (y2.alloc (.cells #[.string (upS fa), .string (upS fb)] 39)).cell? ⟨w.heap.size + 1, 6, none⟩ = some (.slice ra rl rc) := (DA.out.cell (p := ⟨w.heap.size + 1, 6, none⟩) HL1.out).trans HR6.out
            refine hK.out _ _ cS (fun hHeld => ?_)
            clear hK K
            try simp only [List.getElem_toArray, List.getElem_cons_zero, List.getElem_cons_succ, Act.put, List.setIfInBounds_toArray, List.set_cons_zero, List.set_cons_succ]
            refine wpAnyH_ready (rs := [1]) (by kernel_rfl) (by simp) ?_
            refine AllReadyH.cons rfl (fun K hK => ?_) AllReadyH.nil
            go_simp
            refine hK.out _ _ cS (fun hHeld => ?_)
            clear hK K
            try simp only [List.getElem_toArray, List.getElem_cons_zero, List.getElem_cons_succ, Act.put, List.setIfInBounds_toArray, List.set_cons_zero, List.set_cons_succ]
            refine wpAnyH_ready (rs := [10]) (by kernel_rfl) (by simp) ?_
            refine AllReadyH.cons rfl (fun K hK => ?_) AllReadyH.nil
            obtain ⟨v', W', hrun, RW, BW, KW⟩ := append_fld_k y2 (w.heap.size + 2) 22 (.slice ra rl rc) ((A.take k).map upF) (upS fa, upS fb) (HROW.out.below D2.out) HLN.out (Nat.le_trans HSZ.out D2.out.size)
            have KA := hide KW
            clear KW cS l6
            have cS : W'.cell? ⟨f, 0, none⟩ = some (.string fa) ∧ W'.cell? ⟨f, 1, none⟩ = some (.string fb) := ⟨(cell_heap (KA.out f (Nat.lt_of_lt_of_le HLT.out D2.out.size) HOWN.out) 0).trans ((D2.out.cell (p := ⟨f, 0, none⟩) HLT.out).trans HC.out.1), (cell_heap (KA.out f (Nat.lt_of_lt_of_le HLT.out D2.out.size) HOWN.out) 1).trans ((D2.out.cell (p := ⟨f, 1, none⟩) HLT.out).trans HC.out.2)⟩
            have TW := hide ((HT.out.below D2.out).low (by simp) BW)
            have RW2 := hide RW
            clear RW BW KA
            refine step_append_is rfl (.tmp 26) (.tmp 34) 22 rfl (.slice ra rl rc) (.slice (some ⟨y2.heap.size, 0, none⟩) 1 1) v' (by simp [Act.eval]) (by simp [Act.eval]) hrun ?_
            clear hrun
            refine hK.out _ _ cS (fun hHeld => ?_)
            clear hK K
            try simp only [List.getElem_toArray, List.getElem_cons_zero, List.getElem_cons_succ, Act.put, List.setIfInBounds_toArray, List.set_cons_zero, List.set_cons_succ]
            refine wpAnyH_take (i := 11) (v := ?_) rfl (by kernel_rfl) (by kernel_rfl) (by kernel_rfl) (fun _ _ _ h => h) (Or.inl ⟨by rfl, ?_⟩) (by assumption) ?_
            rotate_left
            · (intro w hSw; (try dsimp only at hSw); go_simp; try with_reducible rfl)
            simp only [List.getElem_toArray, List.getElem_cons_zero, List.getElem_cons_succ, Act.put, List.setIfInBounds_toArray, List.set_cons_zero, List.set_cons_succ]
            refine wpAnyH_ready (rs := [12]) (by kernel_rfl) (by simp) ?_
            refine AllReadyH.cons rfl (fun K hK => ?_) AllReadyH.nil
            obtain ⟨va, vl, vc, rfl⟩ : ∃ a n c, v' = .slice a n c := by
              obtain ⟨a, c, h, _⟩ := RW2.out.shape
              exact ⟨a, _, c, h⟩
            have l6 : W'.cell? ⟨w.heap.size + 1, 6, none⟩ = some (.slice ra rl rc) := TW.out.cell 1 rfl 6
            have f6 : W'.frozen? ⟨w.heap.size + 1, 6, none⟩ = false := TW.out.fr 1 rfl 6
            go_simp
            have TX : Hid (Bl w (W'.setCell ⟨w.heap.size + 1, 6, none⟩ (.slice va vl vc)) [(#[.bool r, .string me, .string ta, .int .i64 mi, .int .i64 st, .string re, .slice (some ⟨g1, o1, none⟩) A.length c0], 24), (#[.bool r, .string me, .string ta, .int .i64 mi, .int .i64 st, .string re, .slice va vl vc], 24)]) := hide (TW.out.set 1 rfl 6 (.slice va vl vc))
            have RX := hide (RW2.out.setOld (g := w.heap.size + 1) (by omega) 6 (.slice va vl vc))
            have cS2 : (W'.setCell ⟨w.heap.size + 1, 6, none⟩ (.slice va vl vc)).cell? ⟨f, 0, none⟩ = some (.string fa) ∧ (W'.setCell ⟨w.heap.size + 1, 6, none⟩ (.slice va vl vc)).cell? ⟨f, 1, none⟩ = some (.string fb) := ⟨(World.cell?_setCell_far _ _ _ _ (by have := HF2.out; simp; omega)).trans cS.1, (World.cell?_setCell_far _ _ _ _ (by have := HF2.out; simp; omega)).trans cS.2⟩
            generalize W'.setCell ⟨w.heap.size + 1, 6, none⟩ (.slice va vl vc) = w9 at TX RX cS2 ⊢
            clear cS l6 f6
            refine hK.out _ _ cS2 (fun hHeld => ?_)
            clear hK K
            try simp only [List.getElem_toArray, List.getElem_cons_zero, List.getElem_cons_succ, Act.put, List.setIfInBounds_toArray, List.set_cons_zero, List.set_cons_succ]
            refine wpAnyH_done (by kernel_rfl) ?_ _
            clear hHeld cS2 TW RW2
            refine NoPanic.normal ?_
            go_wp2
            go_roundw
            case rel => exact ⟨k + 1, _, by omega, by go_num, hide (by rw [HSN.out]; exact RX.out), TX⟩
            case measure => simp [intOf]; omega
    · have HE : Hid (Flds wr (.slice ra rl rc) (A.map upF)) := hide (by have := Flds.of_row HR.out; rw [List.take_of_length_le (by omega)] at this; exact this)
      have HE2 := hide (F0.out.below HT0.out.b)
      clear HR HC0
      have r0 : wr.cell? ⟨w.heap.size, 0, none⟩ = some (.bool r) := HT0.out.cell 0 rfl 0
      cases r with
      | true =>
        obtain ⟨_, r1, r2, r3, r4, r5, r6⟩ := HT0.out.hd 0 w.heap.size rfl rfl
        go_wp2_with fail
        refine (HQ1.out _ HE2.out).mono ?_
        rintro e w1 ⟨rfl, bb⟩
        have T1 := hide (HT0.out.below bb)
        have E1 := hide (HE.out.below bb)
        have G1 := hide (HE2.out.below bb)
        clear bb HT0 HE HE2 r0 r1 r2 r3 r4 r5 r6
        go_upto_region 10 with fail
        have U1 := hide (Bl.one w1 #[.int .i64 k1, .int .i64 n1, .bool b1] 26)
        have T2 := hide (T1.out.below U1.out.b)
        have E2 := hide (E1.out.below U1.out.b)
        have G2 := hide (G1.out.below U1.out.b)
        generalize (w1.alloc (.cells #[.int .i64 k1, .int .i64 n1, .bool b1] 26)) = x1 at T2 E2 G2 U1 ⊢
        clear T1 E1 G1
        obtain ⟨r0, r1, r2, r3, r4, r5, r6⟩ := T2.out.hd 1 (w.heap.size + 1) rfl rfl
        go_wp2_with fail
        refine (HQ2.out _ _ E2.out).mono ?_
        rintro e w2 ⟨rfl, bb⟩
        have T3 := hide (T2.out.below bb)
        have E3 := hide (E2.out.below bb)
        have G3 := hide (G2.out.below bb)
        have U2 := hide (U1.out.below bb)
        clear bb T2 E2 G2 U1 r0 r1 r2 r3 r4 r5 r6
        go_upto_region 11 with fail
        have V3 := hide (Bl.one w2 #[.int .i64 k1, .int .i64 n1, .bool b1] 26)
        have T4 := hide (T3.out.below V3.out.b)
        have E4 := hide (E3.out.below V3.out.b)
        have G4 := hide (G3.out.below V3.out.b)
        have U3 := hide (U2.out.below V3.out.b)
        generalize (w2.alloc (.cells #[.int .i64 k1, .int .i64 n1, .bool b1] 26)) = y at T4 E4 G4 U3 V3 ⊢
        clear T3 E3 G3 U2
        obtain ⟨p0, p1, p2, _, _, _⟩ := U3.out.st 0 w1.heap.size rfl rfl
        obtain ⟨q0, q1, q2, _, _, _⟩ := V3.out.st 0 w2.heap.size rfl rfl
        obtain ⟨h0, h1, h2, h3, h4, h5, h6⟩ := T4.out.hd 0 w.heap.size rfl rfl
        obtain ⟨g0, g1, g2, g3, g4, g5, g6⟩ := T4.out.hd 1 (w.heap.size + 1) rfl rfl
        have HB := hide T4.out.b
        have K1 := hide (fun W (hW : Cl y W) => HK1.out W (G4.out.below hW.out))
        have K2 := hide (fun W (hW : Cl y W) => HK2.out W _ (E4.out.below hW.out))
        clear HK1 HK2 HQ1 HQ2 HP1 HP2
        refine wp_region_cl (by kernel_rfl) (by kernel_rfl) ?_
        refine cl_val (v := ?_) rfl (fun W hW => ?_) ?_
        rotate_left
        · have l0 := hW.cell p0; have l1 := hW.cell p1; have l2 := hW.cell p2; unfold Oper.quietAt; go_simp; try with_reducible rfl
        simp only [Act.put, List.setIfInBounds_toArray, List.set_cons_zero, List.set_cons_succ]
        refine cl_val (v := ?_) rfl (fun W hW => ?_) ?_
        rotate_left
        · have l0 := hW.cell q0; have l1 := hW.cell q1; have l2 := hW.cell q2; unfold Oper.quietAt; go_simp; try with_reducible rfl
        simp only [Act.put, List.setIfInBounds_toArray, List.set_cons_zero, List.set_cons_succ]
        refine cl_val (v := ?_) rfl (fun W hW => ?_) ?_
        rotate_left
        · unfold Oper.quietAt; go_simp; try with_reducible rfl
        simp only [Act.put, List.setIfInBounds_toArray, List.set_cons_zero, List.set_cons_succ]
        refine cl_move _ rfl rfl ?_
        simp only [Act.put, List.setIfInBounds_toArray, List.set_cons_zero, List.set_cons_succ]
        refine cl_move _ rfl rfl ?_
        simp only [Act.put, List.setIfInBounds_toArray, List.set_cons_zero, List.set_cons_succ]
        refine cl_move _ rfl rfl ?_
        simp only [Act.put, List.setIfInBounds_toArray, List.set_cons_zero, List.set_cons_succ]
        refine cl_val (v := ?_) rfl (fun W hW => ?_) ?_
        rotate_left
        · unfold Oper.quietAt; go_simp; try with_reducible rfl
        simp only [Act.put, List.setIfInBounds_toArray, List.set_cons_zero, List.set_cons_succ]
        refine cl_val (v := ?_) rfl (fun W hW => ?_) ?_
        rotate_left
        · unfold Oper.quietAt; go_simp; try with_reducible rfl
        simp only [Act.put, List.setIfInBounds_toArray, List.set_cons_zero, List.set_cons_succ]
        refine cl_move _ rfl rfl ?_
        simp only [Act.put, List.setIfInBounds_toArray, List.set_cons_zero, List.set_cons_succ]
        refine cl_val (v := ?_) rfl (fun W hW => ?_) ?_
        rotate_left
        · have l0 := hW.cell h0; have l1 := hW.cell h1; have l2 := hW.cell h2; have l3 := hW.cell h3; have l4 := hW.cell h4; have l5 := hW.cell h5; have l6 := hW.cell h6; unfold Oper.quietAt; go_simp; try with_reducible rfl
        simp only [Act.put, List.setIfInBounds_toArray, List.set_cons_zero, List.set_cons_succ]
        refine cl_val (v := .bool b5) rfl (fun W hW => ?_) ?_
        · unfold Oper.quietAt; go_simp; exact call_cl hW (K1.out W hW)
        simp only [Act.put, List.setIfInBounds_toArray, List.set_cons_zero, List.set_cons_succ]
        refine cl_val (v := ?_) rfl (fun W hW => ?_) ?_
        rotate_left
        · have l0 := hW.cell g0; have l1 := hW.cell g1; have l2 := hW.cell g2; have l3 := hW.cell g3; have l4 := hW.cell g4; have l5 := hW.cell g5; have l6 := hW.cell g6; unfold Oper.quietAt; go_simp; try with_reducible rfl
        simp only [Act.put, List.setIfInBounds_toArray, List.set_cons_zero, List.set_cons_succ]
        refine cl_val (v := .bool b5) rfl (fun W hW => ?_) ?_
        · unfold Oper.quietAt; go_simp; exact call_cl hW (K2.out W hW)
        simp only [Act.put, List.setIfInBounds_toArray, List.set_cons_zero, List.set_cons_succ]
        refine cl_val (v := ?_) rfl (fun W hW => ?_) ?_
        rotate_left
        · unfold Oper.quietAt; go_simp; try with_reducible rfl
        simp only [Act.put, List.setIfInBounds_toArray, List.set_cons_zero, List.set_cons_succ]
        refine cl_val (v := ?_) rfl (fun W hW => ?_) ?_
        rotate_left
        · unfold Oper.quietAt; go_simp; try with_reducible rfl
        simp only [Act.put, List.setIfInBounds_toArray, List.set_cons_zero, List.set_cons_succ]
        refine cl_move _ rfl rfl ?_
        simp only [Act.put, List.setIfInBounds_toArray, List.set_cons_zero, List.set_cons_succ]
        refine cl_val (v := .bool true) rfl (fun W hW => ?_) ?_
        · unfold Oper.quietAt; go_simp; exact call_cl hW (speaks_any W)
        simp only [Act.put, List.setIfInBounds_toArray, List.set_cons_zero, List.set_cons_succ]
        refine cl_val (v := ?_) rfl (fun W hW => ?_) ?_
        rotate_left
        · unfold Oper.quietAt; go_simp; try with_reducible rfl
        simp only [Act.put, List.setIfInBounds_toArray, List.set_cons_zero, List.set_cons_succ]
        refine cl_assign _ rfl rfl ?_
        simp only [Act.put, List.setIfInBounds_toArray, List.set_cons_zero, List.set_cons_succ]
        refine wpQuiet_nil ?_
        intro z Hz
        go_wp2
        go_ret
        exact ⟨rfl, HB.out.trans (Hz.out.mono HB.out.size)⟩
      | false =>
        obtain ⟨_, r1, r2, r3, r4, r5, r6⟩ := HT0.out.hd 0 w.heap.size rfl rfl
        go_wp2_with fail
        refine (HP1.out _ HE2.out).mono ?_
        rintro e w1 ⟨rfl, bb⟩
        have T1 := hide (HT0.out.below bb)
        have E1 := hide (HE.out.below bb)
        have G1 := hide (HE2.out.below bb)
        clear bb HT0 HE HE2 r0 r1 r2 r3 r4 r5 r6
        go_upto_region 13 with fail
        have U1 := hide (Bl.one w1 #[.int .i64 k2, .int .i64 n2, .bool b2] 26)
        have T2 := hide (T1.out.below U1.out.b)
        have E2 := hide (E1.out.below U1.out.b)
        have G2 := hide (G1.out.below U1.out.b)
        generalize (w1.alloc (.cells #[.int .i64 k2, .int .i64 n2, .bool b2] 26)) = x1 at T2 E2 G2 U1 ⊢
        clear T1 E1 G1
        obtain ⟨r0, r1, r2, r3, r4, r5, r6⟩ := T2.out.hd 1 (w.heap.size + 1) rfl rfl
        go_wp2_with fail
        refine (HP2.out _ _ E2.out).mono ?_
        rintro e w2 ⟨rfl, bb⟩
        have T3 := hide (T2.out.below bb)
        have E3 := hide (E2.out.below bb)
        have G3 := hide (G2.out.below bb)
        have U2 := hide (U1.out.below bb)
        clear bb T2 E2 G2 U1 r0 r1 r2 r3 r4 r5 r6
        go_upto_region 14 with fail
        have V3 := hide (Bl.one w2 #[.int .i64 k2, .int .i64 n2, .bool b2] 26)
        have T4 := hide (T3.out.below V3.out.b)
        have E4 := hide (E3.out.below V3.out.b)
        have G4 := hide (G3.out.below V3.out.b)
        have U3 := hide (U2.out.below V3.out.b)
        generalize (w2.alloc (.cells #[.int .i64 k2, .int .i64 n2, .bool b2] 26)) = y at T4 E4 G4 U3 V3 ⊢
        clear T3 E3 G3 U2
        obtain ⟨p0, p1, p2, _, _, _⟩ := U3.out.st 0 w1.heap.size rfl rfl
        obtain ⟨q0, q1, q2, _, _, _⟩ := V3.out.st 0 w2.heap.size rfl rfl
        go_wp2_with fail
        refine (speaks_any y).mono ?_
        rintro e w3 ⟨rfl, bb⟩
        have T5 := hide (T4.out.below bb)
        clear bb
        go_wp2
        go_ret
        exact ⟨rfl, T5.out.b⟩
end Go.Proofs.YtalihfohdejalaaDoor
