/- The document's Set. -/
import Derived.Test.YtbmhhkpehilioaaRefSlot
import Derived.Deep.RegionHeld3
namespace Go.Proofs.Ytbmhhkpehilioaa
open Go.ChangeShapes Go.WideShapes Go.ChangeAt Go.RowKit

theorem moment24 (w : World) (t : Int) : Calls Try.prog 24 #[.int .i64 t] w fun e w' => e = .returned (.bool (decide (0 ≤ t ∧ t ≤ 4611686018427387904))) ∧ w = w' := by
  by_cases h0 : 0 ≤ t <;> by_cases h1 : t ≤ 4611686018427387904
  all_goals
    go_enter Try.func24, Try.ntmps24
    go_wp2
    go_ret
    exact ⟨ret_bool (by simp [h0, h1]), rfl⟩

theorem gens_at {W : World} {base : Nat} {vg : Value} {G : List Int} (h : W.ownsRow base 3 1 vg G.length (G.map fun x => Value.int .i64 x)) (i : Nat) (hi : i < G.length) : ∃ g cap, vg = .slice (some ⟨g, 0, none⟩) G.length cap ∧ G.length ≤ cap ∧ g < W.heap.size ∧ W.cell? ⟨g, i, none⟩ = some (.int .i64 (G.getD i 0)) ∧ W.frozen? ⟨g, i, none⟩ = false ∧
    ∀ x : Int, (W.setCell ⟨g, i, none⟩ (.int .i64 x)).ownsRow base 3 1 vg (G.set i x).length ((G.set i x).map fun x => Value.int .i64 x) := by
  rcases h.2 with ⟨_, h0⟩ | ⟨g, cap, cur, rfl, h1, hg, h2, h3, h4, ht⟩
  · omega
  · rw [Nat.mul_one] at ht
    refine ⟨g, cap, rfl, h2, hp_lt hg, ?_, frozen_of hg i, fun x => ⟨by simp, .inr ⟨g, cap, cur.setIfInBounds i (.int .i64 x), by simp, h1, hp_set hg i _, by simpa using h2, h3, by simpa using h4, ?_⟩⟩⟩
    · have e : (cur.toList.take G.length)[i]? = cur[i]? := by rw [List.getElem?_take, if_pos hi]; simp
      rw [cell_of hg, ← e, ht]
      simp [List.getD, hi]
    · rw [Array.toList_setIfInBounds, List.length_set, Nat.mul_one, List.take_set, ht, List.map_set]

theorem step_append_tmr {ops : Array Oper} {o : Oper} {a : Act} {K : Act → World → Prop} {Q : Exit → Act → World → Prop} {E : Prop} (hgd : o.guard = none) (s x : Operand)
    (ho : o.op = .call { callee := .builtin .append, args := #[s, x], argTypes := #[44, 44] }) (W : World) (base : Nat) (v : Value) (L : List Tmr) (y : Tmr) (hs : a.eval s = v) (hx : a.eval x = .slice (some ⟨W.heap.size, 0, none⟩) 1 1)
    (hown : TRow W base v L) (hn : L.length ≤ 1099511627776) (hbase : base ≤ W.heap.size)
    (h : ∀ v' W', TRow W' base v' (L ++ [y]) → Fr (fun k => some k = v.ownBlock) W W' → (v'.ownBlock = v.ownBlock ∨ ∃ g, v'.ownBlock = some g ∧ W.heap.size ≤ g) → K (a.put o.dst v') W') :
    if Region.wanted o (yielded ops a.tmps) = true then Oper.wp Try.prog o a (W.alloc (.cells (tc y).toArray 78)) K Q else E := by
  have hw : Region.wanted o (yielded ops a.tmps) = true := by simp [Region.wanted, hgd]
  rw [if_pos hw]
  obtain ⟨v', W', hr, h2, h3, h4⟩ := append_tmr W base o.type v L y hown hn hbase
  unfold Oper.wp execOp
  simp only [ho, resolve, invoke, builtin, Sem.run_bind, Sem.run_pure, Result.andThen_ok, List.map_toArray, List.map_cons, List.map_nil, hs, hx, hr]
  exact h v' W' h2 h3 h4

def RMine (c : Nat) (vl vg : Value) (k : Nat) : Prop := k = c ∨ vl.ownBlock = some k ∨ vg.ownBlock = some k
structure Rm (W : World) (base c : Nat) (most : Int) (L : List Tmr) (G : List Int) (M : Nat → Prop) : Prop where
  obj : ∃ vl vg, RObj W base c most L G vl vg ∧ ∀ k, RMine c vl vg k → M k
section
variable {W W' : World} {base c : Nat} {most : Int} {L : List Tmr} {G : List Int} {vl vg : Value} {M : Nat → Prop}
theorem RObj.mine_lt (h : RObj W base c most L G vl vg) {k : Nat} (hk : RMine c vl vg k) : base ≤ k ∧ k < W.heap.size := by
  rcases hk with rfl | hk | hk
  · exact ⟨h.bb, h.lt⟩
  · exact h.l.block hk
  · exact owns_block h.g hk
theorem Rm.frame {T : Nat → Prop} (h : Rm W base c most L G M) (hF : Fr T W W') (hT : ∀ k, k < W.heap.size → M k → ¬ T k) : Rm W' base c most L G M := by
  obtain ⟨vl, vg, ho, hm⟩ := h.obj
  exact ⟨vl, vg, ho.frame hF (hT c ho.lt (hm c (.inl rfl))) (fun g hg => hT g (ho.l.block hg).2 (hm g (.inr (.inl hg)))) (fun g hg => hT g (owns_block ho.g hg).2 (hm g (.inr (.inr hg)))), hm⟩
theorem Rm.cl (h : Rm W base c most L G M) (hF : Cl W W') : Rm W' base c most L G M := h.frame hF.out (fun _ _ _ x => x)
theorem Rm.lt (h : Rm W base c most L G M) : c < W.heap.size := by
  obtain ⟨vl, vg, ho, hm⟩ := h.obj
  exact ho.lt

theorem rset_bad (W : World) (c : Nat) (time key : Int) (hm : ¬ (0 ≤ time ∧ time ≤ 4611686018427387904)) : Calls Try.prog 13 #[.pointer (some ⟨c, 0, none⟩), .int .i64 time, .int .i64 key] W fun e w' => e = .returned (.tuple #[.int .i64 0, .int .i64 1]) ∧ W = w' := by
  have hadd := moment24 W time
  rw [decide_eq_false hm] at hadd
  replace hadd := hide hadd
  clear hm
  go_enter Try.func13, Try.ntmps13
  go_wp2_with (go_at_call 24; refine hadd.out.mono ?_; rintro e w' ⟨rfl, rfl⟩)
  go_ret2
  exact ⟨rfl, rfl⟩
theorem rset_full (h : RObj W base c most L G vl vg) (time key : Int) (hm : 0 ≤ time ∧ time ≤ 4611686018427387904) (hroom : most ≤ L.length) :
    Calls Try.prog 13 #[.pointer (some ⟨c, 0, none⟩), .int .i64 time, .int .i64 key] W fun e w' => e = .returned (.tuple #[.int .i64 0, .int .i64 5]) ∧ Cl W w' := by
  have hadd := moment24 W time
  rw [decide_eq_true hm] at hadd
  replace hadd := hide hadd
  have c0 := h.c0
  have c1 := h.c1
  obtain ⟨a, cap, hv, _⟩ := h.l.shape
  subst hv
  have e0 : decide (most ≤ (L.length : Int)) = true := decide_eq_true hroom
  clear h hm
  go_enter Try.func13, Try.ntmps13
  go_wp2_with fail
  refine hadd.out.mono ?_
  rintro e w' ⟨rfl, rfl⟩
  go_wp2_with fail
  go_quiet (fail)
  go_wp2_with fail
  go_ret2
  exact ⟨rfl, Fr.drewN (fun _ => False) _ _⟩
theorem rslot2 (h : RObj W base c most L G vl vg) (hl : L.length ≤ 8192) (hG : G.length ≤ 8192) :
    Calls Try.prog 38 #[.pointer (some ⟨c, 0, none⟩)] W fun e w' => ∃ (i : Nat) (G1 : List Int) (vg1 : Value), e = .returned (.int .i64 (i : Int)) ∧ (∀ j, j < i → ¬ freeAt L j) ∧ ((i < G.length ∧ freeAt L i ∧ G1 = G) ∨ (i = G.length ∧ G1 = G ++ [0])) ∧
      RObj w' base c most L G1 vl vg1 ∧ Kept W w' (RMine c vl vg) (RMine c vl vg1) := by
  refine (rslot_any h hl hG).mono ?_
  rintro e w' ⟨i, rfl, h1, ⟨h2, h3, h4⟩ | ⟨h2, vg1, h3, h4, h5⟩⟩
  · exact ⟨i, G, vg, rfl, h1, .inl ⟨h2, h3, rfl⟩, h.cl h4, Kept.cl h4⟩
  · refine ⟨i, G ++ [0], vg1, rfl, h1, .inr ⟨h2, rfl⟩, h3, h4.mono (fun k _ x => ?_), fun k hk => ?_⟩
    · rcases x with x | x
      · exact .inl x
      · exact .inr (.inr x.symm)
    · rcases hk with hk | hk | hk
      · exact .inl (.inl hk)
      · exact .inl (.inr (.inl hk))
      · rcases h5 with e | ⟨g, e, hg⟩
        · exact .inl (.inr (.inr (e ▸ hk)))
        · rw [hk] at e; simp at e; exact .inr (by omega)

set_option maxHeartbeats 2000000 in
theorem rset_any (h : RObj W base c most L G vl vg) (time key : Int) (hm : 0 ≤ time ∧ time ≤ 4611686018427387904) (hroom : (L.length : Int) < most) (hl : L.length ≤ 8192) (hG : G.length ≤ 8192) (hg : ∀ i, i < G.length → 0 ≤ G.getD i 0 ∧ G.getD i 0 < 1125899906842624) :
    Calls Try.prog 13 #[.pointer (some ⟨c, 0, none⟩), .int .i64 time, .int .i64 key] W fun e w' => ∃ (i : Nat) (G1 : List Int) (vl' vg' : Value), e = .returned (.tuple #[.int .i64 ((G1.getD i 0 + 1) * 4096 + i), .int .i64 0]) ∧ (∀ j, j < i → ¬ freeAt L j) ∧ ((i < G.length ∧ freeAt L i ∧ G1 = G) ∨ (i = G.length ∧ G1 = G ++ [0])) ∧
      RObj w' base c most (L ++ [⟨time, key, (G1.getD i 0 + 1) * 4096 + i⟩]) (G1.set i (G1.getD i 0 + 1)) vl' vg' ∧ Kept W w' (RMine c vl vg) (RMine c vl' vg') := by
  have hadd := moment24 W time
  rw [decide_eq_true hm] at hadd
  replace hadd := hide hadd
  have c0 := h.c0
  have c1 := h.c1
  have HS := hide (fun V hV => rslot2 (h.cl (W' := V) hV) hl hG)
  obtain ⟨a, cap, hv, _⟩ := h.l.shape
  subst hv
  have e0 : decide (most ≤ (L.length : Int)) = false := decide_eq_false (by omega)
  have HG := hide hg
  clear h hm hg
  go_enter Try.func13, Try.ntmps13
  go_wp2_with fail
  refine hadd.out.mono ?_
  rintro e w' ⟨rfl, rfl⟩
  go_wp2_with fail
  go_quiet (fail)
  go_wp2_with fail
  refine (HS.out (W.drewN nq) (Fr.drewN (fun _ => False) _ _)).mono ?_
  rintro e w1 ⟨i, G1, vg1, rfl, p1, p2, O1, K1⟩
  have hi : i < G1.length := by
    rcases p2 with ⟨h1, _, h2⟩ | ⟨h1, h2⟩
    · subst h2; omega
    · subst h2; simp; omega
  have hi2 : i < 9000 := by rcases p2 with ⟨h1, _, h2⟩ | ⟨h1, h2⟩ <;> omega
  have hgn : 0 ≤ G1.getD i 0 ∧ G1.getD i 0 < 1125899906842624 := by
    rcases p2 with ⟨h1, _, h2⟩ | ⟨h1, h2⟩
    · subst h2; exact HG.out i h1
    · subst h2; subst h1; simp
  have hlen1 : G1.length ≤ 9000 := by
    rcases p2 with ⟨h1, _, h2⟩ | ⟨h1, h2⟩
    · subst h2; omega
    · subst h2; simp; omega
  obtain ⟨gn, Hgn⟩ : ∃ gn, Hid (G1.getD i 0 = gn) := ⟨_, hide rfl⟩
  have d2 := O1.c2
  obtain ⟨g, gc, hvg, hgc, hgl, g0, gz, gs⟩ := gens_at O1.g i hi
  subst hvg
  rw [Hgn.out] at g0 hgn
  obtain ⟨hg1, hg2⟩ := hgn
  have P1 := hide p1
  have P2 := hide p2
  have HO1 := hide O1
  have HK1 := hide K1
  have GS := hide (gs (gn + 1))
  have hii : (i : Int) < G1.length := by omega
  clear p1 p2 O1 K1 gs HS hadd HG c0 c1
  go_wp2_with fail
  go_region
  have hgc0 : g ≠ c := fun e => HO1.out.g0 (by rw [e]; rfl)
  have O2 : RObj (w1.setCell ⟨g, i, none⟩ (.int .i64 (gn + 1))).drew base c most L (G1.set i (gn + 1)) (.slice a L.length cap) (.slice (some ⟨g, 0, none⟩) G1.length gc) := by
    have F1 : Fr (fun k => k = g) w1 (w1.setCell ⟨g, i, none⟩ (.int .i64 (gn + 1))).drew := (Fr.set w1 g i (.int .i64 (gn + 1))).trans (Fr.drewN (fun _ => False) _ 1) (fun _ _ x => x.elim)
    have o := HO1.out
    exact ⟨F1.hd (fun e => hgc0 e.symm) o.hd, o.bb, o.l.frame F1 (fun k hk e => o.lg k hk (by rw [e]; rfl)), GS.out, o.l0, o.g0, o.lg⟩
  have FG : Fr (fun k => k = g) w1 (w1.setCell ⟨g, i, none⟩ (.int .i64 (gn + 1))).drew := (Fr.set w1 g i _).trans (Fr.drewN (fun _ => False) _ 1) (fun _ _ x => x.elim)
  obtain ⟨w2, Hw2⟩ : ∃ w2, Hid (w2 = (w1.setCell ⟨g, i, none⟩ (.int .i64 (gn + 1))).drew) := ⟨_, hide rfl⟩
  rw [← Hw2.out] at O2 FG
  rw [← Hw2.out]
  have g1 := (gens_at O2.g i (by simpa using hi))
  obtain ⟨g', gc', e1, -, -, g1, -, -⟩ := g1
  have eg : g = g' := by simp only [Value.slice.injEq, Option.some.injEq, Addr.mk.injEq] at e1; exact e1.1.1
  subst eg
  have e2 : (G1.set i (gn + 1)).getD i 0 = gn + 1 := by simp [List.getD, hi]
  rw [e2] at g1
  have b2 := O2.c2
  have HZ : Hid (w1.heap.size ≤ w2.heap.size) := hide FG.size
  have HO2 := hide O2
  have HFG := hide FG
  clear O2 FG Hw2 g0 gz d2 GS e1 e2
  go_wp2_with fail
  have O3 := HO2.out.cl (W' := w2.alloc (.cells (tc ⟨time, key, (gn + 1) * 4096 + (i : Int)⟩).toArray 78)) (Fr.alloc _ _ _)
  have n3 := hp_new w2 (.cells (tc ⟨time, key, (gn + 1) * 4096 + (i : Int)⟩).toArray 78)
  have z3 : (w2.alloc (.cells (tc ⟨time, key, (gn + 1) * 4096 + (i : Int)⟩).toArray 78)).heap.size = w2.heap.size + 1 := by simp
  have F3 : Fr (fun k => k = g) w1 (w2.alloc (.cells (tc ⟨time, key, (gn + 1) * 4096 + (i : Int)⟩).toArray 78)) := HFG.out.trans (Fr.alloc (fun _ => False) _ _) (fun _ _ x => x.elim)
  obtain ⟨hh, Hhh⟩ : ∃ hh, Hid ((gn + 1) * 4096 + (i : Int) = hh) := ⟨_, hide rfl⟩
  have hhe := Hhh.out
  rw [hhe] at O3 n3 z3 F3
  try rw [hhe]
  clear hhe
  unfold tc at O3 n3 z3 F3
  dsimp only at O3 n3 z3 F3
  obtain ⟨w3, Hw3⟩ : ∃ w3, Hid (w3 = w2.alloc (.cells #[.int .i64 time, .int .i64 key, .int .i64 hh] 78)) := ⟨_, hide rfl⟩
  rw [← Hw3.out] at O3 n3 z3 F3
  rw [← Hw3.out]
  have hlc := O3.lt
  have q1 : w3.drew.cell? ⟨c, 1, none⟩ = some (.slice a L.length cap) := O3.c1
  have sd : w3.drew.cell? ⟨w2.heap.size, 0, none⟩ = some (.int .i64 time) ∧ w3.drew.cell? ⟨w2.heap.size, 1, none⟩ = some (.int .i64 key) ∧ w3.drew.cell? ⟨w2.heap.size, 2, none⟩ = some (.int .i64 hh) := ⟨(cell_of n3 0).trans rfl, (cell_of n3 1).trans rfl, (cell_of n3 2).trans rfl⟩
  have O3' := hide (O3.cl (W' := w3.drew) (Fr.drewN (fun _ => False) _ 1))
  have F3' : Hid (Fr (fun k => k = g) w1 w3.drew) := hide (F3.trans (Fr.drewN (fun _ => False) w3 1) (fun _ _ x => x.elim))
  have N3 : Hid (w3.drew.heap[w2.heap.size]? = some (.cells #[.int .i64 time, .int .i64 key, .int .i64 hh] 78 (0, 0))) := hide n3
  have z3' : w3.drew.heap.size = w2.heap.size + 1 := z3
  clear O3 n3 F3 HO2 HFG b2 g1 Hw3 z3
  refine wp_region_noPanic ?_
  refine wp_region_held_drew (S := fun w' => w'.cell? ⟨w2.heap.size, 0, none⟩ = some (.int .i64 time) ∧ w'.cell? ⟨w2.heap.size, 1, none⟩ = some (.int .i64 key) ∧ w'.cell? ⟨w2.heap.size, 2, none⟩ = some (.int .i64 hh)) (by kernel_rfl) sd (fun hHeld => ?_)
  obtain ⟨X, HX⟩ : ∃ X, Hid (X = w3.drew) := ⟨_, hide rfl⟩
  rw [← HX.out] at O3' F3' N3 z3' q1 sd hHeld ⊢
  clear HX
  have XA : ∀ (j : Nat) (v : Value), X.cell? ⟨w2.heap.size, j, none⟩ = some v → (X.alloc (.cells #[.int .i64 time, .int .i64 key, .int .i64 hh] 78)).cell? ⟨w2.heap.size, j, none⟩ = some v := fun j v h => (World.cell?_of_block (w := X) (a := ⟨w2.heap.size, j, none⟩) (Below.heap_alloc X _ _ (by show w2.heap.size < X.heap.size; omega))).trans h
  have sa : (X.alloc (.cells #[.int .i64 time, .int .i64 key, .int .i64 hh] 78)).cell? ⟨w2.heap.size, 0, none⟩ = some (.int .i64 time) ∧ (X.alloc (.cells #[.int .i64 time, .int .i64 key, .int .i64 hh] 78)).cell? ⟨w2.heap.size, 1, none⟩ = some (.int .i64 key) ∧ (X.alloc (.cells #[.int .i64 time, .int .i64 key, .int .i64 hh] 78)).cell? ⟨w2.heap.size, 2, none⟩ = some (.int .i64 hh) := ⟨XA _ _ sd.1, XA _ _ sd.2.1, XA _ _ sd.2.2⟩
  have qa : (X.alloc (.cells #[.int .i64 time, .int .i64 key, .int .i64 hh] 78)).cell? ⟨c, 1, none⟩ = some (.slice a L.length cap) := (World.cell?_of_block (w := X) (a := ⟨c, 1, none⟩) (Below.heap_alloc X _ _ O3'.out.lt)).trans q1
  clear XA
  have FIN : Hid (∀ (v5 : Value) (w5 : World), TRow w5 base v5 (L ++ [⟨time, key, hh⟩]) → Fr (fun k => some k = (Value.slice a L.length cap).ownBlock) X w5 → (v5.ownBlock = (Value.slice a L.length cap).ownBlock ∨ ∃ g, v5.ownBlock = some g ∧ X.heap.size ≤ g) →
      w5.heap[w2.heap.size]? = some (.cells #[.int .i64 time, .int .i64 key, .int .i64 hh] 78 (0, 0)) ∧ w5.heap[c]? = some (.cells #[.int .i64 most, .slice a L.length cap, .slice (some ⟨g, 0, none⟩) G1.length gc] 46 (0, 0)) ∧
      RObj (w5.setCell ⟨c, 1, none⟩ v5) base c most (L ++ [⟨time, key, hh⟩]) (G1.set i (gn + 1)) v5 (.slice (some ⟨g, 0, none⟩) G1.length gc) ∧
      Kept w1 (w5.setCell ⟨c, 1, none⟩ v5) (RMine c (.slice a L.length cap) (.slice (some ⟨g, 0, none⟩) G1.length gc)) (RMine c v5 (.slice (some ⟨g, 0, none⟩) G1.length gc))) := hide (by
    intro v5 w5 o5 f5 l5
    have o := O3'.out
    have hb : ∀ k, (Value.slice a L.length cap).ownBlock = some k → k < w1.heap.size ∧ k ≠ c := fun k hk => ⟨(HO1.out.l.block hk).2, fun e => o.l0 (by rw [hk, e])⟩
    have hX : w1.heap.size ≤ w2.heap.size ∧ w2.heap.size < X.heap.size := ⟨HZ.out, by omega⟩
    have h5 : w5.heap[c]? = some (.cells #[.int .i64 most, .slice a L.length cap, .slice (some ⟨g, 0, none⟩) G1.length gc] 46 (0, 0)) := f5.hd (fun e => o.l0 e.symm) o.hd
    have hc1 := HO1.out.lt
    have v5c : v5.ownBlock ≠ some c := by
      intro e
      rcases l5 with l5 | ⟨k, l5, hk⟩
      · exact o.l0 (l5 ▸ e)
      · rw [e] at l5; simp at l5; omega
    refine ⟨f5.hd (fun e => by have := (hb _ e.symm).1; omega) N3.out, h5, ⟨hp_set h5 1 v5, o.bb, o5.frame (Fr.set w5 c 1 v5) (fun k hk e => v5c (by rw [hk, e])), ?_, v5c, o.g0, fun k hk e => ?_⟩, ?_, fun k hk => ?_⟩
    · exact owns_frame (owns_frame o.g f5 (fun k hk e => o.lg k e.symm hk)) (Fr.set w5 c 1 v5) (fun k hk e => o.g0 (by rw [hk, e]))
    · rcases l5 with l5 | ⟨k', l5, hk'⟩
      · exact o.lg k (l5 ▸ hk) e
      · rw [hk] at l5; simp at l5; have := (owns_block o.g e).2; omega
    · refine ((F3'.out.mono (T := RMine c (.slice a L.length cap) (.slice (some ⟨g, 0, none⟩) G1.length gc)) (fun k _ e => .inr (.inr (by rw [e]; rfl)))).trans f5 (fun k _ e => .inr (.inl e.symm))).trans (Fr.set w5 c 1 v5) (fun k _ e => .inl e)
    · rcases hk with hk | hk | hk
      · exact .inl (.inl hk)
      · rcases l5 with l5 | ⟨k', l5, hk'⟩
        · exact .inl (.inr (.inl (l5 ▸ hk)))
        · rw [hk] at l5; simp at l5; exact .inr (by omega)
      · exact .inl (.inr (.inr hk)))
  refine wpAnyH_take (i := 0) (v := ?_) rfl (by kernel_rfl) (by kernel_rfl) (by kernel_rfl) (fun _ _ _ h => h) (Or.inl ⟨by rfl, ?_⟩) (by assumption) ?_
  rotate_left
  · (intro w hSw; (try dsimp only at hSw); go_simp; try with_reducible rfl)
  simp only [List.getElem_toArray, List.getElem_cons_zero, Act.put, List.setIfInBounds_toArray, List.set_cons_zero, List.set_cons_succ]
  refine wpAnyH_take (i := 1) (v := ?_) rfl (by kernel_rfl) (by kernel_rfl) (by kernel_rfl) (fun _ _ _ h => h) (Or.inl ⟨by rfl, ?_⟩) (by assumption) ?_
  rotate_left
  · (intro w hSw; (try dsimp only at hSw); go_simp; try with_reducible rfl)
  simp only [List.getElem_toArray, List.getElem_cons_zero, List.getElem_cons_succ, Act.put, List.setIfInBounds_toArray, List.set_cons_zero, List.set_cons_succ]
  refine wpAnyH_take (i := 2) (v := ?_) rfl (by kernel_rfl) (by kernel_rfl) (by kernel_rfl) (fun _ _ _ h => h) (Or.inl ⟨by rfl, ?_⟩) (by assumption) ?_
  rotate_left
  · (intro w hSw; (try dsimp only at hSw); go_simp; try with_reducible rfl)
  simp only [List.getElem_toArray, List.getElem_cons_zero, List.getElem_cons_succ, Act.put, List.setIfInBounds_toArray, List.set_cons_zero, List.set_cons_succ]
  refine wpAnyH_take (i := 3) (v := ?_) rfl (by kernel_rfl) (by kernel_rfl) (by kernel_rfl) (fun _ _ _ h => h) (Or.inl ⟨by rfl, ?_⟩) (by assumption) ?_
  rotate_left
  · (intro w hSw; (try dsimp only at hSw); go_simp; try with_reducible rfl)
  simp only [List.getElem_toArray, List.getElem_cons_zero, List.getElem_cons_succ, Act.put, List.setIfInBounds_toArray, List.set_cons_zero, List.set_cons_succ]
  refine wpAnyH_take (i := 5) (v := ?_) rfl (by kernel_rfl) (by kernel_rfl) (by kernel_rfl) (fun _ _ _ h => h) (Or.inl ⟨by rfl, ?_⟩) (by assumption) ?_
  rotate_left
  · (intro w hSw; (try dsimp only at hSw); go_simp; try with_reducible rfl)
  simp only [List.getElem_toArray, List.getElem_cons_zero, List.getElem_cons_succ, Act.put, List.setIfInBounds_toArray, List.set_cons_zero, List.set_cons_succ]
  refine wpAnyH_ready (rs := [4, 6]) (by kernel_rfl) (by simp) ?_
  refine AllReadyH.cons rfl (fun K hK => ?_) (AllReadyH.cons rfl (fun K hK => ?_) AllReadyH.nil)
  · go_simp
    refine hK.out _ _ sd (fun hHeld => ?_)
    clear hK K
    try simp only [List.getElem_toArray, List.getElem_cons_zero, List.getElem_cons_succ, Act.put, List.setIfInBounds_toArray, List.set_cons_zero, List.set_cons_succ]
    refine wpAnyH_ready (rs := [6]) (by kernel_rfl) (by simp) ?_
    refine AllReadyH.cons rfl (fun K hK => ?_) AllReadyH.nil
    go_simp
    refine hK.out _ _ sa (fun hHeld => ?_)
    clear hK K
    try simp only [List.getElem_toArray, List.getElem_cons_zero, List.getElem_cons_succ, Act.put, List.setIfInBounds_toArray, List.set_cons_zero, List.set_cons_succ]
    refine wpAnyH_ready (rs := [7]) (by kernel_rfl) (by simp) ?_
    refine AllReadyH.cons rfl (fun K hK => ?_) AllReadyH.nil
    refine step_append_tmr rfl _ _ rfl X base (.slice a L.length cap) L ⟨time, key, hh⟩ rfl (by simp [Act.eval, go_sem]) O3'.out.l (by omega) (by have := O3'.out.bb; have := O3'.out.lt; omega) ?_
    intro v5 w5 o5 f5 l5
    have f6 := hide (FIN.out v5 w5 o5 f5 l5)
    obtain ⟨a5, c5, hv5, -⟩ := o5.shape
    obtain ⟨m5, Hm5⟩ : ∃ m5, Hid ((L ++ [(⟨time, key, hh⟩ : Tmr)]).length = m5) := ⟨_, hide rfl⟩
    rw [Hm5.out] at hv5
    subst hv5
    have u1 : w5.cell? ⟨c, 1, none⟩ = some _ := (cell_of f6.out.2.1 1).trans rfl
    have y1 : w5.frozen? ⟨c, 1, none⟩ = false := frozen_of f6.out.2.1 1
    have u5 : w5.cell? ⟨w2.heap.size, 0, none⟩ = some (.int .i64 time) ∧ w5.cell? ⟨w2.heap.size, 1, none⟩ = some (.int .i64 key) ∧ w5.cell? ⟨w2.heap.size, 2, none⟩ = some (.int .i64 hh) := ⟨(cell_of f6.out.1 0).trans rfl, (cell_of f6.out.1 1).trans rfl, (cell_of f6.out.1 2).trans rfl⟩
    clear o5 f5 l5
    refine hK.out _ _ u5 (fun hHeld => ?_)
    clear hK K
    try simp only [List.getElem_toArray, List.getElem_cons_zero, List.getElem_cons_succ, Act.put, List.setIfInBounds_toArray, List.set_cons_zero, List.set_cons_succ]
    refine wpAnyH_take (i := 8) (v := ?_) rfl (by kernel_rfl) (by kernel_rfl) (by kernel_rfl) (fun _ _ _ h => h) (Or.inl ⟨by rfl, ?_⟩) (by assumption) ?_
    rotate_left
    · (intro w hSw; (try dsimp only at hSw); go_simp; try with_reducible rfl)
    simp only [List.getElem_toArray, List.getElem_cons_zero, List.getElem_cons_succ, Act.put, List.setIfInBounds_toArray, List.set_cons_zero, List.set_cons_succ]
    refine wpAnyH_take (i := 9) (v := ?_) rfl (by kernel_rfl) (by kernel_rfl) (by kernel_rfl) (fun _ _ _ h => h) (Or.inl ⟨by rfl, ?_⟩) (by assumption) ?_
    rotate_left
    · (intro w hSw; (try dsimp only at hSw); go_simp; try with_reducible rfl)
    simp only [List.getElem_toArray, List.getElem_cons_zero, List.getElem_cons_succ, Act.put, List.setIfInBounds_toArray, List.set_cons_zero, List.set_cons_succ]
    refine wpAnyH_ready (rs := [10]) (by kernel_rfl) (by simp) ?_
    refine AllReadyH.cons rfl (fun K hK => ?_) AllReadyH.nil
    go_simp
    have hne : c ≠ w2.heap.size := fun e => by have := HZ.out; have := HO1.out.lt; omega
    have U6 : ∀ (j : Nat) (v v' : Value), w5.cell? ⟨w2.heap.size, j, none⟩ = some v → (w5.setCell ⟨c, 1, none⟩ v').cell? ⟨w2.heap.size, j, none⟩ = some v := fun j v v' h => (World.cell?_setCell_other _ _ _ _ (by intro e; simp only [Addr.mk.injEq] at e; exact hne e.1)).trans h
    refine hK.out _ _ ⟨U6 _ _ _ u5.1, U6 _ _ _ u5.2.1, U6 _ _ _ u5.2.2⟩ (fun hHeld => ?_)
    clear hK K
    try simp only [List.getElem_toArray, List.getElem_cons_zero, List.getElem_cons_succ, Act.put, List.setIfInBounds_toArray, List.set_cons_zero, List.set_cons_succ]
    have u6 := U6 2 _ (.slice a5 m5 c5) u5.2.2
    refine wpAnyH_done (by kernel_rfl) ?_ _
    refine NoPanic.normal ?_
    clear U6 u5 u1 y1 qa sa q1 sd hHeld
    go_wp2_with fail
    go_ret2
    have hgi := Hgn.out
    have hhi := Hhh.out
    refine ⟨i, G1, _, _, by rw [hgi, hhi]; rfl, P1.out, P2.out, by rw [hgi, hhi]; exact f6.out.2.2.1, ?_⟩
    exact (Kept.cl (Fr.drewN (fun _ => False) W nq)).trans (HK1.out.trans f6.out.2.2.2)
  · go_simp
    refine hK.out _ _ sa (fun hHeld => ?_)
    clear hK K
    try simp only [List.getElem_toArray, List.getElem_cons_zero, List.getElem_cons_succ, Act.put, List.setIfInBounds_toArray, List.set_cons_zero, List.set_cons_succ]
    refine wpAnyH_ready (rs := [4]) (by kernel_rfl) (by simp) ?_
    refine AllReadyH.cons rfl (fun K hK => ?_) AllReadyH.nil
    go_simp
    refine hK.out _ _ sa (fun hHeld => ?_)
    clear hK K
    try simp only [List.getElem_toArray, List.getElem_cons_zero, List.getElem_cons_succ, Act.put, List.setIfInBounds_toArray, List.set_cons_zero, List.set_cons_succ]
    refine wpAnyH_ready (rs := [7]) (by kernel_rfl) (by simp) ?_
    refine AllReadyH.cons rfl (fun K hK => ?_) AllReadyH.nil
    refine step_append_tmr rfl _ _ rfl X base (.slice a L.length cap) L ⟨time, key, hh⟩ rfl (by simp [Act.eval, go_sem]) O3'.out.l (by omega) (by have := O3'.out.bb; have := O3'.out.lt; omega) ?_
    intro v5 w5 o5 f5 l5
    have f6 := hide (FIN.out v5 w5 o5 f5 l5)
    obtain ⟨a5, c5, hv5, -⟩ := o5.shape
    obtain ⟨m5, Hm5⟩ : ∃ m5, Hid ((L ++ [(⟨time, key, hh⟩ : Tmr)]).length = m5) := ⟨_, hide rfl⟩
    rw [Hm5.out] at hv5
    subst hv5
    have u1 : w5.cell? ⟨c, 1, none⟩ = some _ := (cell_of f6.out.2.1 1).trans rfl
    have y1 : w5.frozen? ⟨c, 1, none⟩ = false := frozen_of f6.out.2.1 1
    have u5 : w5.cell? ⟨w2.heap.size, 0, none⟩ = some (.int .i64 time) ∧ w5.cell? ⟨w2.heap.size, 1, none⟩ = some (.int .i64 key) ∧ w5.cell? ⟨w2.heap.size, 2, none⟩ = some (.int .i64 hh) := ⟨(cell_of f6.out.1 0).trans rfl, (cell_of f6.out.1 1).trans rfl, (cell_of f6.out.1 2).trans rfl⟩
    clear o5 f5 l5
    refine hK.out _ _ u5 (fun hHeld => ?_)
    clear hK K
    try simp only [List.getElem_toArray, List.getElem_cons_zero, List.getElem_cons_succ, Act.put, List.setIfInBounds_toArray, List.set_cons_zero, List.set_cons_succ]
    refine wpAnyH_take (i := 8) (v := ?_) rfl (by kernel_rfl) (by kernel_rfl) (by kernel_rfl) (fun _ _ _ h => h) (Or.inl ⟨by rfl, ?_⟩) (by assumption) ?_
    rotate_left
    · (intro w hSw; (try dsimp only at hSw); go_simp; try with_reducible rfl)
    simp only [List.getElem_toArray, List.getElem_cons_zero, List.getElem_cons_succ, Act.put, List.setIfInBounds_toArray, List.set_cons_zero, List.set_cons_succ]
    refine wpAnyH_take (i := 9) (v := ?_) rfl (by kernel_rfl) (by kernel_rfl) (by kernel_rfl) (fun _ _ _ h => h) (Or.inl ⟨by rfl, ?_⟩) (by assumption) ?_
    rotate_left
    · (intro w hSw; (try dsimp only at hSw); go_simp; try with_reducible rfl)
    simp only [List.getElem_toArray, List.getElem_cons_zero, List.getElem_cons_succ, Act.put, List.setIfInBounds_toArray, List.set_cons_zero, List.set_cons_succ]
    refine wpAnyH_ready (rs := [10]) (by kernel_rfl) (by simp) ?_
    refine AllReadyH.cons rfl (fun K hK => ?_) AllReadyH.nil
    go_simp
    have hne : c ≠ w2.heap.size := fun e => by have := HZ.out; have := HO1.out.lt; omega
    have U6 : ∀ (j : Nat) (v v' : Value), w5.cell? ⟨w2.heap.size, j, none⟩ = some v → (w5.setCell ⟨c, 1, none⟩ v').cell? ⟨w2.heap.size, j, none⟩ = some v := fun j v v' h => (World.cell?_setCell_other _ _ _ _ (by intro e; simp only [Addr.mk.injEq] at e; exact hne e.1)).trans h
    refine hK.out _ _ ⟨U6 _ _ _ u5.1, U6 _ _ _ u5.2.1, U6 _ _ _ u5.2.2⟩ (fun hHeld => ?_)
    clear hK K
    try simp only [List.getElem_toArray, List.getElem_cons_zero, List.getElem_cons_succ, Act.put, List.setIfInBounds_toArray, List.set_cons_zero, List.set_cons_succ]
    have u6 := U6 2 _ (.slice a5 m5 c5) u5.2.2
    refine wpAnyH_done (by kernel_rfl) ?_ _
    refine NoPanic.normal ?_
    clear U6 u5 u1 y1 qa sa q1 sd hHeld
    go_wp2_with fail
    go_ret2
    have hgi := Hgn.out
    have hhi := Hhh.out
    refine ⟨i, G1, _, _, by rw [hgi, hhi]; rfl, P1.out, P2.out, by rw [hgi, hhi]; exact f6.out.2.2.1, ?_⟩
    exact (Kept.cl (Fr.drewN (fun _ => False) W nq)).trans (HK1.out.trans f6.out.2.2.2)
end
end Go.Proofs.Ytbmhhkpehilioaa
