/- QN: HPcP HPcW HOpP. -/
import Derived.Test.YtinmpmbicgokpaaGreatDoorQL
import Derived.Test.YtinmpmbicgokpaaGreatDoorQF
import Derived.Test.YtinmpmbicgokpaaGreatDoorQE
import Derived.Maps.AppendAt
import Derived.Test.YtinmpmbicgokpaaGreatDoorQG
/- Bytes in pieces: what a parser makes of them; a list of pieces that came in. -/
namespace Go.Proofs.YtinmpmbicgokpaaGreatDoor
open Go.ChangeShapes Go.WideShapes Go.ChangeAt Go.RowKit

theorem bytes_app : ∀ (a : List UInt8) (p : Pz) (b : List UInt8), p.whole = false → pBytes p (a ++ b) = if (pBytes p a).1 ≠ 0 ∨ (pBytes p a).2.2.whole = true then pBytes p a else sh (pBytes (pBytes p a).2.2 b) (pBytes p a).2.1
  | [], p, b, hw => by
    rw [if_neg (by simp [pBytes, hw])]
    simp [pBytes, sh]
  | c :: a, p, b, hw => by
    rw [List.cons_append, pBytes, pBytes]
    by_cases h1 : (pNext p c).1 ≠ 0
    · rw [if_pos h1, if_pos h1, if_pos (.inl h1)]
    · rw [if_neg h1, if_neg h1]
      by_cases h2 : (pNext p c).2.whole = true
      · rw [if_pos h2, if_pos h2, if_pos (.inr h2)]
      · rw [if_neg h2, if_neg h2, bytes_app a (pNext p c).2 b (by simpa using h2)]
        dsimp only
        split
        · rfl
        · simp only [sh, Prod.mk.injEq, true_and, and_true]
          omega
theorem next_err {p : Pz} (hf : Fit p) (hw : p.whole = false) (c : UInt8) (h : (pNext p c).1 ≠ 0) : (pNext p c).2.whole = false := by
  unfold pNext at h ⊢
  split
  · exact hw
  · split
    · exact hw
    · split
      · exact hw
      · split
        · rename_i h1 h2 h3 h4
          rw [if_neg h1, if_neg h2, if_neg h3, if_pos h4] at h
          have hq : Fit { p with read := p.read + 1, ending := false, line := [] } := ⟨hf.fn, hf.most, by have := hf.read; show p.read + 1 ≤ p.most; omega, Nat.zero_le _, hf.passed, hf.fs⟩
          by_cases h5 : p.fn = fnFld ∧ (sS p.line).size = 0
          · exfalso
            rw [line_fld (p := { p with read := p.read + 1, ending := false, line := [] }) h5.1] at h
            unfold pFld at h
            rw [if_pos h5.2] at h
            exact h rfl
          · exact ((line_end hq (sS p.line)).2 h5).trans hw
        · split <;> exact hw
theorem bytes_err : ∀ (l : List UInt8) (p : Pz), Fit p → p.whole = false → (pBytes p l).1 ≠ 0 → (pBytes p l).2.2.whole = false
  | [], p, _, _, h => absurd rfl h
  | c :: r, p, hf, hw, h => by
    rw [pBytes] at h ⊢
    by_cases h1 : (pNext p c).1 ≠ 0
    · rw [if_pos h1]
      exact next_err hf hw c h1
    · rw [if_neg h1] at h ⊢
      by_cases h2 : (pNext p c).2.whole = true
      · rw [if_pos h2] at h
        exact absurd rfl h
      · rw [if_neg h2] at h ⊢
        exact bytes_err r (pNext p c).2 (hf.next c) (by simpa using h2) h
/-- The parser, by what all bytes so far made of a new one. -/
def stOf (R : Nat × Nat × Pz) : Pz := if R.1 = 0 then (if R.2.2.whole then pShut R.2.2 else R.2.2) else pBad R.2.2 R.1
theorem pieces_eq {p0 : Pz} (hf : Fit p0) (hw : p0.whole = false) (hr : p0.wrong = 0) (a b : List UInt8) :
    pFeed (stOf (pBytes p0 a)) b = ((pBytes p0 (a ++ b)).2.1 - (pBytes p0 a).2.1, rdW (pBytes p0 (a ++ b)), (pBytes p0 (a ++ b)).1, stOf (pBytes p0 (a ++ b))) ∧ (pBytes p0 a).2.1 ≤ (pBytes p0 (a ++ b)).2.1 := by
  have hA := bytes_app a p0 b hw
  have hW := bytes_wrong a p0 hf
  have hE := bytes_err a p0 hf hw
  have hF := fit_bytes a p0 hf
  generalize pBytes p0 a = R at hA hW hE hF
  obtain ⟨e, n, q⟩ := R
  dsimp only at hA hW hE hF
  by_cases h1 : e ≠ 0
  · rw [if_pos (.inl h1)] at hA
    rw [hA]
    have e1 : stOf (e, n, q) = pBad q e := by unfold stOf; rw [if_neg h1]
    rw [e1]
    unfold pFeed
    rw [if_pos (.inr h1)]
    refine ⟨?_, Nat.le_refl _⟩
    have : rdW (e, n, q) = false := by unfold rdW; rw [decide_eq_false h1]; rfl
    rw [this]
    dsimp only
    rw [Nat.sub_self]
    show (0, q.whole, e, pBad q e) = _
    rw [hE h1]
  · have h1 : e = 0 := by simpa using h1
    subst h1
    by_cases h2 : q.whole = true
    · rw [if_pos (.inr h2)] at hA
      rw [hA]
      have e1 : stOf (0, n, q) = pShut q := by unfold stOf; rw [if_pos rfl]; dsimp only; rw [if_pos h2]
      rw [e1]
      unfold pFeed
      rw [if_pos (.inl h2)]
      refine ⟨?_, Nat.le_refl _⟩
      have : rdW (0, n, q) = true := by unfold rdW; dsimp only; rw [h2]; rfl
      rw [this]
      dsimp only
      rw [Nat.sub_self]
      show (0, q.whole, q.wrong, pShut q) = _
      rw [h2, hW, hr]
    · have h2 : q.whole = false := by simpa using h2
      rw [if_neg (by simp [h2])] at hA
      rw [hA]
      have e1 : stOf (0, n, q) = q := by unfold stOf; rw [if_pos rfl]; dsimp only; rw [if_neg (by simp [h2])]
      rw [e1]
      unfold pFeed
      rw [if_neg (by rw [hW, hr, h2]; simp)]
      have hE2 := bytes_err b q hF h2
      generalize pBytes q b = R2 at hE2 ⊢
      obtain ⟨e2, n2, q2⟩ := R2
      dsimp only [sh] at hE2 ⊢
      refine ⟨?_, Nat.le_add_left _ _⟩
      rw [Nat.add_sub_cancel]
      unfold stOf rdW
      dsimp only
      by_cases h3 : e2 = 0
      · subst h3
        rw [if_pos rfl, if_pos rfl]
        rfl
      · rw [if_neg h3, if_neg h3, decide_eq_false h3, hE2 h3]
        rfl
theorem fit_st {p0 : Pz} (hf : Fit p0) (a : List UInt8) : Fit (stOf (pBytes p0 a)) := by
  have hF := fit_bytes a p0 hf
  generalize pBytes p0 a = R at hF
  unfold stOf
  split
  · split
    · exact ⟨hF.fn, hF.most, hF.read, Nat.zero_le _, hF.passed, hF.fs⟩
    · exact hF
  · exact ⟨hF.fn, hF.most, hF.read, Nat.zero_le _, hF.passed, Nat.zero_le _⟩
theorem sz_st {p0 : Pz} (hf : Fit p0) (hz : Sz p0) (a : List UInt8) : Sz (stOf (pBytes p0 a)) := by
  have hF := sz_bytes a p0 hf hz
  generalize pBytes p0 a = R at hF
  unfold stOf
  split
  · split
    · exact ⟨hF.me, hF.ta, hF.re, hF.fs, hF.minor, hF.status⟩
    · exact hF
  · exact ⟨Nat.zero_le _, Nat.zero_le _, Nat.zero_le _, (fun f hf => by cases hf), Nat.zero_le _, Nat.zero_le _⟩
theorem st_head {R : Nat × Nat × Pz} (h : rdW R = true) : (stOf R).whole = true ∧ (stOf R).hx = rdH R := by
  have h1 := h
  unfold rdW at h1
  rw [Bool.and_eq_true] at h1
  have h2 : R.1 = 0 := of_decide_eq_true h1.1
  unfold stOf rdH
  rw [if_pos h2, if_pos h1.2, if_pos h]
  exact ⟨h1.2, rfl⟩
theorem st_none {R : Nat × Nat × Pz} (h : rdW R = false) (he : R.1 ≠ 0 → R.2.2.whole = false) : (stOf R).whole = false ∧ rdH R = hx0 := by
  refine ⟨?_, by unfold rdH; rw [h]; rfl⟩
  unfold stOf
  by_cases h2 : R.1 = 0
  · rw [if_pos h2]
    unfold rdW at h
    rw [decide_eq_true h2, Bool.true_and] at h
    rw [if_neg (by simp [h])]
    exact h
  · rw [if_neg h2]
    exact he h2

/-! ### A list of pieces -/
def Pcs (W : World) (v : Value) (L : List (List UInt8)) : Prop :=
  ∃ (a : Option Addr) (c : Nat), v = .slice a L.length c ∧ L.length ≤ c ∧ ∀ j (h : j < L.length), ∃ g o u, a = some ⟨g, o, none⟩ ∧ g < W.heap.size ∧ W.cell? ⟨g, o + j, none⟩ = some u ∧ Bs W W.heap.size u L[j] ∧ Shp u
/-- An append of bytes that came in, beside other rows. -/
theorem append_bs_k (W : World) (base nb : Nat) (ty : TypeId) (v u : Value) (O l : List UInt8) (hown : Row W base 5 v (bc O)) (hB : Bs W nb u l) (hS : Shp u) (hn : O.length + l.length ≤ 140737488355328) (hbase : base ≤ W.heap.size) :
    ∃ v' W', (Builtin.append_ #[22, 22] ty #[v, u]).run Tryz.prog W = .ok v' W' ∧ Row W' base 5 v' (bc (O ++ l)) ∧ Below base W W' ∧ Kept W W' v v' := by
  obtain ⟨i, hi, hz, hs1, hb1⟩ := infoB
  obtain ⟨a, c, rfl, hc, hcell⟩ := hB
  unfold Row at hown
  rw [bc_len] at hown
  rcases hS with he | ⟨ad, m, c', he⟩
  · simp only [Value.slice.injEq] at he
    obtain ⟨rfl, hl0, rfl⟩ := he
    have e : l = [] := List.eq_nil_of_length_eq_zero hl0
    subst e
    refine ⟨v, W, run_append_owned_none W base 22 ty 5 i 1 Tryz.underlying22 hi v _ _ hown, ?_, Below.refl _ _, Kept.refl _ _⟩
    unfold Row
    rw [List.append_nil, bc_len]
    exact hown
  · simp only [Value.slice.injEq] at he
    obtain ⟨rfl, _, _⟩ := he
    obtain ⟨v', W', hr, h1, hg, _, hloc⟩ := run_append_own_at (w := W) base 22 ty 5 i _ 1 1 Tryz.underlying22 hi hz hs1 hb1 rfl (by omega) v O.length (bc O) hown ad l.length c (bc l) (by rw [bc_len]; omega) (by
      intro j u hj
      have hjl : j < l.length := by
        rw [← bc_len]
        exact (List.getElem?_eq_some_iff.1 hj).1
      obtain ⟨b, off, e, _, _, x1⟩ := hcell j hjl
      simp only [Option.some.injEq] at e
      subst e
      have e2 : (⟨b, off, none⟩ : Addr).add j = ⟨b, off + j, none⟩ := by unfold Addr.add; split <;> simp_all
      rw [e2, x1, ← hj]
      simp [bc, hjl]) (by
      intro u hu
      unfold bc at hu
      obtain ⟨x, _, rfl⟩ := List.mem_map.1 hu
      rfl) (by unfold maxLen; omega) (by omega) hbase
    refine ⟨v', W', hr, ?_, (Below.refl base W).grown hg hbase (fun k hk => (World.ownsRow.lt hown k hk).1), ?_⟩
    · unfold Row
      rw [bc_len, List.length_append, show bc (O ++ l) = bc O ++ bc l by simp [bc]]
      exact h1
    · refine ⟨hg.size, fun g h2 h3 => hg.block g h2 (fun h => h3 h.symm), fun g h2 h3 h4 => ?_⟩
      rcases hloc with h5 | h5
      · exact h3 (h5.symm.trans h4)
      · rw [h5] at h4
        simp only [Option.some.injEq] at h4
        omega
theorem wpList_append_bs_k {ops : Array Oper} {rest : List Oper} {o : Oper} {a : Act} {Q : Exit → Act → World → Prop} (hgd : o.guard = none) (s x : Operand)
    (ho : o.op = .call { callee := .builtin .append, args := #[s, x], argTypes := #[22, 22] }) (W : World) (base nb : Nat) (v u : Value) (O l : List UInt8) (hs : a.eval s = v) (hx : a.eval x = u)
    (hown : Row W base 5 v (bc O)) (hB : Bs W nb u l) (hS : Shp u) (hn : O.length + l.length ≤ 140737488355328) (hbase : base ≤ W.heap.size)
    (h : ∀ v' W', Row W' base 5 v' (bc (O ++ l)) → Below base W W' → Kept W W' v v' → wpList Tryz.prog ops Q rest (a.put o.dst v') W') : wpList Tryz.prog ops Q (o :: rest) a W := by
  refine wpList_plain hgd fun K hK => ?_
  obtain ⟨v', W', hr, h2, h3, h4⟩ := append_bs_k W base nb o.type v u O l hown hB hS hn hbase
  unfold Oper.wp execOp
  simp only [ho, resolve, invoke, builtin, Sem.run_bind, Sem.run_pure, Result.andThen_ok, List.map_toArray, List.map_cons, List.map_nil, hs, hx, hr]
  exact hK _ _ (h v' W' h2 h3 h4)
/-- The parser and a row beside it. -/
structure Two (W : World) (base g : Nat) (lv fv av : Value) (p : Pz) (all : List UInt8) : Prop where
  par : Par W base g lv fv p
  row : Row W base 5 av (bc all)
  ag : av.ownBlock ≠ some g
  al : ∀ k, av.ownBlock = some k → lv.ownBlock ≠ some k
  af : ∀ k, av.ownBlock = some k → fv.ownBlock ≠ some k
theorem Two.below {W W' : World} {base g : Nat} {lv fv av : Value} {p : Pz} {all : List UInt8} (h : Two W base g lv fv av p all) (b : Below W.heap.size W W') : Two W' base g lv fv av p all :=
  ⟨h.par.below b, h.row.below b, h.ag, h.al, h.af⟩
theorem Two.grow {W W' : World} {base g : Nat} {lv fv av av' : Value} {p : Pz} {all all' : List UInt8} (h : Two W base g lv fv av p all) (k : Kept W W' av av') (hr : Row W' base 5 av' (bc all')) : Two W' base g lv fv av' p all' := by
  have hal : ∀ k, lv.ownBlock = some k → av.ownBlock ≠ some k := fun k e e2 => h.al k e2 e
  have haf : ∀ k, fv.ownBlock = some k → av.ownBlock ≠ some k := fun k e e2 => h.af k e2 e
  refine ⟨⟨(k.block g h.par.lt h.ag).trans h.par.blk, h.par.line.frame fun i e => k.block i (h.par.line.lt e).2 (hal i e), h.par.flds.frame fun i e => k.block i (h.par.flds.lt e).2 (haf i e), h.par.gb, h.par.gl, h.par.gf, h.par.lf⟩, hr, k.apart g h.par.lt h.ag, fun i e e2 => ?_, fun i e e2 => ?_⟩
  · exact k.apart i (h.par.line.lt e2).2 (hal i e2) e
  · exact k.apart i (h.par.flds.lt e2).2 (haf i e2) e
theorem Two.feed {W W' : World} {base g : Nat} {lv fv lv' fv' av : Value} {p p' : Pz} {all : List UInt8} (h : Two W base g lv fv av p all) (hp : Par W' base g lv' fv' p') (k : PK W W' g lv fv lv' fv') : Two W' base g lv' fv' av p' all :=
  ⟨hp, h.row.frame fun i e => k.block i (h.row.lt e).2 (fun e2 => h.ag (by rw [e, e2])) (h.al i e) (h.af i e), h.ag, fun i e => k.la i (h.row.lt e).2 (h.al i e), fun i e => k.fa i (h.row.lt e).2 (h.af i e)⟩
end Go.Proofs.YtinmpmbicgokpaaGreatDoor
/- HeadPieces, walked. -/
namespace Go.Proofs.YtinmpmbicgokpaaGreatDoor
open Go.ChangeShapes Go.WideShapes Go.ChangeAt Go.RowKit

theorem asked_any (most : Int) (w : World) : Calls Tryz.prog 14 #[.int .i64 most] w fun e w' => e = .returned (.bool (decide (16 ≤ most ∧ most ≤ 65536))) ∧ w = w' := by
  obtain ⟨D, hD⟩ : ∃ D, decide (16 ≤ most ∧ most ≤ 65536) = D := ⟨_, rfl⟩
  rw [hD]
  by_cases h1 : 16 ≤ most
  · by_cases h2 : most ≤ 65536
    · rw [decide_eq_true (And.intro h1 h2)] at hD
      subst hD
      go_enter Tryz.func14, Tryz.ntmps14
      go_wp2
      go_ret
      exact ⟨ret_bool (by first | rfl | (simp; omega)), rfl⟩
    · rw [decide_eq_false (fun h => h2 h.2)] at hD
      subst hD
      go_enter Tryz.func14, Tryz.ntmps14
      go_wp2
      go_ret
      exact ⟨ret_bool (by first | rfl | (simp; omega)), rfl⟩
  · rw [decide_eq_false (fun h => h1 h.1)] at hD
    subst hD
    go_enter Tryz.func14, Tryz.ntmps14
    go_wp2
    go_ret
    exact ⟨ret_bool (by first | rfl | (simp; omega)), rfl⟩
theorem flds_nil0 (w : World) : Flds w (.slice none 0 0) [] := ⟨none, 0, rfl, ⟨Nat.le_refl _, fun _ => rfl⟩, fun j hj => by simp at hj⟩
theorem rdH_len {p0 : Pz} (hf : Fit p0) (l : List UInt8) : (rdH (pBytes p0 l)).fs.length ≤ 100 := by
  have := (fit_bytes l p0 hf).fs
  unfold rdH
  split
  · exact this
  · simp [hx0]
theorem flat_take {L : List (List UInt8)} {k : Nat} (h : k < L.length) : (L.take (k + 1)).flatten = (L.take k).flatten ++ L[k] := by
  rw [take_snocP L k h, List.flatten_append, List.flatten_cons, List.flatten_nil, List.append_nil]
theorem flat_le (L : List (List UInt8)) (k : Nat) : ((L.take k).flatten).length ≤ L.flatten.length := by
  conv => rhs; rw [← List.take_append_drop k L]
  rw [List.flatten_append, List.length_append]
  omega
theorem Pcs.at {W : World} {v : Value} {L : List (List UInt8)} (h : Pcs W v L) : ∃ (a : Option Addr) (c : Nat), v = .slice a L.length c ∧ L.length ≤ c ∧ ∀ j (h : j < L.length), ∃ g o ba bc, a = some ⟨g, o, none⟩ ∧ g < W.heap.size ∧ W.cell? ⟨g, o + j, none⟩ = some (.slice ba L[j].length bc) ∧ Bs W W.heap.size (.slice ba L[j].length bc) L[j] ∧ Shp (.slice ba L[j].length bc) := by
  obtain ⟨a, c, h1, h2, h3⟩ := h
  refine ⟨a, c, h1, h2, fun j hj => ?_⟩
  obtain ⟨g, o, u, q1, q2, q3, q4, q5⟩ := h3 j hj
  obtain ⟨ba, bc, rfl, _, _⟩ := id q4
  exact ⟨g, o, ba, bc, q1, q2, q3, q4, q5⟩
set_option maxHeartbeats 16000000 in
set_option maxRecDepth 100000 in
theorem pieces_walk (rq : Bool) (most : Int) (v : Value) (L : List (List UInt8)) (w : World) (hP : Pcs w v L) (hfl : L.flatten.length ≤ 1048576) (hn : L.length ≤ 1048576) (ht : PT w) (hm : MX w) (he : ET w) :
    Calls Tryz.prog 4 #[.bool rq, .int .i64 most, v] w fun e w' => e = .returned (.bool true) ∧ Below w.heap.size w w' := by
  have HT := hide ht
  have HM := hide hm
  have HE := hide he
  obtain ⟨pa, pc, rfl, hpc, hcells⟩ := hP.at
  have HPC := hide hcells
  clear hcells hP ht hm he
  by_cases hask : 16 ≤ most ∧ most ≤ 65536
  · obtain ⟨m, rfl⟩ := Int.eq_ofNat_of_zero_le (show 0 ≤ most by omega)
    have hm1 : 16 ≤ m := by omega
    have hm2 : m ≤ 65536 := by omega
    have HAS := hide (fun W => asked_any (m : Int) W)
    rw [decide_eq_true hask] at HAS
    clear hask
    have HFT : Hid (Fit (pNew rq m)) := hide (fit_new rq m hm2)
    have HSZ : Hid (Sz (pNew rq m)) := hide (sz_new rq m)
    have HRD := hide (fun W v l hv hl => rread_any W rq m hm2 v l hv hl)
    go_enter Tryz.func4, Tryz.ntmps4
    go_wp2_with fail
    refine (new_any rq m w hm1 hm2).mono ?_
    rintro e w1 ⟨rfl, P1, b1⟩
    have T0 : Hid (Two w1 w.heap.size w.heap.size (.slice none 0 0) (.slice none 0 0) (.slice none 0 0) (stOf (pBytes (pNew rq m) [])) []) := hide ⟨P1, Row.nil _ _ _, by simp [Value.ownBlock], by intro k e; simp [Value.ownBlock] at e, by intro k e; simp [Value.ownBlock] at e⟩
    have B1 := hide b1
    clear P1 b1
    go_wp2_with fail
    refine (HAS.out w1).mono ?_
    rintro e w2 ⟨rfl, rfl⟩
    go_wp2_with fail
    have hw0 : (pNew rq m).whole = false ∧ (pNew rq m).wrong = 0 ∧ (pBytes (pNew rq m) []).2.1 = 0 := ⟨rfl, rfl, rfl⟩
    have HW0 := hide hw0
    clear hw0
    generalize pNew rq m = p0 at HFT HSZ HRD T0 HW0
    go_loopw [9, 10, 46] (fun av wv i wr => ∃ (k : Nat) (all : List UInt8) (aa : Option Addr) (an ac : Nat) (lv fv : Value), k ≤ L.length ∧ av = .slice aa an ac ∧ wv = .int .i64 ((pBytes p0 all).2.1 : Int) ∧ i = .int .i64 k ∧ Hid (all = (L.take k).flatten) ∧ Hid (Two wr w.heap.size w.heap.size lv fv (.slice aa an ac) (stOf (pBytes p0 all)) all) ∧ Hid (Below w.heap.size w wr)) (fun _ _ i _ => L.length - (intOf i).toNat)
    case atStart => exact ⟨0, [], none, 0, 0, _, _, Nat.zero_le _, rfl, by rw [HW0.out.2.2]; rfl, rfl, hide rfl, T0, B1⟩
    case round =>
      obtain ⟨k, all, aa, an, ac, lv, fv, hk, rfl, rfl, rfl, HAL, HT2, HB⟩ := hrel
      clear T0 B1
      by_cases hlt : k < L.length
      · obtain ⟨g1, o1, ba, bcp, rfl, hg1, q1, hbs, hsh⟩ := HPC.out k hlt
        have hfk := flat_take hlt
        have hfl2 := flat_le L (k + 1)
        generalize L[k] = b at hfk q1 hbs hsh
        rw [hfk, ← HAL.out] at hfl2
        rw [List.length_append] at hfl2
        have HAL2 : Hid (all ++ b = (L.take (k + 1)).flatten) := hide (by rw [hfk, ← HAL.out])
        have HBS := hide hbs
        have HSH := hide hsh
        have r1 : wr.cell? ⟨g1, o1 + k, none⟩ = some (.slice ba b.length bcp) := (HB.out.cell (p := ⟨g1, o1 + k, none⟩) hg1).trans q1
        clear hfk q1 hbs hsh
        have HPE := hide (pieces_eq HFT.out HW0.out.1 HW0.out.2.1 all b)
        go_upto_region 11 with fail
        go_wp2_with (at_builtin; apply Hid.out)
        unfold Hid
        refine wpList_append_bs_k rfl _ _ rfl wr w.heap.size w.heap.size (.slice aa an ac) (.slice ba b.length bcp) all b rfl rfl HT2.out.row (HBS.out.below (Nat.le_refl _) HB.out) HSH.out (by omega) HB.out.size ?_
        intro v' W1 O' B' K'
        obtain ⟨na, nn, nc, rfl⟩ : ∃ a n c, v' = .slice a n c := by
          obtain ⟨a, c, h, _⟩ := O'.shape
          exact ⟨a, _, c, h⟩
        have T1 := hide (HT2.out.grow K' O')
        have B1 := hide (HB.out.trans B')
        clear O' B' K' r1 HT2 HB
        have PR := hide (HRD.out W1 (.slice na nn nc) (all ++ b) (Bs.of_row T1.out.row) (by rw [List.length_append]; omega))
        have HLE := hide (rdH_len HFT.out (all ++ b))
        generalize hRH : rdH (pBytes p0 (all ++ b)) = RH at PR HLE
        generalize hWH : rdW (pBytes p0 (all ++ b)) = WH at PR
        have HRH := hide hRH
        have HWH := hide hWH
        clear hRH hWH
        obtain ⟨xr, xme, xta, xmi, xst, xre, XA⟩ := RH
        unfold hxV at PR
        dsimp only at PR HLE
        have hpe := HPE.out
        rw [HWH.out] at hpe
        have HPF := hide hpe.1
        have hpl := hpe.2
        clear hpe HPE
        generalize hN1 : (pBytes p0 (all ++ b)).2.1 = n1 at PR HPF hpl
        generalize hE1 : (pBytes p0 (all ++ b)).1 = e1 at PR HPF
        have HN1 := hide hN1
        have HE1 := hide hE1
        clear hN1 hE1
        go_wp2_with fail
        refine PR.out.mono ?_
        rintro e W2 ⟨u2, rfl, hu2, b2⟩
        obtain ⟨ua, ul, uc, rfl⟩ : ∃ a n c, u2 = .slice a n c := by
          obtain ⟨a, c, h, _⟩ := hu2.shape
          exact ⟨a, _, c, h⟩
        have T2 := hide (T1.out.below b2)
        have B2 := hide (B1.out.trans (b2.mono B1.out.size))
        have HU2 := hide hu2
        have HS2 : Hid (W1.heap.size ≤ W2.heap.size) := hide b2.size
        clear hu2 b2 PR
        go_upto_region 13 with fail
        have V3 := hide (Bl.one W2 #[.bool xr, .string xme, .string xta, .int .i64 (xmi : Int), .int .i64 (xst : Int), .string xre, .slice ua ul uc] 25)
        have T3 := hide (T2.out.below V3.out.b)
        have B3 := hide (B2.out.trans (V3.out.b.mono B2.out.size))
        have HU3 := hide (HU2.out.below V3.out.b)
        generalize (W2.alloc (.cells #[.bool xr, .string xme, .string xta, .int .i64 (xmi : Int), .int .i64 (xst : Int), .string xre, .slice ua ul uc] 25)) = W3 at V3 T3 B3 HU3 ⊢
        have HFD := hide (feed_any T3.out.par (fit_st HFT.out all) (HM.out.below B3.out) (HE.out.below B3.out) (by have := HM.out.1; omega) _ b (HBS.out.below (Nat.le_refl _) B3.out) (by omega))
        rw [HPF.out] at HFD
        unfold fdV at HFD
        dsimp only at HFD
        go_wp2_with fail
        refine HFD.out.mono ?_
        rintro e W4 ⟨rfl, lv', fv', hp4, k4⟩
        have T4 := hide (T3.out.feed hp4 k4)
        have B4 := hide (B3.out.trans (PK.below T3.out.par k4 B3.out.size))
        have hol : ∀ j, W1.heap.size ≤ j → lv.ownBlock ≠ some j := fun j hj e => by have := (T1.out.par.line.lt e).2; omega
        have hof : ∀ j, W1.heap.size ≤ j → fv.ownBlock ≠ some j := fun j hj e => by have := (T1.out.par.flds.lt e).2; omega
        have hgl : w.heap.size < W1.heap.size := T1.out.par.lt
        have V4 : Hid (W4.heap[W2.heap.size]? = some (.cells #[.bool xr, .string xme, .string xta, .int .i64 (xmi : Int), .int .i64 (xst : Int), .string xre, .slice ua ul uc] 25)) := hide ((k4.block W2.heap.size (blk_lt (V3.out.hp 0 _ _ rfl)) (by have := HS2.out; omega) (hol _ HS2.out) (hof _ HS2.out)).trans (V3.out.hp 0 _ _ rfl))
        have HU4 : Hid (Flds W4 (.slice ua ul uc) XA) := hide (Flds.of_row (HU3.out.frame fun j hj => k4.block j (HU3.out.lt hj).2 (by have := (HU3.out.lt hj).1; omega) (hol _ (HU3.out.lt hj).1) (hof _ (HU3.out.lt hj).1)))
        clear hp4 k4 hol hof hgl HFD T1 T2 T3 V3 HU2 HU3
        have tN : (((n1 - (pBytes p0 all).2.1 : Nat) : Int) != (n1 : Int) - ((pBytes p0 all).2.1 : Int)) = false := by rw [bne_eq_false_iff_eq]; omega
        have tE : ((e1 : Int) != (e1 : Int)) = false := by simp
        have HNX : Hid (.int .i64 (n1 : Int) = Value.int .i64 ((pBytes p0 (all ++ b)).2.1 : Int)) := hide (by rw [HN1.out])
        have iN : (n1 : Int) ≤ 1048576 := by have h7 := bytes_le (all ++ b) p0; rw [HN1.out, List.length_append] at h7; omega
        have iM : ((pBytes p0 all).2.1 : Int) ≤ (n1 : Int) := by omega
        cases hw : WH with
        | true =>
          subst hw
          have hst := st_head (R := pBytes p0 (all ++ b)) HWH.out
          have HSW := hide hst.1
          have HSX := hide (hst.2.trans HRH.out)
          clear hst
          have HHD := hide (fun (W : World) (h : Par W w.heap.size w.heap.size lv' fv' (stOf (pBytes p0 (all ++ b)))) => head_whole h HSW.out (sz_st HFT.out HSZ.out (all ++ b)) (fit_st HFT.out (all ++ b)))
          have V5 : Hid (W4.heap[W2.heap.size]? = some (.cells #[.bool xr, .string xme, .string xta, .int .i64 (xmi : Int), .int .i64 (xst : Int), .string xre, .slice ua ul uc] 25)) := V4
          clear V4
          go_upto_region 14 with fail
          have BD := hide ((Below.refl W4.heap.size W4).drew)
          have T5 := hide (T4.out.below BD.out)
          have HU5 := hide (HU4.out.below BD.out)
          have B5 := hide (B4.out.trans (BD.out.mono B4.out.size))
          have HSD : Hid (W4.drew.heap.size = W4.heap.size) := hide rfl
          have VD := hide ((BD.out.block _ (blk_lt V5.out)).trans V5.out)
          have cS : W4.drew.cell? ⟨W2.heap.size, 0, none⟩ = some (.bool xr) ∧ W4.drew.cell? ⟨W2.heap.size, 1, none⟩ = some (.string xme) ∧ W4.drew.cell? ⟨W2.heap.size, 2, none⟩ = some (.string xta) ∧ W4.drew.cell? ⟨W2.heap.size, 3, none⟩ = some (.int .i64 (xmi : Int)) ∧ W4.drew.cell? ⟨W2.heap.size, 4, none⟩ = some (.int .i64 (xst : Int)) ∧ W4.drew.cell? ⟨W2.heap.size, 5, none⟩ = some (.string xre) ∧ W4.drew.cell? ⟨W2.heap.size, 6, none⟩ = some (.slice ua ul uc) := ⟨cell_at VD.out 0, cell_at VD.out 1, cell_at VD.out 2, cell_at VD.out 3, cell_at VD.out 4, cell_at VD.out 5, cell_at VD.out 6⟩
          refine wp_region_noPanic ?_
          refine wp_region_held_drew (S := fun W => W.cell? ⟨W2.heap.size, 0, none⟩ = some (.bool xr) ∧ W.cell? ⟨W2.heap.size, 1, none⟩ = some (.string xme) ∧ W.cell? ⟨W2.heap.size, 2, none⟩ = some (.string xta) ∧ W.cell? ⟨W2.heap.size, 3, none⟩ = some (.int .i64 (xmi : Int)) ∧ W.cell? ⟨W2.heap.size, 4, none⟩ = some (.int .i64 (xst : Int)) ∧ W.cell? ⟨W2.heap.size, 5, none⟩ = some (.string xre) ∧ W.cell? ⟨W2.heap.size, 6, none⟩ = some (.slice ua ul uc)) (by kernel_rfl) cS (fun hHeld => ?_)
          refine wpAnyH_take (i := 0) (v := ?_) rfl (by kernel_rfl) (by kernel_rfl) (by kernel_rfl) (fun _ _ _ h => h) (Or.inl ⟨by rfl, ?_⟩) (by assumption) ?_
          rotate_left
          · (intro w hSw; (try dsimp only at hSw); go_simp; try with_reducible rfl)
          simp only [List.getElem_toArray, List.getElem_cons_zero, Act.put, List.setIfInBounds_toArray, List.set_cons_zero, List.set_cons_succ]
          refine wpAnyH_take (i := 1) (v := ?_) rfl (by kernel_rfl) (by kernel_rfl) (by kernel_rfl) (fun _ _ _ h => h) (Or.inl ⟨by rfl, ?_⟩) (by assumption) ?_
          rotate_left
          · (intro w hSw; (try dsimp only at hSw); go_simp; try with_reducible rfl)
          simp only [List.getElem_toArray, List.getElem_cons_zero, List.getElem_cons_succ, Act.put, List.setIfInBounds_toArray, List.set_cons_zero, List.set_cons_succ]
          refine wpAnyH_take (i := 2) (v := ?_) rfl (by kernel_rfl) (by kernel_rfl) (by kernel_rfl) (fun _ _ _ h => h) (Or.inl ⟨by rfl, ?_⟩) (by assumption) ?_
          rotate_left
          · (intro w hSw; (try dsimp only at hSw); go_simp; try with_reducible rfl)
          simp only [List.getElem_toArray, List.getElem_cons_zero, List.getElem_cons_succ, Act.put, List.setIfInBounds_toArray, List.set_cons_zero, List.set_cons_succ]
          refine wpAnyH_take (i := 3) (v := ?_) rfl (by kernel_rfl) (by kernel_rfl) (by kernel_rfl) (fun _ _ _ h => h) (Or.inl ⟨by rfl, ?_⟩) (by assumption) ?_
          rotate_left
          · (intro w hSw; (try dsimp only at hSw); go_simp; try with_reducible rfl)
          simp only [List.getElem_toArray, List.getElem_cons_zero, List.getElem_cons_succ, Act.put, List.setIfInBounds_toArray, List.set_cons_zero, List.set_cons_succ]
          refine wpAnyH_take (i := 4) (v := .bool false) rfl (by kernel_rfl) (by kernel_rfl) (by kernel_rfl) (fun _ _ _ h => h) (Or.inl ⟨by rfl, ?_⟩) (by assumption) ?_
          · (intro w hSw; go_simp; first | done | (rw [IntWalk.i64_in _ ⟨by omega, by omega⟩]; omega))
          simp only [List.getElem_toArray, List.getElem_cons_zero, List.getElem_cons_succ, Act.put, List.setIfInBounds_toArray, List.set_cons_zero, List.set_cons_succ]
          refine wpAnyH_take (i := 5) (v := ?_) rfl (by kernel_rfl) (by kernel_rfl) (by kernel_rfl) (fun _ _ _ h => h) (Or.inl ⟨by rfl, ?_⟩) (by assumption) ?_
          rotate_left
          · (intro w hSw; (try dsimp only at hSw); go_simp; try with_reducible rfl)
          simp only [List.getElem_toArray, List.getElem_cons_zero, List.getElem_cons_succ, Act.put, List.setIfInBounds_toArray, List.set_cons_zero, List.set_cons_succ]
          refine wpAnyH_take (i := 6) (v := ?_) rfl (by kernel_rfl) (by kernel_rfl) (by kernel_rfl) (fun _ _ _ h => h) (Or.inl ⟨by rfl, ?_⟩) (by assumption) ?_
          rotate_left
          · (intro w hSw; (try dsimp only at hSw); go_simp; try with_reducible rfl)
          simp only [List.getElem_toArray, List.getElem_cons_zero, List.getElem_cons_succ, Act.put, List.setIfInBounds_toArray, List.set_cons_zero, List.set_cons_succ]
          refine wpAnyH_take (i := 7) (v := ?_) rfl (by kernel_rfl) (by kernel_rfl) (by kernel_rfl) (fun _ _ _ h => h) (Or.inl ⟨by rfl, ?_⟩) (by assumption) ?_
          rotate_left
          · (intro w hSw; (try dsimp only at hSw); go_simp; try with_reducible rfl)
          simp only [List.getElem_toArray, List.getElem_cons_zero, List.getElem_cons_succ, Act.put, List.setIfInBounds_toArray, List.set_cons_zero, List.set_cons_succ]
          refine wpAnyH_take (i := 8) (v := ?_) rfl (by kernel_rfl) (by kernel_rfl) (by kernel_rfl) (fun _ _ _ h => h) (Or.inl ⟨by rfl, ?_⟩) (by assumption) ?_
          rotate_left
          · (intro w hSw; (try dsimp only at hSw); go_simp; try with_reducible rfl)
          simp only [List.getElem_toArray, List.getElem_cons_zero, List.getElem_cons_succ, Act.put, List.setIfInBounds_toArray, List.set_cons_zero, List.set_cons_succ]
          refine wpAnyH_take (i := 9) (v := ?_) rfl (by kernel_rfl) (by kernel_rfl) (by kernel_rfl) (fun _ _ _ h => h) (Or.inl ⟨by rfl, ?_⟩) (by assumption) ?_
          rotate_left
          · (intro w hSw; (try dsimp only at hSw); go_simp; try with_reducible rfl)
          simp only [List.getElem_toArray, List.getElem_cons_zero, List.getElem_cons_succ, Act.put, List.setIfInBounds_toArray, List.set_cons_zero, List.set_cons_succ]
          refine wpAnyH_take (i := 10) (v := ?_) rfl (by kernel_rfl) (by kernel_rfl) (by kernel_rfl) (fun _ _ _ h => h) (Or.inl ⟨by rfl, ?_⟩) (by assumption) ?_
          rotate_left
          · (intro w hSw; (try dsimp only at hSw); go_simp; try with_reducible rfl)
          simp only [List.getElem_toArray, List.getElem_cons_zero, List.getElem_cons_succ, Act.put, List.setIfInBounds_toArray, List.set_cons_zero, List.set_cons_succ]
          refine wpAnyH_take (i := 11) (v := ?_) rfl (by kernel_rfl) (by kernel_rfl) (by kernel_rfl) (fun _ _ _ h => h) (Or.inl ⟨by rfl, ?_⟩) (by assumption) ?_
          rotate_left
          · (intro w hSw; (try dsimp only at hSw); go_simp; try with_reducible rfl)
          simp only [List.getElem_toArray, List.getElem_cons_zero, List.getElem_cons_succ, Act.put, List.setIfInBounds_toArray, List.set_cons_zero, List.set_cons_succ]
          refine wpAnyH_take (i := 12) (v := ?_) rfl (by kernel_rfl) (by kernel_rfl) (by kernel_rfl) (fun _ _ _ h => h) (Or.inl ⟨by rfl, ?_⟩) (by assumption) ?_
          rotate_left
          · (intro w hSw; (try dsimp only at hSw); go_simp; try with_reducible rfl)
          simp only [List.getElem_toArray, List.getElem_cons_zero, List.getElem_cons_succ, Act.put, List.setIfInBounds_toArray, List.set_cons_zero, List.set_cons_succ]
          refine wpAnyH_take (i := 13) (v := .bool false) rfl (by kernel_rfl) (by kernel_rfl) (by kernel_rfl) (fun _ _ _ h => h) (Or.inl ⟨by rfl, ?_⟩) (by assumption) ?_
          · (intro w hSw; go_simp; first | done | (rw [tE]) | (simp [tE]))
          simp only [List.getElem_toArray, List.getElem_cons_zero, List.getElem_cons_succ, Act.put, List.setIfInBounds_toArray, List.set_cons_zero, List.set_cons_succ]
          refine wpAnyH_take (i := 14) (v := ?_) rfl (by kernel_rfl) (by kernel_rfl) (by kernel_rfl) (fun _ _ _ h => h) (Or.inl ⟨by rfl, ?_⟩) (by assumption) ?_
          rotate_left
          · (intro w hSw; (try dsimp only at hSw); go_simp; try with_reducible rfl)
          simp only [List.getElem_toArray, List.getElem_cons_zero, List.getElem_cons_succ, Act.put, List.setIfInBounds_toArray, List.set_cons_zero, List.set_cons_succ]
          refine wpAnyH_take (i := 15) (v := ?_) rfl (by kernel_rfl) (by kernel_rfl) (by kernel_rfl) (fun _ _ _ h => h) (Or.inl ⟨by rfl, ?_⟩) (by assumption) ?_
          rotate_left
          · (intro w hSw; (try dsimp only at hSw); go_simp; try with_reducible rfl)
          simp only [List.getElem_toArray, List.getElem_cons_zero, List.getElem_cons_succ, Act.put, List.setIfInBounds_toArray, List.set_cons_zero, List.set_cons_succ]
          refine wpAnyH_take (i := 16) (v := ?_) rfl (by kernel_rfl) (by kernel_rfl) (by kernel_rfl) (fun _ _ _ h => h) (Or.inl ⟨by rfl, ?_⟩) (by assumption) ?_
          rotate_left
          · (intro w hSw; (try dsimp only at hSw); go_simp; try with_reducible rfl)
          simp only [List.getElem_toArray, List.getElem_cons_zero, List.getElem_cons_succ, Act.put, List.setIfInBounds_toArray, List.set_cons_zero, List.set_cons_succ]
          refine wpAnyH_take (i := 18) (v := ?_) rfl (by kernel_rfl) (by kernel_rfl) (by kernel_rfl) (fun _ _ _ h => h) (Or.inl ⟨by rfl, ?_⟩) (by assumption) ?_
          rotate_left
          · (intro W hSw; obtain ⟨c0, c1, c2, c3, c4, c5, c6⟩ := hSw; go_simp; try with_reducible rfl)
          simp only [List.getElem_toArray, List.getElem_cons_zero, List.getElem_cons_succ, Act.put, List.setIfInBounds_toArray, List.set_cons_zero, List.set_cons_succ]
          refine wpAnyH_ready (rs := [17]) (by kernel_rfl) (by simp) ?_
          refine AllReadyH.cons rfl (fun K hK => ?_) AllReadyH.nil
          go_simp
          refine (HHD.out W4.drew T5.out.par).mono ?_
          rintro e W6 ⟨u6, rfl, hu6, b6⟩
          obtain ⟨ya, yl, yc, rfl⟩ : ∃ a n c, u6 = .slice a n c := by
            obtain ⟨a, c, h, _⟩ := hu6.shape
            exact ⟨a, _, c, h⟩
          have HY6 := hide (Flds.of_row hu6)
          have T6 := hide (T5.out.below b6)
          have HU6 := hide (HU5.out.below b6)
          have B6 := hide (B5.out.trans (b6.mono B5.out.size))
          have V6 := hide ((b6.block _ (blk_lt VD.out)).trans VD.out)
          clear b6 cS hu6
          have cS : W6.cell? ⟨W2.heap.size, 0, none⟩ = some (.bool xr) ∧ W6.cell? ⟨W2.heap.size, 1, none⟩ = some (.string xme) ∧ W6.cell? ⟨W2.heap.size, 2, none⟩ = some (.string xta) ∧ W6.cell? ⟨W2.heap.size, 3, none⟩ = some (.int .i64 (xmi : Int)) ∧ W6.cell? ⟨W2.heap.size, 4, none⟩ = some (.int .i64 (xst : Int)) ∧ W6.cell? ⟨W2.heap.size, 5, none⟩ = some (.string xre) ∧ W6.cell? ⟨W2.heap.size, 6, none⟩ = some (.slice ua ul uc) := ⟨cell_at V6.out 0, cell_at V6.out 1, cell_at V6.out 2, cell_at V6.out 3, cell_at V6.out 4, cell_at V6.out 5, cell_at V6.out 6⟩
          have HC := hide (plainH_any W6 ⟨xr, xme, xta, xmi, xst, xre, XA⟩ ⟨xr, xme, xta, xmi, xst, xre, XA⟩ (.slice ya yl yc) (.slice ua ul uc) (by have h := HY6.out; rw [show (stOf (pBytes p0 (all ++ b))).fs = XA from congrArg Hx.fs HSX.out] at h; exact h) HU6.out (by have := HLE.out; show XA.length ≤ _; omega) (by have := HLE.out; show XA.length ≤ _; omega))
          rw [hiEq_iff.2 rfl] at HC
          have hv6 : hdV (stOf (pBytes p0 (all ++ b))) (.slice ya yl yc) = .agg #[.bool xr, .string xme, .string xta, .int .i64 (xmi : Int), .int .i64 (xst : Int), .string xre, .slice ya yl yc] := (show hdV (stOf (pBytes p0 (all ++ b))) (.slice ya yl yc) = hxV (stOf (pBytes p0 (all ++ b))).hx (.slice ya yl yc) from rfl).trans (by rw [HSX.out]; rfl)
          rw [hv6]
          clear hv6
          unfold hiV at HC
          dsimp only at HC
          (try go_wp2_with fail)
          refine hK.out _ _ cS (fun hHeld => ?_)
          clear hK K
          try simp only [List.getElem_toArray, List.getElem_cons_zero, List.getElem_cons_succ, Act.put, List.setIfInBounds_toArray, List.set_cons_zero, List.set_cons_succ]
          refine wpAnyH_ready (rs := [19]) (by kernel_rfl) (by simp) ?_
          refine AllReadyH.cons rfl (fun K hK => ?_) AllReadyH.nil
          go_simp
          refine HC.out.mono ?_
          rintro e W7 ⟨rfl, b7⟩
          have T7 := hide (T6.out.below b7)
          have B7 := hide (B6.out.trans (b7.mono B6.out.size))
          have V7 := hide ((b7.block _ (blk_lt V6.out)).trans V6.out)
          clear b7 cS HC
          have cS : W7.cell? ⟨W2.heap.size, 0, none⟩ = some (.bool xr) ∧ W7.cell? ⟨W2.heap.size, 1, none⟩ = some (.string xme) ∧ W7.cell? ⟨W2.heap.size, 2, none⟩ = some (.string xta) ∧ W7.cell? ⟨W2.heap.size, 3, none⟩ = some (.int .i64 (xmi : Int)) ∧ W7.cell? ⟨W2.heap.size, 4, none⟩ = some (.int .i64 (xst : Int)) ∧ W7.cell? ⟨W2.heap.size, 5, none⟩ = some (.string xre) ∧ W7.cell? ⟨W2.heap.size, 6, none⟩ = some (.slice ua ul uc) := ⟨cell_at V7.out 0, cell_at V7.out 1, cell_at V7.out 2, cell_at V7.out 3, cell_at V7.out 4, cell_at V7.out 5, cell_at V7.out 6⟩
          (try go_wp2_with fail)
          refine hK.out _ _ cS (fun hHeld => ?_)
          clear hK K
          try simp only [List.getElem_toArray, List.getElem_cons_zero, List.getElem_cons_succ, Act.put, List.setIfInBounds_toArray, List.set_cons_zero, List.set_cons_succ]
          refine wpAnyH_take (i := 20) (v := ?_) rfl (by kernel_rfl) (by kernel_rfl) (by kernel_rfl) (fun _ _ _ h => h) (Or.inl ⟨by rfl, ?_⟩) (by assumption) ?_
          rotate_left
          · (intro w hSw; (try dsimp only at hSw); go_simp; try with_reducible rfl)
          simp only [List.getElem_toArray, List.getElem_cons_zero, List.getElem_cons_succ, Act.put, List.setIfInBounds_toArray, List.set_cons_zero, List.set_cons_succ]
          refine wpAnyH_take (i := 21) (v := ?_) rfl (by kernel_rfl) (by kernel_rfl) (by kernel_rfl) (fun _ _ _ h => h) (Or.inl ⟨by rfl, ?_⟩) (by assumption) ?_
          rotate_left
          · (intro w hSw; (try dsimp only at hSw); go_simp; try with_reducible rfl)
          simp only [List.getElem_toArray, List.getElem_cons_zero, List.getElem_cons_succ, Act.put, List.setIfInBounds_toArray, List.set_cons_zero, List.set_cons_succ]
          refine wpAnyH_done (by kernel_rfl) ?_ _
          clear hHeld cS
          refine NoPanic.normal ?_
          go_wp2_with fail
          exact ⟨⟨k + 1, all ++ b, na, nn, nc, lv', fv', by omega, rfl, HNX.out, by go_num, HAL2, T7, B7⟩, by simp [intOf]; omega⟩
        | false =>
          subst hw
          have hst := st_none (R := pBytes p0 (all ++ b)) HWH.out (bytes_err (all ++ b) p0 HFT.out HW0.out.1)
          have HSW := hide hst.1
          have hsx := hst.2.symm.trans HRH.out
          clear hst
          have HHD := hide (fun (W : World) (h : Par W w.heap.size w.heap.size lv' fv' (stOf (pBytes p0 (all ++ b)))) => head_part h HSW.out)
          simp only [hx0, Hx.mk.injEq] at hsx
          obtain ⟨rfl, rfl, rfl, rfl, rfl, rfl, rfl⟩ := hsx
          have V5 : Hid (W4.heap[W2.heap.size]? = some (.cells #[.bool false, .string ⟨#[]⟩, .string ⟨#[]⟩, .int .i64 0, .int .i64 0, .string ⟨#[]⟩, .slice ua ul uc] 25)) := V4
          clear V4
          go_upto_region 14 with fail
          have BD := hide ((Below.refl W4.heap.size W4).drew)
          have T5 := hide (T4.out.below BD.out)
          have HU5 := hide (HU4.out.below BD.out)
          have B5 := hide (B4.out.trans (BD.out.mono B4.out.size))
          have HSD : Hid (W4.drew.heap.size = W4.heap.size) := hide rfl
          have VD := hide ((BD.out.block _ (blk_lt V5.out)).trans V5.out)
          have cS : W4.drew.cell? ⟨W2.heap.size, 0, none⟩ = some (.bool false) ∧ W4.drew.cell? ⟨W2.heap.size, 1, none⟩ = some (.string ⟨#[]⟩) ∧ W4.drew.cell? ⟨W2.heap.size, 2, none⟩ = some (.string ⟨#[]⟩) ∧ W4.drew.cell? ⟨W2.heap.size, 3, none⟩ = some (.int .i64 0) ∧ W4.drew.cell? ⟨W2.heap.size, 4, none⟩ = some (.int .i64 0) ∧ W4.drew.cell? ⟨W2.heap.size, 5, none⟩ = some (.string ⟨#[]⟩) ∧ W4.drew.cell? ⟨W2.heap.size, 6, none⟩ = some (.slice ua ul uc) := ⟨cell_at VD.out 0, cell_at VD.out 1, cell_at VD.out 2, cell_at VD.out 3, cell_at VD.out 4, cell_at VD.out 5, cell_at VD.out 6⟩
          refine wp_region_noPanic ?_
          refine wp_region_held_drew (S := fun W => W.cell? ⟨W2.heap.size, 0, none⟩ = some (.bool false) ∧ W.cell? ⟨W2.heap.size, 1, none⟩ = some (.string ⟨#[]⟩) ∧ W.cell? ⟨W2.heap.size, 2, none⟩ = some (.string ⟨#[]⟩) ∧ W.cell? ⟨W2.heap.size, 3, none⟩ = some (.int .i64 0) ∧ W.cell? ⟨W2.heap.size, 4, none⟩ = some (.int .i64 0) ∧ W.cell? ⟨W2.heap.size, 5, none⟩ = some (.string ⟨#[]⟩) ∧ W.cell? ⟨W2.heap.size, 6, none⟩ = some (.slice ua ul uc)) (by kernel_rfl) cS (fun hHeld => ?_)
          refine wpAnyH_take (i := 0) (v := ?_) rfl (by kernel_rfl) (by kernel_rfl) (by kernel_rfl) (fun _ _ _ h => h) (Or.inl ⟨by rfl, ?_⟩) (by assumption) ?_
          rotate_left
          · (intro w hSw; (try dsimp only at hSw); go_simp; try with_reducible rfl)
          simp only [List.getElem_toArray, List.getElem_cons_zero, Act.put, List.setIfInBounds_toArray, List.set_cons_zero, List.set_cons_succ]
          refine wpAnyH_take (i := 1) (v := ?_) rfl (by kernel_rfl) (by kernel_rfl) (by kernel_rfl) (fun _ _ _ h => h) (Or.inl ⟨by rfl, ?_⟩) (by assumption) ?_
          rotate_left
          · (intro w hSw; (try dsimp only at hSw); go_simp; try with_reducible rfl)
          simp only [List.getElem_toArray, List.getElem_cons_zero, List.getElem_cons_succ, Act.put, List.setIfInBounds_toArray, List.set_cons_zero, List.set_cons_succ]
          refine wpAnyH_take (i := 2) (v := ?_) rfl (by kernel_rfl) (by kernel_rfl) (by kernel_rfl) (fun _ _ _ h => h) (Or.inl ⟨by rfl, ?_⟩) (by assumption) ?_
          rotate_left
          · (intro w hSw; (try dsimp only at hSw); go_simp; try with_reducible rfl)
          simp only [List.getElem_toArray, List.getElem_cons_zero, List.getElem_cons_succ, Act.put, List.setIfInBounds_toArray, List.set_cons_zero, List.set_cons_succ]
          refine wpAnyH_take (i := 3) (v := ?_) rfl (by kernel_rfl) (by kernel_rfl) (by kernel_rfl) (fun _ _ _ h => h) (Or.inl ⟨by rfl, ?_⟩) (by assumption) ?_
          rotate_left
          · (intro w hSw; (try dsimp only at hSw); go_simp; try with_reducible rfl)
          simp only [List.getElem_toArray, List.getElem_cons_zero, List.getElem_cons_succ, Act.put, List.setIfInBounds_toArray, List.set_cons_zero, List.set_cons_succ]
          refine wpAnyH_take (i := 4) (v := .bool false) rfl (by kernel_rfl) (by kernel_rfl) (by kernel_rfl) (fun _ _ _ h => h) (Or.inl ⟨by rfl, ?_⟩) (by assumption) ?_
          · (intro w hSw; go_simp; first | done | (rw [IntWalk.i64_in _ ⟨by omega, by omega⟩]; omega))
          simp only [List.getElem_toArray, List.getElem_cons_zero, List.getElem_cons_succ, Act.put, List.setIfInBounds_toArray, List.set_cons_zero, List.set_cons_succ]
          refine wpAnyH_take (i := 5) (v := ?_) rfl (by kernel_rfl) (by kernel_rfl) (by kernel_rfl) (fun _ _ _ h => h) (Or.inl ⟨by rfl, ?_⟩) (by assumption) ?_
          rotate_left
          · (intro w hSw; (try dsimp only at hSw); go_simp; try with_reducible rfl)
          simp only [List.getElem_toArray, List.getElem_cons_zero, List.getElem_cons_succ, Act.put, List.setIfInBounds_toArray, List.set_cons_zero, List.set_cons_succ]
          refine wpAnyH_take (i := 6) (v := ?_) rfl (by kernel_rfl) (by kernel_rfl) (by kernel_rfl) (fun _ _ _ h => h) (Or.inl ⟨by rfl, ?_⟩) (by assumption) ?_
          rotate_left
          · (intro w hSw; (try dsimp only at hSw); go_simp; try with_reducible rfl)
          simp only [List.getElem_toArray, List.getElem_cons_zero, List.getElem_cons_succ, Act.put, List.setIfInBounds_toArray, List.set_cons_zero, List.set_cons_succ]
          refine wpAnyH_take (i := 7) (v := ?_) rfl (by kernel_rfl) (by kernel_rfl) (by kernel_rfl) (fun _ _ _ h => h) (Or.inl ⟨by rfl, ?_⟩) (by assumption) ?_
          rotate_left
          · (intro w hSw; (try dsimp only at hSw); go_simp; try with_reducible rfl)
          simp only [List.getElem_toArray, List.getElem_cons_zero, List.getElem_cons_succ, Act.put, List.setIfInBounds_toArray, List.set_cons_zero, List.set_cons_succ]
          refine wpAnyH_take (i := 8) (v := ?_) rfl (by kernel_rfl) (by kernel_rfl) (by kernel_rfl) (fun _ _ _ h => h) (Or.inl ⟨by rfl, ?_⟩) (by assumption) ?_
          rotate_left
          · (intro w hSw; (try dsimp only at hSw); go_simp; try with_reducible rfl)
          simp only [List.getElem_toArray, List.getElem_cons_zero, List.getElem_cons_succ, Act.put, List.setIfInBounds_toArray, List.set_cons_zero, List.set_cons_succ]
          refine wpAnyH_take (i := 9) (v := ?_) rfl (by kernel_rfl) (by kernel_rfl) (by kernel_rfl) (fun _ _ _ h => h) (Or.inl ⟨by rfl, ?_⟩) (by assumption) ?_
          rotate_left
          · (intro w hSw; (try dsimp only at hSw); go_simp; try with_reducible rfl)
          simp only [List.getElem_toArray, List.getElem_cons_zero, List.getElem_cons_succ, Act.put, List.setIfInBounds_toArray, List.set_cons_zero, List.set_cons_succ]
          refine wpAnyH_take (i := 10) (v := ?_) rfl (by kernel_rfl) (by kernel_rfl) (by kernel_rfl) (fun _ _ _ h => h) (Or.inl ⟨by rfl, ?_⟩) (by assumption) ?_
          rotate_left
          · (intro w hSw; (try dsimp only at hSw); go_simp; try with_reducible rfl)
          simp only [List.getElem_toArray, List.getElem_cons_zero, List.getElem_cons_succ, Act.put, List.setIfInBounds_toArray, List.set_cons_zero, List.set_cons_succ]
          refine wpAnyH_take (i := 11) (v := ?_) rfl (by kernel_rfl) (by kernel_rfl) (by kernel_rfl) (fun _ _ _ h => h) (Or.inl ⟨by rfl, ?_⟩) (by assumption) ?_
          rotate_left
          · (intro w hSw; (try dsimp only at hSw); go_simp; try with_reducible rfl)
          simp only [List.getElem_toArray, List.getElem_cons_zero, List.getElem_cons_succ, Act.put, List.setIfInBounds_toArray, List.set_cons_zero, List.set_cons_succ]
          refine wpAnyH_take (i := 12) (v := ?_) rfl (by kernel_rfl) (by kernel_rfl) (by kernel_rfl) (fun _ _ _ h => h) (Or.inl ⟨by rfl, ?_⟩) (by assumption) ?_
          rotate_left
          · (intro w hSw; (try dsimp only at hSw); go_simp; try with_reducible rfl)
          simp only [List.getElem_toArray, List.getElem_cons_zero, List.getElem_cons_succ, Act.put, List.setIfInBounds_toArray, List.set_cons_zero, List.set_cons_succ]
          refine wpAnyH_take (i := 13) (v := .bool false) rfl (by kernel_rfl) (by kernel_rfl) (by kernel_rfl) (fun _ _ _ h => h) (Or.inl ⟨by rfl, ?_⟩) (by assumption) ?_
          · (intro w hSw; go_simp; first | done | (rw [tE]) | (simp [tE]))
          simp only [List.getElem_toArray, List.getElem_cons_zero, List.getElem_cons_succ, Act.put, List.setIfInBounds_toArray, List.set_cons_zero, List.set_cons_succ]
          refine wpAnyH_take (i := 14) (v := ?_) rfl (by kernel_rfl) (by kernel_rfl) (by kernel_rfl) (fun _ _ _ h => h) (Or.inl ⟨by rfl, ?_⟩) (by assumption) ?_
          rotate_left
          · (intro w hSw; (try dsimp only at hSw); go_simp; try with_reducible rfl)
          simp only [List.getElem_toArray, List.getElem_cons_zero, List.getElem_cons_succ, Act.put, List.setIfInBounds_toArray, List.set_cons_zero, List.set_cons_succ]
          refine wpAnyH_take (i := 15) (v := ?_) rfl (by kernel_rfl) (by kernel_rfl) (by kernel_rfl) (fun _ _ _ h => h) (Or.inl ⟨by rfl, ?_⟩) (by assumption) ?_
          rotate_left
          · (intro w hSw; (try dsimp only at hSw); go_simp; try with_reducible rfl)
          simp only [List.getElem_toArray, List.getElem_cons_zero, List.getElem_cons_succ, Act.put, List.setIfInBounds_toArray, List.set_cons_zero, List.set_cons_succ]
          refine wpAnyH_take (i := 16) (v := ?_) rfl (by kernel_rfl) (by kernel_rfl) (by kernel_rfl) (fun _ _ _ h => h) (Or.inl ⟨by rfl, ?_⟩) (by assumption) ?_
          rotate_left
          · (intro w hSw; (try dsimp only at hSw); go_simp; try with_reducible rfl)
          simp only [List.getElem_toArray, List.getElem_cons_zero, List.getElem_cons_succ, Act.put, List.setIfInBounds_toArray, List.set_cons_zero, List.set_cons_succ]
          refine wpAnyH_take (i := 18) (v := ?_) rfl (by kernel_rfl) (by kernel_rfl) (by kernel_rfl) (fun _ _ _ h => h) (Or.inl ⟨by rfl, ?_⟩) (by assumption) ?_
          rotate_left
          · (intro W hSw; obtain ⟨c0, c1, c2, c3, c4, c5, c6⟩ := hSw; go_simp; try with_reducible rfl)
          simp only [List.getElem_toArray, List.getElem_cons_zero, List.getElem_cons_succ, Act.put, List.setIfInBounds_toArray, List.set_cons_zero, List.set_cons_succ]
          refine wpAnyH_ready (rs := [17]) (by kernel_rfl) (by simp) ?_
          refine AllReadyH.cons rfl (fun K hK => ?_) AllReadyH.nil
          go_simp
          refine (HHD.out W4.drew T5.out.par).mono ?_
          rintro e W6 ⟨rfl, b6⟩
          have T6 := hide (T5.out.below b6)
          have HU6 := hide (HU5.out.below b6)
          have B6 := hide (B5.out.trans (b6.mono B5.out.size))
          have V6 := hide ((b6.block _ (blk_lt VD.out)).trans VD.out)
          clear b6 cS
          have cS : W6.cell? ⟨W2.heap.size, 0, none⟩ = some (.bool false) ∧ W6.cell? ⟨W2.heap.size, 1, none⟩ = some (.string ⟨#[]⟩) ∧ W6.cell? ⟨W2.heap.size, 2, none⟩ = some (.string ⟨#[]⟩) ∧ W6.cell? ⟨W2.heap.size, 3, none⟩ = some (.int .i64 0) ∧ W6.cell? ⟨W2.heap.size, 4, none⟩ = some (.int .i64 0) ∧ W6.cell? ⟨W2.heap.size, 5, none⟩ = some (.string ⟨#[]⟩) ∧ W6.cell? ⟨W2.heap.size, 6, none⟩ = some (.slice ua ul uc) := ⟨cell_at V6.out 0, cell_at V6.out 1, cell_at V6.out 2, cell_at V6.out 3, cell_at V6.out 4, cell_at V6.out 5, cell_at V6.out 6⟩
          have HC := hide (plainH_any W6 hx0.hi hx0.hi (.slice none 0 0) (.slice ua ul uc) (flds_nil0 W6) HU6.out (by simp [hx0, Hx.hi]) (by simp [hx0, Hx.hi]))
          rw [hiEq_iff.2 rfl] at HC
          unfold hd0
          (try go_wp2_with fail)
          refine hK.out _ _ cS (fun hHeld => ?_)
          clear hK K
          try simp only [List.getElem_toArray, List.getElem_cons_zero, List.getElem_cons_succ, Act.put, List.setIfInBounds_toArray, List.set_cons_zero, List.set_cons_succ]
          refine wpAnyH_ready (rs := [19]) (by kernel_rfl) (by simp) ?_
          refine AllReadyH.cons rfl (fun K hK => ?_) AllReadyH.nil
          go_simp
          refine HC.out.mono ?_
          rintro e W7 ⟨rfl, b7⟩
          have T7 := hide (T6.out.below b7)
          have B7 := hide (B6.out.trans (b7.mono B6.out.size))
          have V7 := hide ((b7.block _ (blk_lt V6.out)).trans V6.out)
          clear b7 cS HC
          have cS : W7.cell? ⟨W2.heap.size, 0, none⟩ = some (.bool false) ∧ W7.cell? ⟨W2.heap.size, 1, none⟩ = some (.string ⟨#[]⟩) ∧ W7.cell? ⟨W2.heap.size, 2, none⟩ = some (.string ⟨#[]⟩) ∧ W7.cell? ⟨W2.heap.size, 3, none⟩ = some (.int .i64 0) ∧ W7.cell? ⟨W2.heap.size, 4, none⟩ = some (.int .i64 0) ∧ W7.cell? ⟨W2.heap.size, 5, none⟩ = some (.string ⟨#[]⟩) ∧ W7.cell? ⟨W2.heap.size, 6, none⟩ = some (.slice ua ul uc) := ⟨cell_at V7.out 0, cell_at V7.out 1, cell_at V7.out 2, cell_at V7.out 3, cell_at V7.out 4, cell_at V7.out 5, cell_at V7.out 6⟩
          (try go_wp2_with fail)
          refine hK.out _ _ cS (fun hHeld => ?_)
          clear hK K
          try simp only [List.getElem_toArray, List.getElem_cons_zero, List.getElem_cons_succ, Act.put, List.setIfInBounds_toArray, List.set_cons_zero, List.set_cons_succ]
          refine wpAnyH_take (i := 20) (v := ?_) rfl (by kernel_rfl) (by kernel_rfl) (by kernel_rfl) (fun _ _ _ h => h) (Or.inl ⟨by rfl, ?_⟩) (by assumption) ?_
          rotate_left
          · (intro w hSw; (try dsimp only at hSw); go_simp; try with_reducible rfl)
          simp only [List.getElem_toArray, List.getElem_cons_zero, List.getElem_cons_succ, Act.put, List.setIfInBounds_toArray, List.set_cons_zero, List.set_cons_succ]
          refine wpAnyH_take (i := 21) (v := ?_) rfl (by kernel_rfl) (by kernel_rfl) (by kernel_rfl) (fun _ _ _ h => h) (Or.inl ⟨by rfl, ?_⟩) (by assumption) ?_
          rotate_left
          · (intro w hSw; (try dsimp only at hSw); go_simp; try with_reducible rfl)
          simp only [List.getElem_toArray, List.getElem_cons_zero, List.getElem_cons_succ, Act.put, List.setIfInBounds_toArray, List.set_cons_zero, List.set_cons_succ]
          refine wpAnyH_done (by kernel_rfl) ?_ _
          clear hHeld cS
          refine NoPanic.normal ?_
          go_wp2_with fail
          exact ⟨⟨k + 1, all ++ b, na, nn, nc, lv', fv', by omega, rfl, HNX.out, by go_num, HAL2, T7, B7⟩, by simp [intOf]; omega⟩
      · go_wp2_with fail
        refine (speaks_any wr (HT.out.below HB.out) (HM.out.below HB.out) (HE.out.below HB.out)).mono ?_
        rintro e w7 ⟨rfl, bb⟩
        have B8 := hide (HB.out.trans (bb.mono HB.out.size))
        clear bb
        go_wp2
        go_ret
        exact ⟨rfl, B8.out⟩
  · have HAS := hide (fun W => asked_any most W)
    rw [decide_eq_false hask] at HAS
    have HNB := hide (new_bad rq most w (by omega))
    clear hask
    go_enter Tryz.func4, Tryz.ntmps4
    go_wp2_with fail
    refine HNB.out.mono ?_
    rintro e w1 ⟨rfl, rfl⟩
    go_wp2_with fail
    refine (HAS.out w).mono ?_
    rintro e w2 ⟨rfl, rfl⟩
    go_wp2_with fail
    refine (speaks_any w HT.out HM.out HE.out).mono ?_
    rintro e w3 ⟨rfl, b3⟩
    go_wp2
    go_ret
    exact ⟨rfl, b3⟩
end Go.Proofs.YtinmpmbicgokpaaGreatDoor
/- Pieces that came in, opened. -/
namespace Go.Proofs.YtinmpmbicgokpaaGreatDoor
open Go.ChangeShapes Go.WideShapes Go.ChangeAt Go.RowKit Go.Joins Go.Deep

theorem cellsB : Tryz.prog.cellsOf 22 = 1 := by kernel_rfl
theorem bulk_flat {H : Type} (D : Nat → DataW H) (f : Nat → List UInt8) : ∀ (l : List Nat), (∀ i ∈ l, (f i).length ≤ Rows.uptoBulk (D i)) → ((l.map f).flatten).length ≤ Rows.uptoBulkAll (l.map D)
  | [], _ => Nat.zero_le _
  | i :: r, h => by
    have h1 := h i (by simp)
    have h2 := bulk_flat D f r (fun j hj => h j (List.mem_cons_of_mem _ hj))
    simp only [List.map_cons, List.flatten_cons, List.length_append, Rows.uptoBulkAll]
    omega
theorem pcs_of {H : Type} {enc : TypeId × Value → H} {W : World} {fuel : Nat} {v : Value} {x : DataW H × List MemPlace} (h : DataW.trod enc Tryz.prog W 0 (fun _ => true) true fuel 34 [v] = some x) :
    ∃ L : List (List UInt8), Pcs W v L ∧ L.flatten.length ≤ Rows.uptoBulk x.1 ∧ L.length ≤ Rows.uptoBulk x.1 := by
  rcases open_slice1 Tryz.underlying34 cellsB h with ⟨hcs, _⟩ | ⟨a, len, cap, m, n, V, D, Pl, hcs, _, hl, hm, hmm, hx, hel⟩
  · simp only [List.cons.injEq, and_true] at hcs
    subst hcs
    exact ⟨[], ⟨none, 0, rfl, Nat.le_refl _, fun j hj => by simp at hj⟩, Nat.zero_le _, Nat.zero_le _⟩
  · simp only [List.cons.injEq, and_true] at hcs
    subst hcs
    simp only [if_true] at hmm
    subst hmm
    have each : ∀ i, ∃ l : List UInt8, i < len → Bs W W.heap.size (V i) l ∧ Shp (V i) ∧ l.length ≤ Rows.uptoBulk (D i) := fun i => by
      by_cases hi : i < len
      · obtain ⟨l, h1, h2, h3⟩ := bytes_in (hel i (by omega)).2
        exact ⟨l, fun _ => ⟨h1, h2, h3⟩⟩
      · exact ⟨[], fun h => absurd h hi⟩
    obtain ⟨f, hf⟩ := Classical.axiomOfChoice each
    obtain ⟨b, off, spot⟩ := a
    have hx1 : x.1 = .slice ((List.range len).map D) ((List.range (m - len)).map fun j => D (len + j)) := by rw [hx]
    refine ⟨(List.range len).map f, ⟨some ⟨b, off, spot⟩, m, by simp, by simpa using hl, fun j hj => ?_⟩, ?_, ?_⟩
    · have hj2 : j < len := by simpa using hj
      have hspot : spot = none := by simpa [Addr.add] using World.cell?_spot (hel 0 (by omega)).1
      subst hspot
      have hc := (hel j (by omega)).1
      rw [addr_plus] at hc
      obtain ⟨h1, h2, _⟩ := hf j hj2
      refine ⟨b, off, V j, rfl, World.block_lt_of_cell? W _ hc, hc, ?_, h2⟩
      simp only [List.getElem_map, List.getElem_range]
      exact h1
    · rw [hx1]
      have := bulk_flat D f (List.range len) (fun i hi => (hf i (List.mem_range.1 hi)).2.2)
      simp only [Rows.uptoBulk]
      omega
    · rw [hx1]
      have := bulk_many ((List.range len).map D)
      simp only [List.length_map, List.length_range] at this
      simp only [Rows.uptoBulk, List.length_map, List.length_range]
      omega
end Go.Proofs.YtinmpmbicgokpaaGreatDoor
