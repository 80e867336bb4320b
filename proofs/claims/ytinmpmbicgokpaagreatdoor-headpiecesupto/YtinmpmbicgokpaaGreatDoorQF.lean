/- QF: HNilW HBs HCutW. -/
import Derived.Test.YtinmpmbicgokpaaGreatDoorQE
import Derived.Laws.AppendOwnNone
/- HeadNil, walked. -/
namespace Go.Proofs.YtinmpmbicgokpaaGreatDoor
open Go.ChangeShapes Go.WideShapes Go.ChangeAt Go.RowKit

theorem flds_nil (w : World) : Flds w (.slice none 0 0) [] := ⟨none, 0, rfl, ⟨Nat.le_refl _, fun _ => rfl⟩, fun j hj => by simp at hj⟩
set_option maxHeartbeats 2000000 in
theorem nil_walk (a : Option Addr) (n c : Nat) (w : World) (ht : PT w) (hm : MX w) (he : ET w) :
    Calls Tryz.prog 7 #[.slice a n c] w fun e w' => e = .returned (.bool true) ∧ Below w.heap.size w w' := by
  have HT := hide ht
  have HM := hide hm
  have HE := hide he
  clear ht hm he
  go_enter Tryz.func7, Tryz.ntmps7
  go_wp2_with fail
  refine (feed_nil _ w).mono ?_
  rintro e w' ⟨rfl, rfl⟩
  go_wp2_with fail
  refine (head_nil w).mono ?_
  rintro e w1 ⟨rfl, b1⟩
  have B1 := hide b1
  clear b1
  unfold hd0
  have HC := hide (plainH_any w1 hx0.hi hx0.hi (.slice none 0 0) (.slice none 0 0) (flds_nil w1) (flds_nil w1) (by simp [hx0, Hx.hi]) (by simp [hx0, Hx.hi]))
  rw [hiEq_iff.2 rfl] at HC
  go_wp2_with fail
  refine HC.out.mono ?_
  rintro e w2 ⟨rfl, b2⟩
  have B2 := hide (B1.out.trans (b2.mono B1.out.size))
  clear b2 HC
  go_wp2_with fail
  refine (speaks_any w2 (HT.out.below B2.out) (HM.out.below B2.out) (HE.out.below B2.out)).mono ?_
  rintro e w3 ⟨rfl, b3⟩
  have B3 := hide (B2.out.trans (b3.mono B2.out.size))
  clear b3
  go_wp2
  go_ret
  exact ⟨rfl, B3.out⟩
end Go.Proofs.YtinmpmbicgokpaaGreatDoor
/- Bytes that came in, or lie in a row: parts of them, and what is put behind a row. -/
namespace Go.Proofs.YtinmpmbicgokpaaGreatDoor
open Go.ChangeShapes Go.WideShapes Go.ChangeAt Go.RowKit

/-- A slice that is nil or has an address. -/
def Shp (v : Value) : Prop := v = .slice none 0 0 ∨ ∃ a n c, v = .slice (some a) n c
theorem Bs.take {w : World} {base : Nat} {a : Option Addr} {m c : Nat} {l : List UInt8} (h : Bs w base (.slice a m c) l) (k : Nat) (hk : k ≤ l.length) : Bs w base (.slice a k c) (l.take k) := by
  obtain ⟨a', c', he, hc, h⟩ := h
  simp only [Value.slice.injEq] at he
  obtain ⟨rfl, rfl, rfl⟩ := he
  have hkl : (l.take k).length = k := by rw [List.length_take]; omega
  refine ⟨a, c, by rw [hkl], by rw [hkl]; omega, fun j hj => ?_⟩
  rw [hkl] at hj
  obtain ⟨g, o, h1, h2, h3, h4⟩ := h j (by omega)
  exact ⟨g, o, h1, h2, h3, by rw [h4]; simp⟩
theorem Bs.of_row {w : World} {base : Nat} {v : Value} {l : List UInt8} (h : Row w base 5 v (bc l)) : Bs w w.heap.size v l := by
  obtain ⟨a, c, rfl, hc, _⟩ := h.shape
  rw [bc_len] at h hc
  refine ⟨a, c, by rw [bc_len], hc, fun j hj => ?_⟩
  obtain ⟨g, rfl, hcell⟩ := h.cell (j := j) (by rw [bc_len]; exact hj)
  have hg := (h.lt rfl).2
  refine ⟨g, 0, rfl, hg, hg, ?_⟩
  rw [Nat.zero_add, hcell]
  simp [bc, hj]
theorem infoB : ∃ i, Tryz.prog.info? 5 = some i ∧ i.zero = some (.int .u8 0) ∧ i.size = 1 ∧ i.bytes = 1 := elB.i
/-- append(v, u...): v nil or of the call's own, u whatever reads as bytes. -/
theorem append_bs (W : World) (base nb : Nat) (ty : TypeId) (v u : Value) (O l : List UInt8) (hown : Row W base 5 v (bc O)) (hB : Bs W nb u l) (hS : Shp u) (hn : O.length + l.length ≤ 140737488355328) (hbase : base ≤ W.heap.size) :
    ∃ v' W', (Builtin.append_ #[22, 22] ty #[v, u]).run Tryz.prog W = .ok v' W' ∧ Row W' base 5 v' (bc (O ++ l)) ∧ Below base W W' := by
  obtain ⟨i, hi, hz, hs1, hb1⟩ := infoB
  obtain ⟨a, c, rfl, hc, hcell⟩ := hB
  unfold Row at hown
  rw [bc_len] at hown
  rcases hS with he | ⟨ad, m, c', he⟩
  · simp only [Value.slice.injEq] at he
    obtain ⟨rfl, hl0, rfl⟩ := he
    have e : l = [] := List.eq_nil_of_length_eq_zero hl0
    subst e
    refine ⟨v, W, run_append_owned_none W base 22 ty 5 i 1 Tryz.underlying22 hi v _ _ hown, ?_, Below.refl _ _⟩
    unfold Row
    rw [List.append_nil, bc_len]
    exact hown
  · simp only [Value.slice.injEq] at he
    obtain ⟨rfl, _, _⟩ := he
    obtain ⟨v', W', hr, h1, hg, _⟩ := run_append_own (w := W) base 22 ty 5 i _ 1 1 Tryz.underlying22 hi hz hs1 hb1 rfl (by omega) v O.length (bc O) hown ad l.length c (bc l) (by rw [bc_len]; omega) (by
      intro j u hj
      have hjl : j < l.length := by
        rw [← bc_len]
        exact (List.getElem?_eq_some_iff.1 hj).1
      obtain ⟨b, off, e, _, _, x1⟩ := hcell j hjl
      simp only [Option.some.injEq] at e
      subst e
      have e2 : (⟨b, off, none⟩ : Addr).add j = ⟨b, off + j, none⟩ := by unfold Addr.add; split <;> simp_all
      rw [e2, x1, ← hj]
      simp [bc, hjl]) (by
      intro u hu
      unfold bc at hu
      obtain ⟨x, _, rfl⟩ := List.mem_map.1 hu
      rfl) (by unfold maxLen; omega) (by omega) hbase
    refine ⟨v', W', hr, ?_, (Below.refl base W).grown hg hbase (fun k hk => (World.ownsRow.lt hown k hk).1)⟩
    unfold Row
    rw [bc_len, List.length_append, show bc (O ++ l) = bc O ++ bc l by simp [bc]]
    exact h1
theorem wpList_append_bs {ops : Array Oper} {rest : List Oper} {o : Oper} {a : Act} {Q : Exit → Act → World → Prop} (hgd : o.guard = none) (s x : Operand)
    (ho : o.op = .call { callee := .builtin .append, args := #[s, x], argTypes := #[22, 22] }) (W : World) (base nb : Nat) (v u : Value) (O l : List UInt8) (hs : a.eval s = v) (hx : a.eval x = u)
    (hown : Row W base 5 v (bc O)) (hB : Bs W nb u l) (hS : Shp u) (hn : O.length + l.length ≤ 140737488355328) (hbase : base ≤ W.heap.size)
    (h : ∀ v' W', Row W' base 5 v' (bc (O ++ l)) → Below base W W' → wpList Tryz.prog ops Q rest (a.put o.dst v') W') : wpList Tryz.prog ops Q (o :: rest) a W := by
  refine wpList_plain hgd fun K hK => ?_
  obtain ⟨v', W', hr, h2, h3⟩ := append_bs W base nb o.type v u O l hown hB hS hn hbase
  unfold Oper.wp execOp
  simp only [ho, resolve, invoke, builtin, Sem.run_bind, Sem.run_pure, Result.andThen_ok, List.map_toArray, List.map_cons, List.map_nil, hs, hx, hr]
  exact hK _ _ (h v' W' h2 h3)
/-! ### A head that some bytes begin with -/
theorem bytes_le : ∀ (l : List UInt8) (p : Pz), (pBytes p l).2.1 ≤ l.length
  | [], _ => Nat.le_refl _
  | c :: r, p => by
    rw [pBytes]
    split
    · simp
    · split
      · simp
      · have := bytes_le r (pNext p c).2
        simp only [List.length_cons]
        omega
/-- Where nothing is wrong, and the head is not whole, all bytes are read. -/
theorem bytes_all : ∀ (l : List UInt8) (p : Pz), p.whole = false → (pBytes p l).1 = 0 → (pBytes p l).2.2.whole = false → (pBytes p l).2.1 = l.length
  | [], _, _, _, _ => rfl
  | c :: r, p, hp, h1, h2 => by
    rw [pBytes] at h1 h2 ⊢
    by_cases he : (pNext p c).1 ≠ 0
    · rw [if_pos he] at h1
      exact absurd h1 he
    · rw [if_neg he] at h1 h2 ⊢
      by_cases hw : (pNext p c).2.whole = true
      · rw [if_pos hw] at h2
        rw [h2] at hw
        cases hw
      · rw [if_neg hw] at h1 h2 ⊢
        have := bytes_all r _ (by simpa using hw) h1 h2
        simp only [List.length_cons]
        omega
theorem bytes_pos : ∀ (l : List UInt8) (p : Pz), p.whole = false → (pBytes p l).2.2.whole = true → 1 ≤ (pBytes p l).2.1
  | [], p, hp, h => by rw [pBytes] at h; rw [hp] at h; cases h
  | c :: r, p, _, _ => by
    rw [pBytes]
    split
    · exact Nat.le_refl _
    · split
      · exact Nat.le_refl _
      · exact Nat.succ_le_succ (Nat.zero_le _)
/-- No fewer bytes are one. -/
theorem bytes_cut : ∀ (l : List UInt8) (p : Pz) (k : Nat), p.whole = false → (pBytes p l).1 = 0 → k < (pBytes p l).2.1 → (pBytes p (l.take k)).1 = 0 ∧ (pBytes p (l.take k)).2.2.whole = false
  | [], p, k, _, _, hk => by rw [pBytes] at hk; simp at hk
  | c :: r, p, 0, hp, _, _ => ⟨rfl, hp⟩
  | c :: r, p, k + 1, hp, h1, hk => by
    rw [List.take_succ_cons, pBytes]
    rw [pBytes] at h1 hk
    by_cases he : (pNext p c).1 ≠ 0
    · rw [if_pos he] at h1
      exact absurd h1 he
    · rw [if_neg he] at h1 hk ⊢
      by_cases hw : (pNext p c).2.whole = true
      · rw [if_pos hw] at hk
        simp at hk
      · rw [if_neg hw] at h1 hk ⊢
        exact bytes_cut r _ k (by simpa using hw) h1 (by dsimp only at hk; omega)
/-- More bytes change nothing. -/
theorem bytes_more : ∀ (l m : List UInt8) (p : Pz), p.whole = false → (pBytes p l).1 = 0 → (pBytes p l).2.2.whole = true → pBytes p (l.take (pBytes p l).2.1 ++ m) = pBytes p l
  | [], m, p, hp, _, h2 => by rw [pBytes] at h2; rw [hp] at h2; cases h2
  | c :: r, m, p, hp, h1, h2 => by
    rw [pBytes] at h1 h2 ⊢
    by_cases he : (pNext p c).1 ≠ 0
    · rw [if_pos he] at h1
      exact absurd h1 he
    · rw [if_neg he] at h1 h2 ⊢
      by_cases hw : (pNext p c).2.whole = true
      · rw [if_pos hw]
        rw [List.take_succ_cons, List.take_zero, List.cons_append, pBytes, if_neg he, if_pos hw]
      · rw [if_neg hw] at h1 h2 ⊢
        have := bytes_more r m _ (by simpa using hw) h1 h2
        rw [List.take_succ_cons, List.cons_append, pBytes, if_neg he, if_neg hw, this]
theorem new_part (rq : Bool) : (pNew rq 65536).whole = false ∧ (pNew rq 65536).wrong = 0 := ⟨rfl, rfl⟩
/-- What Parse tells, by what bytes make of a new parser. -/
theorem parse_eq (rq : Bool) (l : List UInt8) : pParse rq l = if (pBytes (pNew rq 65536) l).1 ≠ 0 then (hx0, 0, (pBytes (pNew rq 65536) l).1) else if (pBytes (pNew rq 65536) l).2.2.whole = false then (hx0, 0, 6) else ((pBytes (pNew rq 65536) l).2.2.hx, (pBytes (pNew rq 65536) l).2.1, 0) := by
  unfold pParse pFeed
  rw [if_neg (show ¬ ((pNew rq 65536).whole = true ∨ (pNew rq 65536).wrong ≠ 0) by simp [pNew])]
  generalize pBytes (pNew rq 65536) l = R
  obtain ⟨e, n, q⟩ := R
  dsimp only
  by_cases he : e = 0
  · subst he
    simp only [if_true, ne_eq, not_true, if_false]
    cases hw : q.whole with
    | true => simp only [if_true, Bool.true_eq_false, if_false]; rfl
    | false => simp only [if_true]
  · simp only [ne_eq, he, not_false_eq_true, if_true, if_false]
end Go.Proofs.YtinmpmbicgokpaaGreatDoor
/- HeadCut, walked. -/
namespace Go.Proofs.YtinmpmbicgokpaaGreatDoor
open Go.ChangeShapes Go.WideShapes Go.ChangeAt Go.RowKit

theorem parse_no {rq : Bool} {l : List UInt8} (h : (pParse rq l).2.2 ≠ 0) : (pParse rq l).2.1 = 0 := by
  rw [parse_eq] at h ⊢
  split
  · rfl
  · split
    · rfl
    · rename_i h1 h2
      rw [if_neg h1, if_neg h2] at h
      exact absurd rfl h
theorem parse_ok {rq : Bool} {l : List UInt8} (h : (pParse rq l).2.2 = 0) : (pBytes (pNew rq 65536) l).1 = 0 ∧ (pBytes (pNew rq 65536) l).2.2.whole = true ∧ pParse rq l = ((pBytes (pNew rq 65536) l).2.2.hx, (pBytes (pNew rq 65536) l).2.1, 0) := by
  have hp := parse_eq rq l
  by_cases h1 : (pBytes (pNew rq 65536) l).1 ≠ 0
  · rw [if_pos h1] at hp
    rw [hp] at h
    exact absurd h h1
  · rw [if_neg h1] at hp
    by_cases h2 : (pBytes (pNew rq 65536) l).2.2.whole = false
    · rw [if_pos h2] at hp
      rw [hp] at h
      cases h
    · rw [if_neg h2] at hp
      exact ⟨by simpa using h1, by simpa using h2, hp⟩
theorem parse_cut {rq : Bool} {l : List UInt8} (h : (pParse rq l).2.2 = 0) {k : Nat} (hk : k < (pParse rq l).2.1) : pParse rq (l.take k) = (hx0, 0, 6) := by
  obtain ⟨h1, h2, h3⟩ := parse_ok h
  rw [h3] at hk
  obtain ⟨c1, c2⟩ := bytes_cut l _ k rfl h1 hk
  rw [parse_eq, if_neg (by simp [c1]), if_pos c2]
theorem parse_more {rq : Bool} {l : List UInt8} (h : (pParse rq l).2.2 = 0) (m : List UInt8) : pParse rq (l.take (pParse rq l).2.1 ++ m) = pParse rq l := by
  obtain ⟨h1, h2, h3⟩ := parse_ok h
  have hm := bytes_more l m _ rfl h1 h2
  rw [h3]
  dsimp only
  rw [parse_eq, hm, if_neg (by simp [h1]), if_neg (by simp [h2])]
theorem parse_size {rq : Bool} {l : List UInt8} (h : (pParse rq l).2.2 = 0) : 1 ≤ (pParse rq l).2.1 ∧ (pParse rq l).2.1 ≤ l.length := by
  obtain ⟨h1, h2, h3⟩ := parse_ok h
  rw [h3]
  exact ⟨bytes_pos l _ rfl h2, bytes_le l _⟩
theorem parse_fs (rq : Bool) (l : List UInt8) : (pParse rq l).1.fs.length ≤ 1099511627776 := by
  have := ((fit_new rq 65536 (Nat.le_refl _)).feed l).fs
  unfold pParse
  split
  · simp [hx0]
  · split
    · simp [hx0]
    · dsimp only [Pz.hx]; omega
set_option maxHeartbeats 8000000 in
set_option maxRecDepth 100000 in
theorem cut_walk (rq : Bool) (bv mv : Value) (at_ : Int) (L M : List UInt8) (w : World) (hB : Bs w w.heap.size bv L) (hBS : Shp bv) (hMB : Bs w w.heap.size mv M) (hMS : Shp mv) (hl : L.length ≤ 1048576) (hml : M.length ≤ 1048576) (ht : PT w) (hm : MX w) (he : ET w) :
    Calls Tryz.prog 8 #[.bool rq, .agg #[bv, .int .i64 at_, mv]] w fun e w' => e = .returned (.bool true) ∧ Below w.heap.size w w' := by
  have HT := hide ht
  have HM := hide hm
  have HE := hide he
  have HB := hide hB
  have HMB := hide hMB
  have HMS := hide hMS
  have HBS := hide hBS
  obtain ⟨ba, cc, rfl, hcc, hbc⟩ := hB
  obtain ⟨ma, mc, rfl, _, _⟩ := hMB
  have HAD : Hid (1 ≤ L.length → ∃ ad, ba = some ad) := hide (fun h => by obtain ⟨g, o, h1, _⟩ := hbc 0 h; exact ⟨_, h1⟩)
  have HP := hide (fun W (h : Bs W W.heap.size (.slice ba L.length cc) L) h2 h3 => parse_any rq _ L W h (by omega) h2 h3)
  have HXL := hide (parse_fs rq L)
  have HNO := hide (parse_no (rq := rq) (l := L))
  have HOK : Hid ((pParse rq L).2.2 = 0 → (1 ≤ (pParse rq L).2.1 ∧ (pParse rq L).2.1 ≤ L.length) ∧ (∀ k, k < (pParse rq L).2.1 → pParse rq (L.take k) = (hx0, 0, 6)) ∧ pParse rq (L.take (pParse rq L).2.1 ++ M) = pParse rq L) := hide (fun h => ⟨parse_size h, fun k hk => parse_cut h hk, parse_more h M⟩)
  generalize hG : pParse rq L = R at HP HXL HNO HOK
  clear hG hbc ht hm he hMS hBS
  obtain ⟨⟨xr, xme, xta, xmi, xst, xre, XA⟩, n, er⟩ := R
  dsimp only at HP HXL HNO HOK
  unfold hxV at HP
  dsimp only at HP
  go_enter Tryz.func8, Tryz.ntmps8
  go_wp2_with fail
  have T0 := hide (Bl.one w #[.slice ba L.length cc, .int .i64 at_, .slice ma M.length mc] 54)
  generalize (w.alloc (.cells #[.slice ba L.length cc, .int .i64 at_, .slice ma M.length mc] 54)) = x at T0 ⊢
  refine (HP.out x (HB.out.below T0.out.b.size T0.out.b) (HM.out.below T0.out.b) (HE.out.below T0.out.b)).mono ?_
  rintro e w1 ⟨u, rfl, hu, bb⟩
  have T1 := hide (T0.out.below bb)
  have HU1 := hide (Flds.of_row hu)
  obtain ⟨ua, ul, uc, rfl⟩ : ∃ a n c, u = .slice a n c := by
    obtain ⟨a, c, h, _⟩ := hu.shape
    exact ⟨a, _, c, h⟩
  clear hu bb T0 HP
  go_upto_region 4 with fail
  have U2 := hide (Bl.one w1 #[.bool xr, .string xme, .string xta, .int .i64 (xmi : Int), .int .i64 (xst : Int), .string xre, .slice ua ul uc] 25)
  have T2 := hide (T1.out.below U2.out.b)
  have HU2 := hide (HU1.out.below U2.out.b)
  generalize (w1.alloc (.cells #[.bool xr, .string xme, .string xta, .int .i64 (xmi : Int), .int .i64 (xst : Int), .string xre, .slice ua ul uc] 25)) = y at T2 U2 HU2 ⊢
  clear T1 HU1
  by_cases h0 : er = 0
  · subst h0
    have hok := HOK.out rfl
    clear HOK HNO
    have HOK : Hid (1 ≤ n ∧ n ≤ L.length ∧ (∀ k, k < n → pParse rq (L.take k) = (hx0, 0, 6)) ∧ pParse rq (L.take n ++ M) = (⟨xr, xme, xta, xmi, xst, xre, XA⟩, n, 0)) := hide ⟨hok.1.1, hok.1.2, hok.2.1, hok.2.2⟩
    have hn1 : 1 ≤ n := hok.1.1
    have hnl : n ≤ L.length := hok.1.2
    clear hok
    obtain ⟨ad, rfl⟩ := HAD.out (by omega)
    clear HAD
    have i1 : ¬ (n : Int) < 1 := by omega
    have i2 : ¬ (L.length : Int) < (n : Int) := by omega
    have hncc : n ≤ cc := by omega
    by_cases ha : at_ < 0
    · have hk1 : n - 1 < n := by omega
      have e1 : (n : Int) - 1 = ((n - 1 : Nat) : Int) := by omega
      have hkc : n - 1 ≤ cc := by omega
      go_upto_region 10 with fail
      clear e1
      generalize n - 1 = k at hk1 hkc ⊢
      have BS1 := hide ((HB.out.below (Nat.le_refl _) (T2.out.b.mono (Nat.le_refl _))).take k (by omega))
      have PA := hide (parse_any rq _ (L.take k) y (BS1.out.below (by have := T2.out.b.size; omega) (Below.refl _ y)) (by rw [List.length_take]; omega) (HM.out.below T2.out.b) (HE.out.below T2.out.b))
      rw [(HOK.out.2.2.1 k hk1)] at PA
      unfold hxV hx0 at PA
      dsimp only at PA
      go_wp2_with fail
      refine PA.out.mono ?_
      rintro e w2 ⟨u2, rfl, hu2, bb⟩
      have T3 := hide (T2.out.below bb)
      have U3 := hide (U2.out.below bb)
      have HU3 := hide (HU2.out.below bb)
      obtain ⟨va, vl, vc, rfl⟩ : ∃ a n c, u2 = .slice a n c := by
        obtain ⟨a, c, h, _⟩ := hu2.shape
        exact ⟨a, _, c, h⟩
      clear hu2 bb T2 U2 HU2 PA BS1
      go_upto_region 12 with fail
      have D3 := hide ((Below.refl _ w2).alloc (Nat.le_refl _) (.cells #[.bool false, .string ⟨#[]⟩, .string ⟨#[]⟩, .int .i64 0, .int .i64 0, .string ⟨#[]⟩, .slice va vl vc] 25))
      have T4 := hide (T3.out.below D3.out)
      have U4 := hide (U3.out.below D3.out)
      have HU4 := hide (HU3.out.below D3.out)
      generalize (w2.alloc (.cells #[.bool false, .string ⟨#[]⟩, .string ⟨#[]⟩, .int .i64 0, .int .i64 0, .string ⟨#[]⟩, .slice va vl vc] 25)) = z at T4 U4 HU4 D3 ⊢
      clear T3 U3 HU3 D3
      go_wp2_with (at_builtin; apply Hid.out)
      unfold Hid
      refine wpList_append_bs rfl _ _ rfl z z.heap.size z.heap.size (.slice none 0 0) (.slice (some ad) n cc) [] (L.take n) rfl rfl (Row.nil _ _ _) ((HB.out.below T4.out.b.size T4.out.b).take n hnl) (.inr ⟨_, _, _, rfl⟩) (by rw [List.length_take]; simp; omega) (Nat.le_refl _) ?_
      intro v' w3 O' B'
      have R3 := hide O'
      have Y3 := hide B'
      have T5 := hide (T4.out.below B')
      clear O' B'
      obtain ⟨ra, rl, rc, rfl⟩ : ∃ a n c, v' = .slice a n c := by
        obtain ⟨a, c, h, _⟩ := R3.out.shape
        exact ⟨a, _, c, h⟩
      have r2 : w3.cell? ⟨w.heap.size, 2, none⟩ = some (.slice ma M.length mc) := T5.out.cell 0 rfl 2
      go_wp2_with (at_builtin; apply Hid.out)
      unfold Hid
      refine wpList_append_bs rfl _ _ rfl w3 z.heap.size w3.heap.size (.slice ra rl rc) (.slice ma M.length mc) ([] ++ L.take n) M rfl rfl R3.out (HMB.out.below T5.out.b.size T5.out.b) HMS.out (by rw [List.nil_append, List.length_take]; omega) Y3.out.size ?_
      intro v' w4 O' B'
      rw [List.nil_append] at O'
      have B5 := hide (Y3.out.trans B')
      have BS5 := hide (Bs.of_row O')
      obtain ⟨ra5, rl5, rc5, rfl⟩ : ∃ a n c, v' = .slice a n c := by
        obtain ⟨a, c, h, _⟩ := O'.shape
        exact ⟨a, _, c, h⟩
      have T6 := hide (T4.out.below B5.out)
      have U6 := hide (U4.out.below B5.out)
      have HU6 := hide (HU4.out.below B5.out)
      clear O' B' R3 Y3 T4 U4 HU4 T5 B5 r2
      have PB := hide (parse_any rq _ (L.take n ++ M) w4 BS5.out (by rw [List.length_append, List.length_take]; omega) (HM.out.below T6.out.b) (HE.out.below T6.out.b))
      rw [HOK.out.2.2.2] at PB
      unfold hxV at PB
      dsimp only at PB
      go_wp2_with fail
      refine PB.out.mono ?_
      rintro e w5 ⟨u5, rfl, hu5, bb⟩
      have T7 := hide (T6.out.below bb)
      have U7 := hide (U6.out.below bb)
      have HU7 := hide (HU6.out.below bb)
      have HY7 := hide (Flds.of_row hu5)
      obtain ⟨ya, yl, yc, rfl⟩ : ∃ a n c, u5 = .slice a n c := by
        obtain ⟨a, c, h, _⟩ := hu5.shape
        exact ⟨a, _, c, h⟩
      clear hu5 bb T6 U6 HU6 PB BS5
      go_upto_region 15 with fail
      have V8 := hide (Bl.one w5 #[.bool xr, .string xme, .string xta, .int .i64 (xmi : Int), .int .i64 (xst : Int), .string xre, .slice ya yl yc] 25)
      have T8 := hide (T7.out.below V8.out.b)
      have U8 := hide (U7.out.below V8.out.b)
      have HU8 := hide (HU7.out.below V8.out.b)
      have HY8 := hide (HY7.out.below V8.out.b)
      generalize (w5.alloc (.cells #[.bool xr, .string xme, .string xta, .int .i64 (xmi : Int), .int .i64 (xst : Int), .string xre, .slice ya yl yc] 25)) = q at T8 U8 HU8 HY8 V8 ⊢
      clear T7 U7 HU7 HY7
      obtain ⟨p0, p1, p2, p3, p4, p5, p6⟩ := U8.out.hd 0 w1.heap.size rfl rfl
      obtain ⟨q0, q1, q2, q3, q4, q5, q6⟩ := V8.out.hd 0 w5.heap.size rfl rfl
      have HC := hide (plainH_any q ⟨xr, xme, xta, xmi, xst, xre, XA⟩ ⟨xr, xme, xta, xmi, xst, xre, XA⟩ (.slice ya yl yc) (.slice ua ul uc) HY8.out HU8.out HXL.out HXL.out)
      rw [hiEq_iff.2 rfl] at HC
      unfold hiV at HC
      dsimp only at HC
      go_wp2_with fail
      refine HC.out.mono ?_
      rintro e w6 ⟨rfl, bb⟩
      have T9 := hide (T8.out.below bb)
      clear bb HC
      go_wp2_with fail
      refine (speaks_any w6 (HT.out.below T9.out.b) (HM.out.below T9.out.b) (HE.out.below T9.out.b)).mono ?_
      rintro e w7 ⟨rfl, bb⟩
      have TA := hide (T9.out.below bb)
      clear bb
      go_wp2
      go_ret
      exact ⟨rfl, TA.out.b⟩
    · by_cases hb2 : (n : Int) ≤ at_
      · have hk1 : n - 1 < n := by omega
        have e1 : (n : Int) - 1 = ((n - 1 : Nat) : Int) := by omega
        have hkc : n - 1 ≤ cc := by omega
        go_upto_region 10 with fail
        clear e1
        generalize n - 1 = k at hk1 hkc ⊢
        have BS1 := hide ((HB.out.below (Nat.le_refl _) (T2.out.b.mono (Nat.le_refl _))).take k (by omega))
        have PA := hide (parse_any rq _ (L.take k) y (BS1.out.below (by have := T2.out.b.size; omega) (Below.refl _ y)) (by rw [List.length_take]; omega) (HM.out.below T2.out.b) (HE.out.below T2.out.b))
        rw [(HOK.out.2.2.1 k hk1)] at PA
        unfold hxV hx0 at PA
        dsimp only at PA
        go_wp2_with fail
        refine PA.out.mono ?_
        rintro e w2 ⟨u2, rfl, hu2, bb⟩
        have T3 := hide (T2.out.below bb)
        have U3 := hide (U2.out.below bb)
        have HU3 := hide (HU2.out.below bb)
        obtain ⟨va, vl, vc, rfl⟩ : ∃ a n c, u2 = .slice a n c := by
          obtain ⟨a, c, h, _⟩ := hu2.shape
          exact ⟨a, _, c, h⟩
        clear hu2 bb T2 U2 HU2 PA BS1
        go_upto_region 12 with fail
        have D3 := hide ((Below.refl _ w2).alloc (Nat.le_refl _) (.cells #[.bool false, .string ⟨#[]⟩, .string ⟨#[]⟩, .int .i64 0, .int .i64 0, .string ⟨#[]⟩, .slice va vl vc] 25))
        have T4 := hide (T3.out.below D3.out)
        have U4 := hide (U3.out.below D3.out)
        have HU4 := hide (HU3.out.below D3.out)
        generalize (w2.alloc (.cells #[.bool false, .string ⟨#[]⟩, .string ⟨#[]⟩, .int .i64 0, .int .i64 0, .string ⟨#[]⟩, .slice va vl vc] 25)) = z at T4 U4 HU4 D3 ⊢
        clear T3 U3 HU3 D3
        go_wp2_with (at_builtin; apply Hid.out)
        unfold Hid
        refine wpList_append_bs rfl _ _ rfl z z.heap.size z.heap.size (.slice none 0 0) (.slice (some ad) n cc) [] (L.take n) rfl rfl (Row.nil _ _ _) ((HB.out.below T4.out.b.size T4.out.b).take n hnl) (.inr ⟨_, _, _, rfl⟩) (by rw [List.length_take]; simp; omega) (Nat.le_refl _) ?_
        intro v' w3 O' B'
        have R3 := hide O'
        have Y3 := hide B'
        have T5 := hide (T4.out.below B')
        clear O' B'
        obtain ⟨ra, rl, rc, rfl⟩ : ∃ a n c, v' = .slice a n c := by
          obtain ⟨a, c, h, _⟩ := R3.out.shape
          exact ⟨a, _, c, h⟩
        have r2 : w3.cell? ⟨w.heap.size, 2, none⟩ = some (.slice ma M.length mc) := T5.out.cell 0 rfl 2
        go_wp2_with (at_builtin; apply Hid.out)
        unfold Hid
        refine wpList_append_bs rfl _ _ rfl w3 z.heap.size w3.heap.size (.slice ra rl rc) (.slice ma M.length mc) ([] ++ L.take n) M rfl rfl R3.out (HMB.out.below T5.out.b.size T5.out.b) HMS.out (by rw [List.nil_append, List.length_take]; omega) Y3.out.size ?_
        intro v' w4 O' B'
        rw [List.nil_append] at O'
        have B5 := hide (Y3.out.trans B')
        have BS5 := hide (Bs.of_row O')
        obtain ⟨ra5, rl5, rc5, rfl⟩ : ∃ a n c, v' = .slice a n c := by
          obtain ⟨a, c, h, _⟩ := O'.shape
          exact ⟨a, _, c, h⟩
        have T6 := hide (T4.out.below B5.out)
        have U6 := hide (U4.out.below B5.out)
        have HU6 := hide (HU4.out.below B5.out)
        clear O' B' R3 Y3 T4 U4 HU4 T5 B5 r2
        have PB := hide (parse_any rq _ (L.take n ++ M) w4 BS5.out (by rw [List.length_append, List.length_take]; omega) (HM.out.below T6.out.b) (HE.out.below T6.out.b))
        rw [HOK.out.2.2.2] at PB
        unfold hxV at PB
        dsimp only at PB
        go_wp2_with fail
        refine PB.out.mono ?_
        rintro e w5 ⟨u5, rfl, hu5, bb⟩
        have T7 := hide (T6.out.below bb)
        have U7 := hide (U6.out.below bb)
        have HU7 := hide (HU6.out.below bb)
        have HY7 := hide (Flds.of_row hu5)
        obtain ⟨ya, yl, yc, rfl⟩ : ∃ a n c, u5 = .slice a n c := by
          obtain ⟨a, c, h, _⟩ := hu5.shape
          exact ⟨a, _, c, h⟩
        clear hu5 bb T6 U6 HU6 PB BS5
        go_upto_region 15 with fail
        have V8 := hide (Bl.one w5 #[.bool xr, .string xme, .string xta, .int .i64 (xmi : Int), .int .i64 (xst : Int), .string xre, .slice ya yl yc] 25)
        have T8 := hide (T7.out.below V8.out.b)
        have U8 := hide (U7.out.below V8.out.b)
        have HU8 := hide (HU7.out.below V8.out.b)
        have HY8 := hide (HY7.out.below V8.out.b)
        generalize (w5.alloc (.cells #[.bool xr, .string xme, .string xta, .int .i64 (xmi : Int), .int .i64 (xst : Int), .string xre, .slice ya yl yc] 25)) = q at T8 U8 HU8 HY8 V8 ⊢
        clear T7 U7 HU7 HY7
        obtain ⟨p0, p1, p2, p3, p4, p5, p6⟩ := U8.out.hd 0 w1.heap.size rfl rfl
        obtain ⟨q0, q1, q2, q3, q4, q5, q6⟩ := V8.out.hd 0 w5.heap.size rfl rfl
        have HC := hide (plainH_any q ⟨xr, xme, xta, xmi, xst, xre, XA⟩ ⟨xr, xme, xta, xmi, xst, xre, XA⟩ (.slice ya yl yc) (.slice ua ul uc) HY8.out HU8.out HXL.out HXL.out)
        rw [hiEq_iff.2 rfl] at HC
        unfold hiV at HC
        dsimp only at HC
        go_wp2_with fail
        refine HC.out.mono ?_
        rintro e w6 ⟨rfl, bb⟩
        have T9 := hide (T8.out.below bb)
        clear bb HC
        go_wp2_with fail
        refine (speaks_any w6 (HT.out.below T9.out.b) (HM.out.below T9.out.b) (HE.out.below T9.out.b)).mono ?_
        rintro e w7 ⟨rfl, bb⟩
        have TA := hide (T9.out.below bb)
        clear bb
        go_wp2
        go_ret
        exact ⟨rfl, TA.out.b⟩
      · obtain ⟨k, rfl⟩ := Int.eq_ofNat_of_zero_le (show 0 ≤ at_ by omega)
        have hk1 : k < n := by omega
        have hkc : k ≤ cc := by omega
        go_upto_region 10 with fail
        have BS1 := hide ((HB.out.below (Nat.le_refl _) (T2.out.b.mono (Nat.le_refl _))).take k (by omega))
        have PA := hide (parse_any rq _ (L.take k) y (BS1.out.below (by have := T2.out.b.size; omega) (Below.refl _ y)) (by rw [List.length_take]; omega) (HM.out.below T2.out.b) (HE.out.below T2.out.b))
        rw [(HOK.out.2.2.1 k hk1)] at PA
        unfold hxV hx0 at PA
        dsimp only at PA
        go_wp2_with fail
        refine PA.out.mono ?_
        rintro e w2 ⟨u2, rfl, hu2, bb⟩
        have T3 := hide (T2.out.below bb)
        have U3 := hide (U2.out.below bb)
        have HU3 := hide (HU2.out.below bb)
        obtain ⟨va, vl, vc, rfl⟩ : ∃ a n c, u2 = .slice a n c := by
          obtain ⟨a, c, h, _⟩ := hu2.shape
          exact ⟨a, _, c, h⟩
        clear hu2 bb T2 U2 HU2 PA BS1
        go_upto_region 12 with fail
        have D3 := hide ((Below.refl _ w2).alloc (Nat.le_refl _) (.cells #[.bool false, .string ⟨#[]⟩, .string ⟨#[]⟩, .int .i64 0, .int .i64 0, .string ⟨#[]⟩, .slice va vl vc] 25))
        have T4 := hide (T3.out.below D3.out)
        have U4 := hide (U3.out.below D3.out)
        have HU4 := hide (HU3.out.below D3.out)
        generalize (w2.alloc (.cells #[.bool false, .string ⟨#[]⟩, .string ⟨#[]⟩, .int .i64 0, .int .i64 0, .string ⟨#[]⟩, .slice va vl vc] 25)) = z at T4 U4 HU4 D3 ⊢
        clear T3 U3 HU3 D3
        go_wp2_with (at_builtin; apply Hid.out)
        unfold Hid
        refine wpList_append_bs rfl _ _ rfl z z.heap.size z.heap.size (.slice none 0 0) (.slice (some ad) n cc) [] (L.take n) rfl rfl (Row.nil _ _ _) ((HB.out.below T4.out.b.size T4.out.b).take n hnl) (.inr ⟨_, _, _, rfl⟩) (by rw [List.length_take]; simp; omega) (Nat.le_refl _) ?_
        intro v' w3 O' B'
        have R3 := hide O'
        have Y3 := hide B'
        have T5 := hide (T4.out.below B')
        clear O' B'
        obtain ⟨ra, rl, rc, rfl⟩ : ∃ a n c, v' = .slice a n c := by
          obtain ⟨a, c, h, _⟩ := R3.out.shape
          exact ⟨a, _, c, h⟩
        have r2 : w3.cell? ⟨w.heap.size, 2, none⟩ = some (.slice ma M.length mc) := T5.out.cell 0 rfl 2
        go_wp2_with (at_builtin; apply Hid.out)
        unfold Hid
        refine wpList_append_bs rfl _ _ rfl w3 z.heap.size w3.heap.size (.slice ra rl rc) (.slice ma M.length mc) ([] ++ L.take n) M rfl rfl R3.out (HMB.out.below T5.out.b.size T5.out.b) HMS.out (by rw [List.nil_append, List.length_take]; omega) Y3.out.size ?_
        intro v' w4 O' B'
        rw [List.nil_append] at O'
        have B5 := hide (Y3.out.trans B')
        have BS5 := hide (Bs.of_row O')
        obtain ⟨ra5, rl5, rc5, rfl⟩ : ∃ a n c, v' = .slice a n c := by
          obtain ⟨a, c, h, _⟩ := O'.shape
          exact ⟨a, _, c, h⟩
        have T6 := hide (T4.out.below B5.out)
        have U6 := hide (U4.out.below B5.out)
        have HU6 := hide (HU4.out.below B5.out)
        clear O' B' R3 Y3 T4 U4 HU4 T5 B5 r2
        have PB := hide (parse_any rq _ (L.take n ++ M) w4 BS5.out (by rw [List.length_append, List.length_take]; omega) (HM.out.below T6.out.b) (HE.out.below T6.out.b))
        rw [HOK.out.2.2.2] at PB
        unfold hxV at PB
        dsimp only at PB
        go_wp2_with fail
        refine PB.out.mono ?_
        rintro e w5 ⟨u5, rfl, hu5, bb⟩
        have T7 := hide (T6.out.below bb)
        have U7 := hide (U6.out.below bb)
        have HU7 := hide (HU6.out.below bb)
        have HY7 := hide (Flds.of_row hu5)
        obtain ⟨ya, yl, yc, rfl⟩ : ∃ a n c, u5 = .slice a n c := by
          obtain ⟨a, c, h, _⟩ := hu5.shape
          exact ⟨a, _, c, h⟩
        clear hu5 bb T6 U6 HU6 PB BS5
        go_upto_region 15 with fail
        have V8 := hide (Bl.one w5 #[.bool xr, .string xme, .string xta, .int .i64 (xmi : Int), .int .i64 (xst : Int), .string xre, .slice ya yl yc] 25)
        have T8 := hide (T7.out.below V8.out.b)
        have U8 := hide (U7.out.below V8.out.b)
        have HU8 := hide (HU7.out.below V8.out.b)
        have HY8 := hide (HY7.out.below V8.out.b)
        generalize (w5.alloc (.cells #[.bool xr, .string xme, .string xta, .int .i64 (xmi : Int), .int .i64 (xst : Int), .string xre, .slice ya yl yc] 25)) = q at T8 U8 HU8 HY8 V8 ⊢
        clear T7 U7 HU7 HY7
        obtain ⟨p0, p1, p2, p3, p4, p5, p6⟩ := U8.out.hd 0 w1.heap.size rfl rfl
        obtain ⟨q0, q1, q2, q3, q4, q5, q6⟩ := V8.out.hd 0 w5.heap.size rfl rfl
        have HC := hide (plainH_any q ⟨xr, xme, xta, xmi, xst, xre, XA⟩ ⟨xr, xme, xta, xmi, xst, xre, XA⟩ (.slice ya yl yc) (.slice ua ul uc) HY8.out HU8.out HXL.out HXL.out)
        rw [hiEq_iff.2 rfl] at HC
        unfold hiV at HC
        dsimp only at HC
        go_wp2_with fail
        refine HC.out.mono ?_
        rintro e w6 ⟨rfl, bb⟩
        have T9 := hide (T8.out.below bb)
        clear bb HC
        go_wp2_with fail
        refine (speaks_any w6 (HT.out.below T9.out.b) (HM.out.below T9.out.b) (HE.out.below T9.out.b)).mono ?_
        rintro e w7 ⟨rfl, bb⟩
        have TA := hide (T9.out.below bb)
        clear bb
        go_wp2
        go_ret
        exact ⟨rfl, TA.out.b⟩
  · have t0 : ((er : Int) != 0) = true := bne_iff_ne.2 (by omega)
    have hn0 := HNO.out h0
    subst hn0
    clear h0 HOK HNO
    go_wp2_with fail
    refine (speaks_any y (HT.out.below T2.out.b) (HM.out.below T2.out.b) (HE.out.below T2.out.b)).mono ?_
    rintro e w2 ⟨rfl, bb⟩
    have T3 := hide (T2.out.below bb)
    clear bb
    go_wp2
    go_ret
    exact ⟨rfl, T3.out.b⟩
end Go.Proofs.YtinmpmbicgokpaaGreatDoor
