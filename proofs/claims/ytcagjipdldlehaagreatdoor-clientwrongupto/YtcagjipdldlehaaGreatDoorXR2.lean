/- XR2: XSt XSb XRe XRa XWr XWp XWw. -/
import Derived.Test.YtcagjipdldlehaaGreatDoorXR1
import Derived.Test.YtcagjipdldlehaaGreatDoorXC
import Derived.Test.YtcagjipdldlehaaGreatDoorXQ
/- A client's connection in each of its states; what its state's call makes of it. -/
namespace Go.Proofs.YtcagjipdldlehaaGreatDoor
open Go.ChangeShapes Go.WideShapes Go.ChangeAt Go.RowKit
set_option linter.unusedVariables false

section
variable (w : World) (c : Nat) (hd : Int) (bd : Nat)
/-- It reads a head. -/
def SH : Prop := ∃ base g lv fv p bg, ClB w c hd (bd : Int) (stH c) bg false (.pointer (some ⟨g, 0, none⟩)) (.pointer none) (.slice none 0 0) 0 ∧ Par w base g lv fv p ∧ Fit p ∧ Sz p ∧ p.whole = false ∧ p.wrong = 0 ∧ c < base
/-- It reads a body of a length. -/
def SM : Prop := ∃ base b0 gr g L t bv O pv bg, ClB w c hd (bd : Int) (stB c) bg false pv (.pointer (some ⟨gr, 0, none⟩)) bv 0 ∧ Rdr w base gr g 199 203 t [.int .i64 ((L : Nat) : Int)] ∧ Row w b0 5 bv (bc O) ∧ (c < b0 ∧ c < base ∧ b0 ≤ w.heap.size ∧ base ≤ w.heap.size) ∧ (∀ k, bv.ownBlock = some k → k ≠ gr ∧ k ≠ g) ∧ (t.got < L ∧ L ≤ bd ∧ t.wrong = 0 ∧ O.length ≤ t.got)
/-- It reads a body of chunks. -/
def SP : Prop := ∃ base b0 gr g gd lv tv t d bv O pv bg, ClB w c hd (bd : Int) (stB c) bg false pv (.pointer (some ⟨gr, 0, none⟩)) bv 0 ∧ PRd w base gr g gd lv tv t d ∧ FitD d ∧ (d.whole = false ∧ d.wrong = 0) ∧ Row w b0 5 bv (bc O) ∧ (c < b0 ∧ c < base ∧ b0 ≤ w.heap.size) ∧ (∀ k, bv.ownBlock = some k → ¬ fiv gr g gd lv tv k) ∧ (t.got + (d.left + d.room) ≤ bd ∧ O.length ≤ t.got)
/-- It waits. -/
def SW : Prop := ∃ pv bv, ClB w c hd (bd : Int) .nilFunc false true pv (.pointer none) bv 0
/-- It is shut, since something was wrong. -/
def SS (wr : Int) : Prop := ClB w c 0 0 .nilFunc false false (.pointer none) (.pointer none) (.slice none 0 0) wr
end
def stOk (s : Int) : Prop := s = 400 ∨ s = 413 ∨ s = 431
/-- Any of them. -/
def SA (w : World) (c : Nat) (hd : Int) (bd : Nat) : Prop := SH w c hd bd ∨ SM w c hd bd ∨ SP w c hd bd ∨ SW w c hd bd ∨ ∃ s, SS w c s ∧ stOk s
theorem ok_head (e : Nat) : stOk (headSt e) := by unfold stOk headSt; split <;> simp
theorem ok_body (e : Int) : stOk (bodyS e) := by unfold stOk bodyS; split <;> simp
theorem PRd.base_le {w : World} {base gr g gd : Nat} {lv tv : Value} {t : Tal} {d : Dz} (h : PRd w base gr g gd lv tv t d) {k : Nat} (hk : fiv gr g gd lv tv k) : base ≤ k := by
  rcases hk with rfl | rfl | rfl | e | e
  · exact h.rdr.rb
  · exact h.rdr.fb
  · exact h.pt.dec.gb
  · exact (h.pt.dec.line.lt e).1
  · exact (h.pt.dec.trs.lt e).1
theorem d_le : ∀ (l : List UInt8) (d : Dz), (dBytes d l).2.1 ≤ l.length
  | [], d => by simp [dBytes]
  | x :: r, d => by
    unfold dBytes
    have := d_le r (dNext d x).2.2
    split
    · simp
    · split
      · simp
      · simp only [List.length_cons]; omega
theorem d_pos (x : UInt8) (r : List UInt8) (d : Dz) : 1 ≤ (dBytes d (x :: r)).2.1 := by
  unfold dBytes
  split
  · exact Nat.le_refl _
  · split
    · exact Nat.le_refl _
    · simp only; omega
theorem forget_is (d : Dz) (h : d.whole = false) : dForget { d with wrong := 0 } = { d with wrong := 0 } := by
  unfold dForget overB
  cases d
  simp_all
theorem sm_ofx {p : Pz} (hf : Fit p) (hz : Sz p) : Sm p.fs := ⟨by have := hf.fs; omega, fun f hfm => by have := hz.fs f hfm; omega⟩
theorem feed_parts (p : Pz) (l : List UInt8) (h1 : p.whole = false) (h2 : p.wrong = 0) : (pFeed p l).1 = (pBytes p l).2.1 := by
  unfold pFeed
  rw [if_neg (by simp [h1, h2])]
  split <;> rfl
/-- A head's last bytes: what it is then. -/
theorem head_step {w : World} {c : Nat} {hd : Int} {bd : Nat} (hbd : bd ≤ 1048576) (hS : SH w c hd bd) (hm : MX w) (he : ET w) (h3 : 3 ≤ c) (va : Option Addr) (vc : Nat) (x : UInt8) (r : List UInt8) (hv : Bf w (fun k => k < c) (.slice va (x :: r).length vc) (x :: r)) (hl : (x :: r).length ≤ 70368744177664) :
    Calls Tryz.prog 37 #[.pointer (some ⟨c, 0, none⟩), .slice va (x :: r).length vc] w fun e w' => ∃ k : Nat, e = .returned (.int .i64 (k : Int)) ∧ 1 ≤ k ∧ k ≤ (x :: r).length ∧ SA w' c hd bd ∧ Below c w w' := by
  obtain ⟨base, g, lv, fv, p, bg, hc, hp, hf, hz, hw0, hw1, hcb⟩ := hS
  have hA : Bf w (Ap g lv fv) (.slice va (x :: r).length vc) (x :: r) := by
    obtain ⟨a, n, e, h1, h2⟩ := hv
    refine ⟨a, n, e, h1, fun j hj => ?_⟩
    obtain ⟨b, o, q1, q2, q3⟩ := h2 j hj
    exact ⟨b, o, q1, ⟨by have := hp.gb; omega, fun e => by have := (hp.line.lt e).1; omega, fun e => by have := (hp.flds.lt e).1; omega⟩, q3⟩
  have hn := feed_parts p (x :: r) hw0 hw1
  have hk1 := by_pos x r p
  have hk2 := by_le (x :: r) p
  rw [← hn] at hk1 hk2
  have hf2 := hf.feed (x :: r)
  have hz2 := hz.feed hf (x :: r)
  have hwr := bytes_wrong (x :: r) p hf
  obtain ⟨n, wh, e, p', hF⟩ : ∃ n wh e p', pFeed p (x :: r) = (n, wh, e, p') := ⟨_, _, _, _, rfl⟩
  have hF2 := hF
  unfold pFeed at hF2
  rw [if_neg (by simp [hw0, hw1])] at hF2
  rw [hF] at hf2 hz2 hk1 hk2
  dsimp only at hf2 hz2 hk1 hk2
  by_cases h0 : e = 0
  · subst h0
    cases wh with
    | false =>
      refine (readHead_part hc hp hf hm he (by omega) hcb _ _ hA (by omega) hF).mono ?_
      rintro e w' ⟨rfl, y1, lv', fv', y2, y3⟩
      have hp' : p'.whole = false ∧ p'.wrong = 0 := by
        split at hF2
        · rename_i q
          simp only [Prod.mk.injEq] at hF2
          obtain ⟨-, q1, -, q2⟩ := hF2
          rw [q1] at q2
          simp only [Bool.false_eq_true, if_false] at q2
          rw [← q2]
          exact ⟨q1, hwr.trans hw1⟩
        · rename_i q
          simp only [Prod.mk.injEq] at hF2
          exact absurd hF2.2.2.1 q
      exact ⟨n, rfl, hk1, hk2, .inl ⟨base, g, lv', fv', p', bg, y1, y2, hf2, hz2, hp'.1, hp'.2, hcb⟩, y3.low hp (by omega) (by have := lt_heap hc; omega)⟩
    | true =>
      have hpw : p'.whole = true := by
        split at hF2
        · simp only [Prod.mk.injEq] at hF2
          obtain ⟨-, q1, -, q2⟩ := hF2
          rw [q1] at q2
          simp only [if_true] at q2
          rw [← q2]
          exact q1
        · rename_i q
          simp only [Prod.mk.injEq] at hF2
          exact absurd hF2.2.2.1 q
      have hS := sm_ofx hf2 hz2
      have fin : ∀ (Post : World → Prop), (∀ w', c < w'.heap.size → Post w' → SA w' c hd bd) → (∀ (w1 : World) (lv' fv' : Value), Par w1 base g lv' fv' p' → ClB w1 c hd (bd : Int) (stH c) bg false (.pointer (some ⟨g, 0, none⟩)) (.pointer none) (.slice none 0 0) 0 → Calls Tryz.prog 47 #[.pointer (some ⟨c, 0, none⟩)] w1 fun e w' => e = .returned (.tuple #[]) ∧ Post w' ∧ CK w1 w' c) → Calls Tryz.prog 37 #[.pointer (some ⟨c, 0, none⟩), .slice va (x :: r).length vc] w fun e w' => ∃ k : Nat, e = .returned (.int .i64 (k : Int)) ∧ 1 ≤ k ∧ k ≤ (x :: r).length ∧ SA w' c hd bd ∧ Below c w w' := fun Post q1 q2 => by
        refine (readHead_of hc hp hf hm he (by omega) hcb _ _ hA (by omega) hF Post q2).mono ?_
        rintro e w' ⟨rfl, y1, y2⟩
        exact ⟨n, rfl, hk1, hk2, q1 w' (by have := y2.size; have := lt_heap hc; omega) y1, y2⟩
      rcases reqO_cases p'.fs p'.req (p'.minor : Int) with q | ⟨b, q⟩ | ⟨m, b, q, hm9⟩ | ⟨b, q⟩
      · obtain ⟨k, m, b, e, hq⟩ : ∃ k m b e, reqO p'.fs p'.req (p'.minor : Int) = ⟨k, m, b, e⟩ := ⟨_, _, _, _, rfl⟩
        rw [hq] at q
        exact fin _ (fun w' _ y => .inr (.inr (.inr (.inr ⟨_, y, .inl rfl⟩)))) (fun w1 lv' fv' y1 y2 => begin_wrong y2 y1 hpw hz2 hf2 hq q hS)
      · exact fin _ (fun w' _ y => .inr (.inr (.inr (.inl ⟨_, _, y⟩)))) (fun w1 lv' fv' y1 y2 => begin_none y2 y1 hpw hz2 hf2 q hS (by omega) (by omega))
      · by_cases hlong : (bd : Int) < (m : Int)
        · exact fin _ (fun w' _ y => .inr (.inr (.inr (.inr ⟨_, y, .inr (.inl rfl)⟩)))) (fun w1 lv' fv' y1 y2 => begin_long y2 y1 hpw hz2 hf2 q hS (by omega) (by omega) (by omega) hlong)
        · by_cases hm0 : m = 0
          · subst hm0
            exact fin _ (fun w' _ y => .inr (.inr (.inr (.inl ⟨_, _, y⟩)))) (fun w1 lv' fv' y1 y2 => begin_len0 y2 y1 hpw hz2 hf2 q hS (by omega) (by omega))
          · exact fin _ (fun w' hs y => by
              obtain ⟨gr, g', y1, y2, y3, y4⟩ := y
              exact .inr (.inl ⟨c + 1, c + 1, gr, g', m, _, _, [], _, bg, y1, y4, Row.nil _ _ _, ⟨by omega, by omega, by omega, by omega⟩, fun k e => by simp [Value.ownBlock] at e, ⟨by show 0 < m; omega, by omega, rfl, Nat.zero_le _⟩⟩)) (fun w1 lv' fv' y1 y2 => begin_len y2 y1 hpw hz2 hf2 q hS (by omega) (by omega) (by omega) (by omega))
      · exact fin _ (fun w' hs y => by
          obtain ⟨b2, gr, g', gd, y1, y2, y3⟩ := y
          exact .inr (.inr (.inl ⟨b2, c + 1, gr, g', gd, _, _, _, _, _, [], _, bg, y1, y3, fit_dnew bd (by omega), ⟨rfl, rfl⟩, Row.nil _ _ _, ⟨by omega, y2, by omega⟩, fun k e => by simp [Value.ownBlock] at e, ⟨by show 0 + (0 + bd) ≤ bd; omega, Nat.zero_le _⟩⟩))) (fun w1 lv' fv' y1 y2 => begin_part y2 y1 hpw hz2 hf2 q hS (by omega))
  · refine (readHead_wrong hc hp hf hm he (by omega) hcb _ _ hA (by omega) hF h0).mono ?_
    rintro e' w' ⟨rfl, y1, y2⟩
    exact ⟨n, rfl, hk1, hk2, .inr (.inr (.inr (.inr ⟨_, y1, ok_head e⟩))), y2⟩
end Go.Proofs.YtcagjipdldlehaaGreatDoor
/- A client's connection in each of its states: what a body's bytes make of it. -/
namespace Go.Proofs.YtcagjipdldlehaaGreatDoor
open Go.ChangeShapes Go.WideShapes Go.ChangeAt Go.RowKit
set_option linter.unusedVariables false

theorem Bs.of_bf {w : World} {c : Nat} {v : Value} {l : List UInt8} (h : Bf w (fun k => k < c) v l) : Bs w w.heap.size v l := by
  obtain ⟨a, n, e, h1, h2⟩ := h
  refine ⟨a, n, e, h1, fun j hj => ?_⟩
  obtain ⟨b, o, q1, q2, q3, q4⟩ := h2 j hj
  exact ⟨b, o, q1, q3, q3, q4⟩
theorem meas_step {w : World} {c : Nat} {hd : Int} {bd : Nat} (hbd : bd ≤ 1048576) (hS : SM w c hd bd) (va : Option Addr) (vc : Nat) (x : UInt8) (r : List UInt8) (hv : Bf w (fun k => k < c) (.slice va (x :: r).length vc) (x :: r)) (hs : Shp (.slice va (x :: r).length vc)) (hl : (x :: r).length ≤ 70368744177664) :
    Calls Tryz.prog 64 #[.pointer (some ⟨c, 0, none⟩), .slice va (x :: r).length vc] w fun e w' => ∃ k : Nat, e = .returned (.int .i64 (k : Int)) ∧ 1 ≤ k ∧ k ≤ (x :: r).length ∧ SA w' c hd bd ∧ Below c w w' := by
  obtain ⟨base, b0, gr, g, L, t, bv, O, pv, bg, hc, hr, hrow, ⟨c1, c2, c3, c4⟩, hap, ⟨t1, t2, t3, t4⟩⟩ := hS
  have hb1 := hr.rb
  have hb2 := hr.fb
  refine (readBody_meas hc hr hrow c1 (by omega) (by omega) hap c3 c4 _ (x :: r) (Bs.of_bf hv) hs (by omega) (by omega) t3 (by omega) (by omega)).mono ?_
  rintro e w' ⟨rfl, v', y1, y2, y3, y4, y5⟩
  have hk : tkN (x :: r) L t.got = min (x :: r).length (L - t.got) := rfl
  have hlen : 1 ≤ (x :: r).length := by simp
  have hB : Below c w w' := ⟨y5.os, y5.tape, y5.output, y5.size, fun k hk => y5.block k (by have := lt_heap hc; omega) (by omega) (by omega) (by omega) (fun e => by have := (hrow.lt e).1; omega)⟩
  refine ⟨_, rfl, by omega, by omega, ?_, hB⟩
  by_cases hd' : t.got + tkN (x :: r) L t.got = L
  · exact .inr (.inr (.inr (.inl ⟨_, _, y3 hd'⟩)))
  · obtain ⟨z1, z2⟩ := y4 hd'
    refine .inr (.inl ⟨base, b0, gr, g, L, _, v', _, pv, bg, z1, z2, y1, ⟨c1, c2, Nat.le_trans c3 y5.size, Nat.le_trans c4 y5.size⟩, fun k e => ⟨fun q => ?_, fun q => ?_⟩, ⟨by show t.got + _ < L; omega, t2, rfl, ?_⟩⟩)
    · subst q
      exact y2 k (lt_heap' hr.rd) (fun z => (hap k z).1 rfl) e
    · subst q
      exact y2 k (lt_heap' hr.fr) (fun z => (hap k z).2 rfl) e
    · rw [List.length_append]
      show _ ≤ t.got + _
      have : ((x :: r).take (tkN (x :: r) L t.got)).length ≤ tkN (x :: r) L t.got := by rw [List.length_take]; omega
      omega
theorem part_step {w : World} {c : Nat} {hd : Int} {bd : Nat} (hbd : bd ≤ 1048576) (hS : SP w c hd bd) (hm : MX w) (h3 : 3 ≤ c) (va : Option Addr) (vc : Nat) (x : UInt8) (r : List UInt8) (hv : Bf w (fun k => k < c) (.slice va (x :: r).length vc) (x :: r)) (hs : Shp (.slice va (x :: r).length vc)) (hl : (x :: r).length ≤ 70368744177664) :
    Calls Tryz.prog 64 #[.pointer (some ⟨c, 0, none⟩), .slice va (x :: r).length vc] w fun e w' => ∃ k : Nat, e = .returned (.int .i64 (k : Int)) ∧ 1 ≤ k ∧ k ≤ (x :: r).length ∧ SA w' c hd bd ∧ Below c w w' := by
  obtain ⟨base, b0, gr, g, gd, lv, tv, t, d, bv, O, pv, bg, hc, hr, hf, ⟨hw, hwr⟩, hrow, ⟨c1, c2, c3⟩, hap, ⟨t1, t2⟩⟩ := hS
  have hroom := bytes_room (x :: r) d
  have hcl := lt_heap hc
  refine (readBody_part hc hr hf hw hwr hm (by omega) hrow c1 (fun z => by have := hr.base_le z; omega) hap c3 (A := fun k => k < c) va vc (x :: r) hv hs (fun k z q => by have := hr.base_le z; omega) (fun k q => by omega) hl (by omega) (by omega)).mono ?_
  rintro e w' ⟨rfl, y1, y2, y3⟩
  have hB : Below c w w' := ⟨y1.os, y1.tape, y1.output, y1.size, fun k hk => y1.block k (by omega) (by omega) (fun z => by have := hr.base_le z; omega) (fun e => by have := (hrow.lt e).1; omega)⟩
  refine ⟨_, rfl, d_pos x r d, d_le (x :: r) d, ?_, hB⟩
  by_cases h0 : (dBytes d (x :: r)).1 = 0
  · obtain ⟨v', z1, z2, z3, z4⟩ := y3 h0
    cases hwh : (dBytes d (x :: r)).2.2.2.whole with
    | true => exact .inr (.inr (.inr (.inl ⟨_, _, z3 hwh⟩)))
    | false =>
      obtain ⟨q1, lv', tv', q2, q3, q4⟩ := z4 hwh
      rw [forget_is _ hwh] at q2
      have f2 := fit_dbytes (x :: r) d hf
      refine .inr (.inr (.inl ⟨base, b0, gr, g, gd, lv', tv', _, _, v', _, pv, bg, q1, q2, ⟨f2.fn, f2.room, f2.left, f2.line, f2.tr, f2.bd⟩, ⟨hwh, rfl⟩, z1, ⟨c1, c2, Nat.le_trans c3 y1.size⟩, q4, ⟨?_, ?_⟩⟩))
      · show t.got + (dBytes d (x :: r)).2.2.1.length + ((dBytes d (x :: r)).2.2.2.left + (dBytes d (x :: r)).2.2.2.room) ≤ bd
        omega
      · rw [List.length_append]
        show _ ≤ t.got + _
        omega
  · exact .inr (.inr (.inr (.inr ⟨_, y2 h0, ok_body _⟩)))
end Go.Proofs.YtcagjipdldlehaaGreatDoor
/- A client's connection reads, in whatever state it is. -/
namespace Go.Proofs.YtcagjipdldlehaaGreatDoor
open Go.ChangeShapes Go.WideShapes Go.ChangeAt Go.RowKit
set_option linter.unusedVariables false

/-- It reads: a head, or a body. -/
def SR (w : World) (c : Nat) (hd : Int) (bd : Nat) : Prop := SH w c hd bd ∨ SM w c hd bd ∨ SP w c hd bd
/-- The connection's block where it reads. -/
theorem SR.cl {w : World} {c : Nat} {hd : Int} {bd : Nat} (h : SR w c hd bd) : ∃ f st bg pv rv bv, (f = 37 ∨ f = 64) ∧ st = .func (.func f) #[.pointer (some ⟨c, 0, none⟩)] #[] ∧ ClB w c hd (bd : Int) st bg false pv rv bv 0 := by
  rcases h with ⟨base, g, lv, fv, p, bg, hc, -⟩ | ⟨base, b0, gr, g, L, t, bv, O, pv, bg, hc, -⟩ | ⟨base, b0, gr, g, gd, lv, tv, t, d, bv, O, pv, bg, hc, -⟩
  · exact ⟨_, _, _, _, _, _, .inl rfl, rfl, hc⟩
  · exact ⟨_, _, _, _, _, _, .inr rfl, rfl, hc⟩
  · exact ⟨_, _, _, _, _, _, .inr rfl, rfl, hc⟩
/-- Something of a request was read. -/
theorem SR.begun {w W : World} {c : Nat} {hd : Int} {bd : Nat} (h : SR w c hd bd) (hW : W.heap = (w.setCell ⟨c, 3, none⟩ (.bool true)).heap) : SR W c hd bd := by
  have ck : ∀ k, k < w.heap.size → k ≠ c → W.heap[k]? = w.heap[k]? := fun k hk hkc => by rw [hW]; exact (CK.set w c 3 (.bool true)).block k hk hkc
  have hs : w.heap.size ≤ W.heap.size := by rw [hW]; exact (CK.set w c 3 (.bool true)).size
  rcases h with ⟨base, g, lv, fv, p, bg, hc, hp, q1, q2, q3, q4, hcb⟩ | ⟨base, b0, gr, g, L, t, bv, O, pv, bg, hc, hr, hrow, ⟨c1, c2, c3, c4⟩, hap, q⟩ | ⟨base, b0, gr, g, gd, lv, tv, t, d, bv, O, pv, bg, hc, hr, hf, hw, hrow, ⟨c1, c2, c3⟩, hap, q⟩
  · exact .inl ⟨base, g, lv, fv, p, true, by show W.heap[c]? = _; rw [hW]; exact hp_set hc 3 _, hp.keep fun k a1 a2 => ck k a2 (by omega), q1, q2, q3, q4, hcb⟩
  · exact .inr (.inl ⟨base, b0, gr, g, L, t, bv, O, pv, true, by show W.heap[c]? = _; rw [hW]; exact hp_set hc 3 _, hr.same (ck gr (lt_heap' hr.rd) (by have := hr.rb; omega)) (ck g (lt_heap' hr.fr) (by have := hr.fb; omega)), hrow.frame fun k e => ck k (hrow.lt e).2 (by have := (hrow.lt e).1; omega), ⟨c1, c2, Nat.le_trans c3 hs, Nat.le_trans c4 hs⟩, hap, q⟩)
  · exact .inr (.inr ⟨base, b0, gr, g, gd, lv, tv, t, d, bv, O, pv, true, by show W.heap[c]? = _; rw [hW]; exact hp_set hc 3 _, hr.same (fun k z => ck k (hr.fiv_lt z) (by have := hr.base_le z; omega)), hf, hw, hrow.frame fun k e => ck k (hrow.lt e).2 (by have := (hrow.lt e).1; omega), ⟨c1, c2, Nat.le_trans c3 hs⟩, hap, q⟩)
/-- What its state's call makes of it. -/
theorem SR.step {w : World} {c : Nat} {hd : Int} {bd : Nat} (h : SR w c hd bd) (hbd : bd ≤ 1048576) (hm : MX w) (he : ET w) (h3 : 3 ≤ c) : ∃ f bg pv rv bv, (∀ args W, (callFunc f args).run Tryz.prog W = .ok (.enter f args) W) ∧ (∀ W, (binOp BinOp.neq 62 (.func (.func f) #[.pointer (some ⟨c, 0, none⟩)] #[]) .nilFunc).run Tryz.prog W = .ok (.bool true) W) ∧ ClB w c hd (bd : Int) (.func (.func f) #[.pointer (some ⟨c, 0, none⟩)] #[]) bg false pv rv bv 0 ∧
    ∀ (va : Option Addr) (vc : Nat) (x : UInt8) (r : List UInt8), Bf w (fun k => k < c) (.slice va (x :: r).length vc) (x :: r) → Shp (.slice va (x :: r).length vc) → (x :: r).length ≤ 70368744177664 →
      Calls Tryz.prog f #[.pointer (some ⟨c, 0, none⟩), .slice va (x :: r).length vc] w fun e w' => ∃ k : Nat, e = .returned (.int .i64 (k : Int)) ∧ 1 ≤ k ∧ k ≤ (x :: r).length ∧ SA w' c hd bd ∧ Below c w w' := by
  rcases h with h | h | h
  · have h' := h
    obtain ⟨base, g, lv, fv, p, bg, hc, -⟩ := h'
    exact ⟨37, bg, _, _, _, enters_of Tryz.func37 (by kernel_rfl) rfl, ne_fun _ c, hc, fun va vc x r a1 a2 a3 => head_step hbd h hm he h3 va vc x r a1 a3⟩
  · have h' := h
    obtain ⟨base, b0, gr, g, L, t, bv, O, pv, bg, hc, -⟩ := h'
    exact ⟨64, bg, _, _, _, enters_of Tryz.func64 (by kernel_rfl) rfl, ne_fun _ c, hc, fun va vc x r a1 a2 a3 => meas_step hbd h va vc x r a1 a2 a3⟩
  · have h' := h
    obtain ⟨base, b0, gr, g, gd, lv, tv, t, d, bv, O, pv, bg, hc, -⟩ := h'
    exact ⟨64, bg, _, _, _, enters_of Tryz.func64 (by kernel_rfl) rfl, ne_fun _ c, hc, fun va vc x r a1 a2 a3 => part_step hbd h hm h3 va vc x r a1 a2 a3⟩
end Go.Proofs.YtcagjipdldlehaaGreatDoor
/- A client's connection reads, as far as it goes. -/
namespace Go.Proofs.YtcagjipdldlehaaGreatDoor
open Go.ChangeShapes Go.WideShapes Go.ChangeAt Go.RowKit
set_option linter.unusedVariables false

theorem MX.low {w w' : World} {c : Nat} (h : MX w) (b : Below c w w') (h3 : 3 ≤ c) : MX w' := h.of (b.block _ (by omega)) b.size
theorem ET.low {w w' : World} {c : Nat} (h : ET w) (b : Below c w w') (h3 : 3 ≤ c) : ET w' := h.of (b.block 0 (by omega))
theorem Bf.low {w w' : World} {c : Nat} {v : Value} {l : List UInt8} (h : Bf w (fun k => k < c) v l) (b : Below c w w') : Bf w' (fun k => k < c) v l := h.keep b.size fun k hk _ => b.block k hk
theorem Bf.from {w : World} {A : Nat → Prop} {bk o vc : Nat} {l : List UInt8} (h : Bf w A (.slice (some ⟨bk, o, none⟩) l.length vc) l) (k : Nat) (hk : k ≤ l.length) : Bf w A (.slice (some ⟨bk, o + k, none⟩) (l.drop k).length (vc - k)) (l.drop k) := by
  obtain ⟨a, n, e, h1, h2⟩ := h
  simp only [Value.slice.injEq, true_and] at e
  obtain ⟨rfl, rfl⟩ := e
  refine ⟨_, _, rfl, by rw [List.length_drop]; omega, fun j hj => ?_⟩
  rw [List.length_drop] at hj
  obtain ⟨b, o', q1, q2, q3, q4⟩ := h2 (k + j) (by omega)
  simp only [Option.some.injEq, Addr.mk.injEq, and_true] at q1
  obtain ⟨rfl, rfl⟩ := q1
  exact ⟨bk, o + k, rfl, q2, q3, by rw [Nat.add_assoc]; simpa using q4⟩
/-- It reads no more: it waits, or is shut. -/
def SN (w : World) (c : Nat) (hd : Int) (bd : Nat) (wt : Bool) : Prop := (wt = true ∧ SW w c hd bd) ∨ (wt = false ∧ ∃ s, SS w c s ∧ stOk s)
theorem SA.cases {w : World} {c : Nat} {hd : Int} {bd : Nat} (h : SA w c hd bd) : SR w c hd bd ∨ ∃ wt, SN w c hd bd wt := by
  rcases h with h | h | h | h | h
  · exact .inl (.inl h)
  · exact .inl (.inr (.inl h))
  · exact .inl (.inr (.inr h))
  · exact .inr ⟨true, .inl ⟨rfl, h⟩⟩
  · exact .inr ⟨false, .inr ⟨rfl, h⟩⟩
theorem SN.cl {w : World} {c : Nat} {hd : Int} {bd : Nat} {wt : Bool} (h : SN w c hd bd wt) : w.cell? ⟨c, 2, none⟩ = some .nilFunc ∧ w.cell? ⟨c, 4, none⟩ = some (.bool wt) := by
  rcases h with ⟨rfl, pv, bv, h⟩ | ⟨rfl, s, h, -⟩
  · exact ⟨(cl_cells h).2.2.1, (cl_cells h).2.2.2.2.1⟩
  · exact ⟨(cl_cells h).2.2.1, (cl_cells h).2.2.2.2.1⟩
theorem SN.heap {w w' : World} {c : Nat} {hd : Int} {bd : Nat} {wt : Bool} (h : SN w c hd bd wt) (e : w'.heap = w.heap) : SN w' c hd bd wt := by
  rcases h with ⟨rfl, pv, bv, h⟩ | ⟨rfl, s, h, q⟩
  · exact .inl ⟨rfl, pv, bv, by show w'.heap[c]? = _; rw [e]; exact h⟩
  · exact .inr ⟨rfl, s, by show w'.heap[c]? = _; rw [e]; exact h, q⟩
theorem SR.heap {w w' : World} {c : Nat} {hd : Int} {bd : Nat} (h : SR w c hd bd) (e : w'.heap = w.heap) : SR w' c hd bd := by
  have ck : ∀ k : Nat, w'.heap[k]? = w.heap[k]? := fun k => by rw [e]
  rcases h with ⟨base, g, lv, fv, p, bg, hc, hp, q⟩ | ⟨base, b0, gr, g, L, t, bv, O, pv, bg, hc, hr, hrow, ⟨c1, c2, c3, c4⟩, q⟩ | ⟨base, b0, gr, g, gd, lv, tv, t, d, bv, O, pv, bg, hc, hr, hf, hw, hrow, ⟨c1, c2, c3⟩, q⟩
  · exact .inl ⟨base, g, lv, fv, p, bg, (ck c).trans hc, hp.keep fun k _ _ => ck k, q⟩
  · exact .inr (.inl ⟨base, b0, gr, g, L, t, bv, O, pv, bg, (ck c).trans hc, hr.same (ck gr) (ck g), hrow.frame fun k _ => ck k, ⟨c1, c2, by rw [e]; exact c3, by rw [e]; exact c4⟩, q⟩)
  · exact .inr (.inr ⟨base, b0, gr, g, gd, lv, tv, t, d, bv, O, pv, bg, (ck c).trans hc, hr.same (fun k _ => ck k), hf, hw, hrow.frame fun k _ => ck k, ⟨c1, c2, by rw [e]; exact c3⟩, q⟩)
/-- What Read tells of it, and what it is then. -/
def RdQ (w' : World) (c : Nat) (hd : Int) (bd : Nat) (ok : Bool) : Prop := (SR w' c hd bd ∧ ok = false) ∨ SN w' c hd bd ok
set_option maxHeartbeats 2000000 in
set_option maxRecDepth 100000 in
theorem cread_any {w : World} {c : Nat} {hd : Int} {bd : Nat} (h : SA w c hd bd) (hbd : bd ≤ 1048576) (hm : MX w) (he : ET w) (h3 : 3 ≤ c) (hcw : c ≤ w.heap.size) (bk o vc : Nat) (l : List UInt8) (hv : Bf w (fun k => k < c) (.slice (some ⟨bk, o, none⟩) l.length vc) l) (hvc : l.length ≤ vc) (hl : l.length ≤ 70368744177664) :
    Calls Tryz.prog 11 #[.pointer (some ⟨c, 0, none⟩), .slice (some ⟨bk, o, none⟩) l.length vc] w fun e w' => ∃ (n : Nat) (ok : Bool), e = .returned (.tuple #[.int .i64 (n : Int), .bool ok]) ∧ n ≤ l.length ∧ RdQ w' c hd bd ok ∧ Below c w w' := by
  have HS := hide h
  have HM := hide hm
  have HE := hide he
  have HV := hide hv
  have HBD := hide hbd
  obtain ⟨m, Hm⟩ : ∃ m, Hid (l.length = m) := ⟨_, hide rfl⟩
  rw [Hm.out] at HV hvc hl ⊢
  clear h hm he hv hbd
  have E2 := ne_nil
  go_enter Tryz.func11, Tryz.ntmps11
  go_wp2_with fail
  go_loopw [6] (fun u wr => ∃ k : Nat, k ≤ m ∧ u = .int .i64 (k : Int) ∧ Hid (SA wr c hd bd) ∧ Hid (Below c w wr)) (fun u _ => m - (intOf u).toNat)
  case atStart => exact ⟨0, Nat.zero_le _, rfl, HS, hide (Below.refl _ _)⟩
  case round =>
    clear HS
    obtain ⟨k, hk, rfl, HS, HB⟩ := hrel
    rcases HS.out.cases with hR | ⟨wt, hN⟩
    · obtain ⟨f, st, bg, pv, rv, bv, hf, rfl, hc⟩ := hR.cl
      have E1 := ne_fun f c
      obtain ⟨-, -, k2, k3, k4, -, -, -, -⟩ := cl_cells hc
      have z3 := cl_fz hc 3
      have HR := hide hR
      have hcs : c < wr.heap.size := lt_heap hc
      clear hc hR HS
      by_cases hlt : k < m
      · have hlti : (k : Int) < (m : Int) := by omega
        have hkc : ¬ vc = k := by omega
        have hkc2 : k ≤ vc := by omega
        obtain ⟨x, r, Hxr⟩ : ∃ x r, Hid (l.drop k = x :: r) := by
          cases hd' : l.drop k with
          | nil => have := congrArg List.length hd'; rw [List.length_drop, Hm.out] at this; simp at this; omega
          | cons x r => exact ⟨x, r, hide rfl⟩
        have hxl : (x :: r).length = m - k := by rw [← Hxr.out, List.length_drop, Hm.out]
        have HK1 := hide (CK.set wr c 3 (.bool true))
        obtain ⟨f2, bg2, pv2, rv2, bv2, hen, -, hc2, hst⟩ := (HR.out.begun (W := (wr.setCell ⟨c, 3, none⟩ (.bool true)).drew) rfl).step HBD.out (HM.out.low (HB.out.trans ((HK1.out.low (Nat.le_refl _) (by omega)).drew)) h3) (HE.out.low (HB.out.trans ((HK1.out.low (Nat.le_refl _) (by omega)).drew)) h3) h3
        have HB1 : Hid (Below c w (wr.setCell ⟨c, 3, none⟩ (.bool true)).drew) := hide (HB.out.trans ((HK1.out.low (Nat.le_refl _) (by omega)).drew))
        have HC := hide (hst (some ⟨bk, o + k, none⟩) (vc - k) x r (by
          have q := (HV.out.low HB1.out)
          rw [← Hm.out] at q
          have q2 := q.from k (by rw [Hm.out]; omega)
          rw [Hxr.out] at q2
          exact q2) (.inr ⟨_, _, _, rfl⟩) (by omega))
        rw [hxl] at HC
        have HEN := hide hen
        have k2' : (wr.setCell ⟨c, 3, none⟩ (.bool true)).cell? ⟨c, 2, none⟩ = some (.func (.func f2) #[.pointer (some ⟨c, 0, none⟩)] #[]) := (cl_cells hc2).2.2.1
        have HC2 : Hid (Calls Tryz.prog f2 #[.pointer (some ⟨c, 0, none⟩), .slice (some ⟨bk, o + k, none⟩) (m - k) (vc - k)] (wr.setCell ⟨c, 3, none⟩ (.bool true)).drew fun e w' => ∃ r, e = .returned r ∧ ∃ j : Nat, r = .int .i64 (j : Int) ∧ 1 ≤ j ∧ j ≤ m - k ∧ SA w' c hd bd ∧ Below c (wr.setCell ⟨c, 3, none⟩ (.bool true)).drew w') := hide (HC.out.mono (fun e w' ⟨j, a1, a2, a3, a4, a5⟩ => ⟨_, a1, j, rfl, a2, a3, a4, a5⟩))
        clear hen hc2 hst HC HR HK1
        go_upto_region 6 with fail
        clear k2 k3 k4 z3
        generalize wr.setCell ⟨c, 3, none⟩ (.bool true) = w1 at *
        go_region_law (refine step_callv rfl _ _ _ rfl f2 (.pointer (some ⟨c, 0, none⟩)) (by simp [Act.eval]) HEN.out (.slice (some ⟨bk, o + k, none⟩) (m - k) (vc - k)) (by simp [Act.eval]) _ HC2.out ?_; rintro v y ⟨j, rfl, y1, y2, y3, y4⟩; have HY := hide y3; have HBY := hide (HB1.out.trans y4); clear y3 y4)
        all_goals
          have hji : (k : Int) + (j : Int) ≤ 70368744177664 := by omega
          go_wp2_with fail
          have hwr : IntKind.i64.wrap ((k : Int) + (j : Int)) = ((k + j : Nat) : Int) := (IntWalk.i64_in _ ⟨by omega, by omega⟩).trans (by omega)
          simp only [List.getElem_toArray, List.getElem_cons_zero, List.getElem_cons_succ, Act.put, List.setIfInBounds_toArray, List.set_cons_zero, List.set_cons_succ, hwr]
          go_roundw
          case rel => exact ⟨k + j, by omega, rfl, HY, HBY⟩
          case measure => simp [intOf]; omega
      · have hlti : ¬ (k : Int) < (m : Int) := by omega
        go_wp2_with fail
        go_quiet (fail)
        have HZ := hide (HB.out.trans (⟨rfl, rfl, rfl, Nat.le_refl _, fun _ _ => rfl⟩ : Below c wr (wr.drewN nq)))
        have HRZ := hide (HR.out.heap (w' := wr.drewN nq) rfl)
        go_wp2_with fail
        go_ret2
        exact ⟨k, false, rfl, hk, .inl ⟨HRZ.out, rfl⟩, HZ.out⟩
    · obtain ⟨k2, k4⟩ := hN.cl
      have HN := hide hN
      clear hN HS
      by_cases hlt : k < m
      · have hlti : (k : Int) < (m : Int) := by omega
        go_wp2_with fail
        go_quiet (fail)
        have HZ := hide (HB.out.trans (⟨rfl, rfl, rfl, Nat.le_refl _, fun _ _ => rfl⟩ : Below c wr (wr.drewN nq)))
        have HRZ := hide (HN.out.heap (w' := wr.drewN nq) rfl)
        go_wp2_with fail
        go_ret2
        exact ⟨k, wt, rfl, hk, .inr HRZ.out, HZ.out⟩
      · have hlti : ¬ (k : Int) < (m : Int) := by omega
        go_wp2_with fail
        go_quiet (fail)
        have HZ := hide (HB.out.trans (⟨rfl, rfl, rfl, Nat.le_refl _, fun _ _ => rfl⟩ : Below c wr (wr.drewN nq)))
        have HRZ := hide (HN.out.heap (w' := wr.drewN nq) rfl)
        go_wp2_with fail
        go_ret2
        exact ⟨k, wt, rfl, hk, .inr HRZ.out, HZ.out⟩
end Go.Proofs.YtcagjipdldlehaaGreatDoor
/- A client's connection that is shut reads nothing; of no bytes nothing is read. -/
namespace Go.Proofs.YtcagjipdldlehaaGreatDoor
open Go.ChangeShapes Go.WideShapes Go.ChangeAt Go.RowKit
set_option linter.unusedVariables false

set_option maxHeartbeats 2000000 in
set_option maxRecDepth 100000 in
theorem cread_shut {w : World} {c : Nat} {s : Int} (h : SS w c s) (a : Option Addr) (m vc : Nat) (hl : m ≤ 70368744177664) :
    Calls Tryz.prog 11 #[.pointer (some ⟨c, 0, none⟩), .slice a m vc] w fun e w' => e = .returned (.tuple #[.int .i64 0, .bool false]) ∧ SS w' c s ∧ Below c w w' := by
  have E2 := ne_nil
  have k2 : w.cell? ⟨c, 2, none⟩ = some .nilFunc := (cl_cells h).2.2.1
  have k4 : w.cell? ⟨c, 4, none⟩ = some (.bool false) := (cl_cells h).2.2.2.2.1
  have HS := hide h
  clear h
  go_enter Tryz.func11, Tryz.ntmps11
  go_wp2_with fail
  refine wp_loop_rounds 1 ?_
  rw [rounds_succ]
  by_cases hlt : (0 : Int) < (m : Int)
  · go_wp2_with fail
    go_quiet (fail)
    have HZ := hide (⟨rfl, rfl, rfl, Nat.le_refl _, fun _ _ => rfl⟩ : Below c w (w.drewN nq))
    go_wp2_with fail
    go_ret2
    exact ⟨rfl, HS.out, HZ.out⟩
  · go_wp2_with fail
    go_quiet (fail)
    have HZ := hide (⟨rfl, rfl, rfl, Nat.le_refl _, fun _ _ => rfl⟩ : Below c w (w.drewN nq))
    go_wp2_with fail
    go_ret2
    exact ⟨rfl, HS.out, HZ.out⟩
set_option maxHeartbeats 2000000 in
set_option maxRecDepth 100000 in
theorem cread_zero {w : World} {c : Nat} {hd : Int} {bd : Nat} (h : SA w c hd bd) (a : Option Addr) (vc : Nat) :
    Calls Tryz.prog 11 #[.pointer (some ⟨c, 0, none⟩), .slice a 0 vc] w fun e w' => ∃ (n : Nat) (ok : Bool), e = .returned (.tuple #[.int .i64 (n : Int), .bool ok]) ∧ n ≤ 0 ∧ RdQ w' c hd bd ok ∧ Below c w w' := by
  have E2 := ne_nil
  rcases h.cases with hR | ⟨wt, hN⟩
  · obtain ⟨f, st, bg, pv, rv, bv, hf, rfl, hc⟩ := hR.cl
    have E1 := ne_fun f c
    obtain ⟨-, -, k2, k3, k4, -, -, -, -⟩ := cl_cells hc
    have HR := hide hR
    clear hc hR h
    go_enter Tryz.func11, Tryz.ntmps11
    go_wp2_with fail
    refine wp_loop_rounds 1 ?_
    rw [rounds_succ]
    go_wp2_with fail
    go_quiet (fail)
    have HZ := hide (⟨rfl, rfl, rfl, Nat.le_refl _, fun _ _ => rfl⟩ : Below c w (w.drewN nq))
    have HRZ := hide (HR.out.heap (w' := w.drewN nq) rfl)
    go_wp2_with fail
    go_ret2
    exact ⟨0, false, rfl, Nat.le_refl _, .inl ⟨HRZ.out, rfl⟩, HZ.out⟩
  · obtain ⟨k2, k4⟩ := hN.cl
    have HN := hide hN
    clear hN h
    go_enter Tryz.func11, Tryz.ntmps11
    go_wp2_with fail
    refine wp_loop_rounds 1 ?_
    rw [rounds_succ]
    go_wp2_with fail
    go_quiet (fail)
    have HZ := hide (⟨rfl, rfl, rfl, Nat.le_refl _, fun _ _ => rfl⟩ : Below c w (w.drewN nq))
    have HRZ := hide (HN.out.heap (w' := w.drewN nq) rfl)
    go_wp2_with fail
    go_ret2
    exact ⟨0, wt, rfl, Nat.le_refl _, .inr HRZ.out, HZ.out⟩
end Go.Proofs.YtcagjipdldlehaaGreatDoor
/- A client's connection and the status that it told: what a piece does. -/
namespace Go.Proofs.YtcagjipdldlehaaGreatDoor
open Go.ChangeShapes Go.WideShapes Go.ChangeAt Go.RowKit
set_option linter.unusedVariables false

/-- It is so, and tells this status. -/
def ST (w : World) (c : Nat) (hd : Int) (bd : Nat) (s : Int) : Prop := (s = 0 ∧ (SR w c hd bd ∨ SW w c hd bd)) ∨ (stOk s ∧ SS w c s)
theorem ST.cl {w : World} {c : Nat} {hd : Int} {bd : Nat} {s : Int} (h : ST w c hd bd s) : ∃ hd' bd' st bg wt pv rv bv, ClB w c hd' bd' st bg wt pv rv bv s := by
  rcases h with ⟨rfl, h | ⟨pv, bv, h⟩⟩ | ⟨-, h⟩
  · obtain ⟨f, st, bg, pv, rv, bv, hf, rfl, hc⟩ := h.cl
    exact ⟨_, _, _, _, _, _, _, _, hc⟩
  · exact ⟨_, _, _, _, _, _, _, _, h⟩
  · exact ⟨_, _, _, _, _, _, _, _, h⟩
theorem ST.sa {w : World} {c : Nat} {hd : Int} {bd : Nat} {s : Int} (h : ST w c hd bd s) : SA w c hd bd := by
  rcases h with ⟨rfl, h | h⟩ | ⟨q, h⟩
  · rcases h with h | h | h
    · exact .inl h
    · exact .inr (.inl h)
    · exact .inr (.inr (.inl h))
  · exact .inr (.inr (.inr (.inl h)))
  · exact .inr (.inr (.inr (.inr ⟨s, h, q⟩)))
theorem ST.ok {w : World} {c : Nat} {hd : Int} {bd : Nat} {s : Int} (h : ST w c hd bd s) : s = 0 ∨ stOk s := by
  rcases h with ⟨rfl, -⟩ | ⟨q, -⟩
  · exact .inl rfl
  · exact .inr q
theorem ST.lt {w : World} {c : Nat} {hd : Int} {bd : Nat} {s : Int} (h : ST w c hd bd s) : c < w.heap.size := by
  obtain ⟨_, _, _, _, _, _, _, _, h⟩ := h.cl
  exact lt_heap h
theorem RdQ.st {w : World} {c : Nat} {hd : Int} {bd : Nat} {ok : Bool} (h : RdQ w c hd bd ok) : ∃ s, ST w c hd bd s ∧ (ok = true → SW w c hd bd ∧ s = 0) := by
  rcases h with ⟨h, rfl⟩ | ⟨rfl, h⟩ | ⟨rfl, s, h, q⟩
  · exact ⟨0, .inl ⟨rfl, .inl h⟩, fun h => nomatch h⟩
  · exact ⟨0, .inl ⟨rfl, .inr h⟩, fun _ => ⟨h, rfl⟩⟩
  · exact ⟨s, .inr ⟨q, h⟩, fun h => nomatch h⟩
theorem st0 : ¬ stOk 0 := by unfold stOk; omega
theorem cread_piece {w : World} {c : Nat} {hd : Int} {bd : Nat} {s : Int} (h : ST w c hd bd s) (hbd : bd ≤ 1048576) (hm : MX w) (he : ET w) (h3 : 3 ≤ c) (a : Option Addr) (vc : Nat) (l : List UInt8) (hv : Bf w (fun k => k < c) (.slice a l.length vc) l) (hl : l.length ≤ 70368744177664) :
    Calls Tryz.prog 11 #[.pointer (some ⟨c, 0, none⟩), .slice a l.length vc] w fun e w' => ∃ (n : Nat) (ok : Bool) (s' : Int), e = .returned (.tuple #[.int .i64 (n : Int), .bool ok]) ∧ n ≤ l.length ∧ (s ≠ 0 → n = 0 ∧ ok = false ∧ s' = s) ∧ ST w' c hd bd s' ∧ (ok = true → SW w' c hd bd ∧ s' = 0) ∧ Below c w w' := by
  by_cases hs : s = 0
  · have key : ∀ e w', (∃ (n : Nat) (ok : Bool), e = Ending.returned (.tuple #[.int .i64 (n : Int), .bool ok]) ∧ n ≤ l.length ∧ RdQ w' c hd bd ok ∧ Below c w w') → ∃ (n : Nat) (ok : Bool) (s' : Int), e = .returned (.tuple #[.int .i64 (n : Int), .bool ok]) ∧ n ≤ l.length ∧ (s ≠ 0 → n = 0 ∧ ok = false ∧ s' = s) ∧ ST w' c hd bd s' ∧ (ok = true → SW w' c hd bd ∧ s' = 0) ∧ Below c w w' := by
      rintro e w' ⟨n, ok, h1, h2, h3, h4⟩
      obtain ⟨s', q1, q2⟩ := h3.st
      exact ⟨n, ok, s', h1, h2, fun x => absurd hs x, q1, q2, h4⟩
    have hcw := h.lt
    cases l with
    | nil => exact (cread_zero h.sa a vc).mono key
    | cons x r =>
      obtain ⟨a', c', e, h1, h2⟩ := id hv
      obtain ⟨g, o, q1, -⟩ := h2 0 (by simp)
      simp only [Value.slice.injEq, true_and] at e
      obtain ⟨rfl, rfl⟩ := e
      subst q1
      exact (cread_any h.sa hbd hm he h3 (by omega) g o vc (x :: r) hv h1 hl).mono key
  · have hS : SS w c s ∧ stOk s := by
      rcases h with ⟨e, -⟩ | ⟨q, h⟩
      · exact absurd e hs
      · exact ⟨h, q⟩
    refine (cread_shut hS.1 a l.length vc hl).mono ?_
    rintro e w' ⟨rfl, h1, h2⟩
    exact ⟨0, false, s, rfl, Nat.zero_le _, fun _ => ⟨rfl, rfl, rfl⟩, .inr ⟨hS.2, h1⟩, (fun h => nomatch h), h2⟩
theorem wrong_st {w : World} {c : Nat} {hd : Int} {bd : Nat} {s : Int} (h : ST w c hd bd s) : Calls Tryz.prog 22 #[.pointer (some ⟨c, 0, none⟩)] w fun e w' => e = .returned (.int .i64 s) ∧ w = w' := by
  obtain ⟨_, _, _, _, _, _, _, _, h⟩ := h.cl
  exact wrong_any h
theorem shut_st {w : World} {c : Nat} {hd : Int} {bd : Nat} {s : Int} (h : ST w c hd bd s) (hs : s ≠ 0) : Calls Tryz.prog 23 #[.pointer (some ⟨c, 0, none⟩)] w fun e w' => e = .returned (.bool true) ∧ w = w' := by
  rcases h with ⟨e, -⟩ | ⟨-, h⟩
  · exact absurd e hs
  · exact shut_nil' h
theorem answered_st {w : World} {c : Nat} {hd : Nat} {bd : Nat} (h : SW w c (hd : Int) bd) (h1 : 16 ≤ hd) (h2 : hd ≤ 65536) : Calls Tryz.prog 15 #[.pointer (some ⟨c, 0, none⟩), .bool true] w fun e w' => e = .returned (.int .i64 0) ∧ ST w' c (hd : Int) bd 0 ∧ Below c w w' := by
  obtain ⟨pv, bv, h⟩ := h
  have hcs : c < w.heap.size := lt_heap h
  refine (answered_keep h h1 h2).mono ?_
  rintro e w' ⟨rfl, g, q1, q2, q3, q4⟩
  exact ⟨rfl, .inl ⟨rfl, .inl (.inl ⟨g, g, _, _, _, _, q3, q2, fit_new true hd h2, sz_new true hd, rfl, rfl, by omega⟩)⟩, q4.low (Nat.le_refl _) (by omega)⟩
end Go.Proofs.YtcagjipdldlehaaGreatDoor
/- ClientWrong, walked. -/
namespace Go.Proofs.YtcagjipdldlehaaGreatDoor
open Go.ChangeShapes Go.WideShapes Go.ChangeAt Go.RowKit
set_option linter.unusedVariables false

theorem Bf.of_bs {w w' : World} {c : Nat} {v : Value} {l : List UInt8} (h : Bs w c v l) (b : Below c w w') : Bf w' (fun k => k < c) v l := by
  obtain ⟨a, n, e, h1, h2⟩ := h
  refine ⟨a, n, e, h1, fun j hj => ?_⟩
  obtain ⟨g, o, q1, q2, q3, q4⟩ := h2 j hj
  have := b.size
  exact ⟨g, o, q1, q2, by omega, (b.cell (p := ⟨g, o + j, none⟩) q2).trans q4⟩
set_option maxHeartbeats 4000000 in
set_option maxRecDepth 100000 in
theorem wrong_walk (w : World) (v : Value) (L : List (List UInt8)) (hP : Pcs w v L) (hfl : L.flatten.length ≤ 70368744177664) (hn : L.length ≤ 70368744177664) (hm : MX w) (he : ET w) (h3 : 3 ≤ w.heap.size) :
    Calls Tryz.prog 5 #[v] w fun e w' => e = .returned (.bool true) ∧ Below w.heap.size w w' := by
  obtain ⟨pa, pc, rfl, hpc, hcells⟩ := hP
  have HPC := hide hcells
  have HM := hide hm
  have HE := hide he
  have HN := hide (cnew_any w 200 20 (by omega) (by omega) (by omega) (by omega))
  have HP := hide (fun W (b : Below w.heap.size w W) => speaks_any W (hm.below b) (he.below b))
  clear hcells hm he
  go_enter Tryz.func5, Tryz.ntmps5
  go_wp2_with (go_at_call 8; refine HN.out.mono ?_; rintro e w1 ⟨rfl, g, hg, q2, q3, b1⟩; have HST : Hid (ST w1 w.heap.size (200 : Int) 20 0) := hide (.inl ⟨rfl, .inl (.inl ⟨g, g, _, _, _, _, q3, q2, fit_new true 200 (by omega), sz_new true 200, rfl, rfl, hg⟩)⟩); have HB := hide b1; clear q2 q3 b1 HN)
  go_loopw [5, 22] (fun st i wr => ∃ (k : Nat) (s : Int), k ≤ L.length ∧ st = .int .i64 s ∧ i = .int .i64 k ∧ Hid (ST wr w.heap.size (200 : Int) 20 s) ∧ Hid (Below w.heap.size w wr)) (fun _ i _ => L.length - (intOf i).toNat)
  case atStart => exact ⟨0, 0, Nat.zero_le _, rfl, rfl, HST, HB⟩
  case round =>
    clear HST HB
    obtain ⟨k, s, hk, rfl, rfl, HST, HB⟩ := hrel
    by_cases hlt : k < L.length
    · have hlti : (k : Int) < (L.length : Int) := by omega
      obtain ⟨g1, o1, ba, bcp, rfl, hg1, q1, hbs, hsh⟩ := HPC.out k hlt
      have hlk : (L[k]).length ≤ 70368744177664 := by
        have e1 := flat_take hlt
        have e2 := flat_le L (k + 1)
        rw [e1, List.length_append] at e2
        omega
      generalize L[k] = b at q1 hbs hsh hlk
      have r1 : wr.cell? ⟨g1, o1 + k, none⟩ = some (.slice ba b.length bcp) := (HB.out.cell (p := ⟨g1, o1 + k, none⟩) hg1).trans q1
      have HR := hide (cread_piece HST.out (by omega) (HM.out.low HB.out h3) (HE.out.low HB.out h3) h3 ba bcp b (Bf.of_bs hbs HB.out) hlk)
      have HOK0 := hide HST.out.ok
      clear q1 hbs hsh HST
      by_cases hs : s = 0
      · subst hs
        go_upto_region 8 with fail
        go_wp2_with fail
        refine HR.out.mono ?_; rintro e w2 ⟨n, ok, s', rfl, hn1, -, y1, y2, y3⟩; have HST := hide y1; have HOK := hide y2; have HB2 := hide (HB.out.trans y3); clear y1 y2 y3 HR HB r1; have hni : ¬ ((b.length : Int) < (n : Int)) := by omega
        have hn0 : ¬ ((n : Int) < 0) := by omega
        have HW := hide (wrong_st HST.out)
        rcases HST.out.ok with rfl | hst
        · cases ok
          · go_wp2_with (go_at_call 22; refine HW.out.mono ?_; rintro e w3 ⟨rfl, rfl⟩)
            go_roundw
            case rel => exact ⟨k + 1, 0, by omega, rfl, by go_num, HST, HB2⟩
            case measure => simp [intOf]; omega
          · have HA := hide (answered_st (hd := 200) (HOK.out rfl).1 (by omega) (by omega))
            go_wp2_with (first | (go_at_call 22; refine HW.out.mono ?_; rintro e w3 ⟨rfl, rfl⟩) | (go_at_call 15; refine HA.out.mono ?_; rintro e w3 ⟨rfl, z1, z2⟩; have HST3 := hide z1; have HB3 := hide (HB2.out.trans z2); clear z1 z2 HA HW HST HB2))
            go_roundw
            case rel => exact ⟨k + 1, 0, by omega, rfl, by go_num, HST3, HB3⟩
            case measure => simp [intOf]; omega
        · have hok : ok = false := by
            cases ok with
            | false => rfl
            | true => rw [(HOK.out rfl).2] at hst; exact absurd hst st0
          subst hok
          rcases hst with rfl | rfl | rfl
          all_goals
            go_wp2_with (go_at_call 22; refine HW.out.mono ?_; rintro e w3 ⟨rfl, rfl⟩)
            go_roundw
            case rel => exact ⟨k + 1, _, by omega, rfl, by go_num, HST, HB2⟩
            case measure => simp [intOf]; omega
      · have hst : stOk s := HOK0.out.resolve_left hs
        go_upto_region 8 with fail
        go_wp2_with fail
        refine HR.out.mono ?_
        rintro e w2 ⟨n, ok, s', rfl, hn1, hs1, y1, y2, y3⟩
        obtain ⟨rfl, rfl, rfl⟩ := hs1 hs
        have HST := hide y1
        have HB2 := hide (HB.out.trans y3)
        have HW := hide (wrong_st y1)
        have HS := hide (shut_st y1 hs)
        clear y1 y2 y3 HR HB r1 hs1 HOK0
        have hni : ¬ ((b.length : Int) < 0) := by omega
        rcases hst with rfl | rfl | rfl
        all_goals
          go_wp2_with (first | (go_at_call 22; refine HW.out.mono ?_; rintro e w3 ⟨rfl, rfl⟩) | (go_at_call 23; refine HS.out.mono ?_; rintro e w3 ⟨rfl, rfl⟩))
          go_roundw
          case rel => exact ⟨k + 1, _, by omega, rfl, by go_num, HST, HB2⟩
          case measure => simp [intOf]; omega
    · have hlti : ¬ (k : Int) < (L.length : Int) := by omega
      go_wp2_with (go_at_call 10; refine (HP.out _ HB.out).mono ?_; rintro e w2 ⟨rfl, y1⟩; have HB2 := hide (HB.out.trans (y1.mono HB.out.size)))
      go_ret
      exact ⟨rfl, HB2.out⟩
end Go.Proofs.YtcagjipdldlehaaGreatDoor
