/- YF. -/
import Derived.Test.YtecjlcjaccijpaaGreatDoorYB
namespace Go.Proofs.YtecjlcjaccijpaaGreatDoor
open Go.ChangeShapes Go.WideShapes Go.ChangeAt Go.RowKit
set_option linter.unusedVariables false
set_option maxHeartbeats 16000000
set_option maxRecDepth 100000
/-! ### What bytes make of a decoder -/
def dEnd (d : Dz) (s : ByteArray) : Nat × Dz := if d.fn = fnSize then dSized d s else if d.fn = fnBody then dRead d s else dTrl d s
def dMost (d : Dz) : Nat := if d.fn = fnBody then 0 else 8192
def dNext (d : Dz) (c : UInt8) : Nat × List UInt8 × Dz :=
 if d.fn = fnBody /\ 0 < d.left then (0, [c], { d with left := d.left - 1 })
 else if d.ending ≠ decide (c = 10) then (100, [], d)
 else if d.ending = true then ((dEnd { d with line := [], ending := false } (sS d.line)).1, [], (dEnd { d with line := [], ending := false } (sS d.line)).2)
 else if c = 13 then (0, [], { d with ending := true })
 else if d.line.length = dMost d then (100, [], d)
 else (0, [], { d with line := d.line ++ [c] })
def dBytes (d : Dz) : List UInt8 -> Nat × Nat × List UInt8 × Dz
 | [] => (0, 0, [], d)
 | c :: r =>
  if (dNext d c).1 ≠ 0 then ((dNext d c).1, 1, (dNext d c).2.1, (dNext d c).2.2)
  else if (dNext d c).2.2.whole = true then (0, 1, (dNext d c).2.1, (dNext d c).2.2)
  else ((dBytes (dNext d c).2.2 r).1, (dBytes (dNext d c).2.2 r).2.1 + 1, (dNext d c).2.1 ++ (dBytes (dNext d c).2.2 r).2.2.1, (dBytes (dNext d c).2.2 r).2.2.2)
def sh (R : Nat × Nat × List UInt8 × Dz) (k : Nat) (o : List UInt8) : Nat × Nat × List UInt8 × Dz := (R.1, R.2.1 + k, o ++ R.2.2.1, R.2.2.2)
theorem sh_sh (R : Nat × Nat × List UInt8 × Dz) (k l : Nat) (o u : List UInt8) : sh (sh R k o) l u = sh R (k + l) (u ++ o) := by simp [sh, Nat.add_assoc]
def Dn (d : Dz) (l : List UInt8) (k : Nat) (o : List UInt8) (e : Nat) (d' : Dz) : Prop :=
 k <= l.length /\ (if e ≠ 0 ∨ d'.whole = true then dBytes d l = (e, k, o, d') else dBytes d l = sh (dBytes d' (l.drop k)) k o)
theorem Dn.refl (d : Dz) (l : List UInt8) (h : d.whole = false) : Dn d l 0 [] 0 d := ⟨Nat.zero_le _, by rw [if_neg (by simp [h])]; simp [sh]⟩
theorem Dn.step {d0 d : Dz} {l r : List UInt8} {c : UInt8} {k : Nat} {o : List UInt8} (h : Dn d0 l k o 0 d) (hw : d.whole = false) (hl : l.drop k = c :: r) : Dn d0 l (k + 1) (o ++ (dNext d c).2.1) (dNext d c).1 (dNext d c).2.2 /\ l.drop (k + 1) = r := by
 obtain ⟨h1, h2⟩ := h
 rw [if_neg (by simp [hw]), hl, dBytes] at h2
 have hlt : k < l.length := by
  rcases Nat.lt_or_ge k l.length with h3 | h3
  ·exact h3
  ·rw [List.drop_of_length_le h3] at hl; cases hl
 have hd : l.drop (k + 1) = r := by
  have := congrArg List.tail hl
  simpa using this
 refine ⟨⟨hlt, ?_⟩, hd⟩
 by_cases h3 : (dNext d c).1 ≠ 0
 ·rw [if_pos h3] at h2
  rw [if_pos (.inl h3), h2]
  simp [sh, Nat.add_comm]
 ·rw [if_neg h3] at h2
  by_cases h4 : (dNext d c).2.2.whole = true
  ·rw [if_pos h4] at h2
   have h5 : (dNext d c).1 = 0 := by simpa using h3
   rw [if_pos (.inr h4), h2, h5]
   simp [sh, Nat.add_comm]
  ·rw [if_neg h4] at h2
   rw [if_neg (by simp [h4]; simpa using h3), h2, hd]
   simp [sh]
   omega
theorem Dn.takes {d0 : Dz} {l : List UInt8} : ∀ (n : Nat) {d : Dz} {k : Nat} {o : List UInt8}, Dn d0 l k o 0 d -> d.whole = false -> d.fn = fnBody -> n <= d.left -> n <= (l.drop k).length -> Dn d0 l (k + n) (o ++ (l.drop k).take n) 0 { d with left := d.left - n }
 | 0, d, k, o, h, _, _, _, _ => by
  simp only [List.take_zero, List.append_nil, Nat.add_zero, Nat.sub_zero]
  exact h
 | n + 1, d, k, o, h, hw, hf, hn, hl => by
  cases hd : l.drop k with
  | nil => rw [hd] at hl; simp at hl
  | cons c r =>
   have e : dNext d c = (0, [c], { d with left := d.left - 1 }) := by unfold dNext; rw [if_pos ⟨hf, by omega⟩]
   obtain ⟨h1, h2⟩ := h.step hw hd
   rw [e] at h1
   have h3 := Dn.takes n (d := { d with left := d.left - 1 }) h1 hw hf (by show n <= d.left - 1; omega) (by rw [hd] at hl; rw [h2]; simp at hl; omega)
   rw [h2] at h3
   rw [show k + (n + 1) = k + 1 + n by omega, List.take_succ_cons]
   rw [show d.left - (n + 1) = d.left - 1 - n by omega]
   have e3 : o ++ c :: r.take n = (o ++ [c]) ++ r.take n := by simp
   rw [e3]
   exact h3
structure FitD (d : Dz) : Prop where
 fn : d.fn = fnSize ∨ d.fn = fnBody ∨ d.fn = fnTrl
 room : d.room <= 9007199254740992
 left : d.left <= 9007199254740992
 line : d.line.length <= 8192
 tr : d.tr.length <= 100
 bd : d.fn = fnBody -> d.line = []
theorem num16_top (l : List UInt8) : numV 16 l <= 9007199254740992 := by
 unfold numV
 split
 ·omega
 ·rename_i hh
  rw [not_or, not_or] at hh
  have := hh.2.2
  unfold top at this
  omega
theorem FitD.ended {d : Dz} (h : FitD d) (hl : d.line = []) (s : ByteArray) : FitD (dEnd d s).2 := by
 unfold dEnd
 split
 ·unfold dSized
  have hn := num16_top (k1 59 s).data.toList
  split
  ·exact h
  ·split
   ·exact h
   ·refine ⟨?_, ?_, hn, h.line, h.tr, fun _ => hl⟩
    ·dsimp only
     split
     ·exact .inr (.inr rfl)
     ·exact .inr (.inl rfl)
    ·have := h.room; dsimp only; omega
 ·split
  ·exact ⟨.inl rfl, h.room, h.left, h.line, h.tr, fun _ => hl⟩
  ·unfold dTrl
   split
   ·exact ⟨h.fn, h.room, h.left, h.line, h.tr, h.bd⟩
   ·split
    ·exact h
    ·rename_i h1
     rw [not_or, not_or] at h1
     refine ⟨h.fn, h.room, h.left, h.line, ?_, h.bd⟩
     have := h.tr
     show (d.tr ++ [fldF s]).length <= 100
     rw [List.length_append, List.length_singleton]
     have := h1.2.1
     omega
theorem FitD.next {d : Dz} (h : FitD d) (c : UInt8) : FitD (dNext d c).2.2 := by
 unfold dNext
 split
 ·exact ⟨h.fn, h.room, by have := h.left; show d.left - 1 <= _; omega, h.line, h.tr, h.bd⟩
 ·split
  ·exact h
  ·split
   ·exact FitD.ended (d := { d with line := [], ending := false }) ⟨h.fn, h.room, h.left, Nat.zero_le _, h.tr, fun _ => rfl⟩ rfl _
   ·split
    ·exact ⟨h.fn, h.room, h.left, h.line, h.tr, h.bd⟩
    ·split
     ·exact h
     ·rename_i h1
      have h2 := h.line
      unfold dMost at h1
      by_cases h3 : d.fn = fnBody
      ·rw [if_pos h3, h.bd h3] at h1
       exact absurd rfl h1
      ·rw [if_neg h3] at h1
       refine ⟨h.fn, h.room, h.left, ?_, h.tr, fun h4 => absurd h4 h3⟩
       show (d.line ++ [c]).length <= 8192
       rw [List.length_append, List.length_singleton]
       omega
structure DP (w : World) (base : Nat) (A : Nat -> Prop) (g h : Nat) (lv tv rv bv : Value) (d : Dz) (rest body : List UInt8) : Prop where
 dec : Dec w base g lv tv d
 pce : Pce w base A h rv bv rest body
 gh : g ≠ h
 lh : lv.ownBlock ≠ some h
 th : tv.ownBlock ≠ some h
 bg : bv.ownBlock ≠ some g
 bl : ∀ k, bv.ownBlock = some k -> lv.ownBlock ≠ some k
 bt : ∀ k, bv.ownBlock = some k -> tv.ownBlock ≠ some k
 gA : ¬ A g
 lA : ∀ k, lv.ownBlock = some k -> ¬ A k
 tA : ∀ k, tv.ownBlock = some k -> ¬ A k
structure DK (w w' : World) (g h : Nat) (lv tv bv lv' tv' bv' : Value) : Prop where
 os : w'.os = w.os
 tape : w'.tape = w.tape
 output : w'.output = w.output
 size : w.heap.size <= w'.heap.size
 block : ∀ k, k < w.heap.size -> k ≠ g -> k ≠ h -> lv.ownBlock ≠ some k -> tv.ownBlock ≠ some k -> bv.ownBlock ≠ some k -> w'.heap[k]? = w.heap[k]?
 la : ∀ k, k < w.heap.size -> lv.ownBlock ≠ some k -> lv'.ownBlock ≠ some k
 ta : ∀ k, k < w.heap.size -> tv.ownBlock ≠ some k -> tv'.ownBlock ≠ some k
 ba : ∀ k, k < w.heap.size -> bv.ownBlock ≠ some k -> bv'.ownBlock ≠ some k
theorem DK.refl (w : World) (g h : Nat) (lv tv bv : Value) : DK w w g h lv tv bv lv tv bv := ⟨rfl, rfl, rfl, Nat.le_refl _, fun _ _ _ _ _ _ _ => rfl, fun _ _ h => h, fun _ _ h => h, fun _ _ h => h⟩
theorem DK.trans {a b c : World} {g h : Nat} {l t u l1 t1 u1 l2 t2 u2 : Value} (p : DK a b g h l t u l1 t1 u1) (q : DK b c g h l1 t1 u1 l2 t2 u2) : DK a c g h l t u l2 t2 u2 :=
 ⟨q.os.trans p.os, q.tape.trans p.tape, q.output.trans p.output, Nat.le_trans p.size q.size,
  fun k hk h1 h2 h3 h4 h5 => (q.block k (Nat.lt_of_lt_of_le hk p.size) h1 h2 (p.la k hk h3) (p.ta k hk h4) (p.ba k hk h5)).trans (p.block k hk h1 h2 h3 h4 h5),
  fun k hk h3 => q.la k (Nat.lt_of_lt_of_le hk p.size) (p.la k hk h3), fun k hk h3 => q.ta k (Nat.lt_of_lt_of_le hk p.size) (p.ta k hk h3), fun k hk h3 => q.ba k (Nat.lt_of_lt_of_le hk p.size) (p.ba k hk h3)⟩
theorem DK.of_PK {w w' : World} {g h : Nat} {lv tv lv' tv' : Value} (bv : Value) (k : PK w w' g lv tv lv' tv') : DK w w' g h lv tv bv lv' tv' bv :=
 ⟨k.os, k.tape, k.output, k.size, fun i hi h1 _ h3 h4 _ => k.block i hi h1 h3 h4, k.la, k.fa, fun _ _ h => h⟩
theorem DK.of_QK {w w' : World} {g h : Nat} {bv bv' : Value} (lv tv : Value) (k : QK w w' h bv bv') : DK w w' g h lv tv bv lv tv bv' :=
 ⟨k.os, k.tape, k.output, k.size, fun i hi _ h2 _ _ h5 => k.block i hi h2 h5, fun _ _ h => h, fun _ _ h => h, k.ba⟩
theorem DP.of_PK {w w' : World} {base g h : Nat} {A : Nat -> Prop} {lv tv rv bv lv' tv' : Value} {d d' : Dz} {rest body : List UInt8} (p : DP w base A g h lv tv rv bv d rest body) (hd : Dec w' base g lv' tv' d') (k : PK w w' g lv tv lv' tv') : DP w' base A g h lv' tv' rv bv d' rest body := by
 have hh := p.pce.lt
 refine ⟨hd, ⟨(k.block h hh p.gh.symm p.lh p.th).trans p.pce.blk, ?_, p.pce.shp, ?_, p.pce.hb, p.pce.bh, p.pce.hA, p.pce.bA, fun i hA => Nat.lt_of_lt_of_le (p.pce.AL i hA) k.size⟩, p.gh, k.la h hh p.lh, k.fa h hh p.th, p.bg, fun i e => k.la i (p.pce.body.lt e).2 (p.bl i e), fun i e => k.fa i (p.pce.body.lt e).2 (p.bt i e), p.gA, fun i e hA => k.la i (p.pce.AL i hA) (fun e2 => p.lA i e2 hA) e, fun i e hA => k.fa i (p.pce.AL i hA) (fun e2 => p.tA i e2 hA) e⟩
 ·exact p.pce.rest.keep k.size (fun i h1 h2 => k.block i h2 (fun e => p.gA (by rw [<- e]; exact h1)) (fun e => p.lA i e h1) (fun e => p.tA i e h1))
 ·exact p.pce.body.frame fun i e => k.block i (p.pce.body.lt e).2 (fun e2 => p.bg (by rw [e, e2])) (p.bl i e) (p.bt i e)
theorem DP.of_QK {w w' : World} {base g h : Nat} {A : Nat -> Prop} {lv tv rv bv rv' bv' : Value} {d : Dz} {rest body rest' body' : List UInt8} (p : DP w base A g h lv tv rv bv d rest body) (hq : Pce w' base A h rv' bv' rest' body') (k : QK w w' h bv bv') : DP w' base A g h lv tv rv' bv' d rest' body' := by
 have hg := p.dec.lt
 refine ⟨p.dec.frame fun i hi => ?_, hq, p.gh, p.lh, p.th, k.ba g hg p.bg, fun i e e2 => ?_, fun i e e2 => ?_, p.gA, p.lA, p.tA⟩
 ·rcases hi with rfl | hi | hi
  ·exact k.block _ hg p.gh p.bg
  ·exact k.block i (p.dec.line.lt hi).2 (fun e => p.lh (by rw [hi, e])) (fun e => p.bl i e hi)
  ·exact k.block i (p.dec.trs.lt hi).2 (fun e => p.th (by rw [hi, e])) (fun e => p.bt i e hi)
 ·exact k.ba i (p.dec.line.lt e2).2 (fun e3 => p.bl i e3 e2) e
 ·exact k.ba i (p.dec.trs.lt e2).2 (fun e3 => p.bt i e3 e2) e
theorem byte_ten (c : UInt8) : (((c.toNat : Int)) == 10) = decide (c = 10) := by
 rw [show (10 : Int) = ((10 : UInt8).toNat : Int) from rfl, byte_eqI, Bool.eq_iff_iff]; simp
theorem byte_cr (c : UInt8) : (((c.toNat : Int)) == 13) = decide (c = 13) := by
 rw [show (13 : Int) = ((13 : UInt8).toNat : Int) from rfl, byte_eqI, Bool.eq_iff_iff]; simp
def restLen (h : Nat) (w : World) : Nat := match w.cell? ⟨h, 0, none⟩ with | some (.slice _ n _) => n | _ => 0
theorem DP.restLen {w : World} {base g h : Nat} {A : Nat -> Prop} {lv tv rv bv : Value} {d : Dz} {rest body : List UInt8} (p : DP w base A g h lv tv rv bv d rest body) : restLen h w = rest.length := by
 obtain ⟨a, c, he, _, _⟩ := p.pce.rest
 unfold Go.Proofs.YtecjlcjaccijpaaGreatDoor.restLen
 rw [p.pce.cell 0]
 subst he
 rfl
theorem MX.dk {w w' : World} {base g h : Nat} {A : Nat -> Prop} {lv tv rv bv lv' tv' bv' : Value} {d : Dz} {rest body : List UInt8} (hm : MX w) (p : DP w base A g h lv tv rv bv d rest body) (hb : 3 <= base) (k : DK w w' g h lv tv bv lv' tv' bv') : MX w' := by
 obtain ⟨h0, m, hm⟩ := hm
 refine ⟨Nat.lt_of_lt_of_le h0 k.size, m, ?_⟩
 have e : w'.heap[1]? = w.heap[1]? := k.block 1 (by omega) (by have := p.dec.gb; omega) (by have := p.pce.hb; omega) (fun e => by have := (p.dec.line.lt e).1; omega) (fun e => by have := (p.dec.trs.lt e).1; omega) (fun e => by have := (p.pce.body.lt e).1; omega)
 unfold World.cell? at hm |-
 rw [show (⟨1, 0, none⟩ : Addr).block = 1 from rfl] at hm |-
 rw [e]
 exact hm
theorem Dec.cutl {w : World} {base g : Nat} {la : Option Addr} {n lc : Nat} {fv : Value} {d : Dz} (h : Dec w base g (.slice la n lc) fv d) :
  Dec (w.setCell ⟨g, 3, none⟩ (.slice la 0 lc)) base g (.slice la 0 lc) fv { d with line := [] } /\ PK w (w.setCell ⟨g, 3, none⟩ (.slice la 0 lc)) g (.slice la n lc) fv (.slice la 0 lc) fv := by
 have hk : Kept w w (.slice la n lc) (.slice la 0 lc) := by
  refine ⟨Nat.le_refl _, fun _ _ _ => rfl, fun k _ e => ?_⟩
  cases la with
  | none => exact e
  | some a => exact e
 refine ⟨(h.grow_l hk (l := []) h.line.cut0).2, ?_⟩
 have hs := PK.set w g 3 (.slice la 0 lc) (.slice la n lc) fv
 exact ⟨hs.os, hs.tape, hs.output, hs.size, hs.block, fun k hk2 e => hk.apart k hk2 e, fun _ _ e => e⟩
def StP (w : World) (base : Nat) (A : Nat -> Prop) (g h : Nat) (lv tv bv : Value) (d : Dz) (rest body : List UInt8) (e : Ending) (w' : World) : Prop :=
 ∃ (en k : Nat) (o : List UInt8) (d' : Dz) (lv' tv' rv' bv' : Value), e = .returned (.int .i64 (en : Int)) /\ Dn d rest k o en d' /\ FitD d' /\ (rest ≠ [] -> 1 <= k) /\ d'.wrong = d.wrong /\ DP w' base A g h lv' tv' rv' bv' d' (rest.drop k) (body ++ o) /\ DK w w' g h lv tv bv lv' tv' bv'
theorem wpList_append_is {ops : Array Oper} {rest : List Oper} {o : Oper} {a : Act} {Q : Exit -> Act -> World -> Prop} {W W' : World} (hgd : o.guard = none) (s x : Operand) (t : TypeId)
  (ho : o.op = .call { callee := .builtin .append, args := #[s, x], argTypes := #[t, t] }) (v src v' : Value) (hs : a.eval s = v) (hx : a.eval x = src)
  (hrun : (Builtin.append_ #[t, t] o.type #[v, src]).run Tryz.prog W = .ok v' W') (h : wpList Tryz.prog ops Q rest (a.put o.dst v') W') : wpList Tryz.prog ops Q (o :: rest) a W := by
 refine wpList_plain hgd fun K hK => ?_
 unfold Oper.wp execOp
 simp only [ho, resolve, invoke, builtin, Sem.run_bind, Sem.run_pure, Result.andThen_ok, List.map_toArray, List.map_cons, List.map_nil, hs, hx, hrun]
 exact hK _ _ h
theorem readLine_size {w : World} {base g h : Nat} {A : Nat -> Prop} {lv tv rv bv : Value} {d : Dz} {rest body : List UInt8} (p : DP w base A g h lv tv rv bv d rest body) (hf : FitD d) (hfn : d.fn = fnSize) (hw : d.whole = false) (hlf : d.fn = fnBody -> d.left = 0 ∨ rest = []) (hm : MX w) (hb : 3 <= base) (hl : rest.length <= 140737488355328) :
  Calls Tryz.prog 149 #[.pointer (some ⟨g, 0, none⟩), .pointer (some ⟨h, 0, none⟩), .int .i64 8192, .func (.func 150) #[.pointer (some ⟨g, 0, none⟩)] #[]] w (StP w base A g h lv tv bv d rest body) := by
 have HP := hide p
 have HF := hide hf
 have HM := hide hm
 have HLF := hide hlf
 have HFN := hide hfn
 have HW := hide hw
 clear p hf hm hlf hfn hw
 go_enter Tryz.func149, Tryz.ntmps149
 go_wp2_with fail
 go_loopw [9] (fun _ wr => ∃ (k : Nat) (d' : Dz) (lv' tv' rv' : Value), Hid (Dn d rest k [] 0 d') /\ Hid (FitD d') /\ Hid (d'.whole = false) /\ Hid (d'.fn = fnSize) /\ Hid (d'.left = d.left) /\ Hid (d'.wrong = d.wrong) /\ Hid (DP wr base A g h lv' tv' rv' bv d' (rest.drop k) body) /\ Hid (DK w wr g h lv tv bv lv' tv' bv)) (fun _ wr => restLen h wr)
 case atStart => exact ⟨0, d, lv, tv, rv, hide (Dn.refl d rest HW.out), HF, HW, HFN, hide rfl, hide rfl, by rw [List.drop_zero]; exact HP, hide (DK.refl _ _ _ _ _ _)⟩
 case round =>
  obtain ⟨k, d1, lv1, tv1, rv1, HD1, HF1, HW1, HFN1, HLE1, HWR1, HP1, HK1⟩ := hrel
  have HRL := hide HP1.out.restLen
  have HM1 := hide (HM.out.dk HP.out hb HK1.out)
  cases hrd : rest.drop k with
  | nil =>
   have HRD := hide hrd
   have hp1 := HP1.out
   rw [hrd] at hp1
   clear hrd
   obtain ⟨ra, rc, hre, _, _⟩ := hp1.pce.rest
   simp only [List.length_nil] at hre
   subst hre
   have c0 : wr.cell? ⟨h, 0, none⟩ = some (.slice ra 0 rc) := hp1.pce.cell 0
   clear hp1
   go_wp2_with fail
   go_ret
   exact ⟨0, k, [], d1, lv1, tv1, _, bv, rfl, HD1.out, HF1.out, fun hne => (by
    have := HRD.out
    have h2 := congrArg List.length this
    rw [List.length_drop, List.length_nil] at h2
    have h3 := List.length_pos_iff.2 hne
    omega), HWR1.out, by rw [List.append_nil]; exact HP1.out, HK1.out⟩
  | cons c r =>
   have hp1 := HP1.out
   rw [hrd] at hp1
   have HP1' := hide hp1
   have hrl : r.length <= 140737488355328 := by
    have h2 := congrArg List.length hrd
    rw [List.length_drop, List.length_cons] at h2
    omega
   obtain ⟨ra, rc, hre, _, _⟩ := hp1.pce.rest
   simp only [List.length_cons] at hre
   subst hre
   have c0 : wr.cell? ⟨h, 0, none⟩ = some (.slice ra (r.length + 1) rc) := hp1.pce.cell 0
   have hst := HD1.out.step HW1.out hrd
   have HST := hide hst.1
   have HDR := hide hst.2
   have HRL2 : Hid (restLen h wr = r.length + 1) := hide (by rw [HRL.out, hrd]; rfl)
   have hbd : ¬ (d1.fn = fnBody /\ 0 < d1.left) := fun hx => by
    rcases HLF.out (HFN.out.trans (HFN1.out.symm.trans hx.1)) with h3 | h3
    ·have := HLE1.out; omega
    ·rw [h3] at hrd; simp at hrd
   have HNF := hide (HF1.out.next c)
   have HNX := hide hp1.pce
   clear hp1 hst hrd HRL
   go_upto_region 4 with (go_at_call 156; refine (next_any HNX.out hrl).mono ?_; rintro e w2 ⟨rfl, rv2, hp2, hk2⟩)
   have HP2 := hide (HP1'.out.of_QK hp2 hk2)
   have HK2 := hide (HK1.out.trans (DK.of_QK lv1 tv1 hk2))
   clear hp2 hk2 c0 HNX HP1 HP1'
   have c4 := HP2.out.dec.cell 4
   rw [show (dcells d1 g lv1 tv1)[4]? = some (.bool d1.ending) from rfl] at c4
   have t10 := byte_ten c
   have t13 := byte_cr c
   unfold dNext at HST HNF
   rw [if_neg hbd] at HST HNF
   cases he : d1.ending with
   | true =>
    rw [he] at c4 HST HNF
    by_cases h10 : c = 10
    ·rw [decide_eq_true h10] at t10 HST HNF
     rw [if_neg (by simp), if_pos rfl] at HST HNF
     have HEN := hide he
     clear he t13 hbd
     obtain ⟨la, lc, hle, _, _⟩ := HP2.out.dec.line.shape
     rw [bc_len] at hle
     subst hle
     have HT := HP2.out.dec.line.text
     rw [show (⟨d1.line.toArray⟩ : ByteArray) = sS d1.line from rfl] at HT
     have hl8 := HF1.out.line
     have c3 := HP2.out.dec.cell 3
     rw [show (dcells d1 g (.slice la d1.line.length lc) tv1)[3]? = some (.slice la d1.line.length lc) from rfl] at c3
     have f3 := HP2.out.dec.froz 3
     have f4 := HP2.out.dec.froz 4
     go_upto_region 9 with fail
     obtain ⟨hP4, hK4⟩ := HP2.out.dec.cutl
     have HP4 := hide (hP4.set 4 (.bool false) { d1 with line := [], ending := false } rfl rfl rfl)
     have HK4 := hide (hK4.trans (PK.set _ g 4 (.bool false) (.slice la 0 lc) tv1))
     clear c3 c4 f3 f4 HT hP4 hK4
     generalize (w2.setCell ⟨g, 3, none⟩ (.slice la 0 lc)).setCell ⟨g, 4, none⟩ (.bool false) = w4 at HP4 HK4 |-
     have HDP4 := hide (HP2.out.of_PK HP4.out HK4.out)
     have HDK4 := hide (HK2.out.trans (DK.of_PK (h := h) bv HK4.out))
     have HM4 := hide (HM.out.dk HP.out hb HDK4.out)
     have HDE : Hid (dEnd { d1 with line := [], ending := false } (sS d1.line) = dSized { d1 with line := [], ending := false } (sS d1.line)) := hide (by
      unfold dEnd
      rw [show ({ d1 with line := [], ending := false } : Dz).fn = fnSize from HFN1.out]
      rw [if_pos rfl])
     rw [HDE.out] at HST HNF
     have hs8 : (sS d1.line).size <= 8192 := by rw [sS_size]; exact hl8
     have hro := HF1.out.room
     have htr := HF1.out.tr
     have HL := hide (sized_any HP4.out HM4.out (sS d1.line) hs8 hro)
     clear hl8 hro htr
     have HWE : Hid ((dSized { d1 with line := [], ending := false } (sS d1.line)).2.wrong = d1.wrong) := hide (by unfold dSized; (repeat' split) <;> rfl)
     generalize dSized { d1 with line := [], ending := false } (sS d1.line) = R at HL HST HNF HWE
     obtain ⟨en, d5⟩ := R
     dsimp only at HL HST HNF HWE
     go_wp2_with (refine HL.out.mono ?_; rintro e w5 ⟨rfl, fv5, h5, k5⟩)
     go_ret
     exact ⟨en, k + 1, [], d5, _, _, _, bv, rfl, HST.out, HNF.out, fun _ => by omega, HWE.out.trans HWR1.out, by rw [List.append_nil, HDR.out]; exact HDP4.out.of_PK h5 k5, HDK4.out.trans (DK.of_PK bv k5)⟩
    ·rw [decide_eq_false h10] at t10 HST HNF
     rw [if_pos (by simp)] at HST HNF
     clear he t13 hbd
     go_wp2_with fail
     go_ret
     exact ⟨100, k + 1, [], d1, _, _, _, bv, rfl, HST.out, HF1.out, fun _ => by omega, HWR1.out, by rw [List.append_nil, HDR.out]; exact HP2.out, HK2.out⟩
   | false =>
    rw [he] at c4 HST HNF
    by_cases h10 : c = 10
    ·rw [decide_eq_true h10] at t10 HST HNF
     rw [if_pos (by simp)] at HST HNF
     clear he t13 hbd
     go_wp2_with fail
     go_ret
     exact ⟨100, k + 1, [], d1, _, _, _, bv, rfl, HST.out, HF1.out, fun _ => by omega, HWR1.out, by rw [List.append_nil, HDR.out]; exact HP2.out, HK2.out⟩
    ·rw [decide_eq_false h10] at t10 HST HNF
     rw [if_neg (by simp), if_neg (by simp)] at HST HNF
     clear hbd
     by_cases h13 : c = 13
     ·rw [decide_eq_true h13] at t13
      rw [if_pos h13] at HST HNF
      have f4 := HP2.out.dec.froz 4
      clear he
      go_wp2_with fail
      have HD3 := hide (HP2.out.dec.set 4 (.bool true) { d1 with ending := true } rfl rfl rfl)
      have HP3 := hide (HP2.out.of_PK HD3.out (PK.set w2 g 4 (.bool true) lv1 tv1))
      exact ⟨⟨k + 1, { d1 with ending := true }, lv1, tv1, rv2, HST, HNF, HW1, HFN1, HLE1, HWR1, hide (by rw [HDR.out]; exact HP3.out), hide (HK2.out.trans (DK.of_PK bv (PK.set w2 g 4 (.bool true) lv1 tv1)))⟩, by rw [HP3.out.restLen, HRL2.out]; omega⟩
     ·rw [decide_eq_false h13] at t13
      rw [if_neg h13] at HST HNF
      have hmo : dMost d1 = 8192 := by unfold dMost; rw [HFN1.out]; decide
      rw [hmo] at HST HNF
      have HEF := hide he
      clear he hmo
      obtain ⟨la, lc, hle, _, _⟩ := HP2.out.dec.line.shape
      rw [bc_len] at hle
      subst hle
      have c3 := HP2.out.dec.cell 3
      rw [show (dcells d1 g (.slice la d1.line.length lc) tv1)[3]? = some (.slice la d1.line.length lc) from rfl] at c3
      have f3 := HP2.out.dec.froz 3
      have hl8 := HF1.out.line
      by_cases h5 : d1.line.length = 8192
      ·have t5 : ((d1.line.length : Int) == 8192) = true := by simp [h5]
       rw [if_pos h5] at HST HNF
       clear h5
       go_wp2_with fail
       go_ret
       exact ⟨100, k + 1, [], d1, _, _, _, bv, rfl, HST.out, HF1.out, fun _ => by omega, HWR1.out, by rw [List.append_nil, HDR.out]; exact HP2.out, HK2.out⟩
      ·have t5 : ((d1.line.length : Int) == 8192) = false := by rw [beq_eq_false_iff_ne]; omega
       rw [if_neg h5] at HST HNF
       clear h5
       obtain ⟨ad, n, ca, W, hrun, q1, q2, hP, hK⟩ := HP2.out.dec.app_l 24 c (by omega)
       have HRUN := hide hrun
       have HP3 := hide (HP2.out.of_PK hP hK)
       have HK3 := hide (HK2.out.trans (DK.of_PK (h := h) bv hK))
       clear hP hK hrun
       go_wp2_with (at_builtin; apply Hid.out)
       unfold Hid
       refine wpList_append_is rfl _ _ 24 rfl (.slice la d1.line.length lc) (.slice (some ⟨w2.heap.size, 0, none⟩) 1 1) (.slice ad n ca) rfl rfl HRUN.out ?_
       go_wp2_with fail
       exact ⟨⟨k + 1, { d1 with line := d1.line ++ [c] }, _, tv1, rv2, hide (by have h := HST.out; rw [<- HEF.out] at h; exact h), hide (by have h := HNF.out; rw [<- HEF.out] at h; exact h), HW1, HFN1, HLE1, HWR1, hide (by rw [HDR.out]; exact HP3.out), HK3⟩, by rw [HP3.out.restLen, HRL2.out]; omega⟩
theorem readLine_body {w : World} {base g h : Nat} {A : Nat -> Prop} {lv tv rv bv : Value} {d : Dz} {rest body : List UInt8} (p : DP w base A g h lv tv rv bv d rest body) (hf : FitD d) (hfn : d.fn = fnBody) (hw : d.whole = false) (hlf : d.fn = fnBody -> d.left = 0 ∨ rest = []) (hm : MX w) (hb : 3 <= base) (hl : rest.length <= 140737488355328) :
  Calls Tryz.prog 149 #[.pointer (some ⟨g, 0, none⟩), .pointer (some ⟨h, 0, none⟩), .int .i64 0, .func (.func 164) #[.pointer (some ⟨g, 0, none⟩)] #[]] w (StP w base A g h lv tv bv d rest body) := by
 have HP := hide p
 have HF := hide hf
 have HM := hide hm
 have HLF := hide hlf
 have HFN := hide hfn
 have HW := hide hw
 clear p hf hm hlf hfn hw
 go_enter Tryz.func149, Tryz.ntmps149
 go_wp2_with fail
 go_loopw [9] (fun _ wr => ∃ (k : Nat) (d' : Dz) (lv' tv' rv' : Value), Hid (Dn d rest k [] 0 d') /\ Hid (FitD d') /\ Hid (d'.whole = false) /\ Hid (d'.fn = fnBody) /\ Hid (d'.left = d.left) /\ Hid (d'.wrong = d.wrong) /\ Hid (DP wr base A g h lv' tv' rv' bv d' (rest.drop k) body) /\ Hid (DK w wr g h lv tv bv lv' tv' bv)) (fun _ wr => restLen h wr)
 case atStart => exact ⟨0, d, lv, tv, rv, hide (Dn.refl d rest HW.out), HF, HW, HFN, hide rfl, hide rfl, by rw [List.drop_zero]; exact HP, hide (DK.refl _ _ _ _ _ _)⟩
 case round =>
  obtain ⟨k, d1, lv1, tv1, rv1, HD1, HF1, HW1, HFN1, HLE1, HWR1, HP1, HK1⟩ := hrel
  have HRL := hide HP1.out.restLen
  have HM1 := hide (HM.out.dk HP.out hb HK1.out)
  cases hrd : rest.drop k with
  | nil =>
   have HRD := hide hrd
   have hp1 := HP1.out
   rw [hrd] at hp1
   clear hrd
   obtain ⟨ra, rc, hre, _, _⟩ := hp1.pce.rest
   simp only [List.length_nil] at hre
   subst hre
   have c0 : wr.cell? ⟨h, 0, none⟩ = some (.slice ra 0 rc) := hp1.pce.cell 0
   clear hp1
   go_wp2_with fail
   go_ret
   exact ⟨0, k, [], d1, lv1, tv1, _, bv, rfl, HD1.out, HF1.out, fun hne => (by
    have := HRD.out
    have h2 := congrArg List.length this
    rw [List.length_drop, List.length_nil] at h2
    have h3 := List.length_pos_iff.2 hne
    omega), HWR1.out, by rw [List.append_nil]; exact HP1.out, HK1.out⟩
  | cons c r =>
   have hp1 := HP1.out
   rw [hrd] at hp1
   have HP1' := hide hp1
   have hrl : r.length <= 140737488355328 := by
    have h2 := congrArg List.length hrd
    rw [List.length_drop, List.length_cons] at h2
    omega
   obtain ⟨ra, rc, hre, _, _⟩ := hp1.pce.rest
   simp only [List.length_cons] at hre
   subst hre
   have c0 : wr.cell? ⟨h, 0, none⟩ = some (.slice ra (r.length + 1) rc) := hp1.pce.cell 0
   have hst := HD1.out.step HW1.out hrd
   have HST := hide hst.1
   have HDR := hide hst.2
   have HRL2 : Hid (restLen h wr = r.length + 1) := hide (by rw [HRL.out, hrd]; rfl)
   have hbd : ¬ (d1.fn = fnBody /\ 0 < d1.left) := fun hx => by
    rcases HLF.out (HFN.out.trans (HFN1.out.symm.trans hx.1)) with h3 | h3
    ·have := HLE1.out; omega
    ·rw [h3] at hrd; simp at hrd
   have HNF := hide (HF1.out.next c)
   have HNX := hide hp1.pce
   clear hp1 hst hrd HRL
   go_upto_region 4 with (go_at_call 156; refine (next_any HNX.out hrl).mono ?_; rintro e w2 ⟨rfl, rv2, hp2, hk2⟩)
   have HP2 := hide (HP1'.out.of_QK hp2 hk2)
   have HK2 := hide (HK1.out.trans (DK.of_QK lv1 tv1 hk2))
   clear hp2 hk2 c0 HNX HP1 HP1'
   have c4 := HP2.out.dec.cell 4
   rw [show (dcells d1 g lv1 tv1)[4]? = some (.bool d1.ending) from rfl] at c4
   have t10 := byte_ten c
   have t13 := byte_cr c
   unfold dNext at HST HNF
   rw [if_neg hbd] at HST HNF
   cases he : d1.ending with
   | true =>
    rw [he] at c4 HST HNF
    by_cases h10 : c = 10
    ·rw [decide_eq_true h10] at t10 HST HNF
     rw [if_neg (by simp), if_pos rfl] at HST HNF
     have HEN := hide he
     clear he t13 hbd
     obtain ⟨la, lc, hle, _, _⟩ := HP2.out.dec.line.shape
     rw [bc_len] at hle
     subst hle
     have HT := HP2.out.dec.line.text
     rw [show (⟨d1.line.toArray⟩ : ByteArray) = sS d1.line from rfl] at HT
     have hl8 := HF1.out.line
     have c3 := HP2.out.dec.cell 3
     rw [show (dcells d1 g (.slice la d1.line.length lc) tv1)[3]? = some (.slice la d1.line.length lc) from rfl] at c3
     have f3 := HP2.out.dec.froz 3
     have f4 := HP2.out.dec.froz 4
     go_upto_region 9 with fail
     obtain ⟨hP4, hK4⟩ := HP2.out.dec.cutl
     have HP4 := hide (hP4.set 4 (.bool false) { d1 with line := [], ending := false } rfl rfl rfl)
     have HK4 := hide (hK4.trans (PK.set _ g 4 (.bool false) (.slice la 0 lc) tv1))
     clear c3 c4 f3 f4 HT hP4 hK4
     generalize (w2.setCell ⟨g, 3, none⟩ (.slice la 0 lc)).setCell ⟨g, 4, none⟩ (.bool false) = w4 at HP4 HK4 |-
     have HDP4 := hide (HP2.out.of_PK HP4.out HK4.out)
     have HDK4 := hide (HK2.out.trans (DK.of_PK (h := h) bv HK4.out))
     have HM4 := hide (HM.out.dk HP.out hb HDK4.out)
     have HDE : Hid (dEnd { d1 with line := [], ending := false } (sS d1.line) = dRead { d1 with line := [], ending := false } (sS d1.line)) := hide (by
      unfold dEnd
      rw [show ({ d1 with line := [], ending := false } : Dz).fn = fnBody from HFN1.out]
      rw [if_neg (Ne.symm fn_ne.1), if_pos rfl])
     rw [HDE.out] at HST HNF
     have hs8 : (sS d1.line).size <= 8192 := by rw [sS_size]; exact hl8
     have hro := HF1.out.room
     have htr := HF1.out.tr
     have HL := hide (chunkRead_any HP4.out (sS d1.line))
     clear hl8 hro htr
     have HWE : Hid ((dRead { d1 with line := [], ending := false } (sS d1.line)).2.wrong = d1.wrong) := hide (by unfold dRead; (repeat' split) <;> rfl)
     generalize dRead { d1 with line := [], ending := false } (sS d1.line) = R at HL HST HNF HWE
     obtain ⟨en, d5⟩ := R
     dsimp only at HL HST HNF HWE
     go_wp2_with (refine HL.out.mono ?_; rintro e w5 ⟨rfl, fv5, h5, k5⟩)
     go_ret
     exact ⟨en, k + 1, [], d5, _, _, _, bv, rfl, HST.out, HNF.out, fun _ => by omega, HWE.out.trans HWR1.out, by rw [List.append_nil, HDR.out]; exact HDP4.out.of_PK h5 k5, HDK4.out.trans (DK.of_PK bv k5)⟩
    ·rw [decide_eq_false h10] at t10 HST HNF
     rw [if_pos (by simp)] at HST HNF
     clear he t13 hbd
     go_wp2_with fail
     go_ret
     exact ⟨100, k + 1, [], d1, _, _, _, bv, rfl, HST.out, HF1.out, fun _ => by omega, HWR1.out, by rw [List.append_nil, HDR.out]; exact HP2.out, HK2.out⟩
   | false =>
    rw [he] at c4 HST HNF
    by_cases h10 : c = 10
    ·rw [decide_eq_true h10] at t10 HST HNF
     rw [if_pos (by simp)] at HST HNF
     clear he t13 hbd
     go_wp2_with fail
     go_ret
     exact ⟨100, k + 1, [], d1, _, _, _, bv, rfl, HST.out, HF1.out, fun _ => by omega, HWR1.out, by rw [List.append_nil, HDR.out]; exact HP2.out, HK2.out⟩
    ·rw [decide_eq_false h10] at t10 HST HNF
     rw [if_neg (by simp), if_neg (by simp)] at HST HNF
     clear hbd
     by_cases h13 : c = 13
     ·rw [decide_eq_true h13] at t13
      rw [if_pos h13] at HST HNF
      have f4 := HP2.out.dec.froz 4
      clear he
      go_wp2_with fail
      have HD3 := hide (HP2.out.dec.set 4 (.bool true) { d1 with ending := true } rfl rfl rfl)
      have HP3 := hide (HP2.out.of_PK HD3.out (PK.set w2 g 4 (.bool true) lv1 tv1))
      exact ⟨⟨k + 1, { d1 with ending := true }, lv1, tv1, rv2, HST, HNF, HW1, HFN1, HLE1, HWR1, hide (by rw [HDR.out]; exact HP3.out), hide (HK2.out.trans (DK.of_PK bv (PK.set w2 g 4 (.bool true) lv1 tv1)))⟩, by rw [HP3.out.restLen, HRL2.out]; omega⟩
     ·rw [decide_eq_false h13] at t13
      rw [if_neg h13] at HST HNF
      have hmo : dMost d1 = 0 := by unfold dMost; rw [HFN1.out]; rfl
      rw [hmo] at HST HNF
      have HEF := hide he
      clear he hmo
      obtain ⟨la, lc, hle, _, _⟩ := HP2.out.dec.line.shape
      rw [bc_len] at hle
      subst hle
      have c3 := HP2.out.dec.cell 3
      rw [show (dcells d1 g (.slice la d1.line.length lc) tv1)[3]? = some (.slice la d1.line.length lc) from rfl] at c3
      have f3 := HP2.out.dec.froz 3
      have hl8 := HF1.out.line
      by_cases h5 : d1.line.length = 0
      ·have t5 : ((d1.line.length : Int) == 0) = true := by simp [h5]
       rw [if_pos h5] at HST HNF
       clear h5
       go_wp2_with fail
       go_ret
       exact ⟨100, k + 1, [], d1, _, _, _, bv, rfl, HST.out, HF1.out, fun _ => by omega, HWR1.out, by rw [List.append_nil, HDR.out]; exact HP2.out, HK2.out⟩
      ·have t5 : ((d1.line.length : Int) == 0) = false := by rw [beq_eq_false_iff_ne]; omega
       rw [if_neg h5] at HST HNF
       clear h5
       obtain ⟨ad, n, ca, W, hrun, q1, q2, hP, hK⟩ := HP2.out.dec.app_l 24 c (by omega)
       have HRUN := hide hrun
       have HP3 := hide (HP2.out.of_PK hP hK)
       have HK3 := hide (HK2.out.trans (DK.of_PK (h := h) bv hK))
       clear hP hK hrun
       go_wp2_with (at_builtin; apply Hid.out)
       unfold Hid
       refine wpList_append_is rfl _ _ 24 rfl (.slice la d1.line.length lc) (.slice (some ⟨w2.heap.size, 0, none⟩) 1 1) (.slice ad n ca) rfl rfl HRUN.out ?_
       go_wp2_with fail
       exact ⟨⟨k + 1, { d1 with line := d1.line ++ [c] }, _, tv1, rv2, hide (by have h := HST.out; rw [<- HEF.out] at h; exact h), hide (by have h := HNF.out; rw [<- HEF.out] at h; exact h), HW1, HFN1, HLE1, HWR1, hide (by rw [HDR.out]; exact HP3.out), HK3⟩, by rw [HP3.out.restLen, HRL2.out]; omega⟩
theorem readLine_trl {w : World} {base g h : Nat} {A : Nat -> Prop} {lv tv rv bv : Value} {d : Dz} {rest body : List UInt8} (p : DP w base A g h lv tv rv bv d rest body) (hf : FitD d) (hfn : d.fn = fnTrl) (hw : d.whole = false) (hlf : d.fn = fnBody -> d.left = 0 ∨ rest = []) (hm : MX w) (hb : 3 <= base) (hl : rest.length <= 140737488355328) :
  Calls Tryz.prog 149 #[.pointer (some ⟨g, 0, none⟩), .pointer (some ⟨h, 0, none⟩), .int .i64 8192, .func (.func 165) #[.pointer (some ⟨g, 0, none⟩)] #[]] w (StP w base A g h lv tv bv d rest body) := by
 have HP := hide p
 have HF := hide hf
 have HM := hide hm
 have HLF := hide hlf
 have HFN := hide hfn
 have HW := hide hw
 clear p hf hm hlf hfn hw
 go_enter Tryz.func149, Tryz.ntmps149
 go_wp2_with fail
 go_loopw [9] (fun _ wr => ∃ (k : Nat) (d' : Dz) (lv' tv' rv' : Value), Hid (Dn d rest k [] 0 d') /\ Hid (FitD d') /\ Hid (d'.whole = false) /\ Hid (d'.fn = fnTrl) /\ Hid (d'.left = d.left) /\ Hid (d'.wrong = d.wrong) /\ Hid (DP wr base A g h lv' tv' rv' bv d' (rest.drop k) body) /\ Hid (DK w wr g h lv tv bv lv' tv' bv)) (fun _ wr => restLen h wr)
 case atStart => exact ⟨0, d, lv, tv, rv, hide (Dn.refl d rest HW.out), HF, HW, HFN, hide rfl, hide rfl, by rw [List.drop_zero]; exact HP, hide (DK.refl _ _ _ _ _ _)⟩
 case round =>
  obtain ⟨k, d1, lv1, tv1, rv1, HD1, HF1, HW1, HFN1, HLE1, HWR1, HP1, HK1⟩ := hrel
  have HRL := hide HP1.out.restLen
  have HM1 := hide (HM.out.dk HP.out hb HK1.out)
  cases hrd : rest.drop k with
  | nil =>
   have HRD := hide hrd
   have hp1 := HP1.out
   rw [hrd] at hp1
   clear hrd
   obtain ⟨ra, rc, hre, _, _⟩ := hp1.pce.rest
   simp only [List.length_nil] at hre
   subst hre
   have c0 : wr.cell? ⟨h, 0, none⟩ = some (.slice ra 0 rc) := hp1.pce.cell 0
   clear hp1
   go_wp2_with fail
   go_ret
   exact ⟨0, k, [], d1, lv1, tv1, _, bv, rfl, HD1.out, HF1.out, fun hne => (by
    have := HRD.out
    have h2 := congrArg List.length this
    rw [List.length_drop, List.length_nil] at h2
    have h3 := List.length_pos_iff.2 hne
    omega), HWR1.out, by rw [List.append_nil]; exact HP1.out, HK1.out⟩
  | cons c r =>
   have hp1 := HP1.out
   rw [hrd] at hp1
   have HP1' := hide hp1
   have hrl : r.length <= 140737488355328 := by
    have h2 := congrArg List.length hrd
    rw [List.length_drop, List.length_cons] at h2
    omega
   obtain ⟨ra, rc, hre, _, _⟩ := hp1.pce.rest
   simp only [List.length_cons] at hre
   subst hre
   have c0 : wr.cell? ⟨h, 0, none⟩ = some (.slice ra (r.length + 1) rc) := hp1.pce.cell 0
   have hst := HD1.out.step HW1.out hrd
   have HST := hide hst.1
   have HDR := hide hst.2
   have HRL2 : Hid (restLen h wr = r.length + 1) := hide (by rw [HRL.out, hrd]; rfl)
   have hbd : ¬ (d1.fn = fnBody /\ 0 < d1.left) := fun hx => by
    rcases HLF.out (HFN.out.trans (HFN1.out.symm.trans hx.1)) with h3 | h3
    ·have := HLE1.out; omega
    ·rw [h3] at hrd; simp at hrd
   have HNF := hide (HF1.out.next c)
   have HNX := hide hp1.pce
   clear hp1 hst hrd HRL
   go_upto_region 4 with (go_at_call 156; refine (next_any HNX.out hrl).mono ?_; rintro e w2 ⟨rfl, rv2, hp2, hk2⟩)
   have HP2 := hide (HP1'.out.of_QK hp2 hk2)
   have HK2 := hide (HK1.out.trans (DK.of_QK lv1 tv1 hk2))
   clear hp2 hk2 c0 HNX HP1 HP1'
   have c4 := HP2.out.dec.cell 4
   rw [show (dcells d1 g lv1 tv1)[4]? = some (.bool d1.ending) from rfl] at c4
   have t10 := byte_ten c
   have t13 := byte_cr c
   unfold dNext at HST HNF
   rw [if_neg hbd] at HST HNF
   cases he : d1.ending with
   | true =>
    rw [he] at c4 HST HNF
    by_cases h10 : c = 10
    ·rw [decide_eq_true h10] at t10 HST HNF
     rw [if_neg (by simp), if_pos rfl] at HST HNF
     have HEN := hide he
     clear he t13 hbd
     obtain ⟨la, lc, hle, _, _⟩ := HP2.out.dec.line.shape
     rw [bc_len] at hle
     subst hle
     have HT := HP2.out.dec.line.text
     rw [show (⟨d1.line.toArray⟩ : ByteArray) = sS d1.line from rfl] at HT
     have hl8 := HF1.out.line
     have c3 := HP2.out.dec.cell 3
     rw [show (dcells d1 g (.slice la d1.line.length lc) tv1)[3]? = some (.slice la d1.line.length lc) from rfl] at c3
     have f3 := HP2.out.dec.froz 3
     have f4 := HP2.out.dec.froz 4
     go_upto_region 9 with fail
     obtain ⟨hP4, hK4⟩ := HP2.out.dec.cutl
     have HP4 := hide (hP4.set 4 (.bool false) { d1 with line := [], ending := false } rfl rfl rfl)
     have HK4 := hide (hK4.trans (PK.set _ g 4 (.bool false) (.slice la 0 lc) tv1))
     clear c3 c4 f3 f4 HT hP4 hK4
     generalize (w2.setCell ⟨g, 3, none⟩ (.slice la 0 lc)).setCell ⟨g, 4, none⟩ (.bool false) = w4 at HP4 HK4 |-
     have HDP4 := hide (HP2.out.of_PK HP4.out HK4.out)
     have HDK4 := hide (HK2.out.trans (DK.of_PK (h := h) bv HK4.out))
     have HM4 := hide (HM.out.dk HP.out hb HDK4.out)
     have HDE : Hid (dEnd { d1 with line := [], ending := false } (sS d1.line) = dTrl { d1 with line := [], ending := false } (sS d1.line)) := hide (by
      unfold dEnd
      rw [show ({ d1 with line := [], ending := false } : Dz).fn = fnTrl from HFN1.out]
      rw [if_neg (Ne.symm fn_ne.2.1), if_neg (Ne.symm fn_ne.2.2)])
     rw [HDE.out] at HST HNF
     have hs8 : (sS d1.line).size <= 8192 := by rw [sS_size]; exact hl8
     have hro := HF1.out.room
     have htr := HF1.out.tr
     have HL := hide (trailer_any HP4.out HM4.out (sS d1.line) hs8 htr)
     clear hl8 hro htr
     have HWE : Hid ((dTrl { d1 with line := [], ending := false } (sS d1.line)).2.wrong = d1.wrong) := hide (by unfold dTrl; (repeat' split) <;> rfl)
     generalize dTrl { d1 with line := [], ending := false } (sS d1.line) = R at HL HST HNF HWE
     obtain ⟨en, d5⟩ := R
     dsimp only at HL HST HNF HWE
     go_wp2_with (refine HL.out.mono ?_; rintro e w5 ⟨rfl, fv5, h5, k5⟩)
     go_ret
     exact ⟨en, k + 1, [], d5, _, _, _, bv, rfl, HST.out, HNF.out, fun _ => by omega, HWE.out.trans HWR1.out, by rw [List.append_nil, HDR.out]; exact HDP4.out.of_PK h5 k5, HDK4.out.trans (DK.of_PK bv k5)⟩
    ·rw [decide_eq_false h10] at t10 HST HNF
     rw [if_pos (by simp)] at HST HNF
     clear he t13 hbd
     go_wp2_with fail
     go_ret
     exact ⟨100, k + 1, [], d1, _, _, _, bv, rfl, HST.out, HF1.out, fun _ => by omega, HWR1.out, by rw [List.append_nil, HDR.out]; exact HP2.out, HK2.out⟩
   | false =>
    rw [he] at c4 HST HNF
    by_cases h10 : c = 10
    ·rw [decide_eq_true h10] at t10 HST HNF
     rw [if_pos (by simp)] at HST HNF
     clear he t13 hbd
     go_wp2_with fail
     go_ret
     exact ⟨100, k + 1, [], d1, _, _, _, bv, rfl, HST.out, HF1.out, fun _ => by omega, HWR1.out, by rw [List.append_nil, HDR.out]; exact HP2.out, HK2.out⟩
    ·rw [decide_eq_false h10] at t10 HST HNF
     rw [if_neg (by simp), if_neg (by simp)] at HST HNF
     clear hbd
     by_cases h13 : c = 13
     ·rw [decide_eq_true h13] at t13
      rw [if_pos h13] at HST HNF
      have f4 := HP2.out.dec.froz 4
      clear he
      go_wp2_with fail
      have HD3 := hide (HP2.out.dec.set 4 (.bool true) { d1 with ending := true } rfl rfl rfl)
      have HP3 := hide (HP2.out.of_PK HD3.out (PK.set w2 g 4 (.bool true) lv1 tv1))
      exact ⟨⟨k + 1, { d1 with ending := true }, lv1, tv1, rv2, HST, HNF, HW1, HFN1, HLE1, HWR1, hide (by rw [HDR.out]; exact HP3.out), hide (HK2.out.trans (DK.of_PK bv (PK.set w2 g 4 (.bool true) lv1 tv1)))⟩, by rw [HP3.out.restLen, HRL2.out]; omega⟩
     ·rw [decide_eq_false h13] at t13
      rw [if_neg h13] at HST HNF
      have hmo : dMost d1 = 8192 := by unfold dMost; rw [HFN1.out]; decide
      rw [hmo] at HST HNF
      have HEF := hide he
      clear he hmo
      obtain ⟨la, lc, hle, _, _⟩ := HP2.out.dec.line.shape
      rw [bc_len] at hle
      subst hle
      have c3 := HP2.out.dec.cell 3
      rw [show (dcells d1 g (.slice la d1.line.length lc) tv1)[3]? = some (.slice la d1.line.length lc) from rfl] at c3
      have f3 := HP2.out.dec.froz 3
      have hl8 := HF1.out.line
      by_cases h5 : d1.line.length = 8192
      ·have t5 : ((d1.line.length : Int) == 8192) = true := by simp [h5]
       rw [if_pos h5] at HST HNF
       clear h5
       go_wp2_with fail
       go_ret
       exact ⟨100, k + 1, [], d1, _, _, _, bv, rfl, HST.out, HF1.out, fun _ => by omega, HWR1.out, by rw [List.append_nil, HDR.out]; exact HP2.out, HK2.out⟩
      ·have t5 : ((d1.line.length : Int) == 8192) = false := by rw [beq_eq_false_iff_ne]; omega
       rw [if_neg h5] at HST HNF
       clear h5
       obtain ⟨ad, n, ca, W, hrun, q1, q2, hP, hK⟩ := HP2.out.dec.app_l 24 c (by omega)
       have HRUN := hide hrun
       have HP3 := hide (HP2.out.of_PK hP hK)
       have HK3 := hide (HK2.out.trans (DK.of_PK (h := h) bv hK))
       clear hP hK hrun
       go_wp2_with (at_builtin; apply Hid.out)
       unfold Hid
       refine wpList_append_is rfl _ _ 24 rfl (.slice la d1.line.length lc) (.slice (some ⟨w2.heap.size, 0, none⟩) 1 1) (.slice ad n ca) rfl rfl HRUN.out ?_
       go_wp2_with fail
       exact ⟨⟨k + 1, { d1 with line := d1.line ++ [c] }, _, tv1, rv2, hide (by have h := HST.out; rw [<- HEF.out] at h; exact h), hide (by have h := HNF.out; rw [<- HEF.out] at h; exact h), HW1, HFN1, HLE1, HWR1, hide (by rw [HDR.out]; exact HP3.out), HK3⟩, by rw [HP3.out.restLen, HRL2.out]; omega⟩
theorem sizeLine_any {w : World} {base g h : Nat} {A : Nat -> Prop} {lv tv rv bv : Value} {d : Dz} {rest body : List UInt8} (p : DP w base A g h lv tv rv bv d rest body) (hf : FitD d) (hfn : d.fn = fnSize) (hw : d.whole = false) (hm : MX w) (hb : 3 <= base) (hl : rest.length <= 140737488355328) :
  Calls Tryz.prog 139 #[.pointer (some ⟨g, 0, none⟩), .pointer (some ⟨h, 0, none⟩)] w (StP w base A g h lv tv bv d rest body) := by
 have HL := hide (readLine_size p hf hfn hw (fun e => absurd (hfn.symm.trans e) fn_ne.1) hm hb hl)
 clear p hf hfn hw hm hb hl
 go_enter Tryz.func139, Tryz.ntmps139
 go_wp2_with fail
 refine HL.out.mono ?_
 rintro e w' ⟨en, k, o, d', lv', tv', rv', bv', rfl, h1, h2, h3, h4, h5, h6⟩
 have H := hide (And.intro h1 (And.intro h2 (And.intro h3 (And.intro h4 (And.intro h5 h6)))))
 clear h1 h2 h3 h4 h5 h6
 go_wp2_with fail
 go_ret
 exact ⟨en, k, o, d', lv', tv', rv', bv', rfl, H.out⟩
theorem trailerLine_any {w : World} {base g h : Nat} {A : Nat -> Prop} {lv tv rv bv : Value} {d : Dz} {rest body : List UInt8} (p : DP w base A g h lv tv rv bv d rest body) (hf : FitD d) (hfn : d.fn = fnTrl) (hw : d.whole = false) (hm : MX w) (hb : 3 <= base) (hl : rest.length <= 140737488355328) :
  Calls Tryz.prog 160 #[.pointer (some ⟨g, 0, none⟩), .pointer (some ⟨h, 0, none⟩)] w (StP w base A g h lv tv bv d rest body) := by
 have HL := hide (readLine_trl p hf hfn hw (fun e => absurd (e.symm.trans hfn) fn_ne.2.2) hm hb hl)
 clear p hf hfn hw hm hb hl
 go_enter Tryz.func160, Tryz.ntmps160
 go_wp2_with fail
 refine HL.out.mono ?_
 rintro e w' ⟨en, k, o, d', lv', tv', rv', bv', rfl, h1, h2, h3, h4, h5, h6⟩
 have H := hide (And.intro h1 (And.intro h2 (And.intro h3 (And.intro h4 (And.intro h5 h6)))))
 clear h1 h2 h3 h4 h5 h6
 go_wp2_with fail
 go_ret
 exact ⟨en, k, o, d', lv', tv', rv', bv', rfl, H.out⟩
theorem DP.below {w w' : World} {base g h : Nat} {A : Nat -> Prop} {lv tv rv bv : Value} {d : Dz} {rest body : List UInt8} (p : DP w base A g h lv tv rv bv d rest body) (b : Below w.heap.size w w') : DP w' base A g h lv tv rv bv d rest body :=
 ⟨p.dec.below b, p.pce.below b, p.gh, p.lh, p.th, p.bg, p.bl, p.bt, p.gA, p.lA, p.tA⟩
theorem DK.of_below {w w' : World} (g h : Nat) (lv tv bv : Value) (b : Below w.heap.size w w') : DK w w' g h lv tv bv lv tv bv :=
 ⟨b.os, b.tape, b.output, b.size, fun k hk _ _ _ _ _ => b.block k hk, fun _ _ h => h, fun _ _ h => h, fun _ _ h => h⟩
theorem StP.after {w w1 : World} {base g h : Nat} {A : Nat -> Prop} {lv tv bv lv1 tv1 bv1 : Value} {d : Dz} {rest body : List UInt8} {n : Nat} (hn : n <= rest.length) (hw : d.whole = false) (hk : DK w w1 g h lv tv bv lv1 tv1 bv1) (hT : Dn d rest n (rest.take n) 0 { d with left := d.left - n }) (h0 : rest.drop n = [] -> 1 <= n ∨ rest = []) {e : Ending} {w' : World} (hs : StP w1 base A g h lv1 tv1 bv1 { d with left := d.left - n } (rest.drop n) (body ++ rest.take n) e w') : StP w base A g h lv tv bv d rest body e w' := by
 obtain ⟨en, k, o, d', lv', tv', rv', bv', h1, h2, h3, h4, h5, h6, h7⟩ := hs
 refine ⟨en, n + k, rest.take n ++ o, d', lv', tv', rv', bv', h1, ?_, h3, fun hne => ?_, h5, ?_, hk.trans h7⟩
 ·obtain ⟨a1, a2⟩ := hT
  obtain ⟨b1, b2⟩ := h2
  rw [if_neg (by simp [hw])] at a2
  rw [List.length_drop] at b1
  refine ⟨by omega, ?_⟩
  split at b2
  ·rename_i hx
   rw [if_pos hx, a2, b2]
   simp [sh, Nat.add_comm]
  ·rename_i hx
   rw [if_neg hx, a2, b2, List.drop_drop, sh_sh, Nat.add_comm k n]
 ·by_cases hd : rest.drop n = []
  ·rcases h0 hd with h8 | h8
   ·omega
   ·exact absurd h8 hne
  ·have := h4 hd; omega
 ·rw [<- List.append_assoc, <- List.drop_drop]
  exact h6
theorem body_any {w : World} {base g h : Nat} {A : Nat -> Prop} {lv tv rv bv : Value} {d : Dz} {rest body : List UInt8} (p : DP w base A g h lv tv rv bv d rest body) (hf : FitD d) (hfn : d.fn = fnBody) (hw : d.whole = false) (h0 : rest ≠ []) (hm : MX w) (hb : 3 <= base) (hl : rest.length + body.length <= 140737488355328) :
  Calls Tryz.prog 159 #[.pointer (some ⟨g, 0, none⟩), .pointer (some ⟨h, 0, none⟩)] w (StP w base A g h lv tv bv d rest body) := by
 have HP := hide p
 have HF := hide hf
 have HFN := hide hfn
 have HW := hide hw
 have HM := hide hm
 have hleft := hf.left
 have BD := hide ((Below.refl w.heap.size w).drew)
 have HPD := hide (p.below BD.out)
 have HKD := hide (DK.of_below g h lv tv bv BD.out)
 have hbs : base <= w.heap.size := Nat.le_of_lt (Nat.lt_of_le_of_lt p.dec.gb p.dec.lt)
 have HTK : Hid (Calls Tryz.prog 163 #[.pointer (some ⟨h, 0, none⟩), .int .i64 (d.left : Int)] w.drew fun e w' => ∃ r, e = .returned r /\ (r = .int .i64 ((min d.left rest.length : Nat) : Int) /\ ∃ rv' bv', Hid (DP w' base A g h lv tv rv' bv' d (rest.drop (min d.left rest.length)) (body ++ rest.take (min d.left rest.length))) /\ Hid (DK w w' g h lv tv bv lv tv bv') /\ w'.cell? ⟨g, 2, none⟩ = some (.int .i64 (d.left : Int)) /\ w'.frozen? ⟨g, 2, none⟩ = false)) := hide (by
  refine (take_any HPD.out.pce hbs d.left h0 hl hleft).mono ?_
  rintro e w' ⟨rfl, rv', bv', hp, hk⟩
  have hq := HPD.out.of_QK hp hk
  exact ⟨_, rfl, rfl, rv', bv', hide hq, hide (HKD.out.trans (DK.of_QK lv tv hk)), hq.dec.cell 2, hq.dec.froz 2⟩)
 have c2 : w.cell? ⟨g, 2, none⟩ = some (.int .i64 (d.left : Int)) := p.dec.cell 2
 have HDN := hide (Dn.takes (d0 := d) (l := rest) (min d.left rest.length) (Dn.refl d rest hw) hw hfn (by omega) (by rw [List.drop_zero]; omega))
 rw [List.drop_zero, List.nil_append, Nat.zero_add] at HDN
 obtain ⟨n, hn⟩ : ∃ n, min d.left rest.length = n := ⟨_, rfl⟩
 have hn1 : n <= d.left := by omega
 have hn2 : n <= rest.length := by omega
 have hn3 : n = d.left ∨ n = rest.length := by omega
 rw [hn] at HTK HDN
 clear p hf hfn hw hm hn
 have i1 : (d.left : Int) - (n : Int) = ((d.left - n : Nat) : Int) := by omega
 have wr : IntKind.i64.wrap ((d.left - n : Nat) : Int) = ((d.left - n : Nat) : Int) := IntWalk.i64_in _ ⟨by omega, by omega⟩
 go_enter Tryz.func159, Tryz.ntmps159
 go_upto_region 1 with fail
 go_region_law (refine step_call rfl 163 _ _ rfl (enters_of Tryz.func163 (by kernel_rfl) rfl) #[.pointer (some ⟨h, 0, none⟩), .int .i64 (d.left : Int)] (by simp [Act.eval]) _ HTK.out ?_; rintro r w2 ⟨rfl, rv2, bv2, HP2, HK2, e2, f2⟩)
 all_goals (have HD3 := hide (HP2.out.dec.set 2 (.int .i64 ((d.left - n : Nat) : Int)) { d with left := d.left - n } rfl rfl rfl))
 all_goals (have HP3 := hide (HP2.out.of_PK HD3.out (PK.set w2 g 2 (.int .i64 ((d.left - n : Nat) : Int)) lv tv)))
 all_goals (have HK3 := hide (HK2.out.trans (DK.of_PK (h := h) bv2 (PK.set w2 g 2 (.int .i64 ((d.left - n : Nat) : Int)) lv tv))))
 all_goals (clear HD3 HP2 HK2 e2 f2 c2)
 all_goals (generalize w2.setCell ⟨g, 2, none⟩ (.int .i64 ((d.left - n : Nat) : Int)) = w3 at HP3 HK3 |-)
 all_goals (have HM3 := hide (HM.out.dk HP.out hb HK3.out))
 all_goals (have HL := hide (readLine_body HP3.out ⟨HF.out.fn, HF.out.room, (by show d.left - n <= _; omega), HF.out.line, HF.out.tr, HF.out.bd⟩ HFN.out HW.out (fun _ => (by
  rcases hn3 with h5 | h5
  ·left; show d.left - n = 0; omega
  ·right; exact List.drop_of_length_le (by omega))) HM3.out hb (by rw [List.length_drop]; omega)))
 all_goals (go_wp2_with fail)
 all_goals (refine HL.out.mono ?_)
 all_goals (rintro e w' ⟨en, k, o, d', lv', tv', rv', bv', rfl, h1, h2, h3, h4, h5, h6⟩)
 all_goals (have HS : Hid (StP w3 base A g h lv tv bv2 { d with left := d.left - n } (rest.drop n) (body ++ rest.take n) (.returned (.int .i64 (en : Int))) w') := hide ⟨en, k, o, d', lv', tv', rv', bv', rfl, h1, h2, h3, h4, h5, h6⟩)
 all_goals (clear h1 h2 h3 h4 h5 h6 HL)
 all_goals (go_wp2_with fail)
 all_goals go_ret
 all_goals exact StP.after hn2 HW.out HK3.out HDN.out (fun hd => (by
  have h7 := congrArg List.length hd
  rw [List.length_drop, List.length_nil] at h7
  have h8 := List.length_pos_iff.2 h0
  left; omega)) HS.out
def dNew (most : Nat) : Dz := ⟨fnSize, most, 0, [], false, [], false, 0⟩
theorem fit_dnew (most : Nat) (h : most <= 9007199254740992) : FitD (dNew most) := ⟨.inl rfl, h, Nat.zero_le _, Nat.zero_le _, Nat.zero_le _, fun _ => rfl⟩
def overB (d : Dz) : Bool := d.whole || decide (d.wrong ≠ 0)
def dForget (d : Dz) : Dz := { d with line := if overB d then [] else d.line, tr := if d.wrong = 0 then d.tr else [] }
theorem dec_new {W : World} {base g : Nat} (d : Dz) (h : W.heap[g]? = some (.cells (dcells d g (.slice none 0 0) (.slice none 0 0)) 213 (0, 0))) (hb : base <= g) (hl : d.line = []) (hf : d.tr = []) : Dec W base g (.slice none 0 0) (.slice none 0 0) d := by
 refine ⟨h, ?_, ?_, hb, by simp [Value.ownBlock], by simp [Value.ownBlock], by intro k e; simp [Value.ownBlock] at e⟩
 ·rw [hl]; exact Row.nil _ _ _
 ·rw [hf]; exact FRow.nil _ _
theorem new_any (most : Nat) (w : World) (h2 : most <= 9007199254740992) :
  Calls Tryz.prog 126 #[.int .i64 (most : Int)] w fun e w' => e = .returned (.tuple #[.pointer (some ⟨w.heap.size, 0, none⟩), .int .i64 0]) /\ Dec w' w.heap.size w.heap.size (.slice none 0 0) (.slice none 0 0) (dNew most) /\ Below w.heap.size w w' := by
 have t1 : ¬ (most : Int) < 0 := by omega
 have t2 : ¬ (9007199254740992 : Int) < (most : Int) := by omega
 go_enter Tryz.func126, Tryz.ntmps126
 go_upto_region 4 with fail
 have HB := hide ((Below.refl w.heap.size w).alloc (Nat.le_refl _) (.cells #[.nilFunc, .int .i64 (most : Int), .int .i64 0, .slice none 0 0, .bool false, .slice none 0 0, .bool false, .int .i64 0] 213))
 have HD := hide (hp_new w (.cells #[.nilFunc, .int .i64 (most : Int), .int .i64 0, .slice none 0 0, .bool false, .slice none 0 0, .bool false, .int .i64 0] 213))
 generalize w.alloc (.cells #[.nilFunc, .int .i64 (most : Int), .int .i64 0, .slice none 0 0, .bool false, .slice none 0 0, .bool false, .int .i64 0] 213) = x at HB HD |-
 have d0 : x.cell? ⟨w.heap.size, 0, none⟩ = some .nilFunc := cell_at HD.out 0
 have f0 : x.frozen? ⟨w.heap.size, 0, none⟩ = false := by rw [frozen_at HD.out]; simp
 go_wp2_with fail
 go_ret2
 exact ⟨rfl, dec_new (dNew most) (hp_set HD.out 0 (stV fnSize w.heap.size)) (Nat.le_refl _) rfl rfl, HB.out.setCell (p := ⟨w.heap.size, 0, none⟩) (Nat.le_refl _) (stV fnSize w.heap.size)⟩
theorem over_any {w : World} {base g : Nat} {lv tv : Value} {d : Dz} (h : Dec w base g lv tv d) : Calls Tryz.prog 209 #[.pointer (some ⟨g, 0, none⟩)] w fun e w' => e = .returned (.bool (overB d)) /\ w = w' := by
 have c6 : w.cell? ⟨g, 6, none⟩ = some (.bool d.whole) := h.cell 6
 have c7 : w.cell? ⟨g, 7, none⟩ = some (.int .i64 (d.wrong : Int)) := h.cell 7
 clear h
 obtain ⟨O, hO⟩ : ∃ O, overB d = O := ⟨_, rfl⟩
 rw [hO]
 unfold overB at hO
 have HO := hide hO
 clear hO
 cases hw : d.whole with
 | true =>
  rw [hw] at c6
  have HW := hide hw
  clear hw
  go_enter Tryz.func209, Tryz.ntmps209
  go_wp2
  go_ret
  exact ⟨ret_bool (by rw [<- HO.out, HW.out]; rfl), rfl⟩
 | false =>
  rw [hw] at c6
  have HW := hide hw
  clear hw
  by_cases h1 : d.wrong = 0
  ·have t1 : ((d.wrong : Int) != 0) = false := by rw [bne_eq_false_iff_eq]; omega
   have H1 := hide h1
   clear h1
   go_enter Tryz.func209, Tryz.ntmps209
   go_wp2
   go_ret
   exact ⟨ret_bool (by rw [<- HO.out, HW.out, H1.out]; rfl), rfl⟩
  ·have t1 : ((d.wrong : Int) != 0) = true := bne_iff_ne.2 (by omega)
   have H1 := hide h1
   clear h1
   go_enter Tryz.func209, Tryz.ntmps209
   go_wp2
   go_ret
   exact ⟨ret_bool (by rw [<- HO.out, HW.out]; simp [H1.out]), rfl⟩
theorem Dec.nilL {w : World} {base g : Nat} {lv fv : Value} {d : Dz} (h : Dec w base g lv fv d) : Dec (w.setCell ⟨g, 3, none⟩ (.slice none 0 0)) base g (.slice none 0 0) fv { d with line := [] } := by
 refine ⟨hp_set h.blk 3 (.slice none 0 0), Row.nil _ _ _, ?_, h.gb, by simp [Value.ownBlock], h.gf, by intro k e; simp [Value.ownBlock] at e⟩
 exact h.trs.frame fun k hk => Below.heap_setCell w ⟨g, 3, none⟩ _ k (fun e => h.gf (by rw [hk, e]))
theorem Dec.nilF {w : World} {base g : Nat} {lv fv : Value} {d : Dz} (h : Dec w base g lv fv d) : Dec (w.setCell ⟨g, 5, none⟩ (.slice none 0 0)) base g lv (.slice none 0 0) { d with tr := [] } := by
 refine ⟨hp_set h.blk 5 (.slice none 0 0), ?_, FRow.nil _ _, h.gb, h.gl, by simp [Value.ownBlock], by intro k e; simp [Value.ownBlock]⟩
 exact h.line.frame fun k hk => Below.heap_setCell w ⟨g, 5, none⟩ _ k (fun e => h.gl (by rw [hk, e]))
theorem PK.nilL (w : World) (g i : Nat) (v lv fv : Value) : PK w (w.setCell ⟨g, i, none⟩ v) g lv fv (.slice none 0 0) fv :=
 ⟨rfl, rfl, rfl, by simp, fun k _ hk _ _ => Below.heap_setCell w ⟨g, i, none⟩ v k hk, fun _ _ _ => by simp [Value.ownBlock], fun _ _ h => h⟩
theorem PK.nilF (w : World) (g i : Nat) (v lv fv : Value) : PK w (w.setCell ⟨g, i, none⟩ v) g lv fv lv (.slice none 0 0) :=
 ⟨rfl, rfl, rfl, by simp, fun k _ hk _ _ => Below.heap_setCell w ⟨g, i, none⟩ v k hk, fun _ _ h => h, fun _ _ _ => by simp [Value.ownBlock]⟩
theorem forget_any {w : World} {base g : Nat} {lv tv : Value} {d : Dz} (h : Dec w base g lv tv d) :
  Calls Tryz.prog 206 #[.pointer (some ⟨g, 0, none⟩)] w fun e w' => e = .returned (.tuple #[]) /\ ∃ lv' tv', Dec w' base g lv' tv' (dForget d) /\ PK w w' g lv tv lv' tv' := by
 have HP := hide h
 have HO := hide (over_any h)
 have c7 : w.cell? ⟨g, 7, none⟩ = some (.int .i64 (d.wrong : Int)) := h.cell 7
 obtain ⟨la, lc, rfl, _, _⟩ := h.line.shape
 obtain ⟨ta, tc, rfl, _, _⟩ := h.trs.shape
 clear h
 generalize hD : dForget d = D
 unfold dForget at hD
 cases ho : overB d with
 | false =>
  rw [ho] at HO hD
  have h0 : d.wrong = 0 := by
   unfold overB at ho
   rw [Bool.or_eq_false_iff] at ho
   simpa using ho.2
  have t0 : ((d.wrong : Int) != 0) = false := by rw [bne_eq_false_iff_eq]; omega
  rw [if_neg (by simp), if_pos h0] at hD
  have HD := hide hD
  clear hD ho h0
  go_enter Tryz.func206, Tryz.ntmps206
  go_wp2_with (refine HO.out.mono ?_; rintro e w' ⟨rfl, rfl⟩)
  go_end0
  exact ⟨rfl, _, _, by rw [<- HD.out]; exact HP.out, PK.refl _ _ _ _⟩
 | true =>
  rw [ho] at HO hD
  rw [if_pos rfl] at hD
  have c3 := HP.out.cell 3
  have f3 := HP.out.froz 3
  by_cases h0 : d.wrong = 0
  ·have t0 : ((d.wrong : Int) != 0) = false := by rw [bne_eq_false_iff_eq]; omega
   rw [if_pos h0] at hD
   have HD := hide hD
   clear hD ho h0
   go_enter Tryz.func206, Tryz.ntmps206
   go_wp2_with (refine HO.out.mono ?_; rintro e w' ⟨rfl, rfl⟩)
   go_end0
   exact ⟨rfl, _, _, by rw [<- HD.out]; exact HP.out.nilL, PK.nilL _ _ _ _ _ _⟩
  ·have t0 : ((d.wrong : Int) != 0) = true := bne_iff_ne.2 (by omega)
   rw [if_neg h0] at hD
   have HD := hide hD
   clear hD ho h0
   go_enter Tryz.func206, Tryz.ntmps206
   go_wp2_with fail
   refine HO.out.mono ?_
   rintro e w' ⟨rfl, rfl⟩
   go_upto_region 2 with fail
   have HP2 := hide HP.out.nilL
   have HK2 := hide (PK.nilL w g 3 (.slice none 0 0) (.slice la (bc d.line).length lc) (.slice ta d.tr.length tc))
   clear c3 f3 c7
   generalize w.setCell ⟨g, 3, none⟩ (.slice none 0 0) = w2 at HP2 HK2 |-
   have c7 : w2.cell? ⟨g, 7, none⟩ = some (.int .i64 (d.wrong : Int)) := HP2.out.cell 7
   have c5 := HP2.out.cell 5
   have f5 := HP2.out.froz 5
   go_wp2_with fail
   go_end0
   exact ⟨rfl, _, _, by rw [<- HD.out]; exact HP2.out.nilF, HK2.out.trans (PK.nilF _ _ _ _ _ _)⟩
theorem Dn.trans {d d1 d2 : Dz} {l : List UInt8} {k k2 e2 : Nat} {o o2 : List UInt8} (h : Dn d l k o 0 d1) (hw : d1.whole = false) (h2 : Dn d1 (l.drop k) k2 o2 e2 d2) : Dn d l (k + k2) (o ++ o2) e2 d2 := by
 obtain ⟨a1, a2⟩ := h
 obtain ⟨b1, b2⟩ := h2
 rw [if_neg (by simp [hw])] at a2
 rw [List.length_drop] at b1
 refine ⟨by omega, ?_⟩
 split at b2
 ·rename_i hx
  rw [if_pos hx, a2, b2]
  simp [sh, Nat.add_comm]
 ·rename_i hx
  rw [if_neg hx, a2, b2, List.drop_drop, sh_sh, Nat.add_comm k2 k]
theorem Dn.done {d d1 : Dz} {l : List UInt8} {k e : Nat} {o : List UInt8} (h : Dn d l k o e d1) (hx : (e ≠ 0 ∨ d1.whole = true) ∨ l.drop k = []) : dBytes d l = (e, k, o, d1) := by
 obtain ⟨a1, a2⟩ := h
 by_cases h1 : e ≠ 0 ∨ d1.whole = true
 ·rw [if_pos h1] at a2; exact a2
 ·rw [if_neg h1] at a2
  have h2 : l.drop k = [] := hx.resolve_left h1
  have h3 : e = 0 := by rw [not_or] at h1; simpa using h1.1
  rw [a2, h2, h3]
  simp [sh, dBytes]
theorem Row.raise {W : World} {base base2 : Nat} {e : TypeId} {v : Value} {xs : List Value} (h : Row W base e v xs) (hb : ∀ k, v.ownBlock = some k -> base2 <= k) : Row W base2 e v xs := by
 refine ⟨h.1, ?_⟩
 rcases h.2 with x | ⟨g, cap, cur, rfl, h1, hg, hc, hmx, hs, ht⟩
 ·exact .inl x
 ·exact .inr ⟨g, cap, cur, rfl, hb g rfl, hg, hc, hmx, hs, ht⟩
theorem eta_wrong {d : Dz} {e : Nat} (h : d.wrong = e) : { d with wrong := e } = d := by subst h; rfl
theorem bytes_out : ∀ (l : List UInt8) (d : Dz), (dBytes d l).2.2.1.length <= (dBytes d l).2.1
 | [], _ => Nat.le_refl _
 | c :: r, d => by
  have h1 : (dNext d c).2.1.length <= 1 := by
   unfold dNext
   repeat' split
   all_goals simp
  rw [dBytes]
  split
  ·exact h1
  ·split
   ·exact h1
   ·have := bytes_out r (dNext d c).2.2
    simp only [List.length_append]
    omega
theorem bytes_len : ∀ (l : List UInt8) (d : Dz), (dBytes d l).2.1 <= l.length
 | [], _ => Nat.le_refl _
 | c :: r, d => by
  rw [dBytes, List.length_cons]
  split
  ·exact Nat.le_add_left _ _
  ·split
   ·exact Nat.le_add_left _ _
   ·have := bytes_len r (dNext d c).2.2
    dsimp only
    omega
theorem dn_out {d d1 : Dz} {l : List UInt8} {k e : Nat} {o : List UInt8} (h : Dn d l k o e d1) : o.length <= l.length := by
 have h1 := bytes_out l d
 have h2 := bytes_len l d
 obtain ⟨_, h4⟩ := h
 split at h4
 ·rw [h4] at h1 h2; dsimp only at h1 h2; omega
 ·rw [h4] at h1 h2; simp only [sh, List.length_append] at h1 h2; omega
theorem eq_nilFunc (fn g : Nat) (w : World) : (binOp BinOp.eql 211 (.func (.func fn) #[.pointer (some ⟨g, 0, none⟩)] #[]) .nilFunc).run Tryz.prog w = .ok (.bool false) w := by kernel_rfl
theorem DK.pk {w w' : World} {g h : Nat} {lv tv bv lv' tv' bv' : Value} (k : DK w w' g h lv tv bv lv' tv' bv') {w0 : World} (h0 : Below w0.heap.size w0 w) (hh : w0.heap.size <= h) (hb : ∀ i, bv.ownBlock = some i -> w0.heap.size <= i) : PK w0 w' g lv tv lv' tv' :=
 ⟨k.os.trans h0.os, k.tape.trans h0.tape, k.output.trans h0.output, Nat.le_trans h0.size k.size,
  fun i hi h1 h2 h3 => (k.block i (Nat.lt_of_lt_of_le hi h0.size) h1 (by omega) h2 h3 (fun e => by have := hb i e; omega)).trans (h0.block i hi),
  fun i hi e => k.la i (Nat.lt_of_lt_of_le hi h0.size) e, fun i hi e => k.ta i (Nat.lt_of_lt_of_le hi h0.size) e⟩
theorem feed_on {w : World} {base g : Nat} {A : Nat -> Prop} {lv tv : Value} {d : Dz} (hD : Dec w base g lv tv d) (hf : FitD d) (hw : d.whole = false) (hwr : d.wrong = 0) (hm : MX w) (hb : 3 <= base) (v : Value) (l : List UInt8) (hv : Bf w A v l) (hs : Shp v) (gA : ¬ A g) (lA : ∀ k, lv.ownBlock = some k -> ¬ A k) (tA : ∀ k, tv.ownBlock = some k -> ¬ A k) (AL : ∀ k, A k -> k < w.heap.size) (hl : l.length <= 70368744177664) :
  Calls Tryz.prog 208 #[.pointer (some ⟨g, 0, none⟩), v] w fun e w' => ∃ bv lv' tv', e = .returned (.tuple #[bv, .int .i64 ((dBytes d l).2.1 : Int), .bool (dBytes d l).2.2.2.whole, .int .i64 ((dBytes d l).1 : Int)]) /\ Row w' w.heap.size 5 bv (bc (dBytes d l).2.2.1) /\ Dec w' base g lv' tv' (dForget { (dBytes d l).2.2.2 with wrong := (dBytes d l).1 }) /\ PK w w' g lv tv lv' tv' := by
 have HD := hide hD
 have HF := hide hf
 have HM := hide hm
 have HV := hide hv
 have HSH := hide hs
 have HW := hide hw
 have HWR := hide hwr
 obtain ⟨va, vc, rfl, _, _⟩ := hv
 have c0 : w.cell? ⟨g, 0, none⟩ = some (stV d.fn g) := hD.cell 0
 unfold stV at c0
 have e5 := eq_nilFunc d.fn g
 have hgl : g < w.heap.size := hD.lt
 have hbs : base <= w.heap.size := Nat.le_of_lt (Nat.lt_of_le_of_lt hD.gb hD.lt)
 clear hD hf hm hs hw hwr
 generalize hRD : dBytes d l = RD
 have HRD := hide hRD
 clear hRD
 go_enter Tryz.func208, Tryz.ntmps208
 go_upto_region 4 with fail
 have B1 := hide ((Below.refl w.heap.size w).alloc (Nat.le_refl _) (.cells #[.slice va l.length vc, .slice none 0 0] 233))
 have HB1 := hide (hp_new w (.cells #[.slice va l.length vc, .slice none 0 0] 233))
 generalize w.alloc (.cells #[.slice va l.length vc, .slice none 0 0] 233) = w1 at B1 HB1 |-
 have HP1 : Hid (DP w1 base A g w.heap.size lv tv (.slice va l.length vc) (.slice none 0 0) d l []) := hide ⟨HD.out.below B1.out, ⟨HB1.out, HV.out.below B1.out, HSH.out, Row.nil _ _ _, hbs, by simp [Value.ownBlock], (fun hA => by have := AL _ hA; omega), (fun k e => by simp [Value.ownBlock] at e), (fun k hA => Nat.lt_of_lt_of_le (AL k hA) B1.out.size)⟩, by omega, (fun e => by have := (HD.out.line.lt e).2; omega), (fun e => by have := (HD.out.trs.lt e).2; omega), by simp [Value.ownBlock], (fun k e => by simp [Value.ownBlock] at e), (fun k e => by simp [Value.ownBlock] at e), gA, lA, tA⟩
 clear c0 e5
 go_loopw [20] (fun _ wr => ∃ (k : Nat) (o : List UInt8) (en : Nat) (d1 : Dz) (lv1 tv1 rv1 bv1 : Value), Hid (Dn d l k o en d1) /\ Hid (FitD d1) /\ Hid (d1.wrong = 0) /\ Hid (DP wr base A g w.heap.size lv1 tv1 rv1 bv1 { d1 with wrong := en } (l.drop k) o) /\ Hid (DK w1 wr g w.heap.size lv tv (.slice none 0 0) lv1 tv1 bv1)) (fun _ wr => restLen w.heap.size wr)
 case atStart => exact ⟨0, [], 0, d, lv, tv, _, _, hide (Dn.refl d l HW.out), HF, HWR, hide (by rw [List.drop_zero, eta_wrong HWR.out]; exact HP1.out), hide (DK.refl _ _ _ _ _ _)⟩
 case round =>
  obtain ⟨k, o, en, d1, lv1, tv1, rv1, bv1, HDN, HF1, HWR1, HP2, HK2⟩ := hrel
  have hkl : k <= l.length := HDN.out.1
  have HDL : Hid ((l.drop k).length = l.length - k) := hide (by rw [List.length_drop])
  have HRL := hide HP2.out.restLen
  obtain ⟨ra, rc, hre, _, _⟩ := HP2.out.pce.rest
  rw [HDL.out] at hre
  subst hre
  have p0 : wr.cell? ⟨w.heap.size, 0, none⟩ = some (.slice ra (l.length - k) rc) := HP2.out.pce.cell 0
  by_cases hr : k < l.length
  ·have HOV := hide (over_any HP2.out.dec)
   have t1 : (0 : Int) < ((l.length - k : Nat) : Int) := by omega
   by_cases hov : en ≠ 0 ∨ d1.whole = true
   ·have e1 : overB { d1 with wrong := en } = true := by
     unfold overB
     rw [Bool.or_eq_true]
     rcases hov with h5 | h5
     ·exact .inr (decide_eq_true h5)
     ·exact .inl h5
    rw [e1] at HOV
    have HBY := hide (HRD.out.symm.trans (HDN.out.done (.inl hov)))
    clear e1 hov
    go_wp2_with fail
    refine HOV.out.mono ?_
    rintro e w' ⟨rfl, rfl⟩
    have HFG := hide (forget_any HP2.out.dec)
    go_wp2_with fail
    refine HFG.out.mono ?_
    rintro e w5 ⟨rfl, lv5, tv5, hd5, hk5⟩
    have HP5 := hide (HP2.out.of_PK hd5 hk5)
    have HK5 := hide (HK2.out.trans (DK.of_PK (h := w.heap.size) _ hk5))
    clear hd5 hk5 HFG
    obtain ⟨ba5, bc5, hbe5, _, _⟩ := HP5.out.pce.body.shape
    rw [bc_len] at hbe5
    subst hbe5
    have p0 := HP5.out.pce.cell 0
    have p1 := HP5.out.pce.cell 1
    have c6 : w5.cell? ⟨g, 6, none⟩ = some (.bool d1.whole) := HP5.out.dec.cell 6
    have c7 : w5.cell? ⟨g, 7, none⟩ = some (.int .i64 (en : Int)) := HP5.out.dec.cell 7
    go_upto_region 7 with fail
    have hsub : (l.length : Int) - ((l.length - k : Nat) : Int) = (k : Int) := by omega
    have hwrap : IntKind.i64.wrap (k : Int) = (k : Int) := IntWalk.i64_in _ ⟨by omega, by omega⟩
    refine wp_region_cl (by kernel_rfl) (by kernel_rfl) ?_
    refine cl_val (v := ?_) (by kernel_rfl) (fun W hW => ?_) ?_
    rotate_left
    ·unfold Oper.quietAt; go_simp; try with_reducible rfl
    simp only [Act.put, sl_]
    refine cl_val (v := ?_) (by kernel_rfl) (fun W hW => ?_) ?_
    rotate_left
    ·have l0 := hW.cell p1; unfold Oper.quietAt; go_simp; try with_reducible rfl
    simp only [Act.put, sl_]
    refine cl_move _ (by kernel_rfl) rfl ?_
    simp only [Act.put, sl_]
    refine cl_val (v := ?_) (by kernel_rfl) (fun W hW => ?_) ?_
    rotate_left
    ·unfold Oper.quietAt; go_simp; try with_reducible rfl
    simp only [Act.put, sl_]
    refine cl_val (v := ?_) (by kernel_rfl) (fun W hW => ?_) ?_
    rotate_left
    ·unfold Oper.quietAt; go_simp; try with_reducible rfl
    simp only [Act.put, sl_]
    refine cl_val (v := ?_) (by kernel_rfl) (fun W hW => ?_) ?_
    rotate_left
    ·have l0 := hW.cell p0; unfold Oper.quietAt; go_simp; try with_reducible rfl
    simp only [Act.put, sl_]
    refine cl_val (v := ?_) (by kernel_rfl) (fun W hW => ?_) ?_
    rotate_left
    ·unfold Oper.quietAt; go_simp; try with_reducible rfl
    simp only [Act.put, sl_]
    refine cl_val (v := ?_) (by kernel_rfl) (fun W hW => ?_) ?_
    rotate_left
    ·unfold Oper.quietAt; go_simp; try with_reducible rfl
    simp only [Act.put, sl_]
    refine cl_move _ (by kernel_rfl) rfl ?_
    simp only [Act.put, sl_]
    refine cl_val (v := ?_) (by kernel_rfl) (fun W hW => ?_) ?_
    rotate_left
    ·unfold Oper.quietAt; go_simp; try with_reducible rfl
    simp only [Act.put, sl_]
    refine cl_val (v := ?_) (by kernel_rfl) (fun W hW => ?_) ?_
    rotate_left
    ·unfold Oper.quietAt; go_simp; try with_reducible rfl
    simp only [Act.put, sl_]
    refine cl_val (v := ?_) (by kernel_rfl) (fun W hW => ?_) ?_
    rotate_left
    ·have l0 := hW.cell c6; unfold Oper.quietAt; go_simp; try with_reducible rfl
    simp only [Act.put, sl_]
    refine cl_move _ (by kernel_rfl) rfl ?_
    simp only [Act.put, sl_]
    refine cl_val (v := ?_) (by kernel_rfl) (fun W hW => ?_) ?_
    rotate_left
    ·unfold Oper.quietAt; go_simp; try with_reducible rfl
    simp only [Act.put, sl_]
    refine cl_val (v := ?_) (by kernel_rfl) (fun W hW => ?_) ?_
    rotate_left
    ·unfold Oper.quietAt; go_simp; try with_reducible rfl
    simp only [Act.put, sl_]
    refine cl_val (v := ?_) (by kernel_rfl) (fun W hW => ?_) ?_
    rotate_left
    ·have l0 := hW.cell c7; unfold Oper.quietAt; go_simp; try with_reducible rfl
    simp only [Act.put, sl_]
    refine cl_assign _ (by kernel_rfl) rfl ?_
    simp only [Act.put, sl_]
    refine cl_assign _ (by kernel_rfl) rfl ?_
    simp only [Act.put, sl_]
    refine cl_assign _ (by kernel_rfl) rfl ?_
    simp only [Act.put, sl_]
    refine cl_assign _ (by kernel_rfl) rfl ?_
    simp only [Act.put, sl_]
    refine wpQuiet_nil ?_
    intro z Hz
    have HP9 := hide (HP5.out.below Hz.out)
    have HK9 := hide (HK5.out.trans (DK.of_below g w.heap.size lv5 tv5 (.slice ba5 o.length bc5) Hz.out))
    clear p0 p1 c6 c7
    go_wp2
    exact bodyPost_ret (v := .tuple #[.slice ba5 o.length bc5, .int .i64 (k : Int), .bool d1.whole, .int .i64 (en : Int)]) (by simp [results, Tryz.results208, go_sem]) rfl ⟨_, _, _, by rw [HBY.out], by rw [HBY.out]; exact Row.raise HP9.out.pce.body (fun i e => Nat.le_of_not_lt fun h9 => HK9.out.ba i (Nat.lt_of_lt_of_le h9 B1.out.size) (by simp [Value.ownBlock]) e), by rw [HBY.out]; exact HP9.out.dec, HK9.out.pk B1.out (Nat.le_refl _) (fun i e => by simp [Value.ownBlock] at e)⟩
   ·have e1 : overB { d1 with wrong := en } = false := by
     unfold overB
     rw [not_or] at hov
     rw [Bool.or_eq_false_iff]
     exact ⟨by simpa using hov.2, decide_eq_false (by simpa using hov.1)⟩
    rw [not_or] at hov
    have hen : en = 0 := by simpa using hov.1
    have hw1 : d1.whole = false := by simpa using hov.2
    subst hen
    have HW1 := hide hw1
    rw [e1] at HOV
    clear e1 hov hw1
    have hp2 := HP2.out
    rw [eta_wrong HWR1.out] at hp2
    have HP3 := hide hp2
    clear hp2 HP2
    have HM2 := hide ((HM.out.below B1.out).dk HP1.out hb HK2.out)
    have hdn : l.drop k ≠ [] := fun h6 => by
     have := HDL.out
     rw [h6] at this
     simp at this
     omega
    have hlo : (l.drop k).length + o.length <= 140737488355328 := by
     have h7 := dn_out HDN.out
     rw [HDL.out]
     omega
    have hld : (l.drop k).length <= 140737488355328 := by omega
    go_wp2_with fail
    refine HOV.out.mono ?_
    rintro e w' ⟨rfl, rfl⟩
    have c0 := HP3.out.dec.cell 0
    rw [show (dcells d1 g lv1 tv1)[0]? = some (stV d1.fn g) from rfl] at c0
    rcases HF1.out.fn with hfn | hfn | hfn
    ·have HS := hide (sizeLine_any HP3.out HF1.out hfn HW1.out HM2.out hb hld)
     have c0' : wr.cell? ⟨g, 0, none⟩ = some (.func (.func 139) #[.pointer (some ⟨g, 0, none⟩)] #[]) := by
      rw [c0]
      unfold stV
      rw [hfn]
      rfl
     clear c0 hfn
     go_wp2_with fail
     refine HS.out.mono ?_
     rintro e w4 ⟨en, k2, o2, d2, lv2, tv2, rv2, bv2, rfl, h1, h2, h3, h4, h5, h6⟩
     have HDN2 := hide (HDN.out.trans HW1.out h1)
     have HF2 := hide h2
     have HWR2 := hide (h4.trans HWR1.out)
     have HDD := hide (h5.dec.set 7 (.int .i64 (en : Int)) { d2 with wrong := en } rfl rfl rfl)
     have HP4 := hide (h5.of_PK HDD.out (PK.set w4 g 7 (.int .i64 (en : Int)) lv2 tv2))
     have HK4 := hide (HK2.out.trans (h6.trans (DK.of_PK (h := w.heap.size) bv2 (PK.set w4 g 7 (.int .i64 (en : Int)) lv2 tv2))))
     have c7 := h5.dec.cell 7
     have f7 := h5.dec.froz 7
     have hk2 := h3 hdn
     have hk3 := h1.1
     rw [HDL.out] at hk3
     clear h1 h2 h3 h4 h5 h6 HS
     go_wp2_with fail
     exact ⟨⟨k + k2, o ++ o2, en, d2, lv2, tv2, rv2, bv2, HDN2, HF2, HWR2, hide (by rw [<- List.drop_drop]; exact HP4.out), HK4⟩, by rw [HP4.out.restLen, HRL.out, List.length_drop, HDL.out]; omega⟩
    ·have HS := hide (body_any HP3.out HF1.out hfn HW1.out hdn HM2.out hb hlo)
     have c0' : wr.cell? ⟨g, 0, none⟩ = some (.func (.func 159) #[.pointer (some ⟨g, 0, none⟩)] #[]) := by
      rw [c0]
      unfold stV
      rw [hfn]
      rfl
     clear c0 hfn
     go_wp2_with fail
     refine HS.out.mono ?_
     rintro e w4 ⟨en, k2, o2, d2, lv2, tv2, rv2, bv2, rfl, h1, h2, h3, h4, h5, h6⟩
     have HDN2 := hide (HDN.out.trans HW1.out h1)
     have HF2 := hide h2
     have HWR2 := hide (h4.trans HWR1.out)
     have HDD := hide (h5.dec.set 7 (.int .i64 (en : Int)) { d2 with wrong := en } rfl rfl rfl)
     have HP4 := hide (h5.of_PK HDD.out (PK.set w4 g 7 (.int .i64 (en : Int)) lv2 tv2))
     have HK4 := hide (HK2.out.trans (h6.trans (DK.of_PK (h := w.heap.size) bv2 (PK.set w4 g 7 (.int .i64 (en : Int)) lv2 tv2))))
     have c7 := h5.dec.cell 7
     have f7 := h5.dec.froz 7
     have hk2 := h3 hdn
     have hk3 := h1.1
     rw [HDL.out] at hk3
     clear h1 h2 h3 h4 h5 h6 HS
     go_wp2_with fail
     exact ⟨⟨k + k2, o ++ o2, en, d2, lv2, tv2, rv2, bv2, HDN2, HF2, HWR2, hide (by rw [<- List.drop_drop]; exact HP4.out), HK4⟩, by rw [HP4.out.restLen, HRL.out, List.length_drop, HDL.out]; omega⟩
    ·have HS := hide (trailerLine_any HP3.out HF1.out hfn HW1.out HM2.out hb hld)
     have c0' : wr.cell? ⟨g, 0, none⟩ = some (.func (.func 160) #[.pointer (some ⟨g, 0, none⟩)] #[]) := by
      rw [c0]
      unfold stV
      rw [hfn]
      rfl
     clear c0 hfn
     go_wp2_with fail
     refine HS.out.mono ?_
     rintro e w4 ⟨en, k2, o2, d2, lv2, tv2, rv2, bv2, rfl, h1, h2, h3, h4, h5, h6⟩
     have HDN2 := hide (HDN.out.trans HW1.out h1)
     have HF2 := hide h2
     have HWR2 := hide (h4.trans HWR1.out)
     have HDD := hide (h5.dec.set 7 (.int .i64 (en : Int)) { d2 with wrong := en } rfl rfl rfl)
     have HP4 := hide (h5.of_PK HDD.out (PK.set w4 g 7 (.int .i64 (en : Int)) lv2 tv2))
     have HK4 := hide (HK2.out.trans (h6.trans (DK.of_PK (h := w.heap.size) bv2 (PK.set w4 g 7 (.int .i64 (en : Int)) lv2 tv2))))
     have c7 := h5.dec.cell 7
     have f7 := h5.dec.froz 7
     have hk2 := h3 hdn
     have hk3 := h1.1
     rw [HDL.out] at hk3
     clear h1 h2 h3 h4 h5 h6 HS
     go_wp2_with fail
     exact ⟨⟨k + k2, o ++ o2, en, d2, lv2, tv2, rv2, bv2, HDN2, HF2, HWR2, hide (by rw [<- List.drop_drop]; exact HP4.out), HK4⟩, by rw [HP4.out.restLen, HRL.out, List.length_drop, HDL.out]; omega⟩
  ·have hd0 : l.drop k = [] := List.drop_of_length_le (by omega)
   have t1 : ¬ (0 : Int) < ((l.length - k : Nat) : Int) := by omega
   have HBY := hide (HRD.out.symm.trans (HDN.out.done (.inr hd0)))
   clear hd0
   have HFG := hide (forget_any HP2.out.dec)
   go_wp2_with fail
   refine HFG.out.mono ?_
   rintro e w5 ⟨rfl, lv5, tv5, hd5, hk5⟩
   have HP5 := hide (HP2.out.of_PK hd5 hk5)
   have HK5 := hide (HK2.out.trans (DK.of_PK (h := w.heap.size) _ hk5))
   clear hd5 hk5 HFG
   obtain ⟨ba5, bc5, hbe5, _, _⟩ := HP5.out.pce.body.shape
   rw [bc_len] at hbe5
   subst hbe5
   have p0 := HP5.out.pce.cell 0
   have p1 := HP5.out.pce.cell 1
   have c6 : w5.cell? ⟨g, 6, none⟩ = some (.bool d1.whole) := HP5.out.dec.cell 6
   have c7 : w5.cell? ⟨g, 7, none⟩ = some (.int .i64 (en : Int)) := HP5.out.dec.cell 7
   go_upto_region 7 with fail
   have hsub : (l.length : Int) - ((l.length - k : Nat) : Int) = (k : Int) := by omega
   have hwrap : IntKind.i64.wrap (k : Int) = (k : Int) := IntWalk.i64_in _ ⟨by omega, by omega⟩
   refine wp_region_cl (by kernel_rfl) (by kernel_rfl) ?_
   refine cl_val (v := ?_) (by kernel_rfl) (fun W hW => ?_) ?_
   rotate_left
   ·unfold Oper.quietAt; go_simp; try with_reducible rfl
   simp only [Act.put, sl_]
   refine cl_val (v := ?_) (by kernel_rfl) (fun W hW => ?_) ?_
   rotate_left
   ·have l0 := hW.cell p1; unfold Oper.quietAt; go_simp; try with_reducible rfl
   simp only [Act.put, sl_]
   refine cl_move _ (by kernel_rfl) rfl ?_
   simp only [Act.put, sl_]
   refine cl_val (v := ?_) (by kernel_rfl) (fun W hW => ?_) ?_
   rotate_left
   ·unfold Oper.quietAt; go_simp; try with_reducible rfl
   simp only [Act.put, sl_]
   refine cl_val (v := ?_) (by kernel_rfl) (fun W hW => ?_) ?_
   rotate_left
   ·unfold Oper.quietAt; go_simp; try with_reducible rfl
   simp only [Act.put, sl_]
   refine cl_val (v := ?_) (by kernel_rfl) (fun W hW => ?_) ?_
   rotate_left
   ·have l0 := hW.cell p0; unfold Oper.quietAt; go_simp; try with_reducible rfl
   simp only [Act.put, sl_]
   refine cl_val (v := ?_) (by kernel_rfl) (fun W hW => ?_) ?_
   rotate_left
   ·unfold Oper.quietAt; go_simp; try with_reducible rfl
   simp only [Act.put, sl_]
   refine cl_val (v := ?_) (by kernel_rfl) (fun W hW => ?_) ?_
   rotate_left
   ·unfold Oper.quietAt; go_simp; try with_reducible rfl
   simp only [Act.put, sl_]
   refine cl_move _ (by kernel_rfl) rfl ?_
   simp only [Act.put, sl_]
   refine cl_val (v := ?_) (by kernel_rfl) (fun W hW => ?_) ?_
   rotate_left
   ·unfold Oper.quietAt; go_simp; try with_reducible rfl
   simp only [Act.put, sl_]
   refine cl_val (v := ?_) (by kernel_rfl) (fun W hW => ?_) ?_
   rotate_left
   ·unfold Oper.quietAt; go_simp; try with_reducible rfl
   simp only [Act.put, sl_]
   refine cl_val (v := ?_) (by kernel_rfl) (fun W hW => ?_) ?_
   rotate_left
   ·have l0 := hW.cell c6; unfold Oper.quietAt; go_simp; try with_reducible rfl
   simp only [Act.put, sl_]
   refine cl_move _ (by kernel_rfl) rfl ?_
   simp only [Act.put, sl_]
   refine cl_val (v := ?_) (by kernel_rfl) (fun W hW => ?_) ?_
   rotate_left
   ·unfold Oper.quietAt; go_simp; try with_reducible rfl
   simp only [Act.put, sl_]
   refine cl_val (v := ?_) (by kernel_rfl) (fun W hW => ?_) ?_
   rotate_left
   ·unfold Oper.quietAt; go_simp; try with_reducible rfl
   simp only [Act.put, sl_]
   refine cl_val (v := ?_) (by kernel_rfl) (fun W hW => ?_) ?_
   rotate_left
   ·have l0 := hW.cell c7; unfold Oper.quietAt; go_simp; try with_reducible rfl
   simp only [Act.put, sl_]
   refine cl_assign _ (by kernel_rfl) rfl ?_
   simp only [Act.put, sl_]
   refine cl_assign _ (by kernel_rfl) rfl ?_
   simp only [Act.put, sl_]
   refine cl_assign _ (by kernel_rfl) rfl ?_
   simp only [Act.put, sl_]
   refine cl_assign _ (by kernel_rfl) rfl ?_
   simp only [Act.put, sl_]
   refine wpQuiet_nil ?_
   intro z Hz
   have HP9 := hide (HP5.out.below Hz.out)
   have HK9 := hide (HK5.out.trans (DK.of_below g w.heap.size lv5 tv5 (.slice ba5 o.length bc5) Hz.out))
   clear p0 p1 c6 c7
   go_wp2
   exact bodyPost_ret (v := .tuple #[.slice ba5 o.length bc5, .int .i64 (k : Int), .bool d1.whole, .int .i64 (en : Int)]) (by simp [results, Tryz.results208, go_sem]) rfl ⟨_, _, _, by rw [HBY.out], by rw [HBY.out]; exact Row.raise HP9.out.pce.body (fun i e => Nat.le_of_not_lt fun h9 => HK9.out.ba i (Nat.lt_of_lt_of_le h9 B1.out.size) (by simp [Value.ownBlock]) e), by rw [HBY.out]; exact HP9.out.dec, HK9.out.pk B1.out (Nat.le_refl _) (fun i e => by simp [Value.ownBlock] at e)⟩
theorem bytes_full : ∀ (l : List UInt8) (d : Dz), (dBytes d l).2.1 = l.length ∨ (dBytes d l).1 ≠ 0 ∨ (dBytes d l).2.2.2.whole = true
 | [], _ => .inl rfl
 | c :: r, d => by
  rw [dBytes]
  split
  ·exact .inr (.inl ‹_›)
  ·split
   ·exact .inr (.inr ‹_›)
   ·rcases bytes_full r (dNext d c).2.2 with h | h
    ·exact .inl (by simp [h])
    ·exact .inr h
def lineR : List UInt8 -> Bool -> List UInt8 -> Option (Nat × Option (List UInt8))
 | _, _, [] => none
 | acc, en, c :: r =>
  if en ≠ decide (c = 10) then some (1, none)
  else if en = true then some (1, some acc)
  else if c = 13 then (lineR acc true r).map fun p => (p.1 + 1, p.2)
  else if acc.length = 8192 then some (1, none)
  else (lineR (acc ++ [c]) false r).map fun p => (p.1 + 1, p.2)
theorem most_ln {d : Dz} (h : d.fn ≠ fnBody) : dMost d = 8192 := by unfold dMost; rw [if_neg h]
theorem Dn.cons {d d1 d2 : Dz} {c : UInt8} {r : List UInt8} {k e : Nat} {o o1 : List UInt8} (h0 : dNext d c = (0, o1, d1)) (hw : d1.whole = false) (h : Dn d1 r k o e d2) : Dn d (c :: r) (k + 1) (o1 ++ o) e d2 := by
 obtain ⟨h1, h2⟩ := h
 refine ⟨by simpa using h1, ?_⟩
 have hb : dBytes d (c :: r) = sh (dBytes d1 r) 1 o1 := by
  rw [dBytes, h0]
  simp [hw, sh]
 rw [hb, List.drop_succ_cons]
 split at h2
 ·rename_i hx
  rw [if_pos hx, h2]
  simp [sh]
 ·rename_i hx
  rw [if_neg hx, h2, sh_sh]
theorem line_dn : ∀ (l acc : List UInt8) (en : Bool) (d : Dz), d.fn ≠ fnBody -> d.whole = false -> d.line = acc -> d.ending = en ->
  match lineR acc en l with
  | none => ∃ d', d'.whole = false /\ Dn d l l.length [] 0 d'
  | some (k, none) => ∃ d', d'.whole = false /\ Dn d l k [] 100 d'
  | some (k, some s) => Dn d l k [] (dEnd { d with line := [], ending := false } (sS s)).1 (dEnd { d with line := [], ending := false } (sS s)).2
 | [], acc, en, d, _, hw, _, _ => by
  rw [lineR]
  exact ⟨d, hw, Dn.refl d [] hw⟩
 | c :: r, acc, en, d, hf, hw, hl, he => by
  subst hl he
  have hn : ¬ (d.fn = fnBody /\ 0 < d.left) := fun h => hf h.1
  have one : ∀ e o d1, dNext d c = (e, o, d1) -> Dn d (c :: r) 1 o e d1 := by
   intro e o d1 h
   have := (Dn.refl d (c :: r) hw).step hw rfl
   rw [h] at this
   simpa using this.1
  rw [lineR]
  by_cases h1 : d.ending ≠ decide (c = 10)
  ·rw [if_pos h1]
   refine ⟨d, hw, one _ _ _ ?_⟩
   unfold dNext
   rw [if_neg hn, if_pos h1]
  ·rw [if_neg h1]
   by_cases h2 : d.ending = true
   ·rw [if_pos h2]
    refine one _ _ _ ?_
    unfold dNext
    rw [if_neg hn, if_neg h1, if_pos h2]
   ·rw [if_neg h2]
    have h2' : d.ending = false := by simpa using h2
    by_cases h3 : c = 13
    ·rw [if_pos h3]
     have e1 : dNext d c = (0, [], { d with ending := true }) := by
      unfold dNext
      rw [if_neg hn, if_neg h1, if_neg h2, if_pos h3]
     have ih := line_dn r d.line true { d with ending := true } hf hw rfl rfl
     cases hR : lineR d.line true r with
     | none =>
      rw [hR] at ih
      obtain ⟨d', h4, h5⟩ := ih
      exact ⟨d', h4, Dn.cons e1 hw h5⟩
     | some p =>
      obtain ⟨k, s⟩ := p
      rw [hR] at ih
      cases s with
      | none =>
       obtain ⟨d', h4, h5⟩ := ih
       exact ⟨d', h4, Dn.cons e1 hw h5⟩
      | some s => exact Dn.cons e1 hw ih
    ·rw [if_neg h3]
     by_cases h4 : d.line.length = 8192
     ·rw [if_pos h4]
      refine ⟨d, hw, one _ _ _ ?_⟩
      unfold dNext
      rw [if_neg hn, if_neg h1, if_neg h2, if_neg h3, if_pos (by rw [most_ln hf]; exact h4)]
     ·rw [if_neg h4]
      have e1 : dNext d c = (0, [], { d with line := d.line ++ [c] }) := by
       unfold dNext
       rw [if_neg hn, if_neg h1, if_neg h2, if_neg h3, if_neg (by rw [most_ln hf]; exact h4)]
      have ih := line_dn r (d.line ++ [c]) false { d with line := d.line ++ [c] } hf hw rfl h2'
      have e2 : (Dz.mk d.fn d.room d.left [] false d.tr d.whole d.wrong) = { d with line := [], ending := false } := rfl
      cases hR : lineR (d.line ++ [c]) false r with
      | none =>
       rw [hR] at ih
       obtain ⟨d', h5, h6⟩ := ih
       exact ⟨d', h5, Dn.cons e1 hw h6⟩
      | some p =>
       obtain ⟨k, s⟩ := p
       rw [hR] at ih
       cases s with
       | none =>
        obtain ⟨d', h5, h6⟩ := ih
        exact ⟨d', h5, Dn.cons e1 hw h6⟩
       | some s => exact Dn.cons e1 hw ih
structure LnAt (b : List UInt8) (at' i : Nat) (acc : List UInt8) (en : Bool) : Prop where
 le : at' <= i
 ib : i <= b.length
 eq : lineR [] false (b.drop at') = (lineR acc en (b.drop i)).map fun p => (p.1 + (i - at'), p.2)
 ac : acc = (b.drop at').take (i - at' - (if en then 1 else 0))
 ee : en = true -> at' < i /\ b[i - 1]? = some 13
 ne : en = false -> at' < i -> b[i - 1]? ≠ some 13
 len : acc.length <= 8192
theorem LnAt.zero {b : List UInt8} {at' : Nat} (h : at' <= b.length) : LnAt b at' at' [] false :=
 ⟨Nat.le_refl _, h, by simp, by simp, by simp, by intro _ h; omega, by simp⟩
theorem acc_len {b acc : List UInt8} {at' i : Nat} {en : Bool} (h : LnAt b at' i acc en) (he : en = false) : acc.length = i - at' := by
 rw [h.ac, he]
 have := h.ib
 have := h.le
 simp
 omega
theorem map_map1 {x : Option (Nat × Option (List UInt8))} {k : Nat} : (x.map fun p => (p.1 + 1, p.2)).map (fun p => (p.1 + k, p.2)) = x.map fun p => (p.1 + (k + 1), p.2) := by
 cases x with
 | none => rfl
 | some p => simp; omega
theorem LnAt.step {b acc : List UInt8} {at' i : Nat} {en : Bool} (h : LnAt b at' i acc en) (hi : i < b.length) :
  (en ≠ decide (b[i] = 10) -> lineR [] false (b.drop at') = some (i + 1 - at', none)) /\
  (en = true -> b[i] = 10 -> lineR [] false (b.drop at') = some (i + 1 - at', some ((b.drop at').take (i - 1 - at')))) /\
  (en = false -> b[i] ≠ 10 -> b[i] = 13 -> LnAt b at' (i + 1) acc true) /\
  (en = false -> b[i] ≠ 10 -> b[i] ≠ 13 -> 8192 <= i - at' -> lineR [] false (b.drop at') = some (i + 1 - at', none)) /\
  (en = false -> b[i] ≠ 10 -> b[i] ≠ 13 -> ¬ 8192 <= i - at' -> LnAt b at' (i + 1) (acc ++ [b[i]]) false) := by
 have hd : b.drop i = b[i] :: b.drop (i + 1) := List.drop_eq_getElem_cons hi
 have hE := h.eq
 rw [hd, lineR] at hE
 have hle := h.le
 refine ⟨fun h1 => ?_, fun h1 h2 => ?_, fun h1 h2 h3 => ?_, fun h1 h2 h3 h4 => ?_, fun h1 h2 h3 h4 => ?_⟩
 ·rw [if_pos h1] at hE
  rw [hE]
  simp
  omega
 ·rw [if_neg (by simp [h1, h2]), if_pos h1] at hE
  rw [hE, h.ac, h1]
  have := (h.ee h1).1
  simp
  refine ⟨by omega, ?_⟩
  congr 1
  omega
 ·rw [if_neg (by simp [h1, h2]), if_neg (by simp [h1]), if_pos h3, map_map1] at hE
  refine ⟨by omega, hi, by rw [hE]; congr; funext p; congr 1; omega, ?_, ?_, by simp, h.len⟩
  ·rw [h.ac, h1]
   congr 1
   simp
   omega
  ·intro _
   refine ⟨by omega, ?_⟩
   rw [Nat.add_sub_cancel, List.getElem?_eq_getElem hi, h3]
 ·have hl := acc_len h h1
  have := h.len
  rw [if_neg (by simp [h1, h2]), if_neg (by simp [h1]), if_neg h3, if_pos (by omega)] at hE
  rw [hE]
  simp
  omega
 ·have hl := acc_len h h1
  rw [if_neg (by simp [h1, h2]), if_neg (by simp [h1]), if_neg h3, if_neg (by omega), map_map1] at hE
  refine ⟨by omega, hi, by rw [hE]; congr; funext p; congr 1; omega, ?_, by simp, ?_, ?_⟩
  ·rw [h.ac, h1]
   simp only [Bool.false_eq_true, if_false, Nat.sub_zero]
   rw [show i + 1 - at' = i - at' + 1 by omega, List.take_add_one, List.getElem?_drop, show at' + (i - at') = i by omega, List.getElem?_eq_getElem hi]
   rfl
  ·intro _ _
   rw [Nat.add_sub_cancel, List.getElem?_eq_getElem hi]
   simp [h3]
  ·rw [List.length_append, List.length_singleton, hl]
   omega
theorem LnAt.stop {b acc : List UInt8} {at' : Nat} {en : Bool} (h : LnAt b at' b.length acc en) : lineR [] false (b.drop at') = none := by
 rw [h.eq, List.drop_length, lineR]
 rfl
/-! ### A body, from its front -/
def At (most : Nat) (b : List UInt8) (n : Nat) (o : List UInt8) (d : Dz) : Prop := Dn (dNew most) b n o 0 d /\ d.whole = false
def Fin' (most : Nat) (b o : List UInt8) (t : List (ByteArray × ByteArray)) (n : Nat) (wh : Bool) (e : Nat) : Prop := ∃ d', dBytes (dNew most) b = (e, n, o, d') /\ d'.whole = wh /\ t = if wh then d'.tr else []
def stS (room : Nat) : Dz := ⟨fnSize, room, 0, [], false, [], false, 0⟩
def stB (room left : Nat) (en : Bool) : Dz := ⟨fnBody, room, left, [], en, [], false, 0⟩
def stT (room : Nat) (l : List (ByteArray × ByteArray)) : Dz := ⟨fnTrl, room, 0, [], false, l, false, 0⟩
theorem At.le {most n : Nat} {b o : List UInt8} {d : Dz} (h : At most b n o d) : n <= b.length := h.1.1
theorem At.new (most : Nat) (b : List UInt8) : At most b 0 [] (stS most) := ⟨Dn.refl _ _ rfl, rfl⟩
theorem At.fin {most n : Nat} {b o : List UInt8} {d : Dz} (h : At most b n o d) (hn : n = b.length) : Fin' most b o [] n false 0 := by
 refine ⟨d, h.1.done (.inr ?_), h.2, rfl⟩
 rw [hn, List.drop_length]
theorem Fin'.dn {most n e : Nat} {b o : List UInt8} {d : Dz} (h : Dn (dNew most) b n o e d) (he : e ≠ 0) (hw : d.whole = false) : Fin' most b o [] n false e :=
 ⟨d, h.done (.inl (.inl he)), hw, rfl⟩
theorem At.part {most n : Nat} {b o : List UInt8} {d : Dz} (h : At most b n o d) (hf : d.fn ≠ fnBody) (hl : d.line = []) (he : d.ending = false) (hR : lineR [] false (b.drop n) = none) : Fin' most b o [] b.length false 0 := by
 have := line_dn (b.drop n) [] false d hf h.2 hl he
 rw [hR] at this
 obtain ⟨d', hw, hd⟩ := this
 have ht := h.1.trans h.2 hd
 rw [List.append_nil] at ht
 have hn := h.le
 have hx : n + (b.drop n).length = b.length := by rw [List.length_drop]; omega
 rw [hx] at ht
 exact At.fin ⟨ht, hw⟩ rfl
theorem At.bad {most n k : Nat} {b o : List UInt8} {d : Dz} (h : At most b n o d) (hf : d.fn ≠ fnBody) (hl : d.line = []) (he : d.ending = false) (hR : lineR [] false (b.drop n) = some (k, none)) : Fin' most b o [] (n + k) false 100 := by
 have := line_dn (b.drop n) [] false d hf h.2 hl he
 rw [hR] at this
 obtain ⟨d', hw, hd⟩ := this
 have ht := h.1.trans h.2 hd
 rw [List.append_nil] at ht
 exact Fin'.dn ht (by decide) hw
theorem At.line {most n k : Nat} {b o s : List UInt8} {d : Dz} (h : At most b n o d) (hf : d.fn ≠ fnBody) (hl : d.line = []) (he : d.ending = false) (hR : lineR [] false (b.drop n) = some (k, some s)) : Dn (dNew most) b (n + k) o (dEnd d (sS s)).1 (dEnd d (sS s)).2 := by
 have := line_dn (b.drop n) [] false d hf h.2 hl he
 rw [hR] at this
 have e : ({ d with line := [], ending := false } : Dz) = d := by cases d; simp_all
 rw [e] at this
 have ht := h.1.trans h.2 this
 rw [List.append_nil] at ht
 exact ht
def sizeV (s : ByteArray) : Option Nat := if numE 16 (k1 59 s).data.toList ≠ 0 ∨ (k2 59 s).data.toList.all valc = false then none else some (numV 16 (k1 59 s).data.toList)
theorem At.sized {most n k room : Nat} {b o s : List UInt8} (h : At most b n o (stS room)) (hR : lineR [] false (b.drop n) = some (k, some s)) :
  (sizeV (sS s) = none -> Fin' most b o [] (n + k) false 100) /\ (∀ v, sizeV (sS s) = some v -> room < v -> Fin' most b o [] (n + k) false 2) /\
  (sizeV (sS s) = some 0 -> At most b (n + k) o (stT room [])) /\ (∀ v, sizeV (sS s) = some v -> v <= room -> v ≠ 0 -> At most b (n + k) o (stB (room - v) v false)) := by
 have ht := h.line fn_ne.1 rfl rfl hR
 have e : dEnd (stS room) (sS s) = dSized (stS room) (sS s) := by unfold dEnd; exact if_pos rfl
 rw [e] at ht
 unfold dSized at ht
 unfold sizeV
 refine ⟨fun h1 => ?_, fun v h1 h2 => ?_, fun h1 => ?_, fun v h1 h2 h3 => ?_⟩
 ·split at h1
  ·rename_i hc
   rw [if_pos hc] at ht
   exact Fin'.dn ht (by decide) rfl
  ·cases h1
 ·split at h1
  ·cases h1
  ·rename_i hc
   simp only [Option.some.injEq] at h1
   rw [if_neg hc, h1, if_pos (show (stS room).room < v from h2)] at ht
   exact Fin'.dn ht (by decide) rfl
 ·split at h1
  ·cases h1
  ·rename_i hc
   simp only [Option.some.injEq] at h1
   rw [if_neg hc, h1, if_neg (by omega), if_pos rfl] at ht
   exact ⟨ht, rfl⟩
 ·split at h1
  ·cases h1
  ·rename_i hc
   simp only [Option.some.injEq] at h1
   rw [if_neg hc, h1, if_neg (by show ¬ room < v; omega), if_neg h3] at ht
   exact ⟨ht, rfl⟩
theorem At.cons {most n : Nat} {b o : List UInt8} {d : Dz} (h : At most b n o d) (hn : n < b.length) : Dn (dNew most) b (n + 1) (o ++ (dNext d b[n]).2.1) (dNext d b[n]).1 (dNext d b[n]).2.2 :=
 (h.1.step h.2 (List.drop_eq_getElem_cons hn)).1
theorem At.byte {most n room left : Nat} {b o : List UInt8} (h : At most b n o (stB room (left + 1) false)) (hn : n < b.length) : At most b (n + 1) (o ++ [b[n]]) (stB room left false) := by
 have ht := h.cons hn
 have e : dNext (stB room (left + 1) false) b[n] = (0, [b[n]], stB room left false) := by
  unfold dNext
  rw [if_pos ⟨rfl, Nat.succ_pos _⟩]
  rfl
 rw [e] at ht
 exact ⟨ht, rfl⟩
theorem At.cr {most n room : Nat} {b o : List UInt8} (h : At most b n o (stB room 0 false)) (hn : n < b.length) :
  (b[n] = 13 -> At most b (n + 1) o (stB room 0 true)) /\ (b[n] ≠ 13 -> Fin' most b o [] (n + 1) false 100) := by
 have ht := h.cons hn
 refine ⟨fun h1 => ?_, fun h1 => ?_⟩
 ·have e : dNext (stB room 0 false) b[n] = (0, [], stB room 0 true) := by
   unfold dNext
   rw [if_neg (by simp [stB]), if_neg (by rw [h1]; simp [stB]), if_neg (by simp [stB]), if_pos h1]
   rfl
  rw [e, List.append_nil] at ht
  exact ⟨ht, rfl⟩
 ·have e : dNext (stB room 0 false) b[n] = (100, [], stB room 0 false) := by
   unfold dNext
   rw [if_neg (by simp [stB])]
   by_cases h2 : b[n] = 10
   ·rw [if_pos (by rw [h2]; simp [stB])]
   ·rw [if_neg (by rw [decide_eq_false h2]; simp [stB]), if_neg (by simp [stB]), if_neg h1, if_pos (by unfold dMost; exact (if_pos (show (stB room 0 false).fn = fnBody from rfl)).symm)]
  rw [e, List.append_nil] at ht
  exact Fin'.dn ht (by decide) rfl
theorem At.lf {most n room : Nat} {b o : List UInt8} (h : At most b n o (stB room 0 true)) (hn : n < b.length) :
  (b[n] = 10 -> At most b (n + 1) o (stS room)) /\ (b[n] ≠ 10 -> Fin' most b o [] (n + 1) false 100) := by
 have ht := h.cons hn
 refine ⟨fun h1 => ?_, fun h1 => ?_⟩
 ·have e : dNext (stB room 0 true) b[n] = (0, [], stS room) := by
   unfold dNext
   rw [if_neg (by simp [stB]), if_neg (by rw [h1]; simp [stB]), if_pos (show (stB room 0 true).ending = true from rfl)]
   unfold dEnd
   rw [if_neg (fun e => fn_ne.1 e.symm)]
   rfl
  rw [e, List.append_nil] at ht
  exact ⟨ht, rfl⟩
 ·have e : dNext (stB room 0 true) b[n] = (100, [], stB room 0 true) := by
   unfold dNext
   rw [if_neg (by simp [stB]), if_pos (by rw [decide_eq_false h1]; simp [stB])]
  rw [e, List.append_nil] at ht
  exact Fin'.dn ht (by decide) rfl
theorem At.trl {most n k room : Nat} {b o s : List UInt8} {l : List (ByteArray × ByteArray)} (h : At most b n o (stT room l)) (hR : lineR [] false (b.drop n) = some (k, some s)) :
  ((sS s).size = 0 -> Fin' most b o l (n + k) true 0) /\
  ((sS s).size ≠ 0 -> (k3 58 (sS s) = false ∨ chkF (fldF (sS s)) ≠ 0 ∨ l.length = 100) -> Fin' most b o [] (n + k) false 100) /\
  ((sS s).size ≠ 0 -> ¬ (k3 58 (sS s) = false ∨ chkF (fldF (sS s)) ≠ 0 ∨ l.length = 100) -> At most b (n + k) o (stT room (l ++ [fldF (sS s)]))) := by
 have ht := h.line (fun e => fn_ne.2.2 e.symm) rfl rfl hR
 have e : dEnd (stT room l) (sS s) = dTrl (stT room l) (sS s) := by unfold dEnd; rw [if_neg (fun e => fn_ne.2.1 e.symm), if_neg (fun e => fn_ne.2.2 e.symm)]
 rw [e] at ht
 unfold dTrl at ht
 refine ⟨fun h1 => ?_, fun h1 h2 => ?_, fun h1 h2 => ?_⟩
 ·rw [if_pos h1] at ht
  exact ⟨_, ht.done (.inl (.inr rfl)), rfl, rfl⟩
 ·rw [if_neg h1, if_pos (by rcases h2 with h2 | h2 | h2; exact .inl h2; exact .inr (.inr h2); exact .inr (.inl h2))] at ht
  exact Fin'.dn ht (by decide) rfl
 ·rw [if_neg h1, if_neg (fun h3 => h2 (by rcases h3 with h3 | h3 | h3; exact .inl h3; exact .inr (.inr h3); exact .inr (.inl h3)))] at ht
  exact ⟨ht, rfl⟩
end Go.Proofs.YtecjlcjaccijpaaGreatDoor
