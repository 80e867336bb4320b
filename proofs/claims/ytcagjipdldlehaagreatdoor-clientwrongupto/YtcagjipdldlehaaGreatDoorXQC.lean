/- XQC: CRd CLin CLin2 CLin3 CSt CFeed CFeed3 CBndP BPt BPf COpen COpP XCl XLi XNw XLk XBg XRh XSm XRq XRd XSq XSp XNl XLd. -/
import Derived.Test.YtcagjipdldlehaaGreatDoorXGB
import Derived.Test.YtcagjipdldlehaaGreatDoorRows
import Derived.Test.YtcagjipdldlehaaGreatDoorCPce
import Derived.Deep.SlicePairs
import Derived.Deep.Slices
import Derived.Lib.SmallJoins
import Derived.OpenShut
import Derived.ShutString
import Derived.ChangeOld
import Derived.ProofKit
import Derived.Test.YtcagjipdldlehaaGreatDoorHNew
import Derived.Test.YtcagjipdldlehaaGreatDoorHHead
import Derived.Deep.RegionLaw
import Derived.Laws.EntriesVeiled
import Derived.Lib.SlBytesConst
import Derived.Lib.LaidTab
import Derived.LaidLaws
import Derived.LaidHandle
import Derived.LaidSub
import Derived.Stop.LaidErr
import Derived.Shelf.Vars
import Derived.Lay
import Derived.MakeChecks
/- A decoder and what is fed to it: what a byte makes of them; both in memory. -/
namespace Go.Proofs.YtcagjipdldlehaaGreatDoor
open Go.ChangeShapes Go.WideShapes Go.ChangeAt Go.RowKit

/-! ### What bytes make of a decoder -/
def dEnd (d : Dz) (s : ByteArray) : Nat × Dz := if d.fn = fnSize then dSized d s else if d.fn = fnBody then dRead d s else dTrl d s
def dMost (d : Dz) : Nat := if d.fn = fnBody then 0 else 8192
def dNext (d : Dz) (c : UInt8) : Nat × List UInt8 × Dz :=
  if d.fn = fnBody ∧ 0 < d.left then (0, [c], { d with left := d.left - 1 })
  else if d.ending ≠ decide (c = 10) then (100, [], d)
  else if d.ending = true then ((dEnd { d with line := [], ending := false } (sS d.line)).1, [], (dEnd { d with line := [], ending := false } (sS d.line)).2)
  else if c = 13 then (0, [], { d with ending := true })
  else if d.line.length = dMost d then (100, [], d)
  else (0, [], { d with line := d.line ++ [c] })
def dBytes (d : Dz) : List UInt8 → Nat × Nat × List UInt8 × Dz
  | [] => (0, 0, [], d)
  | c :: r =>
    if (dNext d c).1 ≠ 0 then ((dNext d c).1, 1, (dNext d c).2.1, (dNext d c).2.2)
    else if (dNext d c).2.2.whole = true then (0, 1, (dNext d c).2.1, (dNext d c).2.2)
    else ((dBytes (dNext d c).2.2 r).1, (dBytes (dNext d c).2.2 r).2.1 + 1, (dNext d c).2.1 ++ (dBytes (dNext d c).2.2 r).2.2.1, (dBytes (dNext d c).2.2 r).2.2.2)
def sh (R : Nat × Nat × List UInt8 × Dz) (k : Nat) (o : List UInt8) : Nat × Nat × List UInt8 × Dz := (R.1, R.2.1 + k, o ++ R.2.2.1, R.2.2.2)
theorem sh_zero (R : Nat × Nat × List UInt8 × Dz) : sh R 0 [] = R := by simp [sh]
theorem sh_sh (R : Nat × Nat × List UInt8 × Dz) (k l : Nat) (o u : List UInt8) : sh (sh R k o) l u = sh R (k + l) (u ++ o) := by simp [sh, Nat.add_assoc]
/-- From d at some bytes to d' behind k of them, which told o; e: what is wrong. -/
def Dn (d : Dz) (l : List UInt8) (k : Nat) (o : List UInt8) (e : Nat) (d' : Dz) : Prop :=
  k ≤ l.length ∧ (if e ≠ 0 ∨ d'.whole = true then dBytes d l = (e, k, o, d') else dBytes d l = sh (dBytes d' (l.drop k)) k o)
theorem Dn.refl (d : Dz) (l : List UInt8) (h : d.whole = false) : Dn d l 0 [] 0 d := ⟨Nat.zero_le _, by rw [if_neg (by simp [h])]; simp [sh]⟩
/-- On by one byte. -/
theorem Dn.step {d0 d : Dz} {l r : List UInt8} {c : UInt8} {k : Nat} {o : List UInt8} (h : Dn d0 l k o 0 d) (hw : d.whole = false) (hl : l.drop k = c :: r) : Dn d0 l (k + 1) (o ++ (dNext d c).2.1) (dNext d c).1 (dNext d c).2.2 ∧ l.drop (k + 1) = r := by
  obtain ⟨h1, h2⟩ := h
  rw [if_neg (by simp [hw]), hl, dBytes] at h2
  have hlt : k < l.length := by
    rcases Nat.lt_or_ge k l.length with h3 | h3
    · exact h3
    · rw [List.drop_of_length_le h3] at hl; cases hl
  have hd : l.drop (k + 1) = r := by
    have := congrArg List.tail hl
    simpa using this
  refine ⟨⟨hlt, ?_⟩, hd⟩
  by_cases h3 : (dNext d c).1 ≠ 0
  · rw [if_pos h3] at h2
    rw [if_pos (.inl h3), h2]
    simp [sh, Nat.add_comm]
  · rw [if_neg h3] at h2
    by_cases h4 : (dNext d c).2.2.whole = true
    · rw [if_pos h4] at h2
      have h5 : (dNext d c).1 = 0 := by simpa using h3
      rw [if_pos (.inr h4), h2, h5]
      simp [sh, Nat.add_comm]
    · rw [if_neg h4] at h2
      rw [if_neg (by simp [h4]; simpa using h3), h2, hd]
      simp [sh]
      omega
/-- Bytes of a chunk, taken at once. -/
theorem Dn.takes {d0 : Dz} {l : List UInt8} : ∀ (n : Nat) {d : Dz} {k : Nat} {o : List UInt8}, Dn d0 l k o 0 d → d.whole = false → d.fn = fnBody → n ≤ d.left → n ≤ (l.drop k).length → Dn d0 l (k + n) (o ++ (l.drop k).take n) 0 { d with left := d.left - n }
  | 0, d, k, o, h, _, _, _, _ => by
    simp only [List.take_zero, List.append_nil, Nat.add_zero, Nat.sub_zero]
    exact h
  | n + 1, d, k, o, h, hw, hf, hn, hl => by
    cases hd : l.drop k with
    | nil => rw [hd] at hl; simp at hl
    | cons c r =>
      have e : dNext d c = (0, [c], { d with left := d.left - 1 }) := by unfold dNext; rw [if_pos ⟨hf, by omega⟩]
      obtain ⟨h1, h2⟩ := h.step hw hd
      rw [e] at h1
      have h3 := Dn.takes n (d := { d with left := d.left - 1 }) h1 hw hf (by show n ≤ d.left - 1; omega) (by rw [hd] at hl; rw [h2]; simp at hl; omega)
      rw [h2] at h3
      rw [show k + (n + 1) = k + 1 + n by omega, List.take_succ_cons]
      rw [show d.left - (n + 1) = d.left - 1 - n by omega]
      have e3 : o ++ c :: r.take n = (o ++ [c]) ++ r.take n := by simp
      rw [e3]
      exact h3
/-- What is always so of a decoder. -/
structure FitD (d : Dz) : Prop where
  fn : d.fn = fnSize ∨ d.fn = fnBody ∨ d.fn = fnTrl
  room : d.room ≤ 9007199254740992
  left : d.left ≤ 9007199254740992
  line : d.line.length ≤ 8192
  tr : d.tr.length ≤ 100
  bd : d.fn = fnBody → d.line = []
theorem num16_top (l : List UInt8) : numV 16 l ≤ 9007199254740992 := by
  unfold numV
  split
  · omega
  · rename_i hh
    rw [not_or, not_or] at hh
    have := hh.2.2
    unfold top at this
    omega
theorem FitD.ended {d : Dz} (h : FitD d) (hl : d.line = []) (s : ByteArray) : FitD (dEnd d s).2 := by
  unfold dEnd
  split
  · unfold dSized
    have hn := num16_top (k1 59 s).data.toList
    split
    · exact h
    · split
      · exact h
      · refine ⟨?_, ?_, hn, h.line, h.tr, fun _ => hl⟩
        · dsimp only
          split
          · exact .inr (.inr rfl)
          · exact .inr (.inl rfl)
        · have := h.room; dsimp only; omega
  · split
    · exact ⟨.inl rfl, h.room, h.left, h.line, h.tr, fun _ => hl⟩
    · unfold dTrl
      split
      · exact ⟨h.fn, h.room, h.left, h.line, h.tr, h.bd⟩
      · split
        · exact h
        · rename_i h1
          rw [not_or, not_or] at h1
          refine ⟨h.fn, h.room, h.left, h.line, ?_, h.bd⟩
          have := h.tr
          show (d.tr ++ [fldF s]).length ≤ 100
          rw [List.length_append, List.length_singleton]
          have := h1.2.1
          omega
theorem FitD.next {d : Dz} (h : FitD d) (c : UInt8) : FitD (dNext d c).2.2 := by
  unfold dNext
  split
  · exact ⟨h.fn, h.room, by have := h.left; show d.left - 1 ≤ _; omega, h.line, h.tr, h.bd⟩
  · split
    · exact h
    · split
      · exact FitD.ended (d := { d with line := [], ending := false }) ⟨h.fn, h.room, h.left, Nat.zero_le _, h.tr, fun _ => rfl⟩ rfl _
      · split
        · exact ⟨h.fn, h.room, h.left, h.line, h.tr, h.bd⟩
        · split
          · exact h
          · rename_i h1
            have h2 := h.line
            unfold dMost at h1
            by_cases h3 : d.fn = fnBody
            · rw [if_pos h3, h.bd h3] at h1
              exact absurd rfl h1
            · rw [if_neg h3] at h1
              refine ⟨h.fn, h.room, h.left, ?_, h.tr, fun h4 => absurd h4 h3⟩
              show (d.line ++ [c]).length ≤ 8192
              rw [List.length_append, List.length_singleton]
              omega
theorem fit_dbytes : ∀ (l : List UInt8) (d : Dz), FitD d → FitD (dBytes d l).2.2.2
  | [], _, h => h
  | c :: r, d, h => by
    rw [dBytes]
    split
    · exact h.next c
    · split
      · exact h.next c
      · exact fit_dbytes r _ (h.next c)

/-! ### Both in memory -/
structure DP (w : World) (base : Nat) (A : Nat → Prop) (g h : Nat) (lv tv rv bv : Value) (d : Dz) (rest body : List UInt8) : Prop where
  dec : Dec w base g lv tv d
  pce : Pce w base A h rv bv rest body
  gh : g ≠ h
  lh : lv.ownBlock ≠ some h
  th : tv.ownBlock ≠ some h
  bg : bv.ownBlock ≠ some g
  bl : ∀ k, bv.ownBlock = some k → lv.ownBlock ≠ some k
  bt : ∀ k, bv.ownBlock = some k → tv.ownBlock ≠ some k
  gA : ¬ A g
  lA : ∀ k, lv.ownBlock = some k → ¬ A k
  tA : ∀ k, tv.ownBlock = some k → ¬ A k
structure DK (w w' : World) (g h : Nat) (lv tv bv lv' tv' bv' : Value) : Prop where
  os : w'.os = w.os
  tape : w'.tape = w.tape
  output : w'.output = w.output
  size : w.heap.size ≤ w'.heap.size
  block : ∀ k, k < w.heap.size → k ≠ g → k ≠ h → lv.ownBlock ≠ some k → tv.ownBlock ≠ some k → bv.ownBlock ≠ some k → w'.heap[k]? = w.heap[k]?
  la : ∀ k, k < w.heap.size → lv.ownBlock ≠ some k → lv'.ownBlock ≠ some k
  ta : ∀ k, k < w.heap.size → tv.ownBlock ≠ some k → tv'.ownBlock ≠ some k
  ba : ∀ k, k < w.heap.size → bv.ownBlock ≠ some k → bv'.ownBlock ≠ some k
theorem DK.refl (w : World) (g h : Nat) (lv tv bv : Value) : DK w w g h lv tv bv lv tv bv := ⟨rfl, rfl, rfl, Nat.le_refl _, fun _ _ _ _ _ _ _ => rfl, fun _ _ h => h, fun _ _ h => h, fun _ _ h => h⟩
theorem DK.trans {a b c : World} {g h : Nat} {l t u l1 t1 u1 l2 t2 u2 : Value} (p : DK a b g h l t u l1 t1 u1) (q : DK b c g h l1 t1 u1 l2 t2 u2) : DK a c g h l t u l2 t2 u2 :=
  ⟨q.os.trans p.os, q.tape.trans p.tape, q.output.trans p.output, Nat.le_trans p.size q.size,
    fun k hk h1 h2 h3 h4 h5 => (q.block k (Nat.lt_of_lt_of_le hk p.size) h1 h2 (p.la k hk h3) (p.ta k hk h4) (p.ba k hk h5)).trans (p.block k hk h1 h2 h3 h4 h5),
    fun k hk h3 => q.la k (Nat.lt_of_lt_of_le hk p.size) (p.la k hk h3), fun k hk h3 => q.ta k (Nat.lt_of_lt_of_le hk p.size) (p.ta k hk h3), fun k hk h3 => q.ba k (Nat.lt_of_lt_of_le hk p.size) (p.ba k hk h3)⟩
theorem DK.of_PK {w w' : World} {g h : Nat} {lv tv lv' tv' : Value} (bv : Value) (k : PK w w' g lv tv lv' tv') : DK w w' g h lv tv bv lv' tv' bv :=
  ⟨k.os, k.tape, k.output, k.size, fun i hi h1 _ h3 h4 _ => k.block i hi h1 h3 h4, k.la, k.fa, fun _ _ h => h⟩
theorem DK.of_QK {w w' : World} {g h : Nat} {bv bv' : Value} (lv tv : Value) (k : QK w w' h bv bv') : DK w w' g h lv tv bv lv tv bv' :=
  ⟨k.os, k.tape, k.output, k.size, fun i hi _ h2 _ _ h5 => k.block i hi h2 h5, fun _ _ h => h, fun _ _ h => h, k.ba⟩
theorem DP.of_PK {w w' : World} {base g h : Nat} {A : Nat → Prop} {lv tv rv bv lv' tv' : Value} {d d' : Dz} {rest body : List UInt8} (p : DP w base A g h lv tv rv bv d rest body) (hd : Dec w' base g lv' tv' d') (k : PK w w' g lv tv lv' tv') : DP w' base A g h lv' tv' rv bv d' rest body := by
  have hh := p.pce.lt
  refine ⟨hd, ⟨(k.block h hh p.gh.symm p.lh p.th).trans p.pce.blk, ?_, p.pce.shp, ?_, p.pce.hb, p.pce.bh, p.pce.hA, p.pce.bA, fun i hA => Nat.lt_of_lt_of_le (p.pce.AL i hA) k.size⟩, p.gh, k.la h hh p.lh, k.fa h hh p.th, p.bg, fun i e => k.la i (p.pce.body.lt e).2 (p.bl i e), fun i e => k.fa i (p.pce.body.lt e).2 (p.bt i e), p.gA, fun i e hA => k.la i (p.pce.AL i hA) (fun e2 => p.lA i e2 hA) e, fun i e hA => k.fa i (p.pce.AL i hA) (fun e2 => p.tA i e2 hA) e⟩
  · exact p.pce.rest.keep k.size (fun i h1 h2 => k.block i h2 (fun e => p.gA (by rw [← e]; exact h1)) (fun e => p.lA i e h1) (fun e => p.tA i e h1))
  · exact p.pce.body.frame fun i e => k.block i (p.pce.body.lt e).2 (fun e2 => p.bg (by rw [e, e2])) (p.bl i e) (p.bt i e)
theorem DP.of_QK {w w' : World} {base g h : Nat} {A : Nat → Prop} {lv tv rv bv rv' bv' : Value} {d : Dz} {rest body rest' body' : List UInt8} (p : DP w base A g h lv tv rv bv d rest body) (hq : Pce w' base A h rv' bv' rest' body') (k : QK w w' h bv bv') : DP w' base A g h lv tv rv' bv' d rest' body' := by
  have hg := p.dec.lt
  refine ⟨p.dec.frame fun i hi => ?_, hq, p.gh, p.lh, p.th, k.ba g hg p.bg, fun i e e2 => ?_, fun i e e2 => ?_, p.gA, p.lA, p.tA⟩
  · rcases hi with rfl | hi | hi
    · exact k.block _ hg p.gh p.bg
    · exact k.block i (p.dec.line.lt hi).2 (fun e => p.lh (by rw [hi, e])) (fun e => p.bl i e hi)
    · exact k.block i (p.dec.trs.lt hi).2 (fun e => p.th (by rw [hi, e])) (fun e => p.bt i e hi)
  · exact k.ba i (p.dec.line.lt e2).2 (fun e3 => p.bl i e3 e2) e
  · exact k.ba i (p.dec.trs.lt e2).2 (fun e3 => p.bt i e3 e2) e
end Go.Proofs.YtcagjipdldlehaaGreatDoor
/- A line, read on. -/
namespace Go.Proofs.YtcagjipdldlehaaGreatDoor
open Go.ChangeShapes Go.WideShapes Go.ChangeAt Go.RowKit

theorem byte_ten (c : UInt8) : (((c.toNat : Int)) == 10) = decide (c = 10) := by
  rw [show (10 : Int) = ((10 : UInt8).toNat : Int) from rfl, byte_eqI, Bool.eq_iff_iff]; simp
theorem byte_cr (c : UInt8) : (((c.toNat : Int)) == 13) = decide (c = 13) := by
  rw [show (13 : Int) = ((13 : UInt8).toNat : Int) from rfl, byte_eqI, Bool.eq_iff_iff]; simp
/-- How many bytes the rest has, told by its cell. -/
def restLen (h : Nat) (w : World) : Nat := match w.cell? ⟨h, 0, none⟩ with | some (.slice _ n _) => n | _ => 0
theorem DP.restLen {w : World} {base g h : Nat} {A : Nat → Prop} {lv tv rv bv : Value} {d : Dz} {rest body : List UInt8} (p : DP w base A g h lv tv rv bv d rest body) : restLen h w = rest.length := by
  obtain ⟨a, c, he, _, _⟩ := p.pce.rest
  unfold Go.Proofs.YtcagjipdldlehaaGreatDoor.restLen
  rw [p.pce.cell 0]
  subst he
  rfl
theorem MX.dk {w w' : World} {base g h : Nat} {A : Nat → Prop} {lv tv rv bv lv' tv' bv' : Value} {d : Dz} {rest body : List UInt8} (hm : MX w) (p : DP w base A g h lv tv rv bv d rest body) (hb : 3 ≤ base) (k : DK w w' g h lv tv bv lv' tv' bv') : MX w' := by
  obtain ⟨h0, m, hm⟩ := hm
  refine ⟨Nat.lt_of_lt_of_le h0 k.size, m, ?_⟩
  have e : w'.heap[2]? = w.heap[2]? := k.block 2 (by omega) (by have := p.dec.gb; omega) (by have := p.pce.hb; omega) (fun e => by have := (p.dec.line.lt e).1; omega) (fun e => by have := (p.dec.trs.lt e).1; omega) (fun e => by have := (p.pce.body.lt e).1; omega)
  unfold World.cell? at hm ⊢
  rw [show (⟨2, 0, none⟩ : Addr).block = 2 from rfl] at hm ⊢
  rw [e]
  exact hm
theorem Dec.cutl {w : World} {base g : Nat} {la : Option Addr} {n lc : Nat} {fv : Value} {d : Dz} (h : Dec w base g (.slice la n lc) fv d) :
    Dec (w.setCell ⟨g, 3, none⟩ (.slice la 0 lc)) base g (.slice la 0 lc) fv { d with line := [] } ∧ PK w (w.setCell ⟨g, 3, none⟩ (.slice la 0 lc)) g (.slice la n lc) fv (.slice la 0 lc) fv := by
  have hk : Kept w w (.slice la n lc) (.slice la 0 lc) := by
    refine ⟨Nat.le_refl _, fun _ _ _ => rfl, fun k _ e => ?_⟩
    cases la with
    | none => exact e
    | some a => exact e
  refine ⟨(h.grow_l hk (l := []) h.line.cut0).2, ?_⟩
  have hs := PK.set w g 3 (.slice la 0 lc) (.slice la n lc) fv
  exact ⟨hs.os, hs.tape, hs.output, hs.size, hs.block, fun k hk2 e => hk.apart k hk2 e, fun _ _ e => e⟩
/-- What a state tells. -/
def StP (w : World) (base : Nat) (A : Nat → Prop) (g h : Nat) (lv tv bv : Value) (d : Dz) (rest body : List UInt8) (e : Ending) (w' : World) : Prop :=
  ∃ (en k : Nat) (o : List UInt8) (d' : Dz) (lv' tv' rv' bv' : Value), e = .returned (.int .i64 (en : Int)) ∧ Dn d rest k o en d' ∧ FitD d' ∧ (rest ≠ [] → 1 ≤ k) ∧ d'.wrong = d.wrong ∧ DP w' base A g h lv' tv' rv' bv' d' (rest.drop k) (body ++ o) ∧ DK w w' g h lv tv bv lv' tv' bv'
theorem wpList_append_is {ops : Array Oper} {rest : List Oper} {o : Oper} {a : Act} {Q : Exit → Act → World → Prop} {W W' : World} (hgd : o.guard = none) (s x : Operand) (t : TypeId)
    (ho : o.op = .call { callee := .builtin .append, args := #[s, x], argTypes := #[t, t] }) (v src v' : Value) (hs : a.eval s = v) (hx : a.eval x = src)
    (hrun : (Builtin.append_ #[t, t] o.type #[v, src]).run Tryz.prog W = .ok v' W') (h : wpList Tryz.prog ops Q rest (a.put o.dst v') W') : wpList Tryz.prog ops Q (o :: rest) a W := by
  refine wpList_plain hgd fun K hK => ?_
  unfold Oper.wp execOp
  simp only [ho, resolve, invoke, builtin, Sem.run_bind, Sem.run_pure, Result.andThen_ok, List.map_toArray, List.map_cons, List.map_nil, hs, hx, hrun]
  exact hK _ _ h
set_option maxHeartbeats 8000000 in
theorem readLine_size {w : World} {base g h : Nat} {A : Nat → Prop} {lv tv rv bv : Value} {d : Dz} {rest body : List UInt8} (p : DP w base A g h lv tv rv bv d rest body) (hf : FitD d) (hfn : d.fn = fnSize) (hw : d.whole = false) (hlf : d.fn = fnBody → d.left = 0 ∨ rest = []) (hm : MX w) (hb : 3 ≤ base) (hl : rest.length ≤ 140737488355328) :
    Calls Tryz.prog 173 #[.pointer (some ⟨g, 0, none⟩), .pointer (some ⟨h, 0, none⟩), .int .i64 8192, .func (.func 174) #[.pointer (some ⟨g, 0, none⟩)] #[]] w (StP w base A g h lv tv bv d rest body) := by
  have HP := hide p
  have HF := hide hf
  have HM := hide hm
  have HLF := hide hlf
  have HFN := hide hfn
  have HW := hide hw
  clear p hf hm hlf hfn hw
  go_enter Tryz.func173, Tryz.ntmps173
  go_wp2_with fail
  go_loopw [9] (fun _ wr => ∃ (k : Nat) (d' : Dz) (lv' tv' rv' : Value), Hid (Dn d rest k [] 0 d') ∧ Hid (FitD d') ∧ Hid (d'.whole = false) ∧ Hid (d'.fn = fnSize) ∧ Hid (d'.left = d.left) ∧ Hid (d'.wrong = d.wrong) ∧ Hid (DP wr base A g h lv' tv' rv' bv d' (rest.drop k) body) ∧ Hid (DK w wr g h lv tv bv lv' tv' bv)) (fun _ wr => restLen h wr)
  case atStart => exact ⟨0, d, lv, tv, rv, hide (Dn.refl d rest HW.out), HF, HW, HFN, hide rfl, hide rfl, by rw [List.drop_zero]; exact HP, hide (DK.refl _ _ _ _ _ _)⟩
  case round =>
    obtain ⟨k, d1, lv1, tv1, rv1, HD1, HF1, HW1, HFN1, HLE1, HWR1, HP1, HK1⟩ := hrel
    have HRL := hide HP1.out.restLen
    have HM1 := hide (HM.out.dk HP.out hb HK1.out)
    cases hrd : rest.drop k with
    | nil =>
      have HRD := hide hrd
      have hp1 := HP1.out
      rw [hrd] at hp1
      clear hrd
      obtain ⟨ra, rc, hre, _, _⟩ := hp1.pce.rest
      simp only [List.length_nil] at hre
      subst hre
      have c0 : wr.cell? ⟨h, 0, none⟩ = some (.slice ra 0 rc) := hp1.pce.cell 0
      clear hp1
      go_wp2_with fail
      go_ret
      exact ⟨0, k, [], d1, lv1, tv1, _, bv, rfl, HD1.out, HF1.out, fun hne => (by
        have := HRD.out
        have h2 := congrArg List.length this
        rw [List.length_drop, List.length_nil] at h2
        have h3 := List.length_pos_iff.2 hne
        omega), HWR1.out, by rw [List.append_nil]; exact HP1.out, HK1.out⟩
    | cons c r =>
      have hp1 := HP1.out
      rw [hrd] at hp1
      have HP1' := hide hp1
      have hrl : r.length ≤ 140737488355328 := by
        have h2 := congrArg List.length hrd
        rw [List.length_drop, List.length_cons] at h2
        omega
      obtain ⟨ra, rc, hre, _, _⟩ := hp1.pce.rest
      simp only [List.length_cons] at hre
      subst hre
      have c0 : wr.cell? ⟨h, 0, none⟩ = some (.slice ra (r.length + 1) rc) := hp1.pce.cell 0
      have hst := HD1.out.step HW1.out hrd
      have HST := hide hst.1
      have HDR := hide hst.2
      have HRL2 : Hid (restLen h wr = r.length + 1) := hide (by rw [HRL.out, hrd]; rfl)
      have hbd : ¬ (d1.fn = fnBody ∧ 0 < d1.left) := fun hx => by
        rcases HLF.out (HFN.out.trans (HFN1.out.symm.trans hx.1)) with h3 | h3
        · have := HLE1.out; omega
        · rw [h3] at hrd; simp at hrd
      have HNF := hide (HF1.out.next c)
      have HNX := hide hp1.pce
      clear hp1 hst hrd HRL
      go_upto_region 4 with (go_at_call 182; refine (next_any HNX.out hrl).mono ?_; rintro e w2 ⟨rfl, rv2, hp2, hk2⟩)
      have HP2 := hide (HP1'.out.of_QK hp2 hk2)
      have HK2 := hide (HK1.out.trans (DK.of_QK lv1 tv1 hk2))
      clear hp2 hk2 c0 HNX HP1 HP1'
      have c4 := HP2.out.dec.cell 4
      rw [show (dcells d1 g lv1 tv1)[4]? = some (.bool d1.ending) from rfl] at c4
      have t10 := byte_ten c
      have t13 := byte_cr c
      unfold dNext at HST HNF
      rw [if_neg hbd] at HST HNF
      cases he : d1.ending with
      | true =>
        rw [he] at c4 HST HNF
        by_cases h10 : c = 10
        · rw [decide_eq_true h10] at t10 HST HNF
          rw [if_neg (by simp), if_pos rfl] at HST HNF
          have HEN := hide he
          clear he t13 hbd
          obtain ⟨la, lc, hle, _, _⟩ := HP2.out.dec.line.shape
          rw [bc_len] at hle
          subst hle
          have HT := HP2.out.dec.line.text
          rw [show (⟨d1.line.toArray⟩ : ByteArray) = sS d1.line from rfl] at HT
          have hl8 := HF1.out.line
          have c3 := HP2.out.dec.cell 3
          rw [show (dcells d1 g (.slice la d1.line.length lc) tv1)[3]? = some (.slice la d1.line.length lc) from rfl] at c3
          have f3 := HP2.out.dec.froz 3
          have f4 := HP2.out.dec.froz 4
          go_upto_region 9 with fail
          obtain ⟨hP4, hK4⟩ := HP2.out.dec.cutl
          have HP4 := hide (hP4.set 4 (.bool false) { d1 with line := [], ending := false } rfl rfl rfl)
          have HK4 := hide (hK4.trans (PK.set _ g 4 (.bool false) (.slice la 0 lc) tv1))
          clear c3 c4 f3 f4 HT hP4 hK4
          generalize (w2.setCell ⟨g, 3, none⟩ (.slice la 0 lc)).setCell ⟨g, 4, none⟩ (.bool false) = w4 at HP4 HK4 ⊢
          have HDP4 := hide (HP2.out.of_PK HP4.out HK4.out)
          have HDK4 := hide (HK2.out.trans (DK.of_PK (h := h) bv HK4.out))
          have HM4 := hide (HM.out.dk HP.out hb HDK4.out)
          have HDE : Hid (dEnd { d1 with line := [], ending := false } (sS d1.line) = dSized { d1 with line := [], ending := false } (sS d1.line)) := hide (by
            unfold dEnd
            rw [show ({ d1 with line := [], ending := false } : Dz).fn = fnSize from HFN1.out]
            rw [if_pos rfl])
          rw [HDE.out] at HST HNF
          have hs8 : (sS d1.line).size ≤ 8192 := by rw [sS_size]; exact hl8
          have hro := HF1.out.room
          have htr := HF1.out.tr
          have HL := hide (sized_any HP4.out HM4.out (sS d1.line) hs8 hro)
          clear hl8 hro htr
          have HWE : Hid ((dSized { d1 with line := [], ending := false } (sS d1.line)).2.wrong = d1.wrong) := hide (by unfold dSized; (repeat' split) <;> rfl)
          generalize dSized { d1 with line := [], ending := false } (sS d1.line) = R at HL HST HNF HWE
          obtain ⟨en, d5⟩ := R
          dsimp only at HL HST HNF HWE
          go_wp2_with (refine HL.out.mono ?_; rintro e w5 ⟨rfl, fv5, h5, k5⟩)
          go_ret
          exact ⟨en, k + 1, [], d5, _, _, _, bv, rfl, HST.out, HNF.out, fun _ => by omega, HWE.out.trans HWR1.out, by rw [List.append_nil, HDR.out]; exact HDP4.out.of_PK h5 k5, HDK4.out.trans (DK.of_PK bv k5)⟩
        · rw [decide_eq_false h10] at t10 HST HNF
          rw [if_pos (by simp)] at HST HNF
          clear he t13 hbd
          go_wp2_with fail
          go_ret
          exact ⟨100, k + 1, [], d1, _, _, _, bv, rfl, HST.out, HF1.out, fun _ => by omega, HWR1.out, by rw [List.append_nil, HDR.out]; exact HP2.out, HK2.out⟩
      | false =>
        rw [he] at c4 HST HNF
        by_cases h10 : c = 10
        · rw [decide_eq_true h10] at t10 HST HNF
          rw [if_pos (by simp)] at HST HNF
          clear he t13 hbd
          go_wp2_with fail
          go_ret
          exact ⟨100, k + 1, [], d1, _, _, _, bv, rfl, HST.out, HF1.out, fun _ => by omega, HWR1.out, by rw [List.append_nil, HDR.out]; exact HP2.out, HK2.out⟩
        · rw [decide_eq_false h10] at t10 HST HNF
          rw [if_neg (by simp), if_neg (by simp)] at HST HNF
          clear hbd
          by_cases h13 : c = 13
          · rw [decide_eq_true h13] at t13
            rw [if_pos h13] at HST HNF
            have f4 := HP2.out.dec.froz 4
            clear he
            go_wp2_with fail
            have HD3 := hide (HP2.out.dec.set 4 (.bool true) { d1 with ending := true } rfl rfl rfl)
            have HP3 := hide (HP2.out.of_PK HD3.out (PK.set w2 g 4 (.bool true) lv1 tv1))
            exact ⟨⟨k + 1, { d1 with ending := true }, lv1, tv1, rv2, HST, HNF, HW1, HFN1, HLE1, HWR1, hide (by rw [HDR.out]; exact HP3.out), hide (HK2.out.trans (DK.of_PK bv (PK.set w2 g 4 (.bool true) lv1 tv1)))⟩, by rw [HP3.out.restLen, HRL2.out]; omega⟩
          · rw [decide_eq_false h13] at t13
            rw [if_neg h13] at HST HNF
            have hmo : dMost d1 = 8192 := by unfold dMost; rw [HFN1.out]; decide
            rw [hmo] at HST HNF
            have HEF := hide he
            clear he hmo
            obtain ⟨la, lc, hle, _, _⟩ := HP2.out.dec.line.shape
            rw [bc_len] at hle
            subst hle
            have c3 := HP2.out.dec.cell 3
            rw [show (dcells d1 g (.slice la d1.line.length lc) tv1)[3]? = some (.slice la d1.line.length lc) from rfl] at c3
            have f3 := HP2.out.dec.froz 3
            have hl8 := HF1.out.line
            by_cases h5 : d1.line.length = 8192
            · have t5 : ((d1.line.length : Int) == 8192) = true := by simp [h5]
              rw [if_pos h5] at HST HNF
              clear h5
              go_wp2_with fail
              go_ret
              exact ⟨100, k + 1, [], d1, _, _, _, bv, rfl, HST.out, HF1.out, fun _ => by omega, HWR1.out, by rw [List.append_nil, HDR.out]; exact HP2.out, HK2.out⟩
            · have t5 : ((d1.line.length : Int) == 8192) = false := by rw [beq_eq_false_iff_ne]; omega
              rw [if_neg h5] at HST HNF
              clear h5
              obtain ⟨ad, n, ca, W, hrun, q1, q2, hP, hK⟩ := HP2.out.dec.app_l 31 c (by omega)
              have HRUN := hide hrun
              have HP3 := hide (HP2.out.of_PK hP hK)
              have HK3 := hide (HK2.out.trans (DK.of_PK (h := h) bv hK))
              clear hP hK hrun
              go_wp2_with (at_builtin; apply Hid.out)
              unfold Hid
              refine wpList_append_is rfl _ _ 31 rfl (.slice la d1.line.length lc) (.slice (some ⟨w2.heap.size, 0, none⟩) 1 1) (.slice ad n ca) rfl rfl HRUN.out ?_
              go_wp2_with fail
              exact ⟨⟨k + 1, { d1 with line := d1.line ++ [c] }, _, tv1, rv2, hide (by have h := HST.out; rw [← HEF.out] at h; exact h), hide (by have h := HNF.out; rw [← HEF.out] at h; exact h), HW1, HFN1, HLE1, HWR1, hide (by rw [HDR.out]; exact HP3.out), HK3⟩, by rw [HP3.out.restLen, HRL2.out]; omega⟩
end Go.Proofs.YtcagjipdldlehaaGreatDoor
/- A line, read on: at another caller. -/
namespace Go.Proofs.YtcagjipdldlehaaGreatDoor
open Go.ChangeShapes Go.WideShapes Go.ChangeAt Go.RowKit

set_option maxHeartbeats 8000000 in
theorem readLine_body {w : World} {base g h : Nat} {A : Nat → Prop} {lv tv rv bv : Value} {d : Dz} {rest body : List UInt8} (p : DP w base A g h lv tv rv bv d rest body) (hf : FitD d) (hfn : d.fn = fnBody) (hw : d.whole = false) (hlf : d.fn = fnBody → d.left = 0 ∨ rest = []) (hm : MX w) (hb : 3 ≤ base) (hl : rest.length ≤ 140737488355328) :
    Calls Tryz.prog 173 #[.pointer (some ⟨g, 0, none⟩), .pointer (some ⟨h, 0, none⟩), .int .i64 0, .func (.func 191) #[.pointer (some ⟨g, 0, none⟩)] #[]] w (StP w base A g h lv tv bv d rest body) := by
  have HP := hide p
  have HF := hide hf
  have HM := hide hm
  have HLF := hide hlf
  have HFN := hide hfn
  have HW := hide hw
  clear p hf hm hlf hfn hw
  go_enter Tryz.func173, Tryz.ntmps173
  go_wp2_with fail
  go_loopw [9] (fun _ wr => ∃ (k : Nat) (d' : Dz) (lv' tv' rv' : Value), Hid (Dn d rest k [] 0 d') ∧ Hid (FitD d') ∧ Hid (d'.whole = false) ∧ Hid (d'.fn = fnBody) ∧ Hid (d'.left = d.left) ∧ Hid (d'.wrong = d.wrong) ∧ Hid (DP wr base A g h lv' tv' rv' bv d' (rest.drop k) body) ∧ Hid (DK w wr g h lv tv bv lv' tv' bv)) (fun _ wr => restLen h wr)
  case atStart => exact ⟨0, d, lv, tv, rv, hide (Dn.refl d rest HW.out), HF, HW, HFN, hide rfl, hide rfl, by rw [List.drop_zero]; exact HP, hide (DK.refl _ _ _ _ _ _)⟩
  case round =>
    obtain ⟨k, d1, lv1, tv1, rv1, HD1, HF1, HW1, HFN1, HLE1, HWR1, HP1, HK1⟩ := hrel
    have HRL := hide HP1.out.restLen
    have HM1 := hide (HM.out.dk HP.out hb HK1.out)
    cases hrd : rest.drop k with
    | nil =>
      have HRD := hide hrd
      have hp1 := HP1.out
      rw [hrd] at hp1
      clear hrd
      obtain ⟨ra, rc, hre, _, _⟩ := hp1.pce.rest
      simp only [List.length_nil] at hre
      subst hre
      have c0 : wr.cell? ⟨h, 0, none⟩ = some (.slice ra 0 rc) := hp1.pce.cell 0
      clear hp1
      go_wp2_with fail
      go_ret
      exact ⟨0, k, [], d1, lv1, tv1, _, bv, rfl, HD1.out, HF1.out, fun hne => (by
        have := HRD.out
        have h2 := congrArg List.length this
        rw [List.length_drop, List.length_nil] at h2
        have h3 := List.length_pos_iff.2 hne
        omega), HWR1.out, by rw [List.append_nil]; exact HP1.out, HK1.out⟩
    | cons c r =>
      have hp1 := HP1.out
      rw [hrd] at hp1
      have HP1' := hide hp1
      have hrl : r.length ≤ 140737488355328 := by
        have h2 := congrArg List.length hrd
        rw [List.length_drop, List.length_cons] at h2
        omega
      obtain ⟨ra, rc, hre, _, _⟩ := hp1.pce.rest
      simp only [List.length_cons] at hre
      subst hre
      have c0 : wr.cell? ⟨h, 0, none⟩ = some (.slice ra (r.length + 1) rc) := hp1.pce.cell 0
      have hst := HD1.out.step HW1.out hrd
      have HST := hide hst.1
      have HDR := hide hst.2
      have HRL2 : Hid (restLen h wr = r.length + 1) := hide (by rw [HRL.out, hrd]; rfl)
      have hbd : ¬ (d1.fn = fnBody ∧ 0 < d1.left) := fun hx => by
        rcases HLF.out (HFN.out.trans (HFN1.out.symm.trans hx.1)) with h3 | h3
        · have := HLE1.out; omega
        · rw [h3] at hrd; simp at hrd
      have HNF := hide (HF1.out.next c)
      have HNX := hide hp1.pce
      clear hp1 hst hrd HRL
      go_upto_region 4 with (go_at_call 182; refine (next_any HNX.out hrl).mono ?_; rintro e w2 ⟨rfl, rv2, hp2, hk2⟩)
      have HP2 := hide (HP1'.out.of_QK hp2 hk2)
      have HK2 := hide (HK1.out.trans (DK.of_QK lv1 tv1 hk2))
      clear hp2 hk2 c0 HNX HP1 HP1'
      have c4 := HP2.out.dec.cell 4
      rw [show (dcells d1 g lv1 tv1)[4]? = some (.bool d1.ending) from rfl] at c4
      have t10 := byte_ten c
      have t13 := byte_cr c
      unfold dNext at HST HNF
      rw [if_neg hbd] at HST HNF
      cases he : d1.ending with
      | true =>
        rw [he] at c4 HST HNF
        by_cases h10 : c = 10
        · rw [decide_eq_true h10] at t10 HST HNF
          rw [if_neg (by simp), if_pos rfl] at HST HNF
          have HEN := hide he
          clear he t13 hbd
          obtain ⟨la, lc, hle, _, _⟩ := HP2.out.dec.line.shape
          rw [bc_len] at hle
          subst hle
          have HT := HP2.out.dec.line.text
          rw [show (⟨d1.line.toArray⟩ : ByteArray) = sS d1.line from rfl] at HT
          have hl8 := HF1.out.line
          have c3 := HP2.out.dec.cell 3
          rw [show (dcells d1 g (.slice la d1.line.length lc) tv1)[3]? = some (.slice la d1.line.length lc) from rfl] at c3
          have f3 := HP2.out.dec.froz 3
          have f4 := HP2.out.dec.froz 4
          go_upto_region 9 with fail
          obtain ⟨hP4, hK4⟩ := HP2.out.dec.cutl
          have HP4 := hide (hP4.set 4 (.bool false) { d1 with line := [], ending := false } rfl rfl rfl)
          have HK4 := hide (hK4.trans (PK.set _ g 4 (.bool false) (.slice la 0 lc) tv1))
          clear c3 c4 f3 f4 HT hP4 hK4
          generalize (w2.setCell ⟨g, 3, none⟩ (.slice la 0 lc)).setCell ⟨g, 4, none⟩ (.bool false) = w4 at HP4 HK4 ⊢
          have HDP4 := hide (HP2.out.of_PK HP4.out HK4.out)
          have HDK4 := hide (HK2.out.trans (DK.of_PK (h := h) bv HK4.out))
          have HM4 := hide (HM.out.dk HP.out hb HDK4.out)
          have HDE : Hid (dEnd { d1 with line := [], ending := false } (sS d1.line) = dRead { d1 with line := [], ending := false } (sS d1.line)) := hide (by
            unfold dEnd
            rw [show ({ d1 with line := [], ending := false } : Dz).fn = fnBody from HFN1.out]
            rw [if_neg (Ne.symm fn_ne.1), if_pos rfl])
          rw [HDE.out] at HST HNF
          have hs8 : (sS d1.line).size ≤ 8192 := by rw [sS_size]; exact hl8
          have hro := HF1.out.room
          have htr := HF1.out.tr
          have HL := hide (chunkRead_any HP4.out (sS d1.line))
          clear hl8 hro htr
          have HWE : Hid ((dRead { d1 with line := [], ending := false } (sS d1.line)).2.wrong = d1.wrong) := hide (by unfold dRead; (repeat' split) <;> rfl)
          generalize dRead { d1 with line := [], ending := false } (sS d1.line) = R at HL HST HNF HWE
          obtain ⟨en, d5⟩ := R
          dsimp only at HL HST HNF HWE
          go_wp2_with (refine HL.out.mono ?_; rintro e w5 ⟨rfl, fv5, h5, k5⟩)
          go_ret
          exact ⟨en, k + 1, [], d5, _, _, _, bv, rfl, HST.out, HNF.out, fun _ => by omega, HWE.out.trans HWR1.out, by rw [List.append_nil, HDR.out]; exact HDP4.out.of_PK h5 k5, HDK4.out.trans (DK.of_PK bv k5)⟩
        · rw [decide_eq_false h10] at t10 HST HNF
          rw [if_pos (by simp)] at HST HNF
          clear he t13 hbd
          go_wp2_with fail
          go_ret
          exact ⟨100, k + 1, [], d1, _, _, _, bv, rfl, HST.out, HF1.out, fun _ => by omega, HWR1.out, by rw [List.append_nil, HDR.out]; exact HP2.out, HK2.out⟩
      | false =>
        rw [he] at c4 HST HNF
        by_cases h10 : c = 10
        · rw [decide_eq_true h10] at t10 HST HNF
          rw [if_pos (by simp)] at HST HNF
          clear he t13 hbd
          go_wp2_with fail
          go_ret
          exact ⟨100, k + 1, [], d1, _, _, _, bv, rfl, HST.out, HF1.out, fun _ => by omega, HWR1.out, by rw [List.append_nil, HDR.out]; exact HP2.out, HK2.out⟩
        · rw [decide_eq_false h10] at t10 HST HNF
          rw [if_neg (by simp), if_neg (by simp)] at HST HNF
          clear hbd
          by_cases h13 : c = 13
          · rw [decide_eq_true h13] at t13
            rw [if_pos h13] at HST HNF
            have f4 := HP2.out.dec.froz 4
            clear he
            go_wp2_with fail
            have HD3 := hide (HP2.out.dec.set 4 (.bool true) { d1 with ending := true } rfl rfl rfl)
            have HP3 := hide (HP2.out.of_PK HD3.out (PK.set w2 g 4 (.bool true) lv1 tv1))
            exact ⟨⟨k + 1, { d1 with ending := true }, lv1, tv1, rv2, HST, HNF, HW1, HFN1, HLE1, HWR1, hide (by rw [HDR.out]; exact HP3.out), hide (HK2.out.trans (DK.of_PK bv (PK.set w2 g 4 (.bool true) lv1 tv1)))⟩, by rw [HP3.out.restLen, HRL2.out]; omega⟩
          · rw [decide_eq_false h13] at t13
            rw [if_neg h13] at HST HNF
            have hmo : dMost d1 = 0 := by unfold dMost; rw [HFN1.out]; rfl
            rw [hmo] at HST HNF
            have HEF := hide he
            clear he hmo
            obtain ⟨la, lc, hle, _, _⟩ := HP2.out.dec.line.shape
            rw [bc_len] at hle
            subst hle
            have c3 := HP2.out.dec.cell 3
            rw [show (dcells d1 g (.slice la d1.line.length lc) tv1)[3]? = some (.slice la d1.line.length lc) from rfl] at c3
            have f3 := HP2.out.dec.froz 3
            have hl8 := HF1.out.line
            by_cases h5 : d1.line.length = 0
            · have t5 : ((d1.line.length : Int) == 0) = true := by simp [h5]
              rw [if_pos h5] at HST HNF
              clear h5
              go_wp2_with fail
              go_ret
              exact ⟨100, k + 1, [], d1, _, _, _, bv, rfl, HST.out, HF1.out, fun _ => by omega, HWR1.out, by rw [List.append_nil, HDR.out]; exact HP2.out, HK2.out⟩
            · have t5 : ((d1.line.length : Int) == 0) = false := by rw [beq_eq_false_iff_ne]; omega
              rw [if_neg h5] at HST HNF
              clear h5
              obtain ⟨ad, n, ca, W, hrun, q1, q2, hP, hK⟩ := HP2.out.dec.app_l 31 c (by omega)
              have HRUN := hide hrun
              have HP3 := hide (HP2.out.of_PK hP hK)
              have HK3 := hide (HK2.out.trans (DK.of_PK (h := h) bv hK))
              clear hP hK hrun
              go_wp2_with (at_builtin; apply Hid.out)
              unfold Hid
              refine wpList_append_is rfl _ _ 31 rfl (.slice la d1.line.length lc) (.slice (some ⟨w2.heap.size, 0, none⟩) 1 1) (.slice ad n ca) rfl rfl HRUN.out ?_
              go_wp2_with fail
              exact ⟨⟨k + 1, { d1 with line := d1.line ++ [c] }, _, tv1, rv2, hide (by have h := HST.out; rw [← HEF.out] at h; exact h), hide (by have h := HNF.out; rw [← HEF.out] at h; exact h), HW1, HFN1, HLE1, HWR1, hide (by rw [HDR.out]; exact HP3.out), HK3⟩, by rw [HP3.out.restLen, HRL2.out]; omega⟩
end Go.Proofs.YtcagjipdldlehaaGreatDoor
/- A line, read on: at another caller. -/
namespace Go.Proofs.YtcagjipdldlehaaGreatDoor
open Go.ChangeShapes Go.WideShapes Go.ChangeAt Go.RowKit

set_option maxHeartbeats 8000000 in
theorem readLine_trl {w : World} {base g h : Nat} {A : Nat → Prop} {lv tv rv bv : Value} {d : Dz} {rest body : List UInt8} (p : DP w base A g h lv tv rv bv d rest body) (hf : FitD d) (hfn : d.fn = fnTrl) (hw : d.whole = false) (hlf : d.fn = fnBody → d.left = 0 ∨ rest = []) (hm : MX w) (hb : 3 ≤ base) (hl : rest.length ≤ 140737488355328) :
    Calls Tryz.prog 173 #[.pointer (some ⟨g, 0, none⟩), .pointer (some ⟨h, 0, none⟩), .int .i64 8192, .func (.func 192) #[.pointer (some ⟨g, 0, none⟩)] #[]] w (StP w base A g h lv tv bv d rest body) := by
  have HP := hide p
  have HF := hide hf
  have HM := hide hm
  have HLF := hide hlf
  have HFN := hide hfn
  have HW := hide hw
  clear p hf hm hlf hfn hw
  go_enter Tryz.func173, Tryz.ntmps173
  go_wp2_with fail
  go_loopw [9] (fun _ wr => ∃ (k : Nat) (d' : Dz) (lv' tv' rv' : Value), Hid (Dn d rest k [] 0 d') ∧ Hid (FitD d') ∧ Hid (d'.whole = false) ∧ Hid (d'.fn = fnTrl) ∧ Hid (d'.left = d.left) ∧ Hid (d'.wrong = d.wrong) ∧ Hid (DP wr base A g h lv' tv' rv' bv d' (rest.drop k) body) ∧ Hid (DK w wr g h lv tv bv lv' tv' bv)) (fun _ wr => restLen h wr)
  case atStart => exact ⟨0, d, lv, tv, rv, hide (Dn.refl d rest HW.out), HF, HW, HFN, hide rfl, hide rfl, by rw [List.drop_zero]; exact HP, hide (DK.refl _ _ _ _ _ _)⟩
  case round =>
    obtain ⟨k, d1, lv1, tv1, rv1, HD1, HF1, HW1, HFN1, HLE1, HWR1, HP1, HK1⟩ := hrel
    have HRL := hide HP1.out.restLen
    have HM1 := hide (HM.out.dk HP.out hb HK1.out)
    cases hrd : rest.drop k with
    | nil =>
      have HRD := hide hrd
      have hp1 := HP1.out
      rw [hrd] at hp1
      clear hrd
      obtain ⟨ra, rc, hre, _, _⟩ := hp1.pce.rest
      simp only [List.length_nil] at hre
      subst hre
      have c0 : wr.cell? ⟨h, 0, none⟩ = some (.slice ra 0 rc) := hp1.pce.cell 0
      clear hp1
      go_wp2_with fail
      go_ret
      exact ⟨0, k, [], d1, lv1, tv1, _, bv, rfl, HD1.out, HF1.out, fun hne => (by
        have := HRD.out
        have h2 := congrArg List.length this
        rw [List.length_drop, List.length_nil] at h2
        have h3 := List.length_pos_iff.2 hne
        omega), HWR1.out, by rw [List.append_nil]; exact HP1.out, HK1.out⟩
    | cons c r =>
      have hp1 := HP1.out
      rw [hrd] at hp1
      have HP1' := hide hp1
      have hrl : r.length ≤ 140737488355328 := by
        have h2 := congrArg List.length hrd
        rw [List.length_drop, List.length_cons] at h2
        omega
      obtain ⟨ra, rc, hre, _, _⟩ := hp1.pce.rest
      simp only [List.length_cons] at hre
      subst hre
      have c0 : wr.cell? ⟨h, 0, none⟩ = some (.slice ra (r.length + 1) rc) := hp1.pce.cell 0
      have hst := HD1.out.step HW1.out hrd
      have HST := hide hst.1
      have HDR := hide hst.2
      have HRL2 : Hid (restLen h wr = r.length + 1) := hide (by rw [HRL.out, hrd]; rfl)
      have hbd : ¬ (d1.fn = fnBody ∧ 0 < d1.left) := fun hx => by
        rcases HLF.out (HFN.out.trans (HFN1.out.symm.trans hx.1)) with h3 | h3
        · have := HLE1.out; omega
        · rw [h3] at hrd; simp at hrd
      have HNF := hide (HF1.out.next c)
      have HNX := hide hp1.pce
      clear hp1 hst hrd HRL
      go_upto_region 4 with (go_at_call 182; refine (next_any HNX.out hrl).mono ?_; rintro e w2 ⟨rfl, rv2, hp2, hk2⟩)
      have HP2 := hide (HP1'.out.of_QK hp2 hk2)
      have HK2 := hide (HK1.out.trans (DK.of_QK lv1 tv1 hk2))
      clear hp2 hk2 c0 HNX HP1 HP1'
      have c4 := HP2.out.dec.cell 4
      rw [show (dcells d1 g lv1 tv1)[4]? = some (.bool d1.ending) from rfl] at c4
      have t10 := byte_ten c
      have t13 := byte_cr c
      unfold dNext at HST HNF
      rw [if_neg hbd] at HST HNF
      cases he : d1.ending with
      | true =>
        rw [he] at c4 HST HNF
        by_cases h10 : c = 10
        · rw [decide_eq_true h10] at t10 HST HNF
          rw [if_neg (by simp), if_pos rfl] at HST HNF
          have HEN := hide he
          clear he t13 hbd
          obtain ⟨la, lc, hle, _, _⟩ := HP2.out.dec.line.shape
          rw [bc_len] at hle
          subst hle
          have HT := HP2.out.dec.line.text
          rw [show (⟨d1.line.toArray⟩ : ByteArray) = sS d1.line from rfl] at HT
          have hl8 := HF1.out.line
          have c3 := HP2.out.dec.cell 3
          rw [show (dcells d1 g (.slice la d1.line.length lc) tv1)[3]? = some (.slice la d1.line.length lc) from rfl] at c3
          have f3 := HP2.out.dec.froz 3
          have f4 := HP2.out.dec.froz 4
          go_upto_region 9 with fail
          obtain ⟨hP4, hK4⟩ := HP2.out.dec.cutl
          have HP4 := hide (hP4.set 4 (.bool false) { d1 with line := [], ending := false } rfl rfl rfl)
          have HK4 := hide (hK4.trans (PK.set _ g 4 (.bool false) (.slice la 0 lc) tv1))
          clear c3 c4 f3 f4 HT hP4 hK4
          generalize (w2.setCell ⟨g, 3, none⟩ (.slice la 0 lc)).setCell ⟨g, 4, none⟩ (.bool false) = w4 at HP4 HK4 ⊢
          have HDP4 := hide (HP2.out.of_PK HP4.out HK4.out)
          have HDK4 := hide (HK2.out.trans (DK.of_PK (h := h) bv HK4.out))
          have HM4 := hide (HM.out.dk HP.out hb HDK4.out)
          have HDE : Hid (dEnd { d1 with line := [], ending := false } (sS d1.line) = dTrl { d1 with line := [], ending := false } (sS d1.line)) := hide (by
            unfold dEnd
            rw [show ({ d1 with line := [], ending := false } : Dz).fn = fnTrl from HFN1.out]
            rw [if_neg (Ne.symm fn_ne.2.1), if_neg (Ne.symm fn_ne.2.2)])
          rw [HDE.out] at HST HNF
          have hs8 : (sS d1.line).size ≤ 8192 := by rw [sS_size]; exact hl8
          have hro := HF1.out.room
          have htr := HF1.out.tr
          have HL := hide (trailer_any HP4.out HM4.out (sS d1.line) hs8 htr)
          clear hl8 hro htr
          have HWE : Hid ((dTrl { d1 with line := [], ending := false } (sS d1.line)).2.wrong = d1.wrong) := hide (by unfold dTrl; (repeat' split) <;> rfl)
          generalize dTrl { d1 with line := [], ending := false } (sS d1.line) = R at HL HST HNF HWE
          obtain ⟨en, d5⟩ := R
          dsimp only at HL HST HNF HWE
          go_wp2_with (refine HL.out.mono ?_; rintro e w5 ⟨rfl, fv5, h5, k5⟩)
          go_ret
          exact ⟨en, k + 1, [], d5, _, _, _, bv, rfl, HST.out, HNF.out, fun _ => by omega, HWE.out.trans HWR1.out, by rw [List.append_nil, HDR.out]; exact HDP4.out.of_PK h5 k5, HDK4.out.trans (DK.of_PK bv k5)⟩
        · rw [decide_eq_false h10] at t10 HST HNF
          rw [if_pos (by simp)] at HST HNF
          clear he t13 hbd
          go_wp2_with fail
          go_ret
          exact ⟨100, k + 1, [], d1, _, _, _, bv, rfl, HST.out, HF1.out, fun _ => by omega, HWR1.out, by rw [List.append_nil, HDR.out]; exact HP2.out, HK2.out⟩
      | false =>
        rw [he] at c4 HST HNF
        by_cases h10 : c = 10
        · rw [decide_eq_true h10] at t10 HST HNF
          rw [if_pos (by simp)] at HST HNF
          clear he t13 hbd
          go_wp2_with fail
          go_ret
          exact ⟨100, k + 1, [], d1, _, _, _, bv, rfl, HST.out, HF1.out, fun _ => by omega, HWR1.out, by rw [List.append_nil, HDR.out]; exact HP2.out, HK2.out⟩
        · rw [decide_eq_false h10] at t10 HST HNF
          rw [if_neg (by simp), if_neg (by simp)] at HST HNF
          clear hbd
          by_cases h13 : c = 13
          · rw [decide_eq_true h13] at t13
            rw [if_pos h13] at HST HNF
            have f4 := HP2.out.dec.froz 4
            clear he
            go_wp2_with fail
            have HD3 := hide (HP2.out.dec.set 4 (.bool true) { d1 with ending := true } rfl rfl rfl)
            have HP3 := hide (HP2.out.of_PK HD3.out (PK.set w2 g 4 (.bool true) lv1 tv1))
            exact ⟨⟨k + 1, { d1 with ending := true }, lv1, tv1, rv2, HST, HNF, HW1, HFN1, HLE1, HWR1, hide (by rw [HDR.out]; exact HP3.out), hide (HK2.out.trans (DK.of_PK bv (PK.set w2 g 4 (.bool true) lv1 tv1)))⟩, by rw [HP3.out.restLen, HRL2.out]; omega⟩
          · rw [decide_eq_false h13] at t13
            rw [if_neg h13] at HST HNF
            have hmo : dMost d1 = 8192 := by unfold dMost; rw [HFN1.out]; decide
            rw [hmo] at HST HNF
            have HEF := hide he
            clear he hmo
            obtain ⟨la, lc, hle, _, _⟩ := HP2.out.dec.line.shape
            rw [bc_len] at hle
            subst hle
            have c3 := HP2.out.dec.cell 3
            rw [show (dcells d1 g (.slice la d1.line.length lc) tv1)[3]? = some (.slice la d1.line.length lc) from rfl] at c3
            have f3 := HP2.out.dec.froz 3
            have hl8 := HF1.out.line
            by_cases h5 : d1.line.length = 8192
            · have t5 : ((d1.line.length : Int) == 8192) = true := by simp [h5]
              rw [if_pos h5] at HST HNF
              clear h5
              go_wp2_with fail
              go_ret
              exact ⟨100, k + 1, [], d1, _, _, _, bv, rfl, HST.out, HF1.out, fun _ => by omega, HWR1.out, by rw [List.append_nil, HDR.out]; exact HP2.out, HK2.out⟩
            · have t5 : ((d1.line.length : Int) == 8192) = false := by rw [beq_eq_false_iff_ne]; omega
              rw [if_neg h5] at HST HNF
              clear h5
              obtain ⟨ad, n, ca, W, hrun, q1, q2, hP, hK⟩ := HP2.out.dec.app_l 31 c (by omega)
              have HRUN := hide hrun
              have HP3 := hide (HP2.out.of_PK hP hK)
              have HK3 := hide (HK2.out.trans (DK.of_PK (h := h) bv hK))
              clear hP hK hrun
              go_wp2_with (at_builtin; apply Hid.out)
              unfold Hid
              refine wpList_append_is rfl _ _ 31 rfl (.slice la d1.line.length lc) (.slice (some ⟨w2.heap.size, 0, none⟩) 1 1) (.slice ad n ca) rfl rfl HRUN.out ?_
              go_wp2_with fail
              exact ⟨⟨k + 1, { d1 with line := d1.line ++ [c] }, _, tv1, rv2, hide (by have h := HST.out; rw [← HEF.out] at h; exact h), hide (by have h := HNF.out; rw [← HEF.out] at h; exact h), HW1, HFN1, HLE1, HWR1, hide (by rw [HDR.out]; exact HP3.out), HK3⟩, by rw [HP3.out.restLen, HRL2.out]; omega⟩
end Go.Proofs.YtcagjipdldlehaaGreatDoor
/- The decoder's states. -/
namespace Go.Proofs.YtcagjipdldlehaaGreatDoor
open Go.ChangeShapes Go.WideShapes Go.ChangeAt Go.RowKit

theorem sizeLine_any {w : World} {base g h : Nat} {A : Nat → Prop} {lv tv rv bv : Value} {d : Dz} {rest body : List UInt8} (p : DP w base A g h lv tv rv bv d rest body) (hf : FitD d) (hfn : d.fn = fnSize) (hw : d.whole = false) (hm : MX w) (hb : 3 ≤ base) (hl : rest.length ≤ 140737488355328) :
    Calls Tryz.prog 159 #[.pointer (some ⟨g, 0, none⟩), .pointer (some ⟨h, 0, none⟩)] w (StP w base A g h lv tv bv d rest body) := by
  have HL := hide (readLine_size p hf hfn hw (fun e => absurd (hfn.symm.trans e) fn_ne.1) hm hb hl)
  clear p hf hfn hw hm hb hl
  go_enter Tryz.func159, Tryz.ntmps159
  go_wp2_with fail
  refine HL.out.mono ?_
  rintro e w' ⟨en, k, o, d', lv', tv', rv', bv', rfl, h1, h2, h3, h4, h5, h6⟩
  have H := hide (And.intro h1 (And.intro h2 (And.intro h3 (And.intro h4 (And.intro h5 h6)))))
  clear h1 h2 h3 h4 h5 h6
  go_wp2_with fail
  go_ret
  exact ⟨en, k, o, d', lv', tv', rv', bv', rfl, H.out⟩
theorem trailerLine_any {w : World} {base g h : Nat} {A : Nat → Prop} {lv tv rv bv : Value} {d : Dz} {rest body : List UInt8} (p : DP w base A g h lv tv rv bv d rest body) (hf : FitD d) (hfn : d.fn = fnTrl) (hw : d.whole = false) (hm : MX w) (hb : 3 ≤ base) (hl : rest.length ≤ 140737488355328) :
    Calls Tryz.prog 186 #[.pointer (some ⟨g, 0, none⟩), .pointer (some ⟨h, 0, none⟩)] w (StP w base A g h lv tv bv d rest body) := by
  have HL := hide (readLine_trl p hf hfn hw (fun e => absurd (e.symm.trans hfn) fn_ne.2.2) hm hb hl)
  clear p hf hfn hw hm hb hl
  go_enter Tryz.func186, Tryz.ntmps186
  go_wp2_with fail
  refine HL.out.mono ?_
  rintro e w' ⟨en, k, o, d', lv', tv', rv', bv', rfl, h1, h2, h3, h4, h5, h6⟩
  have H := hide (And.intro h1 (And.intro h2 (And.intro h3 (And.intro h4 (And.intro h5 h6)))))
  clear h1 h2 h3 h4 h5 h6
  go_wp2_with fail
  go_ret
  exact ⟨en, k, o, d', lv', tv', rv', bv', rfl, H.out⟩
/-- Both, with more blocks. -/
theorem DP.below {w w' : World} {base g h : Nat} {A : Nat → Prop} {lv tv rv bv : Value} {d : Dz} {rest body : List UInt8} (p : DP w base A g h lv tv rv bv d rest body) (b : Below w.heap.size w w') : DP w' base A g h lv tv rv bv d rest body :=
  ⟨p.dec.below b, p.pce.below b, p.gh, p.lh, p.th, p.bg, p.bl, p.bt, p.gA, p.lA, p.tA⟩
theorem DK.of_below {w w' : World} (g h : Nat) (lv tv bv : Value) (b : Below w.heap.size w w') : DK w w' g h lv tv bv lv tv bv :=
  ⟨b.os, b.tape, b.output, b.size, fun k hk _ _ _ _ _ => b.block k hk, fun _ _ h => h, fun _ _ h => h, fun _ _ h => h⟩
/-- Behind bytes that were taken, what a state tells of the rest is told of all. -/
theorem StP.after {w w1 : World} {base g h : Nat} {A : Nat → Prop} {lv tv bv lv1 tv1 bv1 : Value} {d : Dz} {rest body : List UInt8} {n : Nat} (hn : n ≤ rest.length) (hw : d.whole = false) (hk : DK w w1 g h lv tv bv lv1 tv1 bv1) (hT : Dn d rest n (rest.take n) 0 { d with left := d.left - n }) (h0 : rest.drop n = [] → 1 ≤ n ∨ rest = []) {e : Ending} {w' : World} (hs : StP w1 base A g h lv1 tv1 bv1 { d with left := d.left - n } (rest.drop n) (body ++ rest.take n) e w') : StP w base A g h lv tv bv d rest body e w' := by
  obtain ⟨en, k, o, d', lv', tv', rv', bv', h1, h2, h3, h4, h5, h6, h7⟩ := hs
  refine ⟨en, n + k, rest.take n ++ o, d', lv', tv', rv', bv', h1, ?_, h3, fun hne => ?_, h5, ?_, hk.trans h7⟩
  · obtain ⟨a1, a2⟩ := hT
    obtain ⟨b1, b2⟩ := h2
    rw [if_neg (by simp [hw])] at a2
    rw [List.length_drop] at b1
    refine ⟨by omega, ?_⟩
    split at b2
    · rename_i hx
      rw [if_pos hx, a2, b2]
      simp [sh, Nat.add_comm]
    · rename_i hx
      rw [if_neg hx, a2, b2, List.drop_drop, sh_sh, Nat.add_comm k n]
  · by_cases hd : rest.drop n = []
    · rcases h0 hd with h8 | h8
      · omega
      · exact absurd h8 hne
    · have := h4 hd; omega
  · rw [← List.append_assoc, ← List.drop_drop]
    exact h6
set_option maxHeartbeats 8000000 in
set_option maxRecDepth 100000 in
theorem body_any {w : World} {base g h : Nat} {A : Nat → Prop} {lv tv rv bv : Value} {d : Dz} {rest body : List UInt8} (p : DP w base A g h lv tv rv bv d rest body) (hf : FitD d) (hfn : d.fn = fnBody) (hw : d.whole = false) (h0 : rest ≠ []) (hm : MX w) (hb : 3 ≤ base) (hl : rest.length + body.length ≤ 140737488355328) :
    Calls Tryz.prog 185 #[.pointer (some ⟨g, 0, none⟩), .pointer (some ⟨h, 0, none⟩)] w (StP w base A g h lv tv bv d rest body) := by
  have HP := hide p
  have HF := hide hf
  have HFN := hide hfn
  have HW := hide hw
  have HM := hide hm
  have hleft := hf.left
  have BD := hide ((Below.refl w.heap.size w).drew)
  have HPD := hide (p.below BD.out)
  have HKD := hide (DK.of_below g h lv tv bv BD.out)
  have hbs : base ≤ w.heap.size := Nat.le_of_lt (Nat.lt_of_le_of_lt p.dec.gb p.dec.lt)
  have HTK : Hid (Calls Tryz.prog 190 #[.pointer (some ⟨h, 0, none⟩), .int .i64 (d.left : Int)] w.drew fun e w' => ∃ r, e = .returned r ∧ (r = .int .i64 ((min d.left rest.length : Nat) : Int) ∧ ∃ rv' bv', Hid (DP w' base A g h lv tv rv' bv' d (rest.drop (min d.left rest.length)) (body ++ rest.take (min d.left rest.length))) ∧ Hid (DK w w' g h lv tv bv lv tv bv') ∧ w'.cell? ⟨g, 2, none⟩ = some (.int .i64 (d.left : Int)) ∧ w'.frozen? ⟨g, 2, none⟩ = false)) := hide (by
    refine (take_any HPD.out.pce hbs d.left h0 hl hleft).mono ?_
    rintro e w' ⟨rfl, rv', bv', hp, hk⟩
    have hq := HPD.out.of_QK hp hk
    exact ⟨_, rfl, rfl, rv', bv', hide hq, hide (HKD.out.trans (DK.of_QK lv tv hk)), hq.dec.cell 2, hq.dec.froz 2⟩)
  have c2 : w.cell? ⟨g, 2, none⟩ = some (.int .i64 (d.left : Int)) := p.dec.cell 2
  have HDN := hide (Dn.takes (d0 := d) (l := rest) (min d.left rest.length) (Dn.refl d rest hw) hw hfn (by omega) (by rw [List.drop_zero]; omega))
  rw [List.drop_zero, List.nil_append, Nat.zero_add] at HDN
  obtain ⟨n, hn⟩ : ∃ n, min d.left rest.length = n := ⟨_, rfl⟩
  have hn1 : n ≤ d.left := by omega
  have hn2 : n ≤ rest.length := by omega
  have hn3 : n = d.left ∨ n = rest.length := by omega
  rw [hn] at HTK HDN
  clear p hf hfn hw hm hn
  have i1 : (d.left : Int) - (n : Int) = ((d.left - n : Nat) : Int) := by omega
  have wr : IntKind.i64.wrap ((d.left - n : Nat) : Int) = ((d.left - n : Nat) : Int) := IntWalk.i64_in _ ⟨by omega, by omega⟩
  go_enter Tryz.func185, Tryz.ntmps185
  go_upto_region 1 with fail
  go_region_law (refine step_call rfl 190 _ _ rfl (enters_of Tryz.func190 (by kernel_rfl) rfl) #[.pointer (some ⟨h, 0, none⟩), .int .i64 (d.left : Int)] (by simp [Act.eval]) _ HTK.out ?_; rintro r w2 ⟨rfl, rv2, bv2, HP2, HK2, e2, f2⟩)
  all_goals (have HD3 := hide (HP2.out.dec.set 2 (.int .i64 ((d.left - n : Nat) : Int)) { d with left := d.left - n } rfl rfl rfl))
  all_goals (have HP3 := hide (HP2.out.of_PK HD3.out (PK.set w2 g 2 (.int .i64 ((d.left - n : Nat) : Int)) lv tv)))
  all_goals (have HK3 := hide (HK2.out.trans (DK.of_PK (h := h) bv2 (PK.set w2 g 2 (.int .i64 ((d.left - n : Nat) : Int)) lv tv))))
  all_goals (clear HD3 HP2 HK2 e2 f2 c2)
  all_goals (generalize w2.setCell ⟨g, 2, none⟩ (.int .i64 ((d.left - n : Nat) : Int)) = w3 at HP3 HK3 ⊢)
  all_goals (have HM3 := hide (HM.out.dk HP.out hb HK3.out))
  all_goals (have HL := hide (readLine_body HP3.out ⟨HF.out.fn, HF.out.room, (by show d.left - n ≤ _; omega), HF.out.line, HF.out.tr, HF.out.bd⟩ HFN.out HW.out (fun _ => (by
    rcases hn3 with h5 | h5
    · left; show d.left - n = 0; omega
    · right; exact List.drop_of_length_le (by omega))) HM3.out hb (by rw [List.length_drop]; omega)))
  all_goals (go_wp2_with fail)
  all_goals (refine HL.out.mono ?_)
  all_goals (rintro e w' ⟨en, k, o, d', lv', tv', rv', bv', rfl, h1, h2, h3, h4, h5, h6⟩)
  all_goals (have HS : Hid (StP w3 base A g h lv tv bv2 { d with left := d.left - n } (rest.drop n) (body ++ rest.take n) (.returned (.int .i64 (en : Int))) w') := hide ⟨en, k, o, d', lv', tv', rv', bv', rfl, h1, h2, h3, h4, h5, h6⟩)
  all_goals (clear h1 h2 h3 h4 h5 h6 HL)
  all_goals (go_wp2_with fail)
  all_goals go_ret
  all_goals exact StP.after hn2 HW.out HK3.out HDN.out (fun hd => (by
    have h7 := congrArg List.length hd
    rw [List.length_drop, List.length_nil] at h7
    have h8 := List.length_pos_iff.2 h0
    left; omega)) HS.out
end Go.Proofs.YtcagjipdldlehaaGreatDoor
/- New and Feed. -/
namespace Go.Proofs.YtcagjipdldlehaaGreatDoor
open Go.ChangeShapes Go.WideShapes Go.ChangeAt Go.RowKit

def dNew (most : Nat) : Dz := ⟨fnSize, most, 0, [], false, [], false, 0⟩
theorem fit_dnew (most : Nat) (h : most ≤ 9007199254740992) : FitD (dNew most) := ⟨.inl rfl, h, Nat.zero_le _, Nat.zero_le _, Nat.zero_le _, fun _ => rfl⟩
def overB (d : Dz) : Bool := d.whole || decide (d.wrong ≠ 0)
def dForget (d : Dz) : Dz := { d with line := if overB d then [] else d.line, tr := if d.wrong = 0 then d.tr else [] }
/-- What one piece makes of a decoder: the bytes told, how many were read, the decoder behind it. -/
def dFeed (d : Dz) (l : List UInt8) : List UInt8 × Nat × Dz :=
  if overB d then ([], 0, dForget d) else ((dBytes d l).2.2.1, (dBytes d l).2.1, dForget { (dBytes d l).2.2.2 with wrong := (dBytes d l).1 })
theorem new_bad (most : Int) (w : World) (h : most < 0 ∨ 9007199254740992 < most) :
    Calls Tryz.prog 132 #[.int .i64 most] w fun e w' => e = .returned (.tuple #[.pointer none, .int .i64 1]) ∧ w = w' := by
  by_cases h1 : most < 0
  · go_enter Tryz.func132, Tryz.ntmps132
    go_wp2
    go_ret2
    exact ⟨rfl, rfl⟩
  · have h2 : 9007199254740992 < most := by omega
    clear h
    go_enter Tryz.func132, Tryz.ntmps132
    go_wp2
    go_ret2
    exact ⟨rfl, rfl⟩
theorem dec_new {W : World} {base g : Nat} (d : Dz) (h : W.heap[g]? = some (.cells (dcells d g (.slice none 0 0) (.slice none 0 0)) 236 (0, 0))) (hb : base ≤ g) (hl : d.line = []) (hf : d.tr = []) : Dec W base g (.slice none 0 0) (.slice none 0 0) d := by
  refine ⟨h, ?_, ?_, hb, by simp [Value.ownBlock], by simp [Value.ownBlock], by intro k e; simp [Value.ownBlock] at e⟩
  · rw [hl]; exact Row.nil _ _ _
  · rw [hf]; exact FRow.nil _ _
set_option maxHeartbeats 2000000 in
theorem new_any (most : Nat) (w : World) (h2 : most ≤ 9007199254740992) :
    Calls Tryz.prog 132 #[.int .i64 (most : Int)] w fun e w' => e = .returned (.tuple #[.pointer (some ⟨w.heap.size, 0, none⟩), .int .i64 0]) ∧ Dec w' w.heap.size w.heap.size (.slice none 0 0) (.slice none 0 0) (dNew most) ∧ Below w.heap.size w w' := by
  have t1 : ¬ (most : Int) < 0 := by omega
  have t2 : ¬ (9007199254740992 : Int) < (most : Int) := by omega
  go_enter Tryz.func132, Tryz.ntmps132
  go_upto_region 4 with fail
  have HB := hide ((Below.refl w.heap.size w).alloc (Nat.le_refl _) (.cells #[.nilFunc, .int .i64 (most : Int), .int .i64 0, .slice none 0 0, .bool false, .slice none 0 0, .bool false, .int .i64 0] 236))
  have HD := hide (hp_new w (.cells #[.nilFunc, .int .i64 (most : Int), .int .i64 0, .slice none 0 0, .bool false, .slice none 0 0, .bool false, .int .i64 0] 236))
  generalize w.alloc (.cells #[.nilFunc, .int .i64 (most : Int), .int .i64 0, .slice none 0 0, .bool false, .slice none 0 0, .bool false, .int .i64 0] 236) = x at HB HD ⊢
  have d0 : x.cell? ⟨w.heap.size, 0, none⟩ = some .nilFunc := cell_at HD.out 0
  have f0 : x.frozen? ⟨w.heap.size, 0, none⟩ = false := by rw [frozen_at HD.out]; simp
  go_wp2_with fail
  go_ret2
  exact ⟨rfl, dec_new (dNew most) (hp_set HD.out 0 (stV fnSize w.heap.size)) (Nat.le_refl _) rfl rfl, HB.out.setCell (p := ⟨w.heap.size, 0, none⟩) (Nat.le_refl _) (stV fnSize w.heap.size)⟩
theorem over_any {w : World} {base g : Nat} {lv tv : Value} {d : Dz} (h : Dec w base g lv tv d) : Calls Tryz.prog 234 #[.pointer (some ⟨g, 0, none⟩)] w fun e w' => e = .returned (.bool (overB d)) ∧ w = w' := by
  have c6 : w.cell? ⟨g, 6, none⟩ = some (.bool d.whole) := h.cell 6
  have c7 : w.cell? ⟨g, 7, none⟩ = some (.int .i64 (d.wrong : Int)) := h.cell 7
  clear h
  obtain ⟨O, hO⟩ : ∃ O, overB d = O := ⟨_, rfl⟩
  rw [hO]
  unfold overB at hO
  have HO := hide hO
  clear hO
  cases hw : d.whole with
  | true =>
    rw [hw] at c6
    have HW := hide hw
    clear hw
    go_enter Tryz.func234, Tryz.ntmps234
    go_wp2
    go_ret
    exact ⟨ret_bool (by rw [← HO.out, HW.out]; rfl), rfl⟩
  | false =>
    rw [hw] at c6
    have HW := hide hw
    clear hw
    by_cases h1 : d.wrong = 0
    · have t1 : ((d.wrong : Int) != 0) = false := by rw [bne_eq_false_iff_eq]; omega
      have H1 := hide h1
      clear h1
      go_enter Tryz.func234, Tryz.ntmps234
      go_wp2
      go_ret
      exact ⟨ret_bool (by rw [← HO.out, HW.out, H1.out]; rfl), rfl⟩
    · have t1 : ((d.wrong : Int) != 0) = true := bne_iff_ne.2 (by omega)
      have H1 := hide h1
      clear h1
      go_enter Tryz.func234, Tryz.ntmps234
      go_wp2
      go_ret
      exact ⟨ret_bool (by rw [← HO.out, HW.out]; simp [H1.out]), rfl⟩
theorem Dec.nilL {w : World} {base g : Nat} {lv fv : Value} {d : Dz} (h : Dec w base g lv fv d) : Dec (w.setCell ⟨g, 3, none⟩ (.slice none 0 0)) base g (.slice none 0 0) fv { d with line := [] } := by
  refine ⟨hp_set h.blk 3 (.slice none 0 0), Row.nil _ _ _, ?_, h.gb, by simp [Value.ownBlock], h.gf, by intro k e; simp [Value.ownBlock] at e⟩
  exact h.trs.frame fun k hk => Below.heap_setCell w ⟨g, 3, none⟩ _ k (fun e => h.gf (by rw [hk, e]))
theorem Dec.nilF {w : World} {base g : Nat} {lv fv : Value} {d : Dz} (h : Dec w base g lv fv d) : Dec (w.setCell ⟨g, 5, none⟩ (.slice none 0 0)) base g lv (.slice none 0 0) { d with tr := [] } := by
  refine ⟨hp_set h.blk 5 (.slice none 0 0), ?_, FRow.nil _ _, h.gb, h.gl, by simp [Value.ownBlock], by intro k e; simp [Value.ownBlock]⟩
  exact h.line.frame fun k hk => Below.heap_setCell w ⟨g, 5, none⟩ _ k (fun e => h.gl (by rw [hk, e]))
theorem PK.nilL (w : World) (g i : Nat) (v lv fv : Value) : PK w (w.setCell ⟨g, i, none⟩ v) g lv fv (.slice none 0 0) fv :=
  ⟨rfl, rfl, rfl, by simp, fun k _ hk _ _ => Below.heap_setCell w ⟨g, i, none⟩ v k hk, fun _ _ _ => by simp [Value.ownBlock], fun _ _ h => h⟩
theorem PK.nilF (w : World) (g i : Nat) (v lv fv : Value) : PK w (w.setCell ⟨g, i, none⟩ v) g lv fv lv (.slice none 0 0) :=
  ⟨rfl, rfl, rfl, by simp, fun k _ hk _ _ => Below.heap_setCell w ⟨g, i, none⟩ v k hk, fun _ _ h => h, fun _ _ _ => by simp [Value.ownBlock]⟩
set_option maxHeartbeats 2000000 in
theorem forget_any {w : World} {base g : Nat} {lv tv : Value} {d : Dz} (h : Dec w base g lv tv d) :
    Calls Tryz.prog 231 #[.pointer (some ⟨g, 0, none⟩)] w fun e w' => e = .returned (.tuple #[]) ∧ ∃ lv' tv', Dec w' base g lv' tv' (dForget d) ∧ PK w w' g lv tv lv' tv' := by
  have HP := hide h
  have HO := hide (over_any h)
  have c7 : w.cell? ⟨g, 7, none⟩ = some (.int .i64 (d.wrong : Int)) := h.cell 7
  obtain ⟨la, lc, rfl, _, _⟩ := h.line.shape
  obtain ⟨ta, tc, rfl, _, _⟩ := h.trs.shape
  clear h
  generalize hD : dForget d = D
  unfold dForget at hD
  cases ho : overB d with
  | false =>
    rw [ho] at HO hD
    have h0 : d.wrong = 0 := by
      unfold overB at ho
      rw [Bool.or_eq_false_iff] at ho
      simpa using ho.2
    have t0 : ((d.wrong : Int) != 0) = false := by rw [bne_eq_false_iff_eq]; omega
    rw [if_neg (by simp), if_pos h0] at hD
    have HD := hide hD
    clear hD ho h0
    go_enter Tryz.func231, Tryz.ntmps231
    go_wp2_with (refine HO.out.mono ?_; rintro e w' ⟨rfl, rfl⟩)
    go_end0
    exact ⟨rfl, _, _, by rw [← HD.out]; exact HP.out, PK.refl _ _ _ _⟩
  | true =>
    rw [ho] at HO hD
    rw [if_pos rfl] at hD
    have c3 := HP.out.cell 3
    have f3 := HP.out.froz 3
    by_cases h0 : d.wrong = 0
    · have t0 : ((d.wrong : Int) != 0) = false := by rw [bne_eq_false_iff_eq]; omega
      rw [if_pos h0] at hD
      have HD := hide hD
      clear hD ho h0
      go_enter Tryz.func231, Tryz.ntmps231
      go_wp2_with (refine HO.out.mono ?_; rintro e w' ⟨rfl, rfl⟩)
      go_end0
      exact ⟨rfl, _, _, by rw [← HD.out]; exact HP.out.nilL, PK.nilL _ _ _ _ _ _⟩
    · have t0 : ((d.wrong : Int) != 0) = true := bne_iff_ne.2 (by omega)
      rw [if_neg h0] at hD
      have HD := hide hD
      clear hD ho h0
      go_enter Tryz.func231, Tryz.ntmps231
      go_wp2_with fail
      refine HO.out.mono ?_
      rintro e w' ⟨rfl, rfl⟩
      go_upto_region 2 with fail
      have HP2 := hide HP.out.nilL
      have HK2 := hide (PK.nilL w g 3 (.slice none 0 0) (.slice la (bc d.line).length lc) (.slice ta d.tr.length tc))
      clear c3 f3 c7
      generalize w.setCell ⟨g, 3, none⟩ (.slice none 0 0) = w2 at HP2 HK2 ⊢
      have c7 : w2.cell? ⟨g, 7, none⟩ = some (.int .i64 (d.wrong : Int)) := HP2.out.cell 7
      have c5 := HP2.out.cell 5
      have f5 := HP2.out.froz 5
      go_wp2_with fail
      go_end0
      exact ⟨rfl, _, _, by rw [← HD.out]; exact HP2.out.nilF, HK2.out.trans (PK.nilF _ _ _ _ _ _)⟩
end Go.Proofs.YtcagjipdldlehaaGreatDoor
/- Feed, walked, at a decoder that reads on. -/
namespace Go.Proofs.YtcagjipdldlehaaGreatDoor
open Go.ChangeShapes Go.WideShapes Go.ChangeAt Go.RowKit

/-- Two steps in a row. -/
theorem Dn.trans {d d1 d2 : Dz} {l : List UInt8} {k k2 e2 : Nat} {o o2 : List UInt8} (h : Dn d l k o 0 d1) (hw : d1.whole = false) (h2 : Dn d1 (l.drop k) k2 o2 e2 d2) : Dn d l (k + k2) (o ++ o2) e2 d2 := by
  obtain ⟨a1, a2⟩ := h
  obtain ⟨b1, b2⟩ := h2
  rw [if_neg (by simp [hw])] at a2
  rw [List.length_drop] at b1
  refine ⟨by omega, ?_⟩
  split at b2
  · rename_i hx
    rw [if_pos hx, a2, b2]
    simp [sh, Nat.add_comm]
  · rename_i hx
    rw [if_neg hx, a2, b2, List.drop_drop, sh_sh, Nat.add_comm k2 k]
theorem Dn.done {d d1 : Dz} {l : List UInt8} {k e : Nat} {o : List UInt8} (h : Dn d l k o e d1) (hx : (e ≠ 0 ∨ d1.whole = true) ∨ l.drop k = []) : dBytes d l = (e, k, o, d1) := by
  obtain ⟨a1, a2⟩ := h
  by_cases h1 : e ≠ 0 ∨ d1.whole = true
  · rw [if_pos h1] at a2; exact a2
  · rw [if_neg h1] at a2
    have h2 : l.drop k = [] := hx.resolve_left h1
    have h3 : e = 0 := by rw [not_or] at h1; simpa using h1.1
    rw [a2, h2, h3]
    simp [sh, dBytes]
theorem Row.raise {W : World} {base base2 : Nat} {e : TypeId} {v : Value} {xs : List Value} (h : Row W base e v xs) (hb : ∀ k, v.ownBlock = some k → base2 ≤ k) : Row W base2 e v xs := by
  refine ⟨h.1, ?_⟩
  rcases h.2 with x | ⟨g, cap, cur, rfl, h1, hg, hc, hmx, hs, ht⟩
  · exact .inl x
  · exact .inr ⟨g, cap, cur, rfl, hb g rfl, hg, hc, hmx, hs, ht⟩
theorem eta_wrong {d : Dz} {e : Nat} (h : d.wrong = e) : { d with wrong := e } = d := by subst h; rfl
theorem bytes_out : ∀ (l : List UInt8) (d : Dz), (dBytes d l).2.2.1.length ≤ (dBytes d l).2.1
  | [], _ => Nat.le_refl _
  | c :: r, d => by
    have h1 : (dNext d c).2.1.length ≤ 1 := by
      unfold dNext
      repeat' split
      all_goals simp
    rw [dBytes]
    split
    · exact h1
    · split
      · exact h1
      · have := bytes_out r (dNext d c).2.2
        simp only [List.length_append]
        omega
theorem bytes_len : ∀ (l : List UInt8) (d : Dz), (dBytes d l).2.1 ≤ l.length
  | [], _ => Nat.le_refl _
  | c :: r, d => by
    rw [dBytes, List.length_cons]
    split
    · exact Nat.le_add_left _ _
    · split
      · exact Nat.le_add_left _ _
      · have := bytes_len r (dNext d c).2.2
        dsimp only
        omega
theorem dn_out {d d1 : Dz} {l : List UInt8} {k e : Nat} {o : List UInt8} (h : Dn d l k o e d1) : o.length ≤ l.length := by
  have h1 := bytes_out l d
  have h2 := bytes_len l d
  obtain ⟨_, h4⟩ := h
  split at h4
  · rw [h4] at h1 h2; dsimp only at h1 h2; omega
  · rw [h4] at h1 h2; simp only [sh, List.length_append] at h1 h2; omega
theorem eq_nilFunc (fn g : Nat) (w : World) : (binOp BinOp.eql 234 (.func (.func fn) #[.pointer (some ⟨g, 0, none⟩)] #[]) .nilFunc).run Tryz.prog w = .ok (.bool false) w := by kernel_rfl
theorem DK.pk {w w' : World} {g h : Nat} {lv tv bv lv' tv' bv' : Value} (k : DK w w' g h lv tv bv lv' tv' bv') {w0 : World} (h0 : Below w0.heap.size w0 w) (hh : w0.heap.size ≤ h) (hb : ∀ i, bv.ownBlock = some i → w0.heap.size ≤ i) : PK w0 w' g lv tv lv' tv' :=
  ⟨k.os.trans h0.os, k.tape.trans h0.tape, k.output.trans h0.output, Nat.le_trans h0.size k.size,
    fun i hi h1 h2 h3 => (k.block i (Nat.lt_of_lt_of_le hi h0.size) h1 (by omega) h2 h3 (fun e => by have := hb i e; omega)).trans (h0.block i hi),
    fun i hi e => k.la i (Nat.lt_of_lt_of_le hi h0.size) e, fun i hi e => k.ta i (Nat.lt_of_lt_of_le hi h0.size) e⟩
set_option maxHeartbeats 8000000 in
set_option maxRecDepth 100000 in
theorem feed_on {w : World} {base g : Nat} {A : Nat → Prop} {lv tv : Value} {d : Dz} (hD : Dec w base g lv tv d) (hf : FitD d) (hw : d.whole = false) (hwr : d.wrong = 0) (hm : MX w) (hb : 3 ≤ base) (v : Value) (l : List UInt8) (hv : Bf w A v l) (hs : Shp v) (gA : ¬ A g) (lA : ∀ k, lv.ownBlock = some k → ¬ A k) (tA : ∀ k, tv.ownBlock = some k → ¬ A k) (AL : ∀ k, A k → k < w.heap.size) (hl : l.length ≤ 70368744177664) :
    Calls Tryz.prog 233 #[.pointer (some ⟨g, 0, none⟩), v] w fun e w' => ∃ bv lv' tv', e = .returned (.tuple #[bv, .int .i64 ((dBytes d l).2.1 : Int), .bool (dBytes d l).2.2.2.whole, .int .i64 ((dBytes d l).1 : Int)]) ∧ Row w' w.heap.size 5 bv (bc (dBytes d l).2.2.1) ∧ Dec w' base g lv' tv' (dForget { (dBytes d l).2.2.2 with wrong := (dBytes d l).1 }) ∧ PK w w' g lv tv lv' tv' := by
  have HD := hide hD
  have HF := hide hf
  have HM := hide hm
  have HV := hide hv
  have HSH := hide hs
  have HW := hide hw
  have HWR := hide hwr
  obtain ⟨va, vc, rfl, _, _⟩ := hv
  have c0 : w.cell? ⟨g, 0, none⟩ = some (stV d.fn g) := hD.cell 0
  unfold stV at c0
  have e5 := eq_nilFunc d.fn g
  have hgl : g < w.heap.size := hD.lt
  have hbs : base ≤ w.heap.size := Nat.le_of_lt (Nat.lt_of_le_of_lt hD.gb hD.lt)
  clear hD hf hm hs hw hwr
  generalize hRD : dBytes d l = RD
  have HRD := hide hRD
  clear hRD
  go_enter Tryz.func233, Tryz.ntmps233
  go_upto_region 4 with fail
  have B1 := hide ((Below.refl w.heap.size w).alloc (Nat.le_refl _) (.cells #[.slice va l.length vc, .slice none 0 0] 257))
  have HB1 := hide (hp_new w (.cells #[.slice va l.length vc, .slice none 0 0] 257))
  generalize w.alloc (.cells #[.slice va l.length vc, .slice none 0 0] 257) = w1 at B1 HB1 ⊢
  have HP1 : Hid (DP w1 base A g w.heap.size lv tv (.slice va l.length vc) (.slice none 0 0) d l []) := hide ⟨HD.out.below B1.out, ⟨HB1.out, HV.out.below B1.out, HSH.out, Row.nil _ _ _, hbs, by simp [Value.ownBlock], (fun hA => by have := AL _ hA; omega), (fun k e => by simp [Value.ownBlock] at e), (fun k hA => Nat.lt_of_lt_of_le (AL k hA) B1.out.size)⟩, by omega, (fun e => by have := (HD.out.line.lt e).2; omega), (fun e => by have := (HD.out.trs.lt e).2; omega), by simp [Value.ownBlock], (fun k e => by simp [Value.ownBlock] at e), (fun k e => by simp [Value.ownBlock] at e), gA, lA, tA⟩
  clear c0 e5
  go_loopw [20] (fun _ wr => ∃ (k : Nat) (o : List UInt8) (en : Nat) (d1 : Dz) (lv1 tv1 rv1 bv1 : Value), Hid (Dn d l k o en d1) ∧ Hid (FitD d1) ∧ Hid (d1.wrong = 0) ∧ Hid (DP wr base A g w.heap.size lv1 tv1 rv1 bv1 { d1 with wrong := en } (l.drop k) o) ∧ Hid (DK w1 wr g w.heap.size lv tv (.slice none 0 0) lv1 tv1 bv1)) (fun _ wr => restLen w.heap.size wr)
  case atStart => exact ⟨0, [], 0, d, lv, tv, _, _, hide (Dn.refl d l HW.out), HF, HWR, hide (by rw [List.drop_zero, eta_wrong HWR.out]; exact HP1.out), hide (DK.refl _ _ _ _ _ _)⟩
  case round =>
    obtain ⟨k, o, en, d1, lv1, tv1, rv1, bv1, HDN, HF1, HWR1, HP2, HK2⟩ := hrel
    have hkl : k ≤ l.length := HDN.out.1
    have HDL : Hid ((l.drop k).length = l.length - k) := hide (by rw [List.length_drop])
    have HRL := hide HP2.out.restLen
    obtain ⟨ra, rc, hre, _, _⟩ := HP2.out.pce.rest
    rw [HDL.out] at hre
    subst hre
    have p0 : wr.cell? ⟨w.heap.size, 0, none⟩ = some (.slice ra (l.length - k) rc) := HP2.out.pce.cell 0
    by_cases hr : k < l.length
    · have HOV := hide (over_any HP2.out.dec)
      have t1 : (0 : Int) < ((l.length - k : Nat) : Int) := by omega
      by_cases hov : en ≠ 0 ∨ d1.whole = true
      · have e1 : overB { d1 with wrong := en } = true := by
          unfold overB
          rw [Bool.or_eq_true]
          rcases hov with h5 | h5
          · exact .inr (decide_eq_true h5)
          · exact .inl h5
        rw [e1] at HOV
        have HBY := hide (HRD.out.symm.trans (HDN.out.done (.inl hov)))
        clear e1 hov
        go_wp2_with fail
        refine HOV.out.mono ?_
        rintro e w' ⟨rfl, rfl⟩
        have HFG := hide (forget_any HP2.out.dec)
        go_wp2_with fail
        refine HFG.out.mono ?_
        rintro e w5 ⟨rfl, lv5, tv5, hd5, hk5⟩
        have HP5 := hide (HP2.out.of_PK hd5 hk5)
        have HK5 := hide (HK2.out.trans (DK.of_PK (h := w.heap.size) _ hk5))
        clear hd5 hk5 HFG
        obtain ⟨ba5, bc5, hbe5, _, _⟩ := HP5.out.pce.body.shape
        rw [bc_len] at hbe5
        subst hbe5
        have p0 := HP5.out.pce.cell 0
        have p1 := HP5.out.pce.cell 1
        have c6 : w5.cell? ⟨g, 6, none⟩ = some (.bool d1.whole) := HP5.out.dec.cell 6
        have c7 : w5.cell? ⟨g, 7, none⟩ = some (.int .i64 (en : Int)) := HP5.out.dec.cell 7
        go_upto_region 7 with fail
        have hsub : (l.length : Int) - ((l.length - k : Nat) : Int) = (k : Int) := by omega
        have hwrap : IntKind.i64.wrap (k : Int) = (k : Int) := IntWalk.i64_in _ ⟨by omega, by omega⟩
        refine wp_region_cl (by kernel_rfl) (by kernel_rfl) ?_
        refine cl_val (v := ?_) (by kernel_rfl) (fun W hW => ?_) ?_
        rotate_left
        · unfold Oper.quietAt; go_simp; try with_reducible rfl
        simp only [Act.put, List.setIfInBounds_toArray, List.set_cons_zero, List.set_cons_succ]
        refine cl_val (v := ?_) (by kernel_rfl) (fun W hW => ?_) ?_
        rotate_left
        · have l0 := hW.cell p1; unfold Oper.quietAt; go_simp; try with_reducible rfl
        simp only [Act.put, List.setIfInBounds_toArray, List.set_cons_zero, List.set_cons_succ]
        refine cl_move _ (by kernel_rfl) rfl ?_
        simp only [Act.put, List.setIfInBounds_toArray, List.set_cons_zero, List.set_cons_succ]
        refine cl_val (v := ?_) (by kernel_rfl) (fun W hW => ?_) ?_
        rotate_left
        · unfold Oper.quietAt; go_simp; try with_reducible rfl
        simp only [Act.put, List.setIfInBounds_toArray, List.set_cons_zero, List.set_cons_succ]
        refine cl_val (v := ?_) (by kernel_rfl) (fun W hW => ?_) ?_
        rotate_left
        · unfold Oper.quietAt; go_simp; try with_reducible rfl
        simp only [Act.put, List.setIfInBounds_toArray, List.set_cons_zero, List.set_cons_succ]
        refine cl_val (v := ?_) (by kernel_rfl) (fun W hW => ?_) ?_
        rotate_left
        · have l0 := hW.cell p0; unfold Oper.quietAt; go_simp; try with_reducible rfl
        simp only [Act.put, List.setIfInBounds_toArray, List.set_cons_zero, List.set_cons_succ]
        refine cl_val (v := ?_) (by kernel_rfl) (fun W hW => ?_) ?_
        rotate_left
        · unfold Oper.quietAt; go_simp; try with_reducible rfl
        simp only [Act.put, List.setIfInBounds_toArray, List.set_cons_zero, List.set_cons_succ]
        refine cl_val (v := ?_) (by kernel_rfl) (fun W hW => ?_) ?_
        rotate_left
        · unfold Oper.quietAt; go_simp; try with_reducible rfl
        simp only [Act.put, List.setIfInBounds_toArray, List.set_cons_zero, List.set_cons_succ]
        refine cl_move _ (by kernel_rfl) rfl ?_
        simp only [Act.put, List.setIfInBounds_toArray, List.set_cons_zero, List.set_cons_succ]
        refine cl_val (v := ?_) (by kernel_rfl) (fun W hW => ?_) ?_
        rotate_left
        · unfold Oper.quietAt; go_simp; try with_reducible rfl
        simp only [Act.put, List.setIfInBounds_toArray, List.set_cons_zero, List.set_cons_succ]
        refine cl_val (v := ?_) (by kernel_rfl) (fun W hW => ?_) ?_
        rotate_left
        · unfold Oper.quietAt; go_simp; try with_reducible rfl
        simp only [Act.put, List.setIfInBounds_toArray, List.set_cons_zero, List.set_cons_succ]
        refine cl_val (v := ?_) (by kernel_rfl) (fun W hW => ?_) ?_
        rotate_left
        · have l0 := hW.cell c6; unfold Oper.quietAt; go_simp; try with_reducible rfl
        simp only [Act.put, List.setIfInBounds_toArray, List.set_cons_zero, List.set_cons_succ]
        refine cl_move _ (by kernel_rfl) rfl ?_
        simp only [Act.put, List.setIfInBounds_toArray, List.set_cons_zero, List.set_cons_succ]
        refine cl_val (v := ?_) (by kernel_rfl) (fun W hW => ?_) ?_
        rotate_left
        · unfold Oper.quietAt; go_simp; try with_reducible rfl
        simp only [Act.put, List.setIfInBounds_toArray, List.set_cons_zero, List.set_cons_succ]
        refine cl_val (v := ?_) (by kernel_rfl) (fun W hW => ?_) ?_
        rotate_left
        · unfold Oper.quietAt; go_simp; try with_reducible rfl
        simp only [Act.put, List.setIfInBounds_toArray, List.set_cons_zero, List.set_cons_succ]
        refine cl_val (v := ?_) (by kernel_rfl) (fun W hW => ?_) ?_
        rotate_left
        · have l0 := hW.cell c7; unfold Oper.quietAt; go_simp; try with_reducible rfl
        simp only [Act.put, List.setIfInBounds_toArray, List.set_cons_zero, List.set_cons_succ]
        refine cl_assign _ (by kernel_rfl) rfl ?_
        simp only [Act.put, List.setIfInBounds_toArray, List.set_cons_zero, List.set_cons_succ]
        refine cl_assign _ (by kernel_rfl) rfl ?_
        simp only [Act.put, List.setIfInBounds_toArray, List.set_cons_zero, List.set_cons_succ]
        refine cl_assign _ (by kernel_rfl) rfl ?_
        simp only [Act.put, List.setIfInBounds_toArray, List.set_cons_zero, List.set_cons_succ]
        refine cl_assign _ (by kernel_rfl) rfl ?_
        simp only [Act.put, List.setIfInBounds_toArray, List.set_cons_zero, List.set_cons_succ]
        refine wpQuiet_nil ?_
        intro z Hz
        have HP9 := hide (HP5.out.below Hz.out)
        have HK9 := hide (HK5.out.trans (DK.of_below g w.heap.size lv5 tv5 (.slice ba5 o.length bc5) Hz.out))
        clear p0 p1 c6 c7
        go_wp2
        exact bodyPost_ret (v := .tuple #[.slice ba5 o.length bc5, .int .i64 (k : Int), .bool d1.whole, .int .i64 (en : Int)]) (by simp [results, Tryz.results233, go_sem]) rfl ⟨_, _, _, by rw [HBY.out], by rw [HBY.out]; exact Row.raise HP9.out.pce.body (fun i e => Nat.le_of_not_lt fun h9 => HK9.out.ba i (Nat.lt_of_lt_of_le h9 B1.out.size) (by simp [Value.ownBlock]) e), by rw [HBY.out]; exact HP9.out.dec, HK9.out.pk B1.out (Nat.le_refl _) (fun i e => by simp [Value.ownBlock] at e)⟩
      · have e1 : overB { d1 with wrong := en } = false := by
          unfold overB
          rw [not_or] at hov
          rw [Bool.or_eq_false_iff]
          exact ⟨by simpa using hov.2, decide_eq_false (by simpa using hov.1)⟩
        rw [not_or] at hov
        have hen : en = 0 := by simpa using hov.1
        have hw1 : d1.whole = false := by simpa using hov.2
        subst hen
        have HW1 := hide hw1
        rw [e1] at HOV
        clear e1 hov hw1
        have hp2 := HP2.out
        rw [eta_wrong HWR1.out] at hp2
        have HP3 := hide hp2
        clear hp2 HP2
        have HM2 := hide ((HM.out.below B1.out).dk HP1.out hb HK2.out)
        have hdn : l.drop k ≠ [] := fun h6 => by
          have := HDL.out
          rw [h6] at this
          simp at this
          omega
        have hlo : (l.drop k).length + o.length ≤ 140737488355328 := by
          have h7 := dn_out HDN.out
          rw [HDL.out]
          omega
        have hld : (l.drop k).length ≤ 140737488355328 := by omega
        go_wp2_with fail
        refine HOV.out.mono ?_
        rintro e w' ⟨rfl, rfl⟩
        have c0 := HP3.out.dec.cell 0
        rw [show (dcells d1 g lv1 tv1)[0]? = some (stV d1.fn g) from rfl] at c0
        rcases HF1.out.fn with hfn | hfn | hfn
        · have HS := hide (sizeLine_any HP3.out HF1.out hfn HW1.out HM2.out hb hld)
          have c0' : wr.cell? ⟨g, 0, none⟩ = some (.func (.func 159) #[.pointer (some ⟨g, 0, none⟩)] #[]) := by
            rw [c0]
            unfold stV
            rw [hfn]
            rfl
          clear c0 hfn
          go_wp2_with fail
          refine HS.out.mono ?_
          rintro e w4 ⟨en, k2, o2, d2, lv2, tv2, rv2, bv2, rfl, h1, h2, h3, h4, h5, h6⟩
          have HDN2 := hide (HDN.out.trans HW1.out h1)
          have HF2 := hide h2
          have HWR2 := hide (h4.trans HWR1.out)
          have HDD := hide (h5.dec.set 7 (.int .i64 (en : Int)) { d2 with wrong := en } rfl rfl rfl)
          have HP4 := hide (h5.of_PK HDD.out (PK.set w4 g 7 (.int .i64 (en : Int)) lv2 tv2))
          have HK4 := hide (HK2.out.trans (h6.trans (DK.of_PK (h := w.heap.size) bv2 (PK.set w4 g 7 (.int .i64 (en : Int)) lv2 tv2))))
          have c7 := h5.dec.cell 7
          have f7 := h5.dec.froz 7
          have hk2 := h3 hdn
          have hk3 := h1.1
          rw [HDL.out] at hk3
          clear h1 h2 h3 h4 h5 h6 HS
          go_wp2_with fail
          exact ⟨⟨k + k2, o ++ o2, en, d2, lv2, tv2, rv2, bv2, HDN2, HF2, HWR2, hide (by rw [← List.drop_drop]; exact HP4.out), HK4⟩, by rw [HP4.out.restLen, HRL.out, List.length_drop, HDL.out]; omega⟩
        · have HS := hide (body_any HP3.out HF1.out hfn HW1.out hdn HM2.out hb hlo)
          have c0' : wr.cell? ⟨g, 0, none⟩ = some (.func (.func 185) #[.pointer (some ⟨g, 0, none⟩)] #[]) := by
            rw [c0]
            unfold stV
            rw [hfn]
            rfl
          clear c0 hfn
          go_wp2_with fail
          refine HS.out.mono ?_
          rintro e w4 ⟨en, k2, o2, d2, lv2, tv2, rv2, bv2, rfl, h1, h2, h3, h4, h5, h6⟩
          have HDN2 := hide (HDN.out.trans HW1.out h1)
          have HF2 := hide h2
          have HWR2 := hide (h4.trans HWR1.out)
          have HDD := hide (h5.dec.set 7 (.int .i64 (en : Int)) { d2 with wrong := en } rfl rfl rfl)
          have HP4 := hide (h5.of_PK HDD.out (PK.set w4 g 7 (.int .i64 (en : Int)) lv2 tv2))
          have HK4 := hide (HK2.out.trans (h6.trans (DK.of_PK (h := w.heap.size) bv2 (PK.set w4 g 7 (.int .i64 (en : Int)) lv2 tv2))))
          have c7 := h5.dec.cell 7
          have f7 := h5.dec.froz 7
          have hk2 := h3 hdn
          have hk3 := h1.1
          rw [HDL.out] at hk3
          clear h1 h2 h3 h4 h5 h6 HS
          go_wp2_with fail
          exact ⟨⟨k + k2, o ++ o2, en, d2, lv2, tv2, rv2, bv2, HDN2, HF2, HWR2, hide (by rw [← List.drop_drop]; exact HP4.out), HK4⟩, by rw [HP4.out.restLen, HRL.out, List.length_drop, HDL.out]; omega⟩
        · have HS := hide (trailerLine_any HP3.out HF1.out hfn HW1.out HM2.out hb hld)
          have c0' : wr.cell? ⟨g, 0, none⟩ = some (.func (.func 186) #[.pointer (some ⟨g, 0, none⟩)] #[]) := by
            rw [c0]
            unfold stV
            rw [hfn]
            rfl
          clear c0 hfn
          go_wp2_with fail
          refine HS.out.mono ?_
          rintro e w4 ⟨en, k2, o2, d2, lv2, tv2, rv2, bv2, rfl, h1, h2, h3, h4, h5, h6⟩
          have HDN2 := hide (HDN.out.trans HW1.out h1)
          have HF2 := hide h2
          have HWR2 := hide (h4.trans HWR1.out)
          have HDD := hide (h5.dec.set 7 (.int .i64 (en : Int)) { d2 with wrong := en } rfl rfl rfl)
          have HP4 := hide (h5.of_PK HDD.out (PK.set w4 g 7 (.int .i64 (en : Int)) lv2 tv2))
          have HK4 := hide (HK2.out.trans (h6.trans (DK.of_PK (h := w.heap.size) bv2 (PK.set w4 g 7 (.int .i64 (en : Int)) lv2 tv2))))
          have c7 := h5.dec.cell 7
          have f7 := h5.dec.froz 7
          have hk2 := h3 hdn
          have hk3 := h1.1
          rw [HDL.out] at hk3
          clear h1 h2 h3 h4 h5 h6 HS
          go_wp2_with fail
          exact ⟨⟨k + k2, o ++ o2, en, d2, lv2, tv2, rv2, bv2, HDN2, HF2, HWR2, hide (by rw [← List.drop_drop]; exact HP4.out), HK4⟩, by rw [HP4.out.restLen, HRL.out, List.length_drop, HDL.out]; omega⟩
    · have hd0 : l.drop k = [] := List.drop_of_length_le (by omega)
      have t1 : ¬ (0 : Int) < ((l.length - k : Nat) : Int) := by omega
      have HBY := hide (HRD.out.symm.trans (HDN.out.done (.inr hd0)))
      clear hd0
      have HFG := hide (forget_any HP2.out.dec)
      go_wp2_with fail
      refine HFG.out.mono ?_
      rintro e w5 ⟨rfl, lv5, tv5, hd5, hk5⟩
      have HP5 := hide (HP2.out.of_PK hd5 hk5)
      have HK5 := hide (HK2.out.trans (DK.of_PK (h := w.heap.size) _ hk5))
      clear hd5 hk5 HFG
      obtain ⟨ba5, bc5, hbe5, _, _⟩ := HP5.out.pce.body.shape
      rw [bc_len] at hbe5
      subst hbe5
      have p0 := HP5.out.pce.cell 0
      have p1 := HP5.out.pce.cell 1
      have c6 : w5.cell? ⟨g, 6, none⟩ = some (.bool d1.whole) := HP5.out.dec.cell 6
      have c7 : w5.cell? ⟨g, 7, none⟩ = some (.int .i64 (en : Int)) := HP5.out.dec.cell 7
      go_upto_region 7 with fail
      have hsub : (l.length : Int) - ((l.length - k : Nat) : Int) = (k : Int) := by omega
      have hwrap : IntKind.i64.wrap (k : Int) = (k : Int) := IntWalk.i64_in _ ⟨by omega, by omega⟩
      refine wp_region_cl (by kernel_rfl) (by kernel_rfl) ?_
      refine cl_val (v := ?_) (by kernel_rfl) (fun W hW => ?_) ?_
      rotate_left
      · unfold Oper.quietAt; go_simp; try with_reducible rfl
      simp only [Act.put, List.setIfInBounds_toArray, List.set_cons_zero, List.set_cons_succ]
      refine cl_val (v := ?_) (by kernel_rfl) (fun W hW => ?_) ?_
      rotate_left
      · have l0 := hW.cell p1; unfold Oper.quietAt; go_simp; try with_reducible rfl
      simp only [Act.put, List.setIfInBounds_toArray, List.set_cons_zero, List.set_cons_succ]
      refine cl_move _ (by kernel_rfl) rfl ?_
      simp only [Act.put, List.setIfInBounds_toArray, List.set_cons_zero, List.set_cons_succ]
      refine cl_val (v := ?_) (by kernel_rfl) (fun W hW => ?_) ?_
      rotate_left
      · unfold Oper.quietAt; go_simp; try with_reducible rfl
      simp only [Act.put, List.setIfInBounds_toArray, List.set_cons_zero, List.set_cons_succ]
      refine cl_val (v := ?_) (by kernel_rfl) (fun W hW => ?_) ?_
      rotate_left
      · unfold Oper.quietAt; go_simp; try with_reducible rfl
      simp only [Act.put, List.setIfInBounds_toArray, List.set_cons_zero, List.set_cons_succ]
      refine cl_val (v := ?_) (by kernel_rfl) (fun W hW => ?_) ?_
      rotate_left
      · have l0 := hW.cell p0; unfold Oper.quietAt; go_simp; try with_reducible rfl
      simp only [Act.put, List.setIfInBounds_toArray, List.set_cons_zero, List.set_cons_succ]
      refine cl_val (v := ?_) (by kernel_rfl) (fun W hW => ?_) ?_
      rotate_left
      · unfold Oper.quietAt; go_simp; try with_reducible rfl
      simp only [Act.put, List.setIfInBounds_toArray, List.set_cons_zero, List.set_cons_succ]
      refine cl_val (v := ?_) (by kernel_rfl) (fun W hW => ?_) ?_
      rotate_left
      · unfold Oper.quietAt; go_simp; try with_reducible rfl
      simp only [Act.put, List.setIfInBounds_toArray, List.set_cons_zero, List.set_cons_succ]
      refine cl_move _ (by kernel_rfl) rfl ?_
      simp only [Act.put, List.setIfInBounds_toArray, List.set_cons_zero, List.set_cons_succ]
      refine cl_val (v := ?_) (by kernel_rfl) (fun W hW => ?_) ?_
      rotate_left
      · unfold Oper.quietAt; go_simp; try with_reducible rfl
      simp only [Act.put, List.setIfInBounds_toArray, List.set_cons_zero, List.set_cons_succ]
      refine cl_val (v := ?_) (by kernel_rfl) (fun W hW => ?_) ?_
      rotate_left
      · unfold Oper.quietAt; go_simp; try with_reducible rfl
      simp only [Act.put, List.setIfInBounds_toArray, List.set_cons_zero, List.set_cons_succ]
      refine cl_val (v := ?_) (by kernel_rfl) (fun W hW => ?_) ?_
      rotate_left
      · have l0 := hW.cell c6; unfold Oper.quietAt; go_simp; try with_reducible rfl
      simp only [Act.put, List.setIfInBounds_toArray, List.set_cons_zero, List.set_cons_succ]
      refine cl_move _ (by kernel_rfl) rfl ?_
      simp only [Act.put, List.setIfInBounds_toArray, List.set_cons_zero, List.set_cons_succ]
      refine cl_val (v := ?_) (by kernel_rfl) (fun W hW => ?_) ?_
      rotate_left
      · unfold Oper.quietAt; go_simp; try with_reducible rfl
      simp only [Act.put, List.setIfInBounds_toArray, List.set_cons_zero, List.set_cons_succ]
      refine cl_val (v := ?_) (by kernel_rfl) (fun W hW => ?_) ?_
      rotate_left
      · unfold Oper.quietAt; go_simp; try with_reducible rfl
      simp only [Act.put, List.setIfInBounds_toArray, List.set_cons_zero, List.set_cons_succ]
      refine cl_val (v := ?_) (by kernel_rfl) (fun W hW => ?_) ?_
      rotate_left
      · have l0 := hW.cell c7; unfold Oper.quietAt; go_simp; try with_reducible rfl
      simp only [Act.put, List.setIfInBounds_toArray, List.set_cons_zero, List.set_cons_succ]
      refine cl_assign _ (by kernel_rfl) rfl ?_
      simp only [Act.put, List.setIfInBounds_toArray, List.set_cons_zero, List.set_cons_succ]
      refine cl_assign _ (by kernel_rfl) rfl ?_
      simp only [Act.put, List.setIfInBounds_toArray, List.set_cons_zero, List.set_cons_succ]
      refine cl_assign _ (by kernel_rfl) rfl ?_
      simp only [Act.put, List.setIfInBounds_toArray, List.set_cons_zero, List.set_cons_succ]
      refine cl_assign _ (by kernel_rfl) rfl ?_
      simp only [Act.put, List.setIfInBounds_toArray, List.set_cons_zero, List.set_cons_succ]
      refine wpQuiet_nil ?_
      intro z Hz
      have HP9 := hide (HP5.out.below Hz.out)
      have HK9 := hide (HK5.out.trans (DK.of_below g w.heap.size lv5 tv5 (.slice ba5 o.length bc5) Hz.out))
      clear p0 p1 c6 c7
      go_wp2
      exact bodyPost_ret (v := .tuple #[.slice ba5 o.length bc5, .int .i64 (k : Int), .bool d1.whole, .int .i64 (en : Int)]) (by simp [results, Tryz.results233, go_sem]) rfl ⟨_, _, _, by rw [HBY.out], by rw [HBY.out]; exact Row.raise HP9.out.pce.body (fun i e => Nat.le_of_not_lt fun h9 => HK9.out.ba i (Nat.lt_of_lt_of_le h9 B1.out.size) (by simp [Value.ownBlock]) e), by rw [HBY.out]; exact HP9.out.dec, HK9.out.pk B1.out (Nat.le_refl _) (fun i e => by simp [Value.ownBlock] at e)⟩
end Go.Proofs.YtcagjipdldlehaaGreatDoor
/- How many bytes a decoder tells: never more than it has room for. -/
namespace Go.Proofs.YtcagjipdldlehaaGreatDoor
open Go.ChangeShapes Go.WideShapes Go.ChangeAt Go.RowKit

theorem end_room (d : Dz) (s : ByteArray) : (dEnd d s).2.left + (dEnd d s).2.room ≤ d.left + d.room := by
  unfold dEnd dSized dRead dTrl
  repeat' split
  all_goals first | exact Nat.le_refl _ | (dsimp only; omega)
theorem next_room (d : Dz) (c : UInt8) : (dNext d c).2.1.length + ((dNext d c).2.2.left + (dNext d c).2.2.room) ≤ d.left + d.room := by
  unfold dNext
  split
  · simp only [List.length_singleton]; omega
  · split
    · simp
    · split
      · have := end_room { d with line := [], ending := false } (sS d.line)
        simpa using this
      · repeat' split
        all_goals simp
theorem bytes_room : ∀ (l : List UInt8) (d : Dz), (dBytes d l).2.2.1.length + ((dBytes d l).2.2.2.left + (dBytes d l).2.2.2.room) ≤ d.left + d.room
  | [], d => by simp [dBytes]
  | c :: r, d => by
    have h1 := next_room d c
    rw [dBytes]
    split
    · exact h1
    · split
      · exact h1
      · have := bytes_room r (dNext d c).2.2
        simp only [List.length_append]
        omega
theorem bytes_full : ∀ (l : List UInt8) (d : Dz), (dBytes d l).2.1 = l.length ∨ (dBytes d l).1 ≠ 0 ∨ (dBytes d l).2.2.2.whole = true
  | [], _ => .inl rfl
  | c :: r, d => by
    rw [dBytes]
    split
    · exact .inr (.inl ‹_›)
    · split
      · exact .inr (.inr ‹_›)
      · rcases bytes_full r (dNext d c).2.2 with h | h
        · exact .inl (by simp [h])
        · exact .inr h
end Go.Proofs.YtcagjipdldlehaaGreatDoor
/- A reader of chunks. -/
namespace Go.Proofs.YtcagjipdldlehaaGreatDoor
open Go.ChangeShapes Go.WideShapes Go.ChangeAt Go.RowKit

/-- The framing's block and its decoder. -/
structure Pt (w : World) (base g gd : Nat) (lv tv : Value) (t : Tal) (d : Dz) : Prop where
  fr : Fr w g 209 t [.pointer (some ⟨gd, 0, none⟩)]
  dec : Dec w base gd lv tv d
  fb : base ≤ g
  gd : g ≠ gd
  gl : lv.ownBlock ≠ some g
  gt : tv.ownBlock ≠ some g
theorem Pt.below {w w' : World} {base g gd : Nat} {lv tv : Value} {t : Tal} {d : Dz} (h : Pt w base g gd lv tv t d) (b : Below w.heap.size w w') : Pt w' base g gd lv tv t d :=
  ⟨h.fr.below b, h.dec.below b, h.fb, h.gd, h.gl, h.gt⟩
/-- What may have changed. -/
structure GK (w w' : World) (g gd : Nat) (lv tv lv' tv' : Value) : Prop where
  os : w'.os = w.os
  tape : w'.tape = w.tape
  output : w'.output = w.output
  size : w.heap.size ≤ w'.heap.size
  block : ∀ k, k < w.heap.size → k ≠ g → k ≠ gd → lv.ownBlock ≠ some k → tv.ownBlock ≠ some k → w'.heap[k]? = w.heap[k]?
  la : ∀ k, k < w.heap.size → lv.ownBlock ≠ some k → lv'.ownBlock ≠ some k
  fa : ∀ k, k < w.heap.size → tv.ownBlock ≠ some k → tv'.ownBlock ≠ some k
theorem GK.of_PK {w w' : World} {g gd : Nat} {lv tv lv' tv' : Value} (k : PK w w' gd lv tv lv' tv') : GK w w' g gd lv tv lv' tv' := ⟨k.os, k.tape, k.output, k.size, fun i hi _ h2 h3 h4 => k.block i hi h2 h3 h4, k.la, k.fa⟩
theorem GK.set {w w' : World} {g gd : Nat} {lv tv lv' tv' : Value} (k : GK w w' g gd lv tv lv' tv') (i : Nat) (v : Value) : GK w (w'.setCell ⟨g, i, none⟩ v) g gd lv tv lv' tv' :=
  ⟨k.os, k.tape, k.output, by simpa using k.size, fun j hj h1 h2 h3 h4 => (Below.heap_setCell w' ⟨g, i, none⟩ v j h1).trans (k.block j hj h1 h2 h3 h4), k.la, k.fa⟩
theorem GK.low {w w' : World} {base g gd : Nat} {lv tv lv' tv' : Value} {t : Tal} {d : Dz} (h : Pt w base g gd lv tv t d) (k : GK w w' g gd lv tv lv' tv') : Below base w w' :=
  ⟨k.os, k.tape, k.output, k.size, fun j hj => k.block j (by have := h.dec.lt; have := h.dec.gb; omega) (by have := h.fb; omega) (by have := h.dec.gb; omega) (fun e => by have := (h.dec.line.lt e).1; omega) (fun e => by have := (h.dec.trs.lt e).1; omega)⟩
theorem Dec.set_other {w : World} {base gd : Nat} {lv tv : Value} {d : Dz} (h : Dec w base gd lv tv d) {g : Nat} (h1 : g ≠ gd) (h2 : lv.ownBlock ≠ some g) (h3 : tv.ownBlock ≠ some g) (i : Nat) (v : Value) : Dec (w.setCell ⟨g, i, none⟩ v) base gd lv tv d :=
  h.frame fun k e => Below.heap_setCell w ⟨g, i, none⟩ v k (fun e2 => by
    have e3 : k = g := e2
    subst e3
    rcases e with e | e | e
    · exact h1 e
    · exact h2 e
    · exact h3 e)
set_option maxHeartbeats 8000000 in
set_option maxRecDepth 100000 in
theorem read_part {w : World} {base g gd : Nat} {lv tv : Value} {t : Tal} {d : Dz} (h : Pt w base g gd lv tv t d) (hf : FitD d) (hw : d.whole = false) (hwr : d.wrong = 0) (hm : MX w) (hb2 : 3 ≤ base) {A : Nat → Prop} (va : Option Addr) (vc : Nat) (b : List UInt8) (hv : Bf w A (.slice va b.length vc) b) (hs : Shp (.slice va b.length vc)) (gA : ¬ A gd) (lA : ∀ k, lv.ownBlock = some k → ¬ A k) (tA : ∀ k, tv.ownBlock = some k → ¬ A k) (AL : ∀ k, A k → k < w.heap.size) (hl : b.length ≤ 70368744177664) (hg : t.got ≤ 9007199254740992) :
    Calls Tryz.prog 232 #[.pointer (some ⟨g, 0, none⟩), .slice va b.length vc] w fun e w' => ∃ ua uc lv' tv', e = .returned (.tuple #[.slice ua (dBytes d b).2.2.1.length uc, .int .i64 ((dBytes d b).2.1 : Int)]) ∧ Row w' w.heap.size 5 (.slice ua (dBytes d b).2.2.1.length uc) (bc (dBytes d b).2.2.1) ∧ Pt w' base g gd lv' tv' ⟨t.got + (dBytes d b).2.2.1.length, (dBytes d b).2.2.2.whole, (dBytes d b).1⟩ (dForget { (dBytes d b).2.2.2 with wrong := (dBytes d b).1 }) ∧ GK w w' g gd lv tv lv' tv' := by
  have HP := hide h
  have HFE := hide (feed_on h.dec hf hw hwr hm hb2 _ b hv hs gA lA tA AL hl)
  have c3 : w.cell? ⟨g, 3, none⟩ = some (.pointer (some ⟨gd, 0, none⟩)) := h.fr.c 3
  have hol := Nat.le_trans (bytes_out b d) (bytes_len b d)
  have hgl := h.fr.lt
  clear h hv hs
  generalize dBytes d b = R at HFE hol ⊢
  obtain ⟨en, n, o, dd⟩ := R
  dsimp only at HFE hol ⊢
  obtain ⟨S, hS⟩ : ∃ S, t.got + o.length = S := ⟨_, rfl⟩
  rw [hS]
  have hpl : (t.got : Int) + (o.length : Int) = (S : Int) := by omega
  have hSb : S ≤ 9077567998918656 := by omega
  clear hS
  go_enter Tryz.func232, Tryz.ntmps232
  go_wp2_with fail
  refine HFE.out.mono ?_
  rintro e W1 ⟨bv, lv', tv', rfl, hr, hd, hk⟩
  obtain ⟨ua, uc, rfl⟩ : ∃ a c, bv = .slice a o.length c := by
    obtain ⟨a, c, h, _⟩ := hr.shape
    rw [bc_len] at h
    exact ⟨a, c, h⟩
  have hblk : W1.heap[g]? = w.heap[g]? := hk.block g hgl HP.out.gd HP.out.gl HP.out.gt
  have hgl' : lv'.ownBlock ≠ some g := hk.la g hgl HP.out.gl
  have hgt' : tv'.ownBlock ≠ some g := hk.fa g hgl HP.out.gt
  have F1 : Hid (Fr W1 g 209 t [.pointer (some ⟨gd, 0, none⟩)]) := hide ⟨hblk.trans HP.out.fr.fr⟩
  have R1 := hide hr
  have D1 := hide hd
  have K1 := hide (GK.of_PK (g := g) hk)
  have HGD := hide HP.out.gd
  clear hr hd hk hblk c3 HFE
  go_upto_region 2 with fail
  have d0 : W1.cell? ⟨g, 0, none⟩ = some (.int .i64 (t.got : Int)) := F1.out.c 0
  have f0 := F1.out.f 0
  go_upto_region 3 with fail
  have F2 := hide (F1.out.set (t' := ⟨S, t.whole, t.wrong⟩) 0 (.int .i64 (S : Int)) rfl)
  have D2 := hide (D1.out.set_other HGD.out hgl' hgt' 0 (.int .i64 (S : Int)))
  have R2 := hide (R1.out.frame (W' := W1.setCell ⟨g, 0, none⟩ (.int .i64 (S : Int))) fun j e => Below.heap_setCell W1 ⟨g, 0, none⟩ _ j (fun e2 => by have := (R1.out.lt e).1; have e3 : j = g := e2; omega))
  have K2 := hide (K1.out.set 0 (.int .i64 (S : Int)))
  clear F1 D1 R1 K1 d0 f0
  generalize W1.setCell ⟨g, 0, none⟩ (.int .i64 (S : Int)) = W2 at F2 D2 R2 K2 ⊢
  have d1 : W2.cell? ⟨g, 1, none⟩ = some (.bool t.whole) := F2.out.c 1
  have f1 := F2.out.f 1
  have d2 : W2.cell? ⟨g, 2, none⟩ = some (.int .i64 (t.wrong : Int)) := F2.out.c 2
  have f2 := F2.out.f 2
  have F3 := hide (F2.out.set (t' := ⟨S, dd.whole, t.wrong⟩) 1 (.bool dd.whole) rfl)
  have f3 := F3.out.f 2
  have d3 : (W2.setCell ⟨g, 1, none⟩ (.bool dd.whole)).cell? ⟨g, 2, none⟩ = some (.int .i64 (t.wrong : Int)) := F3.out.c 2
  have F4 := hide (F3.out.set (t' := ⟨S, dd.whole, en⟩) 2 (.int .i64 (en : Int)) rfl)
  have D4 := hide ((D2.out.set_other HGD.out hgl' hgt' 1 (.bool dd.whole)).set_other HGD.out hgl' hgt' 2 (.int .i64 (en : Int)))
  have R4 := hide ((R2.out.frame (W' := W2.setCell ⟨g, 1, none⟩ (.bool dd.whole)) fun j e => Below.heap_setCell W2 ⟨g, 1, none⟩ _ j (fun e2 => by have := (R2.out.lt e).1; have e3 : j = g := e2; omega)).frame (W' := (W2.setCell ⟨g, 1, none⟩ (.bool dd.whole)).setCell ⟨g, 2, none⟩ (.int .i64 (en : Int))) fun j e => Below.heap_setCell _ ⟨g, 2, none⟩ _ j (fun e2 => by have := (R2.out.lt e).1; have e3 : j = g := e2; omega))
  have K4 := hide ((K2.out.set 1 (.bool dd.whole)).set 2 (.int .i64 (en : Int)))
  go_wp2_with fail
  go_ret2
  exact ⟨_, _, _, _, rfl, R4.out, ⟨F4.out, D4.out, HP.out.fb, HGD.out, hgl', hgt'⟩, K4.out⟩
end Go.Proofs.YtcagjipdldlehaaGreatDoor
/- New and Feed, by chunks. -/
namespace Go.Proofs.YtcagjipdldlehaaGreatDoor
open Go.ChangeShapes Go.WideShapes Go.ChangeAt Go.RowKit

def ptX (gd : Nat) : List Value := [.pointer (some ⟨gd, 0, none⟩)]
structure PRd (w : World) (base gr g gd : Nat) (lv tv : Value) (t : Tal) (d : Dz) : Prop where
  rdr : Rdr w base gr g 207 209 t (ptX gd)
  pt : Pt w base g gd lv tv t d
  rd : gr ≠ gd
  rl : lv.ownBlock ≠ some gr
  rt : tv.ownBlock ≠ some gr
theorem PRd.below {w w' : World} {base gr g gd : Nat} {lv tv : Value} {t : Tal} {d : Dz} (h : PRd w base gr g gd lv tv t d) (b : Below w.heap.size w w') : PRd w' base gr g gd lv tv t d := ⟨h.rdr.below b, h.pt.below b, h.rd, h.rl, h.rt⟩
theorem Dec.keepR {w W : World} {base gd gr g : Nat} {lv tv : Value} {d : Dz} (h : Dec w base gd lv tv d) (k : RK w W gr g) (h1 : gd ≠ gr) (h2 : gd ≠ g) (h3 : lv.ownBlock ≠ some gr) (h4 : lv.ownBlock ≠ some g) (h5 : tv.ownBlock ≠ some gr) (h6 : tv.ownBlock ≠ some g) : Dec W base gd lv tv d :=
  h.frame fun i e => by
    rcases e with rfl | e | e
    · exact k.block _ h.lt h1 h2
    · exact k.block i (h.line.lt e).2 (fun e2 => h3 (by rw [e, e2])) (fun e2 => h4 (by rw [e, e2]))
    · exact k.block i (h.trs.lt e).2 (fun e2 => h5 (by rw [e, e2])) (fun e2 => h6 (by rw [e, e2]))
set_option maxHeartbeats 4000000 in
set_option maxRecDepth 100000 in
theorem framed_part (len : Int) (x : Bool) (most : Nat) (w : World) (hm : most ≤ 9007199254740992) : Calls Tryz.prog 94 #[frV 3 len x, .int .i64 (most : Int)] w fun e w' => ∃ g gd, e = .returned (.iface 207 (.pointer (some ⟨g, 0, none⟩))) ∧ w.heap.size ≤ g ∧ w.heap.size ≤ gd ∧ Pt w' w.heap.size g gd (.slice none 0 0) (.slice none 0 0) ⟨0, false, 0⟩ (dNew most) ∧ Below w.heap.size w w' := by
  unfold frV
  go_enter Tryz.func94, Tryz.ntmps94
  go_upto_region 1 with fail
  have BA := hide ((Below.refl w.heap.size w).alloc (Nat.le_refl _) (.cells #[.int .i64 3, .int .i64 len, .bool x] 83))
  have HB := hide (hp_new w (.cells #[.int .i64 3, .int .i64 len, .bool x] 83))
  generalize w.alloc (.cells #[.int .i64 3, .int .i64 len, .bool x] 83) = W0 at BA HB ⊢
  have c0 : W0.cell? ⟨w.heap.size, 0, none⟩ = some (.int .i64 3) := cell_at HB.out 0
  have HN := hide (new_any most W0 hm)
  go_wp2_with fail
  refine HN.out.mono ?_
  rintro e W1 ⟨rfl, hd, b1⟩
  have D1 := hide hd
  have B1 := hide (BA.out.trans (b1.mono BA.out.size))
  have s0 := BA.out.size
  have s1 := b1.size
  have l1 := hd.lt
  clear hd b1 HN c0
  go_wp2_with fail
  have BN := hide ((Below.refl W1.heap.size W1).alloc (Nat.le_refl _) (.cells #[.int .i64 0, .bool false, .int .i64 0, .pointer (some ⟨W0.heap.size, 0, none⟩)] 209))
  have HP := hide (hp_new W1 (.cells #[.int .i64 0, .bool false, .int .i64 0, .pointer (some ⟨W0.heap.size, 0, none⟩)] 209))
  have D2 := hide (D1.out.below BN.out)
  have B2 := hide (B1.out.trans (BN.out.mono B1.out.size))
  go_ret
  exact ⟨W1.heap.size, W0.heap.size, rfl, by omega, by omega, ⟨⟨HP.out⟩, ⟨D2.out.blk, Row.nil _ _ _, FRow.nil _ _, by omega, D2.out.gl, D2.out.gf, D2.out.lf⟩, by omega, by omega, by simp [Value.ownBlock], by simp [Value.ownBlock]⟩, B2.out⟩
set_option maxHeartbeats 4000000 in
set_option maxRecDepth 100000 in
theorem new_part (x : Bool) (most : Nat) (w : World) (hm : most ≤ 9007199254740992) :
    Calls Tryz.prog 63 #[frV 3 0 x, .int .i64 (most : Int)] w fun e w' => ∃ gr g gd, e = .returned (.tuple #[.pointer (some ⟨gr, 0, none⟩), .int .i64 0]) ∧ w.heap.size ≤ gd ∧ PRd w' w.heap.size gr g gd (.slice none 0 0) (.slice none 0 0) ⟨0, false, 0⟩ (dNew most) ∧ Below w.heap.size w w' := by
  have HF := hide (fun W => framed_part 0 x most W hm)
  have HI := hide (fun W => isRight_any 3 0 x W)
  rw [show isR 3 0 = true from rfl] at HI
  have t1 : ¬ (most : Int) < 0 := by omega
  have t2 : ¬ (9007199254740992 : Int) < (most : Int) := by omega
  unfold frV at HF HI ⊢
  go_enter Tryz.func63, Tryz.ntmps63
  have BA := hide ((Below.refl w.heap.size w).alloc (Nat.le_refl _) (.cells #[.int .i64 3, .int .i64 0, .bool x] 83))
  have HB := hide (hp_new w (.cells #[.int .i64 3, .int .i64 0, .bool x] 83))
  have HLT := lt_heap' HB.out
  go_upto_region 1 with fail
  generalize w.alloc (.cells #[.int .i64 3, .int .i64 0, .bool x] 83) = W0 at BA HB HLT ⊢
  have c0 : W0.cell? ⟨w.heap.size, 0, none⟩ = some (.int .i64 3) := cell_at HB.out 0
  have c1 : W0.cell? ⟨w.heap.size, 1, none⟩ = some (.int .i64 0) := cell_at HB.out 1
  have c2 : W0.cell? ⟨w.heap.size, 2, none⟩ = some (.bool x) := cell_at HB.out 2
  go_wp2_with fail
  refine (HI.out W0).mono ?_
  rintro e W1 ⟨rfl, b1⟩
  have B1 := hide (BA.out.trans (b1.mono BA.out.size))
  have HB1 := hide ((b1.block w.heap.size HLT).trans HB.out)
  clear c0 c1 c2 b1 HI
  have c0 : W1.cell? ⟨w.heap.size, 0, none⟩ = some (.int .i64 3) := cell_at HB1.out 0
  have c1 : W1.cell? ⟨w.heap.size, 1, none⟩ = some (.int .i64 0) := cell_at HB1.out 1
  have c2 : W1.cell? ⟨w.heap.size, 2, none⟩ = some (.bool x) := cell_at HB1.out 2
  go_wp2_with fail
  refine (HF.out W1).mono ?_
  rintro e W2 ⟨g, gd, rfl, hg, hgd, hpt, b2⟩
  have B2 := hide (B1.out.trans (b2.mono B1.out.size))
  have HG := hide (And.intro hg hgd)
  have HPT := hide hpt
  have hgl := hpt.fr.lt
  have hgdl := hpt.dec.lt
  clear c0 c1 c2 b2 hg hgd hpt HF
  go_upto_region 6 with fail
  have BN := hide ((Below.refl W2.heap.size W2).alloc (Nat.le_refl _) (.cells #[.iface 207 (.pointer (some ⟨g, 0, none⟩))] 162))
  have HN := hide (hp_new W2 (.cells #[.iface 207 (.pointer (some ⟨g, 0, none⟩))] 162))
  have hww : w.heap.size ≤ W1.heap.size := B1.out.size
  have hw2 : w.heap.size ≤ W2.heap.size := B2.out.size
  have PT3 := hide (HPT.out.below BN.out)
  have HRD : Hid (Rdr (W2.alloc (.cells #[.iface 207 (.pointer (some ⟨g, 0, none⟩))] 162)) w.heap.size W2.heap.size g 207 209 ⟨0, false, 0⟩ (ptX gd)) := hide ⟨HN.out, PT3.out.fr.fr, by omega, hw2, by have := HG.out.1; omega⟩
  have B3 := hide (B2.out.trans (BN.out.mono B2.out.size))
  generalize W2.alloc (.cells #[.iface 207 (.pointer (some ⟨g, 0, none⟩))] 162) = W3 at BN HN HRD B3 PT3 ⊢
  go_wp2_with fail
  refine (settle_any HRD.out (.inr (.inl rfl)) B3.out.size).mono ?_
  rintro e W4 ⟨rfl, hs⟩
  have hr4 := hs.2.1 rfl
  have B4 := hide (B3.out.trans (hs.2.2.1.low hw2 (by have := HG.out.1; omega) B3.out.size))
  have P4 : Hid (PRd W4 w.heap.size W2.heap.size g gd (.slice none 0 0) (.slice none 0 0) ⟨0, false, 0⟩ (dNew most)) := hide ⟨hr4, ⟨⟨hr4.fr⟩, (by
    have hd := PT3.out.dec.keepR hs.2.2.1 (by omega) (fun e => PT3.out.gd e.symm) (by simp [Value.ownBlock]) (by simp [Value.ownBlock]) (by simp [Value.ownBlock]) (by simp [Value.ownBlock])
    exact ⟨hd.blk, Row.nil _ _ _, FRow.nil _ _, by have := HG.out.2; omega, hd.gl, hd.gf, hd.lf⟩), by have := HG.out.1; omega, PT3.out.gd, by simp [Value.ownBlock], by simp [Value.ownBlock]⟩, by omega, by simp [Value.ownBlock], by simp [Value.ownBlock]⟩
  clear hs hr4
  go_wp2
  go_ret2
  exact ⟨W2.heap.size, g, gd, rfl, by have := HG.out.2; omega, P4.out, B4.out⟩
set_option maxHeartbeats 8000000 in
set_option maxRecDepth 100000 in
theorem feed_part {w : World} {base gr g gd : Nat} {lv tv : Value} {t : Tal} {d : Dz} (h : PRd w base gr g gd lv tv t d) (hf : FitD d) (hw : d.whole = false) (hwr : d.wrong = 0) (hm : MX w) (hb2 : 3 ≤ base) {A : Nat → Prop} (va : Option Addr) (vc : Nat) (b : List UInt8) (hv : Bf w A (.slice va b.length vc) b) (hs : Shp (.slice va b.length vc)) (gA : ¬ A gd) (lA : ∀ k, lv.ownBlock = some k → ¬ A k) (tA : ∀ k, tv.ownBlock = some k → ¬ A k) (AL : ∀ k, A k → k < w.heap.size) (hl : b.length ≤ 70368744177664) (hg : t.got ≤ 9007199254740992) :
    Calls Tryz.prog 96 #[.pointer (some ⟨gr, 0, none⟩), .slice va b.length vc] w fun e w' => ∃ ua uc lv' tv', e = .returned (.tuple #[.slice ua (dBytes d b).2.2.1.length uc, .int .i64 ((dBytes d b).2.1 : Int), .bool (dBytes d b).2.2.2.whole, .int .i64 ((dBytes d b).1 : Int)]) ∧ Row w' w.heap.size 5 (.slice ua (dBytes d b).2.2.1.length uc) (bc (dBytes d b).2.2.1) ∧ (overT ⟨t.got + (dBytes d b).2.2.1.length, (dBytes d b).2.2.2.whole, (dBytes d b).1⟩ = true → ∃ g', w.heap.size ≤ g' ∧ Rdr w' base gr g' 213 215 ⟨t.got + (dBytes d b).2.2.1.length, (dBytes d b).2.2.2.whole, (dBytes d b).1⟩ []) ∧ (overT ⟨t.got + (dBytes d b).2.2.1.length, (dBytes d b).2.2.2.whole, (dBytes d b).1⟩ = false → PRd w' base gr g gd lv' tv' ⟨t.got + (dBytes d b).2.2.1.length, (dBytes d b).2.2.2.whole, (dBytes d b).1⟩ (dForget { (dBytes d b).2.2.2 with wrong := (dBytes d b).1 })) ∧ Below base w w' := by
  have HP := hide h
  have HN := hide (isNone_any h.rdr)
  have HRD := hide (read_part h.pt hf hw hwr hm hb2 va vc b hv hs gA lA tA AL hl hg)
  have c0 := h.rdr.c0
  have hgrl := lt_heap' h.rdr.rd
  have hgl := h.pt.fr.lt
  have hgdl := h.pt.dec.lt
  have hbb : base ≤ w.heap.size := by have := h.pt.dec.gb; omega
  clear h hv hs
  generalize dBytes d b = R at HRD ⊢
  obtain ⟨en, n, o, dd⟩ := R
  dsimp only at HRD ⊢
  generalize hd2 : dForget { dd with wrong := en } = d2 at HRD ⊢
  clear hd2
  obtain ⟨tt, htt⟩ : ∃ x : Tal, (⟨t.got + o.length, dd.whole, en⟩ : Tal) = x := ⟨_, rfl⟩
  rw [htt] at HRD ⊢
  have e1 : dd.whole = tt.whole := by rw [← htt]
  have e2 : en = tt.wrong := by rw [← htt]
  rw [e1, e2]
  clear e1 e2 htt
  go_enter Tryz.func96, Tryz.ntmps96
  go_wp2_with fail
  refine HN.out.mono ?_
  rintro e w1 ⟨rfl, rfl⟩
  clear HN
  go_wp2_with fail
  refine HRD.out.mono ?_
  rintro e W1 ⟨ua, uc, lv', tv', rfl, q1, q2, q3⟩
  have HR1 : Hid (Rdr W1 base gr g 207 209 tt (ptX gd)) := hide ⟨(q3.block gr hgrl HP.out.rdr.ne HP.out.rd HP.out.rl HP.out.rt).trans HP.out.rdr.rd, q2.fr.fr, HP.out.rdr.ne, HP.out.rdr.rb, HP.out.rdr.fb⟩
  have hw1 := q3.size
  have R1 := hide q1
  have P1 := hide q2
  have B1 := hide (q3.low HP.out.pt)
  have hrl' : lv'.ownBlock ≠ some gr := q3.la gr hgrl HP.out.rl
  have hrt' : tv'.ownBlock ≠ some gr := q3.fa gr hgrl HP.out.rt
  clear q1 q2 q3 HRD c0
  go_wp2_with fail
  refine (settle_any HR1.out (.inr (.inl rfl)) (by omega)).mono ?_
  rintro e W2 ⟨rfl, hs⟩
  have HS := hide hs
  have R2 : Hid (Row W2 w.heap.size 5 (.slice ua o.length uc) (bc o)) := hide (R1.out.frame fun j e => hs.2.2.1.block j (R1.out.lt e).2 (by have := (R1.out.lt e).1; omega) (by have := (R1.out.lt e).1; omega))
  have B2 := hide (B1.out.trans (hs.2.2.1.low (base := base) HP.out.rdr.rb HP.out.rdr.fb (by omega)))
  have DK2 := hide (P1.out.dec.keepR hs.2.2.1 (fun e => HP.out.rd e.symm) (fun e => P1.out.gd e.symm) hrl' P1.out.gl hrt' P1.out.gt)
  have FPO : Hid (overT tt = true → ∃ g', w.heap.size ≤ g' ∧ Rdr W2 base gr g' 213 215 tt []) := hide (fun h => (by obtain ⟨g', h1, h2⟩ := hs.1 h; exact ⟨g', Nat.le_trans hw1 h1, h2⟩))
  have FPN : Hid (overT tt = false → PRd W2 base gr g gd lv' tv' tt d2) := hide (fun h => ⟨hs.2.1 h, ⟨⟨(hs.2.1 h).fr⟩, DK2.out, P1.out.fb, P1.out.gd, P1.out.gl, P1.out.gt⟩, HP.out.rd, hrl', hrt'⟩)
  clear hs R1 HR1
  cases ho : overT tt with
  | true =>
    obtain ⟨g2, _, hr2⟩ := HS.out.1 ho
    have HT := hide (told_any g2 W2)
    have c := hr2.c0
    have c1 := hr2.t1
    have c2 := hr2.t2
    clear hr2 ho
    go_wp2_with fail
    refine HT.out.mono ?_
    rintro e w3 ⟨rfl, rfl⟩
    go_wp2_with fail
    go_quiet (fail)
    go_wp2
    exact bodyPost_ret (v := .tuple #[.slice ua o.length uc, .int .i64 (n : Int), .bool tt.whole, .int .i64 (tt.wrong : Int)]) (by simp [results, Tryz.results96, go_sem]) rfl ⟨_, _, _, _, rfl, R2.out.below (below_drewN _ _), fun h => (by obtain ⟨g', h1, h2⟩ := FPO.out h; exact ⟨g', h1, h2.below (below_drewN _ _)⟩), fun h => (FPN.out h).below (below_drewN _ _), B2.out.trans ((below_drewN _ _).mono (by have := B2.out.size; omega))⟩
  | false =>
    have hr2 := HS.out.2.1 ho
    obtain ⟨g2, hg2⟩ : ∃ x, g = x := ⟨_, rfl⟩
    rw [hg2] at hr2
    have HT := hide (told_any g2 W2)
    have c := hr2.c0
    have c1 := hr2.t1
    have c2 := hr2.t2
    clear hr2 ho hg2
    go_wp2_with fail
    refine HT.out.mono ?_
    rintro e w3 ⟨rfl, rfl⟩
    go_wp2_with fail
    go_quiet (fail)
    go_wp2
    exact bodyPost_ret (v := .tuple #[.slice ua o.length uc, .int .i64 (n : Int), .bool tt.whole, .int .i64 (tt.wrong : Int)]) (by simp [results, Tryz.results96, go_sem]) rfl ⟨_, _, _, _, rfl, R2.out.below (below_drewN _ _), fun h => (by obtain ⟨g', h1, h2⟩ := FPO.out h; exact ⟨g', h1, h2.below (below_drewN _ _)⟩), fun h => (FPN.out h).below (below_drewN _ _), B2.out.trans ((below_drewN _ _).mono (by have := B2.out.size; omega))⟩
end Go.Proofs.YtcagjipdldlehaaGreatDoor
/- What came in, opened: bytes, fields, heads. -/
namespace Go.Proofs.YtcagjipdldlehaaGreatDoor
open Go.ChangeShapes Go.WideShapes Go.ChangeAt Go.RowKit Go.Joins Go.Deep

theorem bulk_one {H : Type} (d : DataW H) : 1 ≤ Rows.uptoBulk d := by
  cases d with
  | lit l => cases l <;> simp [Rows.uptoBulk]
  | nil => simp [Rows.uptoBulk]
  | ptr d => simp [Rows.uptoBulk]
  | slice elems spare => simp [Rows.uptoBulk]
  | agg parts => simp [Rows.uptoBulk]
  | iface t d => simp [Rows.uptoBulk]
  | map entries => simp [Rows.uptoBulk]
  | held h => simp [Rows.uptoBulk]
theorem bulk_many {H : Type} (l : List (DataW H)) : l.length ≤ Rows.uptoBulkAll l := by
  induction l with
  | nil => simp
  | cons x r ih =>
    have := bulk_one x
    simp only [Rows.uptoBulkAll, List.length_cons]
    omega
theorem bulk_mem {H : Type} {d : DataW H} : ∀ {l : List (DataW H)}, d ∈ l → Rows.uptoBulk d ≤ Rows.uptoBulkAll l
  | x :: r, h => by
    simp only [Rows.uptoBulkAll]
    rcases List.mem_cons.1 h with rfl | h
    · omega
    · have := bulk_mem h
      omega
theorem addr_plus (b off i : Nat) : (⟨b, off, none⟩ : Addr).add i = ⟨b, off + i, none⟩ := by unfold Addr.add; split <;> simp_all
def strOf : Value → ByteArray
  | .string s => s
  | _ => ByteArray.empty
theorem flds_of {H : Type} {enc : TypeId × Value → H} {W : World} {ad : Option Addr} {len cap : Nat} {d : DataW H} {p : List MemPlace} (h : DataW.Trod enc Tryz.prog W 0 (fun _ => true) true 43 (.slice ad len cap) d p) :
    ∃ A : List (ByteArray × ByteArray), Flds W (.slice ad len cap) A ∧ A.length ≤ Rows.uptoBulk d ∧ ∀ f ∈ A, f.1.size ≤ Rows.uptoBulk d ∧ f.2.size ≤ Rows.uptoBulk d := by
  obtain ⟨fuel, hf⟩ := h
  rcases open_slice_pairs Tryz.underlying43 Tryz.underlying48 (by kernel_rfl) (by rfl) (by rfl) (by kernel_rfl) (by kernel_rfl) hf with ⟨hcs, _⟩ | ⟨x, l, c, m, n, V0, V1, D0, D1, P0, P1, hcs, _, hl, hm, hmm, hx, hel⟩
  · simp [Value.cells] at hcs
    obtain ⟨rfl, rfl, rfl⟩ := hcs
    exact ⟨[], ⟨none, 0, rfl, ⟨Nat.le_refl _, fun _ => rfl⟩, fun j hj => by simp at hj⟩, Nat.zero_le _, fun f hf => by simp at hf⟩
  · simp [Value.cells] at hcs
    obtain ⟨rfl, rfl, rfl⟩ := hcs
    simp only [if_true] at hmm
    subst hmm
    obtain ⟨b, off, spot⟩ := x
    have hd := (Prod.mk.inj hx).1
    have each : ∀ i, i < len → ∃ s t : ByteArray, V0 i = .string s ∧ V1 i = .string t ∧ s.size ≤ Rows.uptoBulk d ∧ t.size ≤ Rows.uptoBulk d := by
      intro i hi
      obtain ⟨_, _, h2, h3⟩ := hel i (by omega)
      obtain ⟨s, e0, y0, _⟩ := DataW.trod_string Tryz.underlying9 h2
      obtain ⟨t, e1, y1, _⟩ := DataW.trod_string Tryz.underlying9 h3
      simp only [List.cons.injEq, and_true] at e0 e1
      have z0 := (Prod.mk.inj y0).1
      have z1 := (Prod.mk.inj y1).1
      have hmem : (DataW.agg [D0 i, D1 i] : DataW H) ∈ (List.range len).map fun i => DataW.agg [D0 i, D1 i] := List.mem_map.2 ⟨i, List.mem_range.2 hi, rfl⟩
      have hb := bulk_mem hmem
      rw [z0, z1] at hb
      simp only [Rows.uptoBulk, Rows.uptoBulkAll, size_len] at hb
      refine ⟨s, t, e0, e1, ?_, ?_⟩
      · rw [hd]; simp only [Rows.uptoBulk]; omega
      · rw [hd]; simp only [Rows.uptoBulk]; omega
    refine ⟨(List.range len).map fun i => (strOf (V0 i), strOf (V1 i)), ⟨some ⟨b, off, spot⟩, m, by simp, ⟨by simpa using hl, fun h => by cases h⟩, fun j hj => ?_⟩, ?_, ?_⟩
    · have hj' : j < len := by simpa using hj
      obtain ⟨h0, h1, _, _⟩ := hel j (by omega)
      have hspot : spot = none := by simpa [Addr.add] using World.cell?_spot (hel 0 (by omega)).1
      subst hspot
      rw [addr_plus] at h0 h1
      obtain ⟨s, t, e0, e1, _, _⟩ := each j hj'
      refine ⟨b, off, rfl, World.block_lt_of_cell? W _ h0, ?_, ?_⟩
      · rw [h0]; simp [e0, strOf]
      · rw [show off + j * 2 + 1 = off + (j * 2 + 1) by omega, h1]; simp [e1, strOf]
    · rw [hd]
      have := bulk_many ((List.range len).map fun i => (DataW.agg [D0 i, D1 i] : DataW H))
      rw [List.length_map] at this
      simp only [Rows.uptoBulk, List.length_map]
      omega
    · intro f hf
      obtain ⟨i, hi, rfl⟩ := List.mem_map.1 hf
      obtain ⟨s, t, e0, e1, h2, h3⟩ := each i (List.mem_range.1 hi)
      simp only [e0, e1, strOf]
      exact ⟨h2, h3⟩
theorem sm_of {A : List (ByteArray × ByteArray)} {n : Nat} (h1 : A.length ≤ n) (h2 : ∀ f ∈ A, f.1.size ≤ n ∧ f.2.size ≤ n) (hn : n ≤ 1048576) : Sm A :=
  ⟨by omega, fun f hf => by have := h2 f hf; omega⟩
theorem flds_in {H : Type} {enc : TypeId × Value → H} {W : World} {v : Value} {y : DataW H × List MemPlace} {fuel : Nat} (hf : DataW.trod enc Tryz.prog W 0 (fun _ => true) true fuel 43 [v] = some y) :
    ∃ A : List (ByteArray × ByteArray), Flds W v A ∧ A.length ≤ Rows.uptoBulk y.1 ∧ ∀ f ∈ A, f.1.size ≤ Rows.uptoBulk y.1 ∧ f.2.size ≤ Rows.uptoBulk y.1 := by
  have hsh : ∃ ad len cap, v = .slice ad len cap := by
    rcases open_slice_pairs Tryz.underlying43 Tryz.underlying48 (by kernel_rfl) (by rfl) (by rfl) (by kernel_rfl) (by kernel_rfl) hf with ⟨hcs, _⟩ | ⟨x, l, c, m, n, V0, V1, D0, D1, P0, P1, hcs, _⟩
    · simp at hcs; exact ⟨_, _, _, hcs⟩
    · simp at hcs; exact ⟨_, _, _, hcs⟩
  obtain ⟨ad, len, cap, rfl⟩ := hsh
  obtain ⟨d, p⟩ := y
  exact flds_of (d := d) (p := p) ⟨fuel, by simpa [Value.cells] using hf⟩
theorem array3 {α : Type} {cs : Array α} (h : cs.size = 3) : ∃ c0 c1 c2, cs = #[c0, c1, c2] := by
  obtain ⟨l⟩ := cs
  match l, h with
  | [c0, c1, c2], _ => exact ⟨c0, c1, c2, rfl⟩
section
variable {H : Type} {enc : TypeId × Value → H} {P : Program} {w : World} {base : Nat} {spare : Nat → Bool} {held : Bool}
theorem trod_strct3 {t : TypeId} {f0 f1 f2 : Field} {fuel : Nat} {cs : List Value} {x : DataW H × List MemPlace} (ht : P.underlying t = some (.struct #[f0, f1, f2])) (h : DataW.trod enc P w base spare held fuel t cs = some x) :
    ∃ y0 y1 y2 n, x = (.agg [y0.1, y1.1, y2.1], y0.2 ++ (y1.2 ++ y2.2)) ∧ DataW.trod enc P w base spare held n f0.type ((cs.drop f0.offset).take (P.cellsOf f0.type)) = some y0 ∧ DataW.trod enc P w base spare held n f1.type ((cs.drop f1.offset).take (P.cellsOf f1.type)) = some y1 ∧ DataW.trod enc P w base spare held n f2.type ((cs.drop f2.offset).take (P.cellsOf f2.type)) = some y2 := by
  obtain ⟨xs, n, _, rfl, hl, hlen, hf⟩ := DataW.trod_struct ht h
  match xs, hlen with
  | [y0, y1, y2], _ => exact ⟨y0, y1, y2, n, by simp, by simpa using hf 0 f0 rfl, by simpa using hf 1 f1 rfl, by simpa using hf 2 f2 rfl⟩
theorem open_agg3 {r : Reach} {b0 : Nat} {t : TypeId} {f0 f1 f2 : Field} {v : Value} {d : DataW H} {p : List MemPlace} (hs : P.underlying t = some (.struct #[f0, f1, f2])) (hone : oneCellFields P #[f0, f1, f2] = true) (hC : P.cellsOf t = 3)
    (hv : Value.okWide P w r b0 t v) (h : DataW.Trod enc P w base spare held t v d p) :
    ∃ (v0 v1 v2 : Value) (y0 y1 y2 : DataW H × List MemPlace) (n : Nat), v = .agg #[v0, v1, v2] ∧ d = .agg [y0.1, y1.1, y2.1] ∧ DataW.trod enc P w base spare held n f0.type [v0] = some y0 ∧ DataW.trod enc P w base spare held n f1.type [v1] = some y1 ∧ DataW.trod enc P w base spare held n f2.type [v2] = some y2 := by
  obtain ⟨cs, rfl, hsz⟩ := okWide_struct hs hv
  obtain ⟨c0, c1, c2, rfl⟩ := array3 (hsz.trans hC)
  obtain ⟨fuel, hf⟩ := h
  obtain ⟨y0, y1, y2, n, hx, h0, h1, h2⟩ := trod_strct3 hs hf
  obtain ⟨o0, k0⟩ := hone_of hone 0 f0 rfl
  obtain ⟨o1, k1⟩ := hone_of hone 1 f1 rfl
  obtain ⟨o2, k2⟩ := hone_of hone 2 f2 rfl
  simp only [Prod.mk.injEq] at hx
  exact ⟨c0, c1, c2, y0, y1, y2, n, rfl, hx.1, by simpa [Value.cells, o0, k0] using h0, by simpa [Value.cells, o1, k1] using h1, by simpa [Value.cells, o2, k2] using h2⟩
end
theorem array7 {α : Type} {cs : Array α} (h : cs.size = 7) : ∃ c0 c1 c2 c3 c4 c5 c6, cs = #[c0, c1, c2, c3, c4, c5, c6] := by
  obtain ⟨l⟩ := cs
  match l, h with
  | [c0, c1, c2, c3, c4, c5, c6], _ => exact ⟨c0, c1, c2, c3, c4, c5, c6, rfl⟩
section
variable {H : Type} {enc : TypeId × Value → H} {P : Program} {w : World} {base : Nat} {spare : Nat → Bool} {held : Bool}
theorem trod_strct7 {t : TypeId} {f0 f1 f2 f3 f4 f5 f6 : Field} {fuel : Nat} {cs : List Value} {x : DataW H × List MemPlace} (ht : P.underlying t = some (.struct #[f0, f1, f2, f3, f4, f5, f6])) (h : DataW.trod enc P w base spare held fuel t cs = some x) :
    ∃ y0 y1 y2 y3 y4 y5 y6 n, x = (.agg [y0.1, y1.1, y2.1, y3.1, y4.1, y5.1, y6.1], y0.2 ++ (y1.2 ++ (y2.2 ++ (y3.2 ++ (y4.2 ++ (y5.2 ++ y6.2)))))) ∧ DataW.trod enc P w base spare held n f0.type ((cs.drop f0.offset).take (P.cellsOf f0.type)) = some y0 ∧ DataW.trod enc P w base spare held n f1.type ((cs.drop f1.offset).take (P.cellsOf f1.type)) = some y1 ∧ DataW.trod enc P w base spare held n f2.type ((cs.drop f2.offset).take (P.cellsOf f2.type)) = some y2 ∧ DataW.trod enc P w base spare held n f3.type ((cs.drop f3.offset).take (P.cellsOf f3.type)) = some y3 ∧ DataW.trod enc P w base spare held n f4.type ((cs.drop f4.offset).take (P.cellsOf f4.type)) = some y4 ∧ DataW.trod enc P w base spare held n f5.type ((cs.drop f5.offset).take (P.cellsOf f5.type)) = some y5 ∧ DataW.trod enc P w base spare held n f6.type ((cs.drop f6.offset).take (P.cellsOf f6.type)) = some y6 := by
  obtain ⟨xs, n, _, rfl, hl, hlen, hf⟩ := DataW.trod_struct ht h
  match xs, hlen with
  | [y0, y1, y2, y3, y4, y5, y6], _ => exact ⟨y0, y1, y2, y3, y4, y5, y6, n, by simp, by simpa using hf 0 f0 rfl, by simpa using hf 1 f1 rfl, by simpa using hf 2 f2 rfl, by simpa using hf 3 f3 rfl, by simpa using hf 4 f4 rfl, by simpa using hf 5 f5 rfl, by simpa using hf 6 f6 rfl⟩
theorem open_agg7 {r : Reach} {b0 : Nat} {t : TypeId} {f0 f1 f2 f3 f4 f5 f6 : Field} {v : Value} {d : DataW H} {p : List MemPlace} (hs : P.underlying t = some (.struct #[f0, f1, f2, f3, f4, f5, f6])) (hone : oneCellFields P #[f0, f1, f2, f3, f4, f5, f6] = true) (hC : P.cellsOf t = 7)
    (hv : Value.okWide P w r b0 t v) (h : DataW.Trod enc P w base spare held t v d p) :
    ∃ (v0 v1 v2 v3 v4 v5 v6 : Value) (y0 y1 y2 y3 y4 y5 y6 : DataW H × List MemPlace) (n : Nat), v = .agg #[v0, v1, v2, v3, v4, v5, v6] ∧ d = .agg [y0.1, y1.1, y2.1, y3.1, y4.1, y5.1, y6.1] ∧ DataW.trod enc P w base spare held n f0.type [v0] = some y0 ∧ DataW.trod enc P w base spare held n f1.type [v1] = some y1 ∧ DataW.trod enc P w base spare held n f2.type [v2] = some y2 ∧ DataW.trod enc P w base spare held n f3.type [v3] = some y3 ∧ DataW.trod enc P w base spare held n f4.type [v4] = some y4 ∧ DataW.trod enc P w base spare held n f5.type [v5] = some y5 ∧ DataW.trod enc P w base spare held n f6.type [v6] = some y6 := by
  obtain ⟨cs, rfl, hsz⟩ := okWide_struct hs hv
  obtain ⟨c0, c1, c2, c3, c4, c5, c6, rfl⟩ := array7 (hsz.trans hC)
  obtain ⟨fuel, hf⟩ := h
  obtain ⟨y0, y1, y2, y3, y4, y5, y6, n, hx, h0, h1, h2, h3, h4, h5, h6⟩ := trod_strct7 hs hf
  obtain ⟨o0, k0⟩ := hone_of hone 0 f0 rfl
  obtain ⟨o1, k1⟩ := hone_of hone 1 f1 rfl
  obtain ⟨o2, k2⟩ := hone_of hone 2 f2 rfl
  obtain ⟨o3, k3⟩ := hone_of hone 3 f3 rfl
  obtain ⟨o4, k4⟩ := hone_of hone 4 f4 rfl
  obtain ⟨o5, k5⟩ := hone_of hone 5 f5 rfl
  obtain ⟨o6, k6⟩ := hone_of hone 6 f6 rfl
  simp only [Prod.mk.injEq] at hx
  exact ⟨c0, c1, c2, c3, c4, c5, c6, y0, y1, y2, y3, y4, y5, y6, n, rfl, hx.1, by simpa [Value.cells, o0, k0] using h0, by simpa [Value.cells, o1, k1] using h1, by simpa [Value.cells, o2, k2] using h2, by simpa [Value.cells, o3, k3] using h3, by simpa [Value.cells, o4, k4] using h4, by simpa [Value.cells, o5, k5] using h5, by simpa [Value.cells, o6, k6] using h6⟩
end
theorem cells5 : Tryz.prog.cellsOf 5 = 1 := by kernel_rfl
/-- Bytes that came in. -/
theorem bytes_in {H : Type} {enc : TypeId × Value → H} {W : World} {fuel : Nat} {v : Value} {x : DataW H × List MemPlace} (h : DataW.trod enc Tryz.prog W 0 (fun _ => true) true fuel 31 [v] = some x) :
    ∃ l : List UInt8, Bs W W.heap.size v l ∧ Shp v ∧ l.length ≤ Rows.uptoBulk x.1 := by
  rcases open_ints Tryz.underlying31 Tryz.underlying5 cells5 h with ⟨hcs, hx⟩ | ⟨ad, l, c, zs, hcs, _, hl, hm, hz, hx, hcell, hwz⟩
  · simp only [List.cons.injEq, and_true] at hcs
    subst hcs
    exact ⟨[], ⟨none, 0, rfl, Nat.le_refl _, fun j hj => by simp at hj⟩, .inl rfl, Nat.zero_le _⟩
  · simp only [List.cons.injEq, and_true] at hcs
    subst hcs
    have hzl : zs.length = c := by simpa using hz
    have el : ((zs.take l).map fun z => UInt8.ofNat z.toNat).length = l := by simp; omega
    obtain ⟨b, off, spot⟩ := ad
    refine ⟨(zs.take l).map fun z => UInt8.ofNat z.toNat, ⟨some ⟨b, off, spot⟩, c, by rw [el], by rw [el]; exact hl, fun j hj => ?_⟩, .inr ⟨_, _, _, rfl⟩, ?_⟩
    · rw [el] at hj
      have hspot : spot = none := by simpa [Addr.add] using World.cell?_spot (hcell 0 (by omega))
      subst hspot
      have hc := hcell j (by omega)
      rw [addr_plus] at hc
      have hlt := World.block_lt_of_cell? W _ hc
      refine ⟨b, off, rfl, hlt, hlt, ?_⟩
      rw [hc]
      have hjz : j < zs.length := by omega
      have hb := bounds_u8 (hwz zs[j] (List.getElem_mem hjz))
      simp only [List.getD, List.getElem?_eq_getElem hjz, Option.getD_some, List.getElem_map, List.getElem_take]
      congr 2
      rw [UInt8.toNat_ofNat']
      omega
    · rw [el, hx]
      have := bulk_many (H := H) (lits .u8 (zs.take l))
      simp only [lits, List.length_map, List.length_take] at this
      simp only [Rows.uptoBulk, lits]
      omega
end Go.Proofs.YtcagjipdldlehaaGreatDoor
/- Pieces that came in, opened. -/
namespace Go.Proofs.YtcagjipdldlehaaGreatDoor
open Go.ChangeShapes Go.WideShapes Go.ChangeAt Go.RowKit Go.Joins Go.Deep

theorem cellsB : Tryz.prog.cellsOf 31 = 1 := by kernel_rfl
theorem bulk_flat {H : Type} (D : Nat → DataW H) (f : Nat → List UInt8) : ∀ (l : List Nat), (∀ i ∈ l, (f i).length ≤ Rows.uptoBulk (D i)) → ((l.map f).flatten).length ≤ Rows.uptoBulkAll (l.map D)
  | [], _ => Nat.zero_le _
  | i :: r, h => by
    have h1 := h i (by simp)
    have h2 := bulk_flat D f r (fun j hj => h j (List.mem_cons_of_mem _ hj))
    simp only [List.map_cons, List.flatten_cons, List.length_append, Rows.uptoBulkAll]
    omega
theorem pcs_of {H : Type} {enc : TypeId × Value → H} {W : World} {fuel : Nat} {v : Value} {x : DataW H × List MemPlace} (h : DataW.trod enc Tryz.prog W 0 (fun _ => true) true fuel 56 [v] = some x) :
    ∃ L : List (List UInt8), Pcs W v L ∧ L.flatten.length ≤ Rows.uptoBulk x.1 ∧ L.length ≤ Rows.uptoBulk x.1 := by
  rcases open_slice1 Tryz.underlying56 cellsB h with ⟨hcs, _⟩ | ⟨a, len, cap, m, n, V, D, Pl, hcs, _, hl, hm, hmm, hx, hel⟩
  · simp only [List.cons.injEq, and_true] at hcs
    subst hcs
    exact ⟨[], ⟨none, 0, rfl, Nat.le_refl _, fun j hj => by simp at hj⟩, Nat.zero_le _, Nat.zero_le _⟩
  · simp only [List.cons.injEq, and_true] at hcs
    subst hcs
    simp only [if_true] at hmm
    subst hmm
    have each : ∀ i, ∃ l : List UInt8, i < len → Bs W W.heap.size (V i) l ∧ Shp (V i) ∧ l.length ≤ Rows.uptoBulk (D i) := fun i => by
      by_cases hi : i < len
      · obtain ⟨l, h1, h2, h3⟩ := bytes_in (hel i (by omega)).2
        exact ⟨l, fun _ => ⟨h1, h2, h3⟩⟩
      · exact ⟨[], fun h => absurd h hi⟩
    obtain ⟨f, hf⟩ := Classical.axiomOfChoice each
    obtain ⟨b, off, spot⟩ := a
    have hx1 : x.1 = .slice ((List.range len).map D) ((List.range (m - len)).map fun j => D (len + j)) := by rw [hx]
    refine ⟨(List.range len).map f, ⟨some ⟨b, off, spot⟩, m, by simp, by simpa using hl, fun j hj => ?_⟩, ?_, ?_⟩
    · have hj2 : j < len := by simpa using hj
      have hspot : spot = none := by simpa [Addr.add] using World.cell?_spot (hel 0 (by omega)).1
      subst hspot
      have hc := (hel j (by omega)).1
      rw [addr_plus] at hc
      obtain ⟨h1, h2, _⟩ := hf j hj2
      obtain ⟨va, vc, hv, hvc, hvx⟩ := h1
      have e : ((List.range len).map f)[j] = f j := by simp
      rw [hv] at hc h2
      refine ⟨b, off, va, vc, rfl, World.block_lt_of_cell? W _ hc, ?_, ?_, ?_⟩
      · rw [e]; exact hc
      · rw [e]; exact ⟨va, vc, rfl, hvc, hvx⟩
      · rw [e]; exact h2
    · rw [hx1]
      have := bulk_flat D f (List.range len) (fun i hi => (hf i (List.mem_range.1 hi)).2.2)
      simp only [Rows.uptoBulk]
      omega
    · rw [hx1]
      have := bulk_many ((List.range len).map D)
      simp only [List.length_map, List.length_range] at this
      simp only [Rows.uptoBulk, List.length_map, List.length_range]
      omega
end Go.Proofs.YtcagjipdldlehaaGreatDoor
/- A client's connection: its block; what makes it read a head, wait, shut. -/
namespace Go.Proofs.YtcagjipdldlehaaGreatDoor
open Go.ChangeShapes Go.WideShapes Go.ChangeAt Go.RowKit
set_option linter.unusedVariables false

/-- The cells of a connection. -/
def clC (hd bd : Int) (st : Value) (bg wt : Bool) (pv rv bv : Value) (wr : Int) : Array Value := #[.int .i64 hd, .int .i64 bd, st, .bool bg, .bool wt, pv, rv, bv, .int .i64 wr]
/-- The states: it reads a head, it reads a body. -/
def stH (c : Nat) : Value := .func (.func 37) #[.pointer (some ⟨c, 0, none⟩)] #[]
def stB (c : Nat) : Value := .func (.func 64) #[.pointer (some ⟨c, 0, none⟩)] #[]
/-- What a call may have changed: the connection's block alone, of the old ones. -/
structure CK (w w' : World) (c : Nat) : Prop where
  os : w'.os = w.os
  tape : w'.tape = w.tape
  output : w'.output = w.output
  size : w.heap.size ≤ w'.heap.size
  block : ∀ k, k < w.heap.size → k ≠ c → w'.heap[k]? = w.heap[k]?
theorem CK.refl (w : World) (c : Nat) : CK w w c := ⟨rfl, rfl, rfl, Nat.le_refl _, fun _ _ _ => rfl⟩
theorem CK.trans {a b d : World} {c : Nat} (h : CK a b c) (k : CK b d c) : CK a d c := ⟨k.os.trans h.os, k.tape.trans h.tape, k.output.trans h.output, Nat.le_trans h.size k.size, fun i hi hc => (k.block i (Nat.lt_of_lt_of_le hi h.size) hc).trans (h.block i hi hc)⟩
theorem CK.of_below {w w' : World} (c : Nat) (b : Below w.heap.size w w') : CK w w' c := ⟨b.os, b.tape, b.output, b.size, fun k hk _ => b.block k hk⟩
theorem CK.set (w : World) (c i : Nat) (v : Value) : CK w (w.setCell ⟨c, i, none⟩ v) c := ⟨rfl, rfl, rfl, by simp, fun k _ hk => Below.heap_setCell w ⟨c, i, none⟩ v k hk⟩
theorem CK.low {w w' : World} {c base : Nat} (h : CK w w' c) (h1 : base ≤ c) (h2 : base ≤ w.heap.size) : Below base w w' := ⟨h.os, h.tape, h.output, h.size, fun k hk => h.block k (by omega) (by omega)⟩
section
variable {w : World} {c : Nat} {hd bd : Int} {st : Value} {bg wt : Bool} {pv rv bv : Value} {wr : Int}
abbrev ClB (w : World) (c : Nat) (hd bd : Int) (st : Value) (bg wt : Bool) (pv rv bv : Value) (wr : Int) : Prop := w.heap[c]? = some (.cells (clC hd bd st bg wt pv rv bv wr) 66 (0, 0))
theorem cl_cells (h : ClB w c hd bd st bg wt pv rv bv wr) : w.cell? ⟨c, 0, none⟩ = some (.int .i64 hd) ∧ w.cell? ⟨c, 1, none⟩ = some (.int .i64 bd) ∧ w.cell? ⟨c, 2, none⟩ = some st ∧ w.cell? ⟨c, 3, none⟩ = some (.bool bg) ∧ w.cell? ⟨c, 4, none⟩ = some (.bool wt) ∧ w.cell? ⟨c, 5, none⟩ = some pv ∧ w.cell? ⟨c, 6, none⟩ = some rv ∧ w.cell? ⟨c, 7, none⟩ = some bv ∧ w.cell? ⟨c, 8, none⟩ = some (.int .i64 wr) :=
  ⟨cell_at h 0, cell_at h 1, cell_at h 2, cell_at h 3, cell_at h 4, cell_at h 5, cell_at h 6, cell_at h 7, cell_at h 8⟩
theorem cl_fz (h : ClB w c hd bd st bg wt pv rv bv wr) (i : Nat) : w.frozen? ⟨c, i, none⟩ = false := by rw [frozen_at h]; simp
end
set_option maxHeartbeats 1000000 in
/-- wait. -/
theorem wait_any {w : World} {c : Nat} {hd bd : Int} {fn : Fn} {cs : Array Value} {bg wt : Bool} {pv bv : Value} {ro : Option Addr} {wr : Int} (h : ClB w c hd bd (.func fn cs #[]) bg wt pv (.pointer ro) bv wr) :
    Calls Tryz.prog 98 #[.pointer (some ⟨c, 0, none⟩)] w fun e w' => e = .returned (.tuple #[]) ∧ ClB w' c hd bd .nilFunc false true pv (.pointer none) bv wr ∧ CK w w' c := by
  obtain ⟨k0, k1, k2, k3, k4, k5, k6, k7, k8⟩ := cl_cells h
  have z := cl_fz h
  have z2 := z 2
  have z6 := z 6
  have HH := hide h
  clear h z k0 k1 k5 k7 k8
  have H1 : Hid (ClB (w.setCell ⟨c, 2, none⟩ .nilFunc) c hd bd .nilFunc bg wt pv (.pointer ro) bv wr) := hide (hp_set HH.out 2 _)
  have H2 : Hid (ClB ((w.setCell ⟨c, 2, none⟩ .nilFunc).setCell ⟨c, 6, none⟩ (.pointer none)) c hd bd .nilFunc bg wt pv (.pointer none) bv wr) := hide (hp_set H1.out 6 _)
  have K2 := hide ((CK.set w c 2 .nilFunc).trans (CK.set _ c 6 (.pointer none)))
  go_enter Tryz.func98, Tryz.ntmps98
  go_upto_region 1 with fail
  clear k2 k3 k4 k6 z2 z6 HH H1
  generalize (w.setCell ⟨c, 2, none⟩ .nilFunc).setCell ⟨c, 6, none⟩ (.pointer none) = w1 at *
  obtain ⟨k0, k1, k2, k3, k4, k5, k6, k7, k8⟩ := cl_cells H2.out
  have z := cl_fz H2.out
  have z3 := z 3
  have z4 := z 4
  clear z k0 k1 k2 k5 k6 k7 k8
  have H3 : Hid (ClB (w1.setCell ⟨c, 3, none⟩ (.bool false)) c hd bd .nilFunc false wt pv (.pointer none) bv wr) := hide (hp_set H2.out 3 _)
  have H4 : Hid (ClB ((w1.setCell ⟨c, 3, none⟩ (.bool false)).setCell ⟨c, 4, none⟩ (.bool true)) c hd bd .nilFunc false true pv (.pointer none) bv wr) := hide (hp_set H3.out 4 _)
  have K4 := hide (K2.out.trans ((CK.set w1 c 3 (.bool false)).trans (CK.set _ c 4 (.bool true))))
  go_wp2
  go_end0
  exact ⟨rfl, H4.out, K4.out⟩
/-- The whole connection made another. -/
def put9 (w : World) (c : Nat) (hd bd : Int) (st : Value) (bg wt : Bool) (pv rv bv : Value) (wr : Int) : World :=
  ((((((((w.setCell ⟨c, 0, none⟩ (.int .i64 hd)).setCell ⟨c, 1, none⟩ (.int .i64 bd)).setCell ⟨c, 2, none⟩ st).setCell ⟨c, 3, none⟩ (.bool bg)).setCell ⟨c, 4, none⟩ (.bool wt)).setCell ⟨c, 5, none⟩ pv).setCell ⟨c, 6, none⟩ rv).setCell ⟨c, 7, none⟩ bv).setCell ⟨c, 8, none⟩ (.int .i64 wr)
theorem put9_ok {w : World} {c : Nat} {h0 b0 : Int} {s0 : Value} {g0 w0 : Bool} {p0 r0 v0 : Value} {e0 : Int} (h : ClB w c h0 b0 s0 g0 w0 p0 r0 v0 e0) (hd bd : Int) (st : Value) (bg wt : Bool) (pv rv bv : Value) (wr : Int) : ClB (put9 w c hd bd st bg wt pv rv bv wr) c hd bd st bg wt pv rv bv wr ∧ CK w (put9 w c hd bd st bg wt pv rv bv wr) c := by
  have a0 : ClB (w.setCell ⟨c, 0, none⟩ (.int .i64 hd)) c hd b0 s0 g0 w0 p0 r0 v0 e0 := hp_set h 0 _
  have a1 : ClB (_) c hd bd s0 g0 w0 p0 r0 v0 e0 := hp_set a0 1 (.int .i64 bd)
  have a2 : ClB (_) c hd bd st g0 w0 p0 r0 v0 e0 := hp_set a1 2 st
  have a3 : ClB (_) c hd bd st bg w0 p0 r0 v0 e0 := hp_set a2 3 (.bool bg)
  have a4 : ClB (_) c hd bd st bg wt p0 r0 v0 e0 := hp_set a3 4 (.bool wt)
  have a5 : ClB (_) c hd bd st bg wt pv r0 v0 e0 := hp_set a4 5 pv
  have a6 : ClB (_) c hd bd st bg wt pv rv v0 e0 := hp_set a5 6 rv
  have a7 : ClB (_) c hd bd st bg wt pv rv bv e0 := hp_set a6 7 bv
  have a8 : ClB (_) c hd bd st bg wt pv rv bv wr := hp_set a7 8 (.int .i64 wr)
  exact ⟨a8, ((((((((CK.set w c 0 _).trans (CK.set _ c 1 _)).trans (CK.set _ c 2 _)).trans (CK.set _ c 3 _)).trans (CK.set _ c 4 _)).trans (CK.set _ c 5 _)).trans (CK.set _ c 6 _)).trans (CK.set _ c 7 _)).trans (CK.set _ c 8 _)⟩
/-- A parser whose blocks are as they were. -/
theorem Par.keep {w w' : World} {base g : Nat} {lv fv : Value} {p : Pz} (h : Par w base g lv fv p) (b : ∀ k, base ≤ k → k < w.heap.size → w'.heap[k]? = w.heap[k]?) : Par w' base g lv fv p :=
  ⟨(b g h.gb h.lt).trans h.blk, h.line.frame fun k hk => b k (h.line.lt hk).1 (h.line.lt hk).2, h.flds.frame fun k hk => b k (h.flds.lt hk).1 (h.flds.lt hk).2, h.gb, h.gl, h.gf, h.lf⟩
theorem Par.ck {w w' : World} {base g c : Nat} {lv fv : Value} {p : Pz} (h : Par w base g lv fv p) (k : CK w w' c) (hc : c < base) : Par w' base g lv fv p := h.keep fun i h1 h2 => k.block i h2 (by omega)
end Go.Proofs.YtcagjipdldlehaaGreatDoor
/- A client's connection that begins to read a head. -/
namespace Go.Proofs.YtcagjipdldlehaaGreatDoor
open Go.ChangeShapes Go.WideShapes Go.ChangeAt Go.RowKit
set_option linter.unusedVariables false

set_option maxHeartbeats 1000000 in
set_option maxRecDepth 100000 in
theorem listen_any {w : World} {c : Nat} {h0 b0 : Int} {st : Value} {bg wt : Bool} {pv rv bv : Value} {wr : Int} (h : ClB w c h0 b0 st bg wt pv rv bv wr) (hd : Nat) (bd : Int) (h1 : 16 ≤ hd) (h2 : hd ≤ 65536) :
    Calls Tryz.prog 25 #[.pointer (some ⟨c, 0, none⟩), .agg #[.int .i64 (hd : Int), .int .i64 bd]] w fun e w' => e = .returned (.int .i64 0) ∧ ∃ g, w.heap.size < g ∧ Par w' g g (.slice none 0 0) (.slice none 0 0) (pNew true hd) ∧ ClB w' c (hd : Int) bd (stH c) false false (.pointer (some ⟨g, 0, none⟩)) (.pointer none) (.slice none 0 0) 0 ∧ CK w w' c := by
  have HH := hide h
  have hcl := lt_heap h
  clear h
  have HN := hide (fun W => hnew_any true hd W h1 h2)
  go_enter Tryz.func25, Tryz.ntmps25
  go_upto_region 1 with fail
  have B0 := hide (Bl.one w #[.int .i64 (hd : Int), .int .i64 bd] 61)
  generalize (w.alloc (.cells #[.int .i64 (hd : Int), .int .i64 bd] 61)) = w1 at B0 ⊢
  have e0 : w1.cell? ⟨w.heap.size, 0, none⟩ = some (.int .i64 (hd : Int)) := B0.out.cell 0 rfl 0
  go_wp2_with fail
  refine (HN.out w1).mono ?_
  rintro e w2 ⟨rfl, hp, bb⟩
  have HP := hide hp
  have B1 := hide (B0.out.below bb)
  have hw1 : w.heap.size < w1.heap.size := by have := lt_heap (B0.out.hp 0 _ _ rfl); omega
  clear hp bb B0 e0 HN
  generalize w1.heap.size = g at *
  have e0 : w2.cell? ⟨w.heap.size, 0, none⟩ = some (.int .i64 (hd : Int)) := B1.out.cell 0 rfl 0
  have e1 : w2.cell? ⟨w.heap.size, 1, none⟩ = some (.int .i64 bd) := B1.out.cell 0 rfl 1
  have HH2 := hide ((B1.out.b.block c hcl).trans HH.out)
  obtain ⟨k0, k1, k2, k3, k4, k5, k6, k7, k8⟩ := cl_cells HH2.out
  have z := cl_fz HH2.out
  obtain ⟨y1, y2⟩ := put9_ok HH2.out (hd : Int) bd .nilFunc false false (.pointer (some ⟨g, 0, none⟩)) (.pointer none) (.slice none 0 0) 0
  have H3 := hide y1
  have K3 := hide ((CK.of_below c B1.out.b).trans y2)
  have HP3 := hide (HP.out.ck y2 (by omega))
  clear y1 y2
  have z0 := z 0; have z1 := z 1; have z2 := z 2; have z3 := z 3; have z4 := z 4; have z5 := z 5; have z6 := z 6; have z7 := z 7; have z8 := z 8
  clear z
  unfold put9 at H3 K3 HP3
  go_upto_region 3 with fail
  clear k0 k1 k2 k3 k4 k5 k6 k7 k8 z0 z1 z2 z3 z4 z5 z6 z7 z8 e0 e1 HH2 HP
  generalize ((((((((w2.setCell ⟨c, 0, none⟩ (.int .i64 (hd : Int))).setCell ⟨c, 1, none⟩ (.int .i64 bd)).setCell ⟨c, 2, none⟩ .nilFunc).setCell ⟨c, 3, none⟩ (.bool false)).setCell ⟨c, 4, none⟩ (.bool false)).setCell ⟨c, 5, none⟩ (.pointer (some ⟨g, 0, none⟩))).setCell ⟨c, 6, none⟩ (.pointer none)).setCell ⟨c, 7, none⟩ (.slice none 0 0)).setCell ⟨c, 8, none⟩ (.int .i64 0) = w3 at *
  have k2 : w3.cell? ⟨c, 2, none⟩ = some .nilFunc := (cl_cells H3.out).2.2.1
  have z2 := cl_fz H3.out 2
  have H4 : Hid (ClB (w3.setCell ⟨c, 2, none⟩ (stH c)) c (hd : Int) bd (stH c) false false (.pointer (some ⟨g, 0, none⟩)) (.pointer none) (.slice none 0 0) 0) := hide (hp_set H3.out 2 _)
  have K4 := hide (K3.out.trans (CK.set w3 c 2 (stH c)))
  have HP4 := hide (HP3.out.ck (CK.set w3 c 2 (stH c)) (by omega))
  unfold stH at H4 K4 HP4
  go_wp2_with fail
  go_ret
  exact ⟨rfl, g, hw1, HP4.out, H4.out, K4.out⟩
end Go.Proofs.YtcagjipdldlehaaGreatDoor
/- A client's connection is made; it is shut, or its request refused. -/
namespace Go.Proofs.YtcagjipdldlehaaGreatDoor
open Go.ChangeShapes Go.WideShapes Go.ChangeAt Go.RowKit
set_option linter.unusedVariables false

set_option maxHeartbeats 1000000 in
set_option maxRecDepth 100000 in
theorem cnew_any (w : World) (hd : Nat) (bd : Int) (h1 : 16 ≤ hd) (h2 : hd ≤ 65536) (h3 : 0 ≤ bd) (h4 : bd ≤ 1048576) :
    Calls Tryz.prog 8 #[.int .i64 (hd : Int), .int .i64 bd] w fun e w' => e = .returned (.tuple #[.pointer (some ⟨w.heap.size, 0, none⟩), .int .i64 0]) ∧ ∃ g, w.heap.size < g ∧ Par w' g g (.slice none 0 0) (.slice none 0 0) (pNew true hd) ∧ ClB w' w.heap.size (hd : Int) bd (stH w.heap.size) false false (.pointer (some ⟨g, 0, none⟩)) (.pointer none) (.slice none 0 0) 0 ∧ Below w.heap.size w w' := by
  have t1 : ¬ bd < 0 := by omega
  have t2 : ¬ 1048576 < bd := by omega
  have H0 : Hid (ClB (w.alloc (.cells (clC 0 0 .nilFunc false false (.pointer none) (.pointer none) (.slice none 0 0) 0) 66)) w.heap.size 0 0 .nilFunc false false (.pointer none) (.pointer none) (.slice none 0 0) 0) := hide (hp_new w _)
  have B0 := hide ((Below.refl w.heap.size w).alloc (Nat.le_refl _) (.cells (clC 0 0 .nilFunc false false (.pointer none) (.pointer none) (.slice none 0 0) 0) 66))
  unfold clC at H0 B0
  go_enter Tryz.func8, Tryz.ntmps8
  go_upto_region 4 with fail
  generalize w.alloc _ = w1 at *
  have H0 : Hid (ClB w1 w.heap.size 0 0 .nilFunc false false (.pointer none) (.pointer none) (.slice none 0 0) 0) := H0
  have HC := hide (listen_any H0.out hd bd h1 h2)
  have hs : w.heap.size < w1.heap.size := lt_heap H0.out
  go_wp2_with fail
  refine HC.out.mono ?_
  rintro e w2 ⟨rfl, g, hg, hp, hc, ck⟩
  have HE := hide (⟨g, by omega, hp, hc, B0.out.trans (ck.low (Nat.le_refl _) (by omega))⟩ : ∃ g, w.heap.size < g ∧ Par w2 g g (.slice none 0 0) (.slice none 0 0) (pNew true hd) ∧ ClB w2 w.heap.size (hd : Int) bd (stH w.heap.size) false false (.pointer (some ⟨g, 0, none⟩)) (.pointer none) (.slice none 0 0) 0 ∧ Below w.heap.size w w2)
  clear hp hc ck hg HC H0 B0
  go_wp2_with fail
  go_ret2
  exact ⟨rfl, HE.out⟩
/-- refuse, leave. -/
theorem refuse_any {w : World} {c : Nat} {h0 b0 : Int} {s0 : Value} {g0 w0 : Bool} {p0 r0 v0 : Value} {e0 : Int} (h : ClB w c h0 b0 s0 g0 w0 p0 r0 v0 e0) (n : Int) :
    Calls Tryz.prog 28 #[.pointer (some ⟨c, 0, none⟩), .int .i64 n] w fun e w' => e = .returned (.tuple #[]) ∧ ClB w' c 0 0 .nilFunc false false (.pointer none) (.pointer none) (.slice none 0 0) n ∧ CK w w' c := by
  obtain ⟨k0, k1, k2, k3, k4, k5, k6, k7, k8⟩ := cl_cells h
  have z := cl_fz h
  have z0 := z 0; have z1 := z 1; have z2 := z 2; have z3 := z 3; have z4 := z 4; have z5 := z 5; have z6 := z 6; have z7 := z 7; have z8 := z 8
  have H2 := hide (put9_ok h 0 0 .nilFunc false false (.pointer none) (.pointer none) (.slice none 0 0) n)
  clear z h
  unfold put9 at H2
  go_enter Tryz.func28, Tryz.ntmps28
  go_wp2_with fail
  go_end0
  exact ⟨rfl, H2.out⟩
theorem leave_any {w : World} {c : Nat} {h0 b0 : Int} {s0 : Value} {g0 w0 : Bool} {p0 r0 v0 : Value} {e0 : Int} (h : ClB w c h0 b0 s0 g0 w0 p0 r0 v0 e0) :
    Calls Tryz.prog 29 #[.pointer (some ⟨c, 0, none⟩)] w fun e w' => e = .returned (.tuple #[]) ∧ ClB w' c 0 0 .nilFunc false false (.pointer none) (.pointer none) (.slice none 0 0) 0 ∧ CK w w' c := by
  obtain ⟨k0, k1, k2, k3, k4, k5, k6, k7, k8⟩ := cl_cells h
  have z := cl_fz h
  have z0 := z 0; have z1 := z 1; have z2 := z 2; have z3 := z 3; have z4 := z 4; have z5 := z 5; have z6 := z 6; have z7 := z 7; have z8 := z 8
  have H2 := hide (put9_ok h 0 0 .nilFunc false false (.pointer none) (.pointer none) (.slice none 0 0) 0)
  clear z h
  unfold put9 at H2
  go_enter Tryz.func29, Tryz.ntmps29
  go_wp2_with fail
  go_end0
  exact ⟨rfl, H2.out⟩
end Go.Proofs.YtcagjipdldlehaaGreatDoor
/- A client's connection whose body is looked at. -/
namespace Go.Proofs.YtcagjipdldlehaaGreatDoor
open Go.ChangeShapes Go.WideShapes Go.ChangeAt Go.RowKit
set_option linter.unusedVariables false

set_option maxHeartbeats 1000000 in
set_option maxRecDepth 100000 in
theorem look_whole {w : World} {c : Nat} {hd bd : Int} {fn : Fn} {cs : Array Value} {bg wt : Bool} {pv bv : Value} {wr : Int} {base gr g : Nat} {it ct : TypeId} {t : Tal} {X : List Value} (h : ClB w c hd bd (.func fn cs #[]) bg wt pv (.pointer (some ⟨gr, 0, none⟩)) bv wr) (hr : Rdr w base gr g it ct t X) (hk : KT it) (hw : t.whole = true) :
    Calls Tryz.prog 65 #[.pointer (some ⟨c, 0, none⟩), .int .i64 0] w fun e w' => e = .returned (.tuple #[]) ∧ ClB w' c hd bd .nilFunc false true pv (.pointer none) bv wr ∧ CK w w' c := by
  have HR := hide (wholeR_any hr hk)
  rw [hw] at HR
  have HW := hide (wait_any h)
  obtain ⟨-, -, -, -, -, -, k6, -, -⟩ := cl_cells h
  clear h hr hk hw
  go_enter Tryz.func65, Tryz.ntmps65
  go_wp2_with (first | (go_at_call 97; refine HR.out.mono ?_; rintro e w' ⟨rfl, rfl⟩) | (go_at_call 98; refine HW.out.mono ?_; rintro e w1 ⟨rfl, y1, y2⟩))
  go_end0
  exact ⟨rfl, y1, y2⟩
set_option maxHeartbeats 1000000 in
set_option maxRecDepth 100000 in
theorem look_part {w : World} {c : Nat} {hd bd : Int} {st : Value} {bg wt : Bool} {pv bv : Value} {wr : Int} {base gr g : Nat} {it ct : TypeId} {t : Tal} {X : List Value} (h : ClB w c hd bd st bg wt pv (.pointer (some ⟨gr, 0, none⟩)) bv wr) (hr : Rdr w base gr g it ct t X) (hk : KT it) (hw : t.whole = false) :
    Calls Tryz.prog 65 #[.pointer (some ⟨c, 0, none⟩), .int .i64 0] w fun e w' => e = .returned (.tuple #[]) ∧ w = w' := by
  have HR := hide (wholeR_any hr hk)
  rw [hw] at HR
  obtain ⟨-, -, -, -, -, -, k6, -, -⟩ := cl_cells h
  clear h hr hk hw
  go_enter Tryz.func65, Tryz.ntmps65
  go_wp2_with (go_at_call 97; refine HR.out.mono ?_; rintro e w' ⟨rfl, rfl⟩)
  go_end0
  exact ⟨rfl, rfl⟩
/-- The status of a body's error. -/
def bodyS (e : Int) : Int := if e = 2 then 413 else 400
set_option maxHeartbeats 1000000 in
set_option maxRecDepth 100000 in
theorem look_wrong {w : World} {c : Nat} {hd bd : Int} {st : Value} {bg wt : Bool} {pv rv bv : Value} {wr e : Int} (h : ClB w c hd bd st bg wt pv rv bv wr) (he : e ≠ 0) :
    Calls Tryz.prog 65 #[.pointer (some ⟨c, 0, none⟩), .int .i64 e] w fun e' w' => e' = .returned (.tuple #[]) ∧ ClB w' c 0 0 .nilFunc false false (.pointer none) (.pointer none) (.slice none 0 0) (bodyS e) ∧ CK w w' c := by
  have HF := hide (fun n => refuse_any h n)
  clear h
  unfold bodyS
  by_cases h2 : e = 2
  · subst h2
    rw [if_pos rfl]
    go_enter Tryz.func65, Tryz.ntmps65
    go_wp2_with (go_at_call 28; refine (HF.out 413).mono ?_; rintro e w1 ⟨rfl, y1, y2⟩)
    go_end0
    exact ⟨rfl, y1, y2⟩
  · rw [if_neg h2]
    have t2 : (e == 2) = false := by simpa using h2
    have t0 : (e == 0) = false := by simpa using he
    go_enter Tryz.func65, Tryz.ntmps65
    go_wp2_with (go_at_call 28; refine (HF.out 400).mono ?_; rintro e w1 ⟨rfl, y1, y2⟩)
    go_end0
    exact ⟨rfl, y1, y2⟩
end Go.Proofs.YtcagjipdldlehaaGreatDoor
/- A client's connection behind a whole head that has no body. -/
namespace Go.Proofs.YtcagjipdldlehaaGreatDoor
open Go.ChangeShapes Go.WideShapes Go.ChangeAt Go.RowKit
set_option linter.unusedVariables false

theorem bnew_none (b : Bool) (bd : Int) (h0 : 0 ≤ bd) (hm : bd ≤ 9007199254740992) (W : World) :
    Calls Tryz.prog 63 #[frV 1 0 b, .int .i64 bd] W fun e w' => ∃ r, e = .returned r ∧ ∃ gr g', r = .tuple #[.pointer (some ⟨gr, 0, none⟩), .int .i64 0] ∧ W.heap.size ≤ gr ∧ W.heap.size ≤ g' ∧ Rdr w' W.heap.size gr g' 213 215 ⟨0, true, 0⟩ [] ∧ Below W.heap.size W w' := by
  refine (new_of (it := 213) (ct := 215) (t := ⟨0, true, 0⟩) (X := []) (k := 1) (len := 0) (x := b) (most := bd) (w := W) (.inr (.inr (.inr rfl))) h0 hm (by decide) h0 (fun V => framed_none 0 b bd V)).mono ?_
  rintro e w' ⟨gr, g, rfl, a1, a2, a3, a4, -⟩
  obtain ⟨g', b1, b2⟩ := a4 rfl
  exact ⟨_, rfl, gr, g', rfl, a1, b1, b2, a3⟩
theorem Rdr.ck {w w' : World} {base gr g c : Nat} {it ct : TypeId} {t : Tal} {X : List Value} (h : Rdr w base gr g it ct t X) (k : CK w w' c) (h1 : gr ≠ c) (h2 : g ≠ c) : Rdr w' base gr g it ct t X :=
  ⟨(k.block gr (lt_heap' h.rd) h1).trans h.rd, (k.block g (lt_heap' h.fr) h2).trans h.fr, h.ne, h.rb, h.fb⟩
set_option maxHeartbeats 2000000 in
set_option maxRecDepth 100000 in
theorem begin_none {w : World} {c : Nat} {hd bd : Int} {bg wt : Bool} {rv bv : Value} {wr : Int} {base g : Nat} {lv fv : Value} {p : Pz} {b : Bool} (h : ClB w c hd bd (stH c) bg wt (.pointer (some ⟨g, 0, none⟩)) rv bv wr) (hp : Par w base g lv fv p) (hw : p.whole = true) (hz : Sz p) (hf : Fit p) (hq : reqO p.fs p.req (p.minor : Int) = ⟨1, 0, b, 0⟩) (hS : Sm p.fs) (h0 : 0 ≤ bd) (hm : bd ≤ 9007199254740992) :
    Calls Tryz.prog 47 #[.pointer (some ⟨c, 0, none⟩)] w fun e w' => e = .returned (.tuple #[]) ∧ ClB w' c hd bd .nilFunc false true (.pointer (some ⟨g, 0, none⟩)) (.pointer none) bv wr ∧ CK w w' c := by
  have HH := hide h
  have HD := hide (head_whole hp hw hz hf)
  have HQ := hide (fun W l (hl : Flds W l p.fs) => req_any W p.req p.me p.ta (p.minor : Int) (p.status : Int) p.re l p.fs hl hS)
  rw [hq] at HQ
  unfold hdC foV frVg at HQ
  unfold hdV at HD
  have HN := hide (fun W => bnew_none b bd h0 hm W)
  unfold frV at HN
  obtain ⟨-, -, -, -, -, k5, -, -, -⟩ := cl_cells h
  have hcl : c < w.heap.size := lt_heap h
  clear h hp hw hz hf hq hS
  go_enter Tryz.func47, Tryz.ntmps47
  go_wp2_with (go_at_call 34; refine HD.out.mono ?_; rintro e w1 ⟨l, rfl, hl, bb⟩; have HL := hide (HQ.out w1 l (Flds.of_row hl)); have B1 := hide bb; have hll := hl.shape)
  refine HL.out.mono ?_
  rintro e w2 ⟨rfl, b2⟩
  have B2 := hide (B1.out.trans (b2.mono B1.out.size))
  clear b2 HL B1 HD HQ k5 bb hl hll
  have B3 := hide (B2.out.alloc B2.out.size (.cells #[.int .i64 1, .int .i64 0, .bool b] 83))
  have F3 := hide (hp_new w2 (.cells #[.int .i64 1, .int .i64 0, .bool b] 83))
  go_upto_region 3 with fail
  clear B2
  generalize w2.alloc _ = w3 at *
  generalize w2.heap.size = ff at *
  have H3 := hide ((B3.out.block c hcl).trans HH.out)
  have f0 : w3.cell? ⟨ff, 0, none⟩ = some (.int .i64 1) := cell_at F3.out 0
  have f1 : w3.cell? ⟨ff, 1, none⟩ = some (.int .i64 0) := cell_at F3.out 1
  have f2 : w3.cell? ⟨ff, 2, none⟩ = some (.bool b) := cell_at F3.out 2
  obtain ⟨k0, k1, k2, k3, k4, k5, k6, k7, k8⟩ := cl_cells H3.out
  have hc3 : c < w3.heap.size := lt_heap H3.out
  clear k2 k3 k4 k5 k6 k7 k8
  go_region_law (refine step_callg rfl 63 _ _ rfl (enters_of Tryz.func63 (by kernel_rfl) rfl) #[.agg #[.int .i64 1, .int .i64 0, .bool b], .int .i64 bd] (by simp [Act.eval]) _ (HN.out _) ?_; rintro v y ⟨gr, g', rfl, y1, y2, y3, y4⟩; have HY : Hid (ClB y c hd bd (stH c) bg wt (.pointer (some ⟨g, 0, none⟩)) rv bv wr) := hide ((y4.block c hc3).trans H3.out); have HRD := hide y3; have HBY : Hid (Below w.heap.size w y) := hide (by first | exact B3.out.trans (y4.mono B3.out.size) | exact B3.out.drew.trans (y4.mono B3.out.size)); have gc : gr ≠ c := (fun e => absurd (e ▸ y1) (Nat.not_le_of_lt hc3)); have gc' : g' ≠ c := (fun e => absurd (e ▸ y2) (Nat.not_le_of_lt hc3)); have q6 := (cl_cells HY.out).2.2.2.2.2.2.1; have qz := cl_fz HY.out 6; clear y1 y2 y3 y4)
  all_goals
    have H4 : Hid (ClB (y.setCell ⟨c, 6, none⟩ (.pointer (some ⟨gr, 0, none⟩))) c hd bd (stH c) bg wt (.pointer (some ⟨g, 0, none⟩)) (.pointer (some ⟨gr, 0, none⟩)) bv wr) := hide (hp_set HY.out 6 _)
    have K4 := hide ((CK.of_below c HBY.out).trans (CK.set y c 6 (.pointer (some ⟨gr, 0, none⟩))))
    have R4 := hide (HRD.out.ck (CK.set y c 6 (.pointer (some ⟨gr, 0, none⟩))) gc gc')
    go_upto_region 4 with fail
    clear q6 qz HY HBY HRD f0 f1 f2 k0 k1 H3 F3 B3
    generalize y.setCell ⟨c, 6, none⟩ (.pointer (some ⟨gr, 0, none⟩)) = y2 at *
    have q2 := (cl_cells H4.out).2.2.1
    have qz := cl_fz H4.out 2
    have H5 : Hid (ClB (y2.setCell ⟨c, 2, none⟩ (stB c)) c hd bd (stB c) bg wt (.pointer (some ⟨g, 0, none⟩)) (.pointer (some ⟨gr, 0, none⟩)) bv wr) := hide (hp_set H4.out 2 _)
    have K5 := hide (K4.out.trans (CK.set y2 c 2 (stB c)))
    have R5 := hide (R4.out.ck (CK.set y2 c 2 (stB c)) gc gc')
    unfold stH at q2
    unfold stB at H5 K5 R5
    go_upto_region 5 with fail
    clear q2 qz H4 K4 R4
    generalize y2.setCell ⟨c, 2, none⟩ _ = y3 at *
    have HL := hide (look_whole H5.out R5.out (.inr (.inr (.inr rfl))) rfl)
    have HK5 := K5
    clear R5 K5
    go_wp2_with fail
    refine HL.out.mono ?_
    rintro e y4 ⟨rfl, z1, z2⟩
    have HZ := hide z1
    have HZ2 := hide (HK5.out.trans z2)
    clear z1 z2 HL HK5 H5
    go_wp2_with fail
    go_end0
    exact ⟨rfl, HZ.out, HZ2.out⟩
end Go.Proofs.YtcagjipdldlehaaGreatDoor
/- A client's connection that reads on in a head. -/
namespace Go.Proofs.YtcagjipdldlehaaGreatDoor
open Go.ChangeShapes Go.WideShapes Go.ChangeAt Go.RowKit
set_option linter.unusedVariables false

theorem PKh.low {w w' : World} {base g B : Nat} {lv fv lv' fv' : Value} {p : Pz} (k : PKh w w' g lv fv lv' fv') (hp : Par w base g lv fv p) (h1 : B ≤ base) (h2 : B ≤ w.heap.size) : Below B w w' :=
  ⟨k.os, k.tape, k.output, k.size, fun i hi => k.block i (by omega) (by have := hp.gb; omega) (fun e => by have := (hp.line.lt e).1; omega) (fun e => by have := (hp.flds.lt e).1; omega)⟩
set_option maxHeartbeats 1000000 in
set_option maxRecDepth 100000 in
theorem readHead_part {w : World} {c : Nat} {hd bd : Int} {st : Value} {bg wt : Bool} {rv bv : Value} {wr : Int} {base g : Nat} {lv fv : Value} {p p' : Pz} {n : Nat} (h : ClB w c hd bd st bg wt (.pointer (some ⟨g, 0, none⟩)) rv bv wr) (hp : Par w base g lv fv p) (hf : Fit p) (hm : MX w) (he : ET w) (hb : 3 ≤ base) (hc : c < base) (v : Value) (l : List UInt8) (hv : Bf w (Ap g lv fv) v l) (hl : l.length ≤ 140737488355328) (hF : pFeed p l = (n, false, 0, p')) :
    Calls Tryz.prog 37 #[.pointer (some ⟨c, 0, none⟩), v] w fun e w' => e = .returned (.int .i64 (n : Int)) ∧ ClB w' c hd bd st bg wt (.pointer (some ⟨g, 0, none⟩)) rv bv wr ∧ ∃ lv' fv', Par w' base g lv' fv' p' ∧ PKh w w' g lv fv lv' fv' := by
  have HF := hide (hfeed_any hp hf hm he hb v l hv hl)
  rw [hF] at HF
  unfold fdV at HF
  dsimp only at HF
  obtain ⟨-, -, -, -, -, k5, -, -, -⟩ := cl_cells h
  have HH := hide h
  have hcl : c < w.heap.size := lt_heap h
  have HC : Hid (∀ w' lv' fv', PKh w w' g lv fv lv' fv' → w'.heap[c]? = w.heap[c]?) := hide (fun w' lv' fv' k => k.block c hcl (by have := hp.gb; omega) (fun e => by have := (hp.line.lt e).1; omega) (fun e => by have := (hp.flds.lt e).1; omega))
  clear h hp hf hm he hv hF
  go_enter Tryz.func37, Tryz.ntmps37
  go_wp2_with (go_at_call 46; refine HF.out.mono ?_; rintro e w1 ⟨rfl, lv', fv', y1, y2⟩)
  go_ret
  exact ⟨rfl, (HC.out _ _ _ y2).trans HH.out, lv', fv', y1, y2⟩
set_option maxHeartbeats 1000000 in
set_option maxRecDepth 100000 in
theorem readHead_none {w : World} {c : Nat} {hd bd : Int} {bg wt : Bool} {rv bv : Value} {wr : Int} {base g : Nat} {lv fv : Value} {p p' : Pz} {n : Nat} {b : Bool} (h : ClB w c hd bd (stH c) bg wt (.pointer (some ⟨g, 0, none⟩)) rv bv wr) (hp : Par w base g lv fv p) (hf : Fit p) (hz : Sz p) (hm : MX w) (he : ET w) (hb : 3 ≤ base) (hc : c < base) (v : Value) (l : List UInt8) (hv : Bf w (Ap g lv fv) v l) (hl : l.length ≤ 140737488355328) (hF : pFeed p l = (n, true, 0, p')) (hw : p'.whole = true)
    (hq : reqO p'.fs p'.req (p'.minor : Int) = ⟨1, 0, b, 0⟩) (hS : Sm p'.fs) (h0 : 0 ≤ bd) (h9 : bd ≤ 9007199254740992) :
    Calls Tryz.prog 37 #[.pointer (some ⟨c, 0, none⟩), v] w fun e w' => e = .returned (.int .i64 (n : Int)) ∧ ClB w' c hd bd .nilFunc false true (.pointer (some ⟨g, 0, none⟩)) (.pointer none) bv wr ∧ (∃ lv' fv', Par w' base g lv' fv' p') ∧ Below c w w' := by
  have HF := hide (hfeed_any hp hf hm he hb v l hv hl)
  have hf2 := hf.feed l
  have hz2 := hz.feed hf l
  rw [hF] at HF hf2 hz2
  dsimp only at hf2 hz2
  unfold fdV at HF
  dsimp only at HF
  obtain ⟨-, -, -, -, -, k5, -, -, -⟩ := cl_cells h
  have HH := hide h
  have hcl : c < w.heap.size := lt_heap h
  have HC : Hid (∀ w' lv' fv', PKh w w' g lv fv lv' fv' → w'.heap[c]? = w.heap[c]? ∧ Below c w w') := hide (fun w' lv' fv' k => ⟨k.block c hcl (by have := hp.gb; omega) (fun e => by have := (hp.line.lt e).1; omega) (fun e => by have := (hp.flds.lt e).1; omega), k.low hp (by omega) (by omega)⟩)
  have HB : Hid (∀ (w1 : World) (lv' fv' : Value), Par w1 base g lv' fv' p' → ClB w1 c hd bd (stH c) bg wt (.pointer (some ⟨g, 0, none⟩)) rv bv wr → Calls Tryz.prog 47 #[.pointer (some ⟨c, 0, none⟩)] w1 fun e w' => e = .returned (.tuple #[]) ∧ ClB w' c hd bd .nilFunc false true (.pointer (some ⟨g, 0, none⟩)) (.pointer none) bv wr ∧ CK w1 w' c) := hide (fun w1 lv' fv' y1 y2 => begin_none y2 y1 hw hz2 hf2 hq hS h0 h9)
  clear h hp hf hm he hv hF hf2 hz2 hz hw hq hS
  go_enter Tryz.func37, Tryz.ntmps37
  go_wp2_with (go_at_call 46; refine HF.out.mono ?_; rintro e w1 ⟨rfl, lv', fv', y1, y2⟩; have HY := hide y1; have HX := hide (HB.out w1 lv' fv' y1 ((HC.out _ _ _ y2).1.trans HH.out)); have HL := hide (HC.out _ _ _ y2).2; have hs1 := y2.size; clear y1 y2)
  refine HX.out.mono ?_
  rintro e w2 ⟨rfl, z1, z2⟩
  have HZ := hide z1
  have HZ2 := hide (⟨lv', fv', HY.out.ck z2 hc⟩ : ∃ lv' fv', Par w2 base g lv' fv' p')
  have HZ3 := hide (HL.out.trans (z2.low (Nat.le_refl _) (by omega)))
  clear z1 z2 HX HL HY
  go_wp2_with fail
  go_ret
  exact ⟨rfl, HZ.out, HZ2.out, HZ3.out⟩
end Go.Proofs.YtcagjipdldlehaaGreatDoor
/- A client's connection: answered; what is told of it. -/
namespace Go.Proofs.YtcagjipdldlehaaGreatDoor
open Go.ChangeShapes Go.WideShapes Go.ChangeAt Go.RowKit
set_option linter.unusedVariables false

theorem ne_fun (fn : Nat) (c : Nat) (w : World) : (binOp BinOp.neq 62 (.func (.func fn) #[.pointer (some ⟨c, 0, none⟩)] #[]) .nilFunc).run Tryz.prog w = .ok (.bool true) w := by kernel_rfl
theorem eq_fun (fn : Nat) (c : Nat) (w : World) : (binOp BinOp.eql 62 (.func (.func fn) #[.pointer (some ⟨c, 0, none⟩)] #[]) .nilFunc).run Tryz.prog w = .ok (.bool false) w := by kernel_rfl
theorem ne_nil (w : World) : (binOp BinOp.neq 62 .nilFunc .nilFunc).run Tryz.prog w = .ok (.bool false) w := by kernel_rfl
theorem eq_nil (w : World) : (binOp BinOp.eql 62 .nilFunc .nilFunc).run Tryz.prog w = .ok (.bool true) w := by kernel_rfl
set_option maxHeartbeats 1000000 in
set_option maxRecDepth 100000 in
theorem answered_keep {w : World} {c : Nat} {st : Value} {bg : Bool} {pv rv bv : Value} {wr : Int} {hd : Nat} {bd : Int} (h : ClB w c (hd : Int) bd st bg true pv rv bv wr) (h1 : 16 ≤ hd) (h2 : hd ≤ 65536) :
    Calls Tryz.prog 15 #[.pointer (some ⟨c, 0, none⟩), .bool true] w fun e w' => e = .returned (.int .i64 0) ∧ ∃ g, w.heap.size < g ∧ Par w' g g (.slice none 0 0) (.slice none 0 0) (pNew true hd) ∧ ClB w' c (hd : Int) bd (stH c) false false (.pointer (some ⟨g, 0, none⟩)) (.pointer none) (.slice none 0 0) 0 ∧ CK w w' c := by
  have HL := hide (listen_any h hd bd h1 h2)
  obtain ⟨k0, k1, -, -, k4, -, -, -, -⟩ := cl_cells h
  clear h
  go_enter Tryz.func15, Tryz.ntmps15
  go_wp2_with (go_at_call 25; refine HL.out.mono ?_; rintro e w1 ⟨rfl, y⟩)
  go_ret
  exact ⟨rfl, y⟩
theorem answered_no {w : World} {c : Nat} {hd bd : Int} {st : Value} {bg : Bool} {pv rv bv : Value} {wr : Int} (h : ClB w c hd bd st bg false pv rv bv wr) (keep : Bool) :
    Calls Tryz.prog 15 #[.pointer (some ⟨c, 0, none⟩), .bool keep] w fun e w' => e = .returned (.int .i64 7) ∧ w = w' := by
  obtain ⟨-, -, -, -, k4, -, -, -, -⟩ := cl_cells h
  clear h
  go_enter Tryz.func15, Tryz.ntmps15
  go_wp2
  go_ret
  exact ⟨rfl, rfl⟩
theorem answered_nil (w : World) (keep : Bool) : Calls Tryz.prog 15 #[.pointer none, .bool keep] w fun e w' => e = .returned (.int .i64 7) ∧ w = w' := by
  go_enter Tryz.func15, Tryz.ntmps15
  go_wp2
  go_ret
  exact ⟨rfl, rfl⟩
section
variable {w : World} {c : Nat} {hd bd : Int} {st : Value} {bg wt : Bool} {pv rv bv : Value} {wr : Int}
theorem wrong_any (h : ClB w c hd bd st bg wt pv rv bv wr) : Calls Tryz.prog 22 #[.pointer (some ⟨c, 0, none⟩)] w fun e w' => e = .returned (.int .i64 wr) ∧ w = w' := by
  obtain ⟨-, -, -, -, -, -, -, -, k8⟩ := cl_cells h
  clear h
  go_enter Tryz.func22, Tryz.ntmps22
  go_wp2
  go_ret
  exact ⟨rfl, rfl⟩
theorem begun_cl (h : ClB w c hd bd st bg wt pv rv bv wr) : Calls Tryz.prog 24 #[.pointer (some ⟨c, 0, none⟩)] w fun e w' => e = .returned (.bool bg) ∧ w = w' := by
  obtain ⟨-, -, -, k3, -, -, -, -, -⟩ := cl_cells h
  clear h
  go_enter Tryz.func24, Tryz.ntmps24
  go_wp2
  go_ret
  exact ⟨rfl, rfl⟩
theorem shut_open {fn : Nat} (h : ClB w c hd bd (.func (.func fn) #[.pointer (some ⟨c, 0, none⟩)] #[]) bg wt pv rv bv wr) : Calls Tryz.prog 23 #[.pointer (some ⟨c, 0, none⟩)] w fun e w' => e = .returned (.bool false) ∧ w = w' := by
  obtain ⟨-, -, k2, -, -, -, -, -, -⟩ := cl_cells h
  have E := eq_fun fn c
  clear h
  go_enter Tryz.func23, Tryz.ntmps23
  go_wp2
  go_ret
  exact ⟨rfl, rfl⟩
theorem shut_nil' (h : ClB w c hd bd .nilFunc bg wt pv rv bv wr) : Calls Tryz.prog 23 #[.pointer (some ⟨c, 0, none⟩)] w fun e w' => e = .returned (.bool (!wt)) ∧ w = w' := by
  obtain ⟨-, -, k2, -, k4, -, -, -, -⟩ := cl_cells h
  have E := eq_nil
  clear h
  cases wt
  all_goals
    go_enter Tryz.func23, Tryz.ntmps23
    go_wp2
    go_ret
    exact ⟨rfl, rfl⟩
end
theorem wrong_none (w : World) : Calls Tryz.prog 22 #[.pointer none] w fun e w' => e = .returned (.int .i64 0) ∧ w = w' := by
  go_enter Tryz.func22, Tryz.ntmps22
  go_wp2
  go_ret
  exact ⟨rfl, rfl⟩
theorem begun_none (w : World) : Calls Tryz.prog 24 #[.pointer none] w fun e w' => e = .returned (.bool false) ∧ w = w' := by
  go_enter Tryz.func24, Tryz.ntmps24
  go_wp2
  go_ret
  exact ⟨rfl, rfl⟩
theorem shut_none (w : World) : Calls Tryz.prog 23 #[.pointer none] w fun e w' => e = .returned (.bool true) ∧ w = w' := by
  go_enter Tryz.func23, Tryz.ntmps23
  go_wp2
  go_ret
  exact ⟨rfl, rfl⟩
theorem end_none (w : World) : Calls Tryz.prog 13 #[.pointer none] w fun e w' => e = .returned (.bool true) ∧ w = w' := by
  have HS := hide (shut_none w)
  go_enter Tryz.func13, Tryz.ntmps13
  go_wp2_with (go_at_call 23; refine HS.out.mono ?_; rintro e w' ⟨rfl, rfl⟩)
  go_ret
  exact ⟨rfl, rfl⟩
theorem read_nil (v : Value) (w : World) : Calls Tryz.prog 11 #[.pointer none, v] w fun e w' => e = .returned (.tuple #[.int .i64 0, .bool false]) ∧ w = w' := by
  go_enter Tryz.func11, Tryz.ntmps11
  go_wp2
  go_ret2
  exact ⟨rfl, rfl⟩
end Go.Proofs.YtcagjipdldlehaaGreatDoor
/- A client's connection: the request that is whole. -/
namespace Go.Proofs.YtcagjipdldlehaaGreatDoor
open Go.ChangeShapes Go.WideShapes Go.ChangeAt Go.RowKit
set_option linter.unusedVariables false

set_option maxHeartbeats 1000000 in
set_option maxRecDepth 100000 in
theorem request_none (w : World) : Calls Tryz.prog 20 #[.pointer none] w fun e w' => e = .returned (.tuple #[hd0, .slice none 0 0, .bool false]) ∧ Below w.heap.size w w' := by
  have B0 := hide ((Below.refl w.heap.size w).alloc (Nat.le_refl _) (.cells #[.bool false, .string ⟨#[]⟩, .string ⟨#[]⟩, .int .i64 0, .int .i64 0, .string ⟨#[]⟩, .slice none 0 0] 45))
  unfold hd0
  go_enter Tryz.func20, Tryz.ntmps20
  go_wp2
  refine bodyPost_ret (v := .tuple #[.agg #[.bool false, .string ⟨#[]⟩, .string ⟨#[]⟩, .int .i64 0, .int .i64 0, .string ⟨#[]⟩, .slice none 0 0], .slice none 0 0, .bool false]) (by simp [results, Tryz.results20, go_sem]) rfl ⟨rfl, B0.out⟩
theorem app_nil (W : World) (ty : TypeId) : (Builtin.append_ #[31, 31] ty #[.slice none 0 0, .slice none 0 0]).run Tryz.prog W = .ok (.slice none 0 0) W := by kernel_rfl
/-- A head laid into a block. -/
def hdA (r : Bool) (me ta : ByteArray) (mi st : Int) (re : ByteArray) (l : Value) : Array Value := #[.bool r, .string me, .string ta, .int .i64 mi, .int .i64 st, .string re, l]
def put7 (w : World) (b : Nat) (r : Bool) (me ta : ByteArray) (mi st : Int) (re : ByteArray) (l : Value) : World :=
  ((((((w.setCell ⟨b, 0, none⟩ (.bool r)).setCell ⟨b, 1, none⟩ (.string me)).setCell ⟨b, 2, none⟩ (.string ta)).setCell ⟨b, 3, none⟩ (.int .i64 mi)).setCell ⟨b, 4, none⟩ (.int .i64 st)).setCell ⟨b, 5, none⟩ (.string re)).setCell ⟨b, 6, none⟩ l
theorem put7_ok {w : World} {b : Nat} {r0 : Bool} {m0 t0 : ByteArray} {i0 s0 : Int} {e0 : ByteArray} {l0 : Value} (h : w.heap[b]? = some (.cells (hdA r0 m0 t0 i0 s0 e0 l0) 45 (0, 0))) (r : Bool) (me ta : ByteArray) (mi st : Int) (re : ByteArray) (l : Value) : (put7 w b r me ta mi st re l).heap[b]? = some (.cells (hdA r me ta mi st re l) 45 (0, 0)) ∧ CK w (put7 w b r me ta mi st re l) b := by
  have a0 : (_ : World).heap[b]? = some (.cells (hdA r m0 t0 i0 s0 e0 l0) 45 (0, 0)) := hp_set h 0 (.bool r)
  have a1 : (_ : World).heap[b]? = some (.cells (hdA r me t0 i0 s0 e0 l0) 45 (0, 0)) := hp_set a0 1 (.string me)
  have a2 : (_ : World).heap[b]? = some (.cells (hdA r me ta i0 s0 e0 l0) 45 (0, 0)) := hp_set a1 2 (.string ta)
  have a3 : (_ : World).heap[b]? = some (.cells (hdA r me ta mi s0 e0 l0) 45 (0, 0)) := hp_set a2 3 (.int .i64 mi)
  have a4 : (_ : World).heap[b]? = some (.cells (hdA r me ta mi st e0 l0) 45 (0, 0)) := hp_set a3 4 (.int .i64 st)
  have a5 : (_ : World).heap[b]? = some (.cells (hdA r me ta mi st re l0) 45 (0, 0)) := hp_set a4 5 (.string re)
  have a6 : (_ : World).heap[b]? = some (.cells (hdA r me ta mi st re l) 45 (0, 0)) := hp_set a5 6 l
  exact ⟨a6, ((((((CK.set w b 0 _).trans (CK.set _ b 1 _)).trans (CK.set _ b 2 _)).trans (CK.set _ b 3 _)).trans (CK.set _ b 4 _)).trans (CK.set _ b 5 _)).trans (CK.set _ b 6 _)⟩
theorem hd_cells {w : World} {b : Nat} {r : Bool} {me ta : ByteArray} {mi st : Int} {re : ByteArray} {l : Value} (h : w.heap[b]? = some (.cells (hdA r me ta mi st re l) 45 (0, 0))) : w.cell? ⟨b, 0, none⟩ = some (.bool r) ∧ w.cell? ⟨b, 1, none⟩ = some (.string me) ∧ w.cell? ⟨b, 2, none⟩ = some (.string ta) ∧ w.cell? ⟨b, 3, none⟩ = some (.int .i64 mi) ∧ w.cell? ⟨b, 4, none⟩ = some (.int .i64 st) ∧ w.cell? ⟨b, 5, none⟩ = some (.string re) ∧ w.cell? ⟨b, 6, none⟩ = some l :=
  ⟨cell_at h 0, cell_at h 1, cell_at h 2, cell_at h 3, cell_at h 4, cell_at h 5, cell_at h 6⟩
set_option maxHeartbeats 1000000 in
set_option maxRecDepth 100000 in
theorem request_bare {w : World} {c : Nat} {hd bd : Int} {st : Value} {bg : Bool} {rv : Value} {wr : Int} {base g : Nat} {lv fv : Value} {p : Pz} (h : ClB w c hd bd st bg true (.pointer (some ⟨g, 0, none⟩)) rv (.slice none 0 0) wr) (hp : Par w base g lv fv p) (hw : p.whole = true) (hz : Sz p) (hf : Fit p) :
    Calls Tryz.prog 20 #[.pointer (some ⟨c, 0, none⟩)] w fun e w' => ∃ l, e = .returned (.tuple #[hdV p l, .slice none 0 0, .bool true]) ∧ Flds w' l p.fs ∧ Below w.heap.size w w' := by
  have HH := hide h
  have HD := hide (fun W (b : Below w.heap.size w W) => head_whole (hp.below b) hw hz hf)
  unfold hdV at HD ⊢
  have hcl : c < w.heap.size := lt_heap h
  clear h hp hw hz hf
  have B0 := hide ((Below.refl w.heap.size w).alloc (Nat.le_refl _) (.cells #[.bool false, .string ⟨#[]⟩, .string ⟨#[]⟩, .int .i64 0, .int .i64 0, .string ⟨#[]⟩, .slice none 0 0] 45))
  have F0 := hide (hp_new w (.cells #[.bool false, .string ⟨#[]⟩, .string ⟨#[]⟩, .int .i64 0, .int .i64 0, .string ⟨#[]⟩, .slice none 0 0] 45))
  have H0 := hide ((B0.out.block c hcl).trans HH.out)
  obtain ⟨-, -, -, -, k4, -, -, -, -⟩ := cl_cells HH.out
  go_enter Tryz.func20, Tryz.ntmps20
  go_upto_region 1 with fail
  clear k4
  generalize w.alloc _ = w1 at *
  obtain ⟨-, -, -, -, k4, k5, -, k7, -⟩ := cl_cells H0.out
  go_upto_region 3 with fail
  have HA := app_nil
  have hcl1 : c < w1.heap.size := lt_heap H0.out
  have hbl1 : w.heap.size < w1.heap.size := lt_heap F0.out
  have HD2 : Hid (Calls Tryz.prog 34 #[.pointer (some ⟨g, 0, none⟩)] w1.drew fun e w' => ∃ r, e = .returned r ∧ ∃ l, r = .agg #[.bool p.req, .string p.me, .string p.ta, .int .i64 (p.minor : Int), .int .i64 (p.status : Int), .string p.re, l] ∧ FRow w' w1.drew.heap.size l p.fs ∧ Below w1.drew.heap.size w1.drew w') := hide ((HD.out w1.drew B0.out.drew).mono (fun e w' ⟨l, a1, a2, a3⟩ => ⟨_, a1, l, rfl, a2, a3⟩))
  have HAF : Hid (∀ (y : World) (l : Value), FRow y w1.drew.heap.size l p.fs → Below w1.drew.heap.size w1.drew y → ClB y c hd bd st bg true (.pointer (some ⟨g, 0, none⟩)) rv (.slice none 0 0) wr ∧ y.heap[w.heap.size]? = some (.cells (hdA false ⟨#[]⟩ ⟨#[]⟩ 0 0 ⟨#[]⟩ (.slice none 0 0)) 45 (0, 0)) ∧ Below w.heap.size w y ∧ (∃ a n k, l = .slice a n k) ∧ Flds (put7 y w.heap.size p.req p.me p.ta (p.minor : Int) (p.status : Int) p.re l) l p.fs) := hide (fun y l y1 y2 => by
    have hF : y.heap[w.heap.size]? = some (.cells (hdA false ⟨#[]⟩ ⟨#[]⟩ 0 0 ⟨#[]⟩ (.slice none 0 0)) 45 (0, 0)) := (y2.block w.heap.size hbl1).trans F0.out
    refine ⟨(y2.block c hcl1).trans H0.out, hF, B0.out.drew.trans (y2.mono B0.out.size), ?_, ?_⟩
    · obtain ⟨a, k, e, -⟩ := y1.shape
      exact ⟨a, _, k, e⟩
    · have ck := (put7_ok hF p.req p.me p.ta (p.minor : Int) (p.status : Int) p.re l).2
      refine Flds.of_row (base := w1.drew.heap.size) (y1.frame fun k hk => ck.block k (y1.lt hk).2 (fun e => ?_))
      have := (y1.lt hk).1
      rw [e] at this
      exact absurd this (Nat.not_le_of_lt hbl1))
  clear HD
  go_region_law (first
    | (refine step_callg rfl 34 _ _ rfl (enters_of Tryz.func34 (by kernel_rfl) rfl) #[.pointer (some ⟨g, 0, none⟩)] (by simp [Act.eval]) _ HD2.out ?_; rintro v y ⟨l, rfl, y1, y2⟩; obtain ⟨aa1, aa2, aa3, ⟨la, ln, lk, rfl⟩, aa5⟩ := HAF.out y l y1 y2; have HY := hide aa1; have FY := hide aa2; have HBY := hide aa3; have HFL := hide aa5; have q7 := (cl_cells aa1).2.2.2.2.2.2.2.1; obtain ⟨r0, r1, r2, r3, r4, r5, r6⟩ := hd_cells aa2; have rz := (fun i => (by rw [frozen_at aa2]; simp : y.frozen? ⟨w.heap.size, i, none⟩ = false)); have rz0 := rz 0; have rz1 := rz 1; have rz2 := rz 2; have rz3 := rz 3; have rz4 := rz 4; have rz5 := rz 5; have rz6 := rz 6; clear y1 y2 rz aa1 aa2 aa3 aa5)
    | (refine step_append_is rfl _ _ 31 rfl (.slice none 0 0) (.slice none 0 0) _ (by simp [Act.eval]) (by simp [Act.eval]) (HA _ _) ?_))
  all_goals
    have P7 := hide (put7_ok FY.out p.req p.me p.ta (p.minor : Int) (p.status : Int) p.re (.slice la ln lk))
    have BP := hide (HBY.out.trans (P7.out.2.low (Nat.le_refl _) HBY.out.size))
    unfold put7 at P7 BP HFL
    clear r0 r1 r2 r3 r4 r5 r6 rz0 rz1 rz2 rz3 rz4 rz5 rz6 q7 k4 k5 k7 HY FY HBY HD2 HAF HA
    generalize ((((((y.setCell ⟨w.heap.size, 0, none⟩ (.bool p.req)).setCell ⟨w.heap.size, 1, none⟩ (.string p.me)).setCell ⟨w.heap.size, 2, none⟩ (.string p.ta)).setCell ⟨w.heap.size, 3, none⟩ (.int .i64 (p.minor : Int))).setCell ⟨w.heap.size, 4, none⟩ (.int .i64 (p.status : Int))).setCell ⟨w.heap.size, 5, none⟩ (.string p.re)).setCell ⟨w.heap.size, 6, none⟩ (.slice la ln lk) = y9 at *
    obtain ⟨s0, s1, s2, s3, s4, s5, s6⟩ := hd_cells P7.out.1
    go_wp2
    exact bodyPost_ret (v := .tuple #[.agg #[.bool p.req, .string p.me, .string p.ta, .int .i64 (p.minor : Int), .int .i64 (p.status : Int), .string p.re, .slice la ln lk], .slice none 0 0, .bool true]) (by simp [results, Tryz.results20, go_sem, s0, s1, s2, s3, s4, s5, s6]) rfl ⟨_, rfl, HFL.out, BP.out⟩
end Go.Proofs.YtcagjipdldlehaaGreatDoor
/- A client's connection reads. -/
namespace Go.Proofs.YtcagjipdldlehaaGreatDoor
open Go.ChangeShapes Go.WideShapes Go.ChangeAt Go.RowKit
set_option linter.unusedVariables false

/-- A call of a method value. -/
theorem step_callv {P : Program} {ops : Array Oper} {o : Oper} {a : Act} {w : World} {K : Act → World → Prop} {Q : Exit → Act → World → Prop} {E : Prop}
    (hw : Region.wanted o (yielded ops a.tmps) = true) (x : Operand) (xs : Array Operand) (ts : Array TypeId) (hop : o.op = Op.call { callee := Callee.value x, args := xs, argTypes := ts }) (f : Nat) (r0 : Value) (hf : a.eval x = .func (.func f) #[r0] #[]) (he : ∀ args w, (callFunc f args).run P w = .ok (.enter f args) w) (v : Value) (hx : xs.map a.eval = #[v])
    (R : Value → World → Prop) (C : Calls P f #[r0, v] w fun e w' => ∃ r, e = .returned r ∧ R r w') (hK : ∀ r w', R r w' → K (a.put o.dst r) w') : if Region.wanted o (yielded ops a.tmps) = true then Oper.wp P o a w K Q else E := by
  rw [if_pos hw]
  have hr : (execOp a.eval o).run P w = .ok (.enter f #[r0, v]) w := by
    simp [execOp, hop, resolve, invoke, Deferred.ofValue, hx, hf, he]
  unfold Oper.wp
  rw [hr]
  refine C.mono ?_
  rintro e w' ⟨r, rfl, h⟩
  exact hK r w' h
theorem cell_blk {w w' : World} {b o : Nat} (e : w'.heap[b]? = w.heap[b]?) : w'.cell? ⟨b, o, none⟩ = w.cell? ⟨b, o, none⟩ := by
  unfold World.cell?
  rw [show (⟨b, o, none⟩ : Addr).block = b from rfl, e]
theorem MX.of {w w' : World} (h : MX w) (e : w'.heap[2]? = w.heap[2]?) (s : w.heap.size ≤ w'.heap.size) : MX w' := by
  obtain ⟨h0, m, hm⟩ := h
  exact ⟨Nat.lt_of_lt_of_le h0 s, m, (cell_blk e).trans hm⟩
theorem ET.of {w w' : World} (h : ET w) (e : w'.heap[0]? = w.heap[0]?) : ET w' := (cell_blk e).trans h
theorem MX.ck {w w' : World} {c : Nat} (h : MX w) (k : CK w w' c) (hc : 3 ≤ c) : MX w' := h.of (k.block _ h.1 (by omega)) k.size
theorem ET.ck {w w' : World} {c : Nat} (h : ET w) (k : CK w w' c) (hc : 3 ≤ c) : ET w' := h.of (k.block 0 h.lt (by omega))
/-- Bytes that lie in a block of their own. -/
theorem bf_blk {W : World} {A : Nat → Prop} {bk : Nat} {cs : Array Value} {fr : Nat × Nat} {l : List UInt8} (h : W.heap[bk]? = some (.cells cs 5 fr)) (hc : cs.toList = l.map fun x => Value.int .u8 (x.toNat : Int)) (hA : A bk) : Bf W A (.slice (some ⟨bk, 0, none⟩) l.length l.length) l := by
  refine ⟨_, _, rfl, Nat.le_refl _, fun j hj => ⟨bk, 0, rfl, hA, lt_heap h, ?_⟩⟩
  rw [cell_at h, Nat.zero_add, ← Array.getElem?_toList, hc, List.getElem?_map, List.getElem?_eq_getElem hj]
  rfl
set_option maxHeartbeats 2000000 in
set_option maxRecDepth 100000 in
theorem cread_none {w : World} {c : Nat} {hd bd : Int} {bg : Bool} {rv bv : Value} {wr : Int} {base g : Nat} {lv fv : Value} {p p' : Pz} {n : Nat} {b : Bool} (h : ClB w c hd bd (stH c) bg false (.pointer (some ⟨g, 0, none⟩)) rv bv wr) (hp : Par w base g lv fv p) (hf : Fit p) (hz : Sz p) (hm : MX w) (he : ET w) (h3 : 3 ≤ c) (hc : c < base) (bk : Nat) (cs : Array Value) (fr : Nat × Nat) (l : List UInt8) (hb : w.heap[bk]? = some (.cells cs 5 fr)) (hcs : cs.toList = l.map fun x => Value.int .u8 (x.toNat : Int)) (hA : Ap g lv fv bk) (hbc : bk ≠ c) (m : Nat) (hlm : l.length = m) (hm0 : 0 < m) (hl : m ≤ 140737488355328) (hn : n ≤ m) (hF : pFeed p l = (n, true, 0, p')) (hw : p'.whole = true)
    (hq : reqO p'.fs p'.req (p'.minor : Int) = ⟨1, 0, b, 0⟩) (hS : Sm p'.fs) (h0 : 0 ≤ bd) (h9 : bd ≤ 9007199254740992) :
    Calls Tryz.prog 11 #[.pointer (some ⟨c, 0, none⟩), .slice (some ⟨bk, 0, none⟩) m m] w fun e w' => e = .returned (.tuple #[.int .i64 (n : Int), .bool true]) ∧ ClB w' c hd bd .nilFunc false true (.pointer (some ⟨g, 0, none⟩)) (.pointer none) bv wr ∧ (∃ lv' fv', Par w' base g lv' fv' p') ∧ Below c w w' := by
  subst hlm
  have H1 : Hid (ClB (w.setCell ⟨c, 3, none⟩ (.bool true)) c hd bd (stH c) true false (.pointer (some ⟨g, 0, none⟩)) rv bv wr) := hide (hp_set h 3 _)
  have K1 := hide (CK.set w c 3 (.bool true))
  have hcl : c < w.heap.size := lt_heap h
  have HR : Hid (∀ W : World, W.heap = (w.setCell ⟨c, 3, none⟩ (.bool true)).heap → Calls Tryz.prog 37 #[.pointer (some ⟨c, 0, none⟩), .slice (some ⟨bk, 0, none⟩) l.length l.length] W fun e w' => ∃ r, e = .returned r ∧ r = .int .i64 (n : Int) ∧ ClB w' c hd bd .nilFunc false true (.pointer (some ⟨g, 0, none⟩)) (.pointer none) bv wr ∧ (∃ lv' fv', Par w' base g lv' fv' p') ∧ Below c W w') := hide (fun W hW => by
    have ck : ∀ k, k < w.heap.size → k ≠ c → W.heap[k]? = w.heap[k]? := fun k hk hkc => by rw [hW]; exact K1.out.block k hk hkc
    have hs : w.heap.size ≤ W.heap.size := by rw [hW]; exact K1.out.size
    refine (readHead_none (w := W) (bg := true) (wt := false) (rv := rv) (wr := wr) (by show W.heap[c]? = _; rw [hW]; exact H1.out) (hp.keep fun k a1 a2 => ck k a2 (by omega)) hf hz (hm.of (ck _ hm.1 (by omega)) hs) (he.of (ck 0 he.lt (by omega))) (by omega) hc _ l (bf_blk ((ck bk (lt_heap hb) hbc).trans hb) hcs hA) hl hF hw hq hS h0 h9).mono ?_
    rintro e w' ⟨rfl, y1, y2, y3⟩
    exact ⟨_, rfl, rfl, y1, y2, y3⟩)
  obtain ⟨-, -, k2, k3, -, -, -, -, -⟩ := cl_cells h
  have z3 := cl_fz h 3
  clear h hp hf hz hm he hb hcs hA hF hw hq hS
  generalize l.length = m at *
  have E1 := ne_fun 37 c
  have E2 := ne_nil
  unfold stH at k2
  have hmi : (0 : Int) < (m : Int) := by omega
  go_enter Tryz.func11, Tryz.ntmps11
  go_wp2_with fail
  refine wp_loop_rounds 2 ?_
  rw [rounds_succ]
  go_upto_region 6 with fail
  clear k2 k3 z3
  generalize w.setCell ⟨c, 3, none⟩ (.bool true) = w1 at *
  have k2 : w1.cell? ⟨c, 2, none⟩ = some (.func (.func 37) #[.pointer (some ⟨c, 0, none⟩)] #[]) := (cl_cells H1.out).2.2.1
  have HR1 := hide (HR.out w1.drew rfl)
  have HB1 : Hid (Below c w w1.drew) := hide (K1.out.low (Nat.le_refl _) (by omega)).drew
  have hs1 := K1.out.size
  clear HR
  go_region_law (refine step_callv rfl _ _ _ rfl 37 (.pointer (some ⟨c, 0, none⟩)) (by simp [Act.eval]) (enters_of Tryz.func37 (by kernel_rfl) rfl) (.slice (some ⟨bk, 0, none⟩) m m) (by simp [Act.eval]) _ HR1.out ?_; rintro v y ⟨rfl, y1, y2, y3⟩; have HY := hide y1; have HPY := hide y2; have HBY := hide (HB1.out.trans y3); clear y1 y2 y3)
  all_goals
    clear k2 HR1 HB1 H1 K1
    have k2 : y.cell? ⟨c, 2, none⟩ = some .nilFunc := (cl_cells HY.out).2.2.1
    have k4 : y.cell? ⟨c, 4, none⟩ = some (.bool true) := (cl_cells HY.out).2.2.2.2.1
    go_wp2_with fail
    rw [rounds_succ]
    by_cases hnm : n < m
    · have hni : (n : Int) < (m : Int) := by omega
      go_wp2_with fail
      go_quiet (fail)
      have HZ := hide (HBY.out.trans (⟨rfl, rfl, rfl, Nat.le_refl _, fun _ _ => rfl⟩ : Below c y (y.drewN nq)))
      go_wp2_with fail
      go_ret2
      exact ⟨rfl, HY.out, HPY.out.imp fun lv' z => z.imp fun fv' q => q.keep fun _ _ _ => rfl, HZ.out⟩
    · have hni : ¬ (n : Int) < (m : Int) := by omega
      go_wp2_with fail
      go_quiet (fail)
      have HZ := hide (HBY.out.trans (⟨rfl, rfl, rfl, Nat.le_refl _, fun _ _ => rfl⟩ : Below c y (y.drewN nq)))
      go_wp2_with fail
      go_ret2
      exact ⟨rfl, HY.out, HPY.out.imp fun lv' z => z.imp fun fv' q => q.keep fun _ _ _ => rfl, HZ.out⟩
set_option maxHeartbeats 2000000 in
set_option maxRecDepth 100000 in
theorem cread_part {w : World} {c : Nat} {hd bd : Int} {bg : Bool} {rv bv : Value} {wr : Int} {base g : Nat} {lv fv : Value} {p p' : Pz} (h : ClB w c hd bd (stH c) bg false (.pointer (some ⟨g, 0, none⟩)) rv bv wr) (hp : Par w base g lv fv p) (hf : Fit p) (hm : MX w) (he : ET w) (h3 : 3 ≤ c) (hc : c < base) (bk : Nat) (cs : Array Value) (fr : Nat × Nat) (l : List UInt8) (hb : w.heap[bk]? = some (.cells cs 5 fr)) (hcs : cs.toList = l.map fun x => Value.int .u8 (x.toNat : Int)) (hA : Ap g lv fv bk) (hbc : bk ≠ c) (m : Nat) (hlm : l.length = m) (hm0 : 0 < m) (hl : m ≤ 140737488355328) (hF : pFeed p l = (m, false, 0, p')) :
    Calls Tryz.prog 11 #[.pointer (some ⟨c, 0, none⟩), .slice (some ⟨bk, 0, none⟩) m m] w fun e w' => e = .returned (.tuple #[.int .i64 (m : Int), .bool false]) ∧ ClB w' c hd bd (stH c) true false (.pointer (some ⟨g, 0, none⟩)) rv bv wr ∧ (∃ lv' fv', Par w' base g lv' fv' p') ∧ Below c w w' ∧ ∀ k, k < w.heap.size → k ≠ c → k < base → w'.heap[k]? = w.heap[k]? := by
  subst hlm
  have H1 : Hid (ClB (w.setCell ⟨c, 3, none⟩ (.bool true)) c hd bd (stH c) true false (.pointer (some ⟨g, 0, none⟩)) rv bv wr) := hide (hp_set h 3 _)
  have K1 := hide (CK.set w c 3 (.bool true))
  have hcl : c < w.heap.size := lt_heap h
  have HR : Hid (∀ W : World, W.heap = (w.setCell ⟨c, 3, none⟩ (.bool true)).heap → Calls Tryz.prog 37 #[.pointer (some ⟨c, 0, none⟩), .slice (some ⟨bk, 0, none⟩) l.length l.length] W fun e w' => ∃ r, e = .returned r ∧ r = .int .i64 (l.length : Int) ∧ ClB w' c hd bd (stH c) true false (.pointer (some ⟨g, 0, none⟩)) rv bv wr ∧ (∃ lv' fv', Par w' base g lv' fv' p') ∧ Below c W w' ∧ ∀ k, k < w.heap.size → k ≠ c → k < base → w'.heap[k]? = w.heap[k]?) := hide (fun W hW => by
    have ck : ∀ k, k < w.heap.size → k ≠ c → W.heap[k]? = w.heap[k]? := fun k hk hkc => by rw [hW]; exact K1.out.block k hk hkc
    have hs : w.heap.size ≤ W.heap.size := by rw [hW]; exact K1.out.size
    have hpW : Par W base g lv fv p := hp.keep fun k a1 a2 => ck k a2 (by omega)
    refine (readHead_part (w := W) (bg := true) (wt := false) (rv := rv) (wr := wr) (st := stH c) (by show W.heap[c]? = _; rw [hW]; exact H1.out) hpW hf (hm.of (ck _ hm.1 (by omega)) hs) (he.of (ck 0 he.lt (by omega))) (by omega) hc _ l (bf_blk ((ck bk (lt_heap hb) hbc).trans hb) hcs hA) hl hF).mono ?_
    rintro e w' ⟨rfl, y1, lv', fv', y2, y3⟩
    exact ⟨_, rfl, rfl, y1, ⟨lv', fv', y2⟩, y3.low hpW (by omega) (by omega), fun k q1 q2 q3 => (y3.block k (Nat.lt_of_lt_of_le q1 hs) (by have := hpW.gb; omega) (fun e => by have := (hpW.line.lt e).1; omega) (fun e => by have := (hpW.flds.lt e).1; omega)).trans (ck k q1 q2)⟩)
  obtain ⟨-, -, k2, k3, -, -, -, -, -⟩ := cl_cells h
  have z3 := cl_fz h 3
  clear h hp hf hm he hb hcs hA hF
  generalize l.length = m at *
  have E1 := ne_fun 37 c
  have E2 := ne_nil
  unfold stH at k2
  have hmi : (0 : Int) < (m : Int) := by omega
  go_enter Tryz.func11, Tryz.ntmps11
  go_wp2_with fail
  refine wp_loop_rounds 2 ?_
  rw [rounds_succ]
  go_upto_region 6 with fail
  clear k2 k3 z3
  generalize w.setCell ⟨c, 3, none⟩ (.bool true) = w1 at *
  have k2 : w1.cell? ⟨c, 2, none⟩ = some (.func (.func 37) #[.pointer (some ⟨c, 0, none⟩)] #[]) := (cl_cells H1.out).2.2.1
  have HR1 := hide (HR.out w1.drew rfl)
  have HB1 : Hid (Below c w w1.drew) := hide (K1.out.low (Nat.le_refl _) (by omega)).drew
  have hs1 := K1.out.size
  clear HR
  go_region_law (refine step_callv rfl _ _ _ rfl 37 (.pointer (some ⟨c, 0, none⟩)) (by simp [Act.eval]) (enters_of Tryz.func37 (by kernel_rfl) rfl) (.slice (some ⟨bk, 0, none⟩) m m) (by simp [Act.eval]) _ HR1.out ?_; rintro v y ⟨rfl, y1, y2, y3, y4⟩; have HY := hide y1; have HPY := hide y2; have HBY := hide (HB1.out.trans y3); have HKY := hide y4; clear y1 y2 y3 y4)
  all_goals
    clear k2 HR1 HB1 H1 K1
    have k4 : y.cell? ⟨c, 4, none⟩ = some (.bool false) := (cl_cells HY.out).2.2.2.2.1
    go_wp2_with fail
    rw [rounds_succ]
    go_wp2_with fail
    go_quiet (fail)
    have HZ := hide (HBY.out.trans (⟨rfl, rfl, rfl, Nat.le_refl _, fun _ _ => rfl⟩ : Below c y (y.drewN nq)))
    go_wp2_with fail
    go_ret2
    exact ⟨rfl, HY.out, HPY.out.imp fun lv' z => z.imp fun fv' q => q.keep fun _ _ _ => rfl, HZ.out, HKY.out⟩
end Go.Proofs.YtcagjipdldlehaaGreatDoor
/- speaks: two requests, one behind the other. -/
namespace Go.Proofs.YtcagjipdldlehaaGreatDoor
open Go.ChangeShapes Go.WideShapes Go.ChangeAt Go.RowKit
set_option linter.unusedVariables false

def sq1 : List UInt8 := [71, 69, 84, 32, 47, 32, 72, 84, 84, 80, 47, 49, 46, 49, 13, 10, 13, 10, 80, 85, 84, 32, 47, 97, 32, 72, 84, 84, 80, 47, 49, 46, 49, 13, 10]
def sqC : Array Value := #[.int .u8 71, .int .u8 69, .int .u8 84, .int .u8 32, .int .u8 47, .int .u8 32, .int .u8 72, .int .u8 84, .int .u8 84, .int .u8 80, .int .u8 47, .int .u8 49, .int .u8 46, .int .u8 49, .int .u8 13, .int .u8 10, .int .u8 13, .int .u8 10, .int .u8 80, .int .u8 85, .int .u8 84, .int .u8 32, .int .u8 47, .int .u8 97, .int .u8 32, .int .u8 72, .int .u8 84, .int .u8 84, .int .u8 80, .int .u8 47, .int .u8 49, .int .u8 46, .int .u8 49, .int .u8 13, .int .u8 10]
def pz1 : Pz := (pFeed (pNew true 100) sq1).2.2.2
theorem sq1_fed : pFeed (pNew true 100) sq1 = (18, true, 0, pz1) := by kernel_rfl
theorem pz1_whole : pz1.whole = true := by decide +kernel
theorem pz1_fs : pz1.fs = [] := by decide +kernel
theorem pz1_req : pz1.req = true := by decide +kernel
theorem pz1_minor : pz1.minor = 1 := by decide +kernel
theorem pz1_me : pz1.me = ⟨#[71, 69, 84]⟩ := by decide +kernel
def pz2 : Pz := (pFeed (pNew true 100) [120]).2.2.2
theorem sq2_fed : pFeed (pNew true 100) [120] = (1, false, 0, pz2) := by kernel_rfl
theorem pz1_q : reqO pz1.fs pz1.req (pz1.minor : Int) = ⟨1, 0, true, 0⟩ := by rw [pz1_fs, pz1_req, pz1_minor]; kernel_rfl
end Go.Proofs.YtcagjipdldlehaaGreatDoor
/- speaks: two requests, one behind the other, walked. -/
namespace Go.Proofs.YtcagjipdldlehaaGreatDoor
open Go.ChangeShapes Go.WideShapes Go.ChangeAt Go.RowKit
set_option linter.unusedVariables false

theorem ap_nil {g bk : Nat} (h : bk ≠ g) : Ap g (.slice none 0 0) (.slice none 0 0) bk := ⟨h, by simp [Value.ownBlock], by simp [Value.ownBlock]⟩
/-- A connection that reads a head, with its parser. -/
structure Opn' (w : World) (c g : Nat) (bg : Bool) (p : Pz) : Prop where
  lt : c < g
  par : ∃ lv fv, Par w g g lv fv p
  cl : ClB w c 100 10 (stH c) bg false (.pointer (some ⟨g, 0, none⟩)) (.pointer none) (.slice none 0 0) 0
theorem fst_read {w : World} {c g : Nat} (hp : Par w g g (.slice none 0 0) (.slice none 0 0) (pNew true 100)) (hc : ClB w c 100 10 (stH c) false false (.pointer (some ⟨g, 0, none⟩)) (.pointer none) (.slice none 0 0) 0) (hg : c < g) (h3 : 3 ≤ c) (hm : MX w) (he : ET w) :
    Calls Tryz.prog 11 #[.pointer (some ⟨c, 0, none⟩), .slice (some ⟨w.heap.size, 0, none⟩) 35 35] (w.alloc (.cells #[.int .u8 71, .int .u8 69, .int .u8 84, .int .u8 32, .int .u8 47, .int .u8 32, .int .u8 72, .int .u8 84, .int .u8 84, .int .u8 80, .int .u8 47, .int .u8 49, .int .u8 46, .int .u8 49, .int .u8 13, .int .u8 10, .int .u8 13, .int .u8 10, .int .u8 80, .int .u8 85, .int .u8 84, .int .u8 32, .int .u8 47, .int .u8 97, .int .u8 32, .int .u8 72, .int .u8 84, .int .u8 84, .int .u8 80, .int .u8 47, .int .u8 49, .int .u8 46, .int .u8 49, .int .u8 13, .int .u8 10] 5 (35, 36))) fun e w' => e = .returned (.tuple #[.int .i64 18, .bool true]) ∧ ClB w' c 100 10 .nilFunc false true (.pointer (some ⟨g, 0, none⟩)) (.pointer none) (.slice none 0 0) 0 ∧ (∃ lv fv, Par w' g g lv fv pz1) ∧ Below c w w' := by
  have b := (Below.refl w.heap.size w).alloc (Nat.le_refl _) (.cells #[.int .u8 71, .int .u8 69, .int .u8 84, .int .u8 32, .int .u8 47, .int .u8 32, .int .u8 72, .int .u8 84, .int .u8 84, .int .u8 80, .int .u8 47, .int .u8 49, .int .u8 46, .int .u8 49, .int .u8 13, .int .u8 10, .int .u8 13, .int .u8 10, .int .u8 80, .int .u8 85, .int .u8 84, .int .u8 32, .int .u8 47, .int .u8 97, .int .u8 32, .int .u8 72, .int .u8 84, .int .u8 84, .int .u8 80, .int .u8 47, .int .u8 49, .int .u8 46, .int .u8 49, .int .u8 13, .int .u8 10] 5 (35, 36))
  have hcl := lt_heap hc
  have := cread_none (n := 18) (b := true) (p' := pz1) ((b.block c hcl).trans hc) (hp.below b) (fit_new true 100 (by omega)) (sz_new true 100) (hm.below b) (he.below b) h3 hg w.heap.size #[.int .u8 71, .int .u8 69, .int .u8 84, .int .u8 32, .int .u8 47, .int .u8 32, .int .u8 72, .int .u8 84, .int .u8 84, .int .u8 80, .int .u8 47, .int .u8 49, .int .u8 46, .int .u8 49, .int .u8 13, .int .u8 10, .int .u8 13, .int .u8 10, .int .u8 80, .int .u8 85, .int .u8 84, .int .u8 32, .int .u8 47, .int .u8 97, .int .u8 32, .int .u8 72, .int .u8 84, .int .u8 84, .int .u8 80, .int .u8 47, .int .u8 49, .int .u8 46, .int .u8 49, .int .u8 13, .int .u8 10] (35, 36) sq1 (hp_new w _) (by rfl) (ap_nil (by have := hp.lt; omega)) (by omega) 35 rfl (by omega) (by omega) (by omega) sq1_fed pz1_whole pz1_q (by rw [pz1_fs]; exact ⟨by simp, fun f hf => by simp at hf⟩) (by omega) (by omega)
  refine this.mono ?_
  rintro e w' ⟨rfl, y1, y2, y3⟩
  exact ⟨rfl, y1, y2, (b.mono (by omega)).trans y3⟩
theorem snd_read {w : World} {c g : Nat} (hp : Par w g g (.slice none 0 0) (.slice none 0 0) (pNew true 100)) (hc : ClB w c 100 10 (stH c) false false (.pointer (some ⟨g, 0, none⟩)) (.pointer none) (.slice none 0 0) 0) (hg : c < g) (h3 : 3 ≤ c) (hm : MX w) (he : ET w) :
    Calls Tryz.prog 11 #[.pointer (some ⟨c, 0, none⟩), .slice (some ⟨w.heap.size, 0, none⟩) 1 1] (w.alloc (.cells #[.int .u8 120] 5 (1, 2))) fun e w' => e = .returned (.tuple #[.int .i64 1, .bool false]) ∧ ClB w' c 100 10 (stH c) true false (.pointer (some ⟨g, 0, none⟩)) (.pointer none) (.slice none 0 0) 0 ∧ Below c w w' ∧ ∀ k, k < w.heap.size → k ≠ c → k < g → w'.heap[k]? = w.heap[k]? := by
  have b := (Below.refl w.heap.size w).alloc (Nat.le_refl _) (.cells #[.int .u8 120] 5 (1, 2))
  have hcl := lt_heap hc
  have := cread_part (p' := pz2) ((b.block c hcl).trans hc) (hp.below b) (fit_new true 100 (by omega)) (hm.below b) (he.below b) h3 hg w.heap.size #[.int .u8 120] (1, 2) [120] (hp_new w _) (by rfl) (ap_nil (by have := hp.lt; omega)) (by omega) 1 rfl (by omega) (by omega) sq2_fed
  refine this.mono ?_
  rintro e w' ⟨rfl, y1, -, y3, y4⟩
  exact ⟨rfl, y1, (b.mono (by omega)).trans y3, fun k q1 q2 q3 => (y4 k (Nat.lt_of_lt_of_le q1 b.size) q2 q3).trans (b.block k q1)⟩
set_option maxHeartbeats 2000000 in
set_option maxRecDepth 100000 in
theorem speaks_any (w : World) (hm : MX w) (he : ET w) : Calls Tryz.prog 10 #[] w fun e w' => e = .returned (.bool true) ∧ Below w.heap.size w w' := by
  have h3 : 3 ≤ w.heap.size := by have := hm.1; omega
  have HM := hide hm
  have HE := hide he
  have HN := hide (cnew_any w 100 10 (by omega) (by omega) (by omega) (by omega))
  rw [show ((100 : Nat) : Int) = 100 from rfl] at HN
  clear hm he
  go_enter Tryz.func10, Tryz.ntmps10
  go_wp2_with fail
  refine HN.out.mono ?_
  rintro e w1 ⟨rfl, g, hg, hp, hc, b1⟩
  have HR := hide (fst_read hp hc hg h3 (HM.out.below b1) (HE.out.below b1))
  have B1 := hide b1
  have hcv : (convert 31 31 (.slice (some ⟨w1.heap.size, 0, none⟩) 35 35)).run Tryz.prog (w1.alloc (.cells #[.int .u8 71, .int .u8 69, .int .u8 84, .int .u8 32, .int .u8 47, .int .u8 32, .int .u8 72, .int .u8 84, .int .u8 84, .int .u8 80, .int .u8 47, .int .u8 49, .int .u8 46, .int .u8 49, .int .u8 13, .int .u8 10, .int .u8 13, .int .u8 10, .int .u8 80, .int .u8 85, .int .u8 84, .int .u8 32, .int .u8 47, .int .u8 97, .int .u8 32, .int .u8 72, .int .u8 84, .int .u8 84, .int .u8 80, .int .u8 47, .int .u8 49, .int .u8 46, .int .u8 49, .int .u8 13, .int .u8 10] 5)) = .ok (.slice (some ⟨w1.heap.size, 0, none⟩) 35 35) (w1.alloc (.cells #[.int .u8 71, .int .u8 69, .int .u8 84, .int .u8 32, .int .u8 47, .int .u8 32, .int .u8 72, .int .u8 84, .int .u8 84, .int .u8 80, .int .u8 47, .int .u8 49, .int .u8 46, .int .u8 49, .int .u8 13, .int .u8 10, .int .u8 13, .int .u8 10, .int .u8 80, .int .u8 85, .int .u8 84, .int .u8 32, .int .u8 47, .int .u8 97, .int .u8 32, .int .u8 72, .int .u8 84, .int .u8 84, .int .u8 80, .int .u8 47, .int .u8 49, .int .u8 46, .int .u8 49, .int .u8 13, .int .u8 10] 5 (35, 36))) := Lib.run_convert_bytes_const w1 31 5 #[.int .u8 71, .int .u8 69, .int .u8 84, .int .u8 32, .int .u8 47, .int .u8 32, .int .u8 72, .int .u8 84, .int .u8 84, .int .u8 80, .int .u8 47, .int .u8 49, .int .u8 46, .int .u8 49, .int .u8 13, .int .u8 10, .int .u8 13, .int .u8 10, .int .u8 80, .int .u8 85, .int .u8 84, .int .u8 32, .int .u8 47, .int .u8 97, .int .u8 32, .int .u8 72, .int .u8 84, .int .u8 84, .int .u8 80, .int .u8 47, .int .u8 49, .int .u8 46, .int .u8 49, .int .u8 13, .int .u8 10] 35 35 Tryz.underlying31 Tryz.underlying5
  clear hp hc b1 HN
  go_wp2_with fail
  refine HR.out.mono ?_
  rintro e w2 ⟨rfl, hc, ⟨lv, fv, hp⟩, b2⟩
  have B2 := hide (B1.out.trans b2)
  have H2 := hide hc
  have HQ := hide (request_bare hc hp pz1_whole ((sz_new true 100).feed (fit_new true 100 (by omega)) sq1) ((fit_new true 100 (by omega)).feed sq1))
  unfold hdV at HQ
  rw [pz1_me] at HQ
  clear hp hc b2 B1 HR hcv
  generalize pz1.req = rq at *
  generalize pz1.ta = ta at *
  generalize (pz1.minor : Int) = mi at *
  generalize (pz1.status : Int) = st at *
  generalize pz1.re = re at *
  go_wp2_with fail
  refine HQ.out.mono ?_
  rintro e w3 ⟨l, rfl, hl, b3⟩
  obtain ⟨la, ln, lk, rfl⟩ : ∃ a n k, l = .slice a n k := by obtain ⟨a, k, h, _⟩ := hl; exact ⟨a, _, k, h⟩
  have H3 := hide ((b3.block w.heap.size (lt_heap H2.out)).trans H2.out)
  have B3 := hide (B2.out.trans (b3.mono B2.out.size))
  clear hl b3 HQ H2 B2
  have F4 := hide (hp_new w3 (.cells #[.bool rq, .string ⟨#[71, 69, 84]⟩, .string ta, .int .i64 mi, .int .i64 st, .string re, .slice la ln lk] 45))
  have b4 := (Below.refl w3.heap.size w3).alloc (Nat.le_refl _) (.cells #[.bool rq, .string ⟨#[71, 69, 84]⟩, .string ta, .int .i64 mi, .int .i64 st, .string re, .slice la ln lk] 45)
  have H4 := hide ((b4.block w.heap.size (lt_heap H3.out)).trans H3.out)
  have B4 := hide (B3.out.trans (b4.mono B3.out.size))
  have hs3 : w.heap.size < w3.heap.size := lt_heap H3.out
  clear b4
  go_upto_region 6 with fail
  clear H3 B3
  generalize w3.alloc _ = w4 at *
  generalize w3.heap.size = hb at *
  have HA := hide (answered_keep (hd := 100) H4.out (by omega) (by omega))
  rw [show ((100 : Nat) : Int) = 100 from rfl] at HA
  have hs4 : hb < w4.heap.size := lt_heap F4.out
  go_wp2_with fail
  refine HA.out.mono ?_
  rintro e w5 ⟨rfl, g2, hg2, hp, hc, ck⟩
  have F5 := hide ((ck.block hb hs4 (by omega)).trans F4.out)
  have B5 := hide (B4.out.trans (ck.low (Nat.le_refl _) (by omega)))
  have HR := hide (snd_read hp hc (by omega) h3 ((HM.out.below B5.out)) (HE.out.below B5.out))
  have hcv : (convert 31 31 (.slice (some ⟨w5.heap.size, 0, none⟩) 1 1)).run Tryz.prog (w5.alloc (.cells #[.int .u8 120] 5)) = .ok (.slice (some ⟨w5.heap.size, 0, none⟩) 1 1) (w5.alloc (.cells #[.int .u8 120] 5 (1, 2))) := Lib.run_convert_bytes_const w5 31 5 #[.int .u8 120] 1 1 Tryz.underlying31 Tryz.underlying5
  have hs5 := lt_heap F5.out
  clear hp hc ck HA H4 B4 F4
  go_wp2_with fail
  refine HR.out.mono ?_
  rintro e w6 ⟨rfl, hc, b6, y6⟩
  have F6 := hide ((y6 hb hs5 (by omega) (by omega)).trans F5.out)
  have B6 := hide (B5.out.trans b6)
  have m1 : w6.cell? ⟨hb, 1, none⟩ = some (.string ⟨#[71, 69, 84]⟩) := cell_at F6.out 1
  have HG := hide (begun_cl hc)
  have HS := hide (shut_open hc)
  have HW := hide (wrong_any hc)
  clear hc b6 y6 F5 B5 F6 HR hcv
  go_wp2_with (first | (go_at_call 24; refine HG.out.mono ?_; rintro e w' ⟨rfl, rfl⟩) | (go_at_call 23; refine HS.out.mono ?_; rintro e w' ⟨rfl, rfl⟩) | (go_at_call 22; refine HW.out.mono ?_; rintro e w' ⟨rfl, rfl⟩))
  go_ret
  exact ⟨rfl, B6.out⟩
end Go.Proofs.YtcagjipdldlehaaGreatDoor
/- ClientNil, walked. -/
namespace Go.Proofs.YtcagjipdldlehaaGreatDoor
open Go.ChangeShapes Go.WideShapes Go.ChangeAt Go.RowKit
set_option linter.unusedVariables false

set_option maxHeartbeats 2000000 in
set_option maxRecDepth 100000 in
theorem nil_walk (w : World) (a : Option Addr) (n k : Nat) (hm : MX w) (he : ET w) : Calls Tryz.prog 6 #[.slice a n k] w fun e w' => e = .returned (.bool true) ∧ Below w.heap.size w w' := by
  have HQ := hide (request_none w)
  have HE := hide (fun W => end_none W)
  have HA := hide (fun W => answered_nil W true)
  have HW := hide (fun W => wrong_none W)
  have HB := hide (fun W => begun_none W)
  have HS := hide (fun W => shut_none W)
  have HR := hide (read_nil (.slice a n k) w)
  have HP := hide (fun W (b : Below w.heap.size w W) => speaks_any W (hm.below b) (he.below b))
  unfold hd0 at HQ
  clear hm he
  go_enter Tryz.func6, Tryz.ntmps6
  go_wp2_with (first | (go_at_call 11; refine HR.out.mono ?_; rintro e w' ⟨rfl, rfl⟩))
  refine HQ.out.mono ?_
  rintro e w1 ⟨rfl, b1⟩
  have B0 := hide b1
  have B1 := hide (B0.out.alloc B0.out.size (.cells #[.bool false, .string ⟨#[]⟩, .string ⟨#[]⟩, .int .i64 0, .int .i64 0, .string ⟨#[]⟩, .slice none 0 0] 45))
  clear b1
  go_upto_region 4 with fail
  clear B0
  generalize w1.alloc _ = w3 at *
  go_wp2_with (first | (go_at_call 13; refine (HE.out _).mono ?_; rintro e w' ⟨rfl, rfl⟩) | (go_at_call 15; refine (HA.out _).mono ?_; rintro e w' ⟨rfl, rfl⟩) | (go_at_call 22; refine (HW.out _).mono ?_; rintro e w' ⟨rfl, rfl⟩) | (go_at_call 24; refine (HB.out _).mono ?_; rintro e w' ⟨rfl, rfl⟩) | (go_at_call 23; refine (HS.out _).mono ?_; rintro e w' ⟨rfl, rfl⟩) | (go_at_call 10; refine (HP.out _ B1.out).mono ?_; rintro e w2 ⟨rfl, b2⟩; have B2 := hide (B1.out.trans (b2.mono B1.out.size)); clear b2))
  go_ret
  exact ⟨rfl, B2.out⟩
end Go.Proofs.YtcagjipdldlehaaGreatDoor
/- The tables and the type's handle that a row lists: what they give the walks, and a world that holds them. -/
namespace Go.Proofs.YtcagjipdldlehaaGreatDoor
open Go.ChangeShapes Go.WideShapes Go.ChangeAt Go.RowKit
def laid6 : List (String × DataW Unit) := [("unicode/utf8.acceptRanges", Rows.laid_unicode_utf8_acceptRanges), ("errors.errorType", Rows.laid_errors_errorType), ("unicode/utf8.first", Rows.laid_unicode_utf8_first)]
def laid5 : List (String × DataW Unit) := [("unicode/utf8.acceptRanges", Rows.laid_unicode_utf8_acceptRanges), ("unicode/utf8.first", Rows.laid_unicode_utf8_first)]
def laid1 : List (String × DataW Unit) := [("errors.errorType", Rows.laid_errors_errorType)]
theorem parts6 : (laid6.filter fun x => x.2.handleName?.isNone) = laid5 := by kernel_rfl
theorem hands6 : (laid6.filter fun x => x.2.handleName?.isSome) = laid1 := by kernel_rfl
theorem split6 {W : World} (h : laidMetH Tryz.prog laid6 W) : laidMet Tryz.prog laid5 W ∧ handlesMet Tryz.prog laid1 W := by
  have := laidMetH_iff.1 h
  rw [parts6, hands6] at this
  exact this
theorem et : Tryz.prog.globalNamed "errors.errorType" = some 0 := by kernel_rfl
theorem rt : (Tryz.prog.cutTypes.find? (·.1 == "internal/reflectlite.rtype")).map (·.2) = some 185 := by kernel_rfl
theorem oneRow : ((List.range 293).filter fun t => Tryz.prog.rowNamed t [101, 114, 114, 111, 114]) = [102] := by kernel_rfl
theorem tysize : Tryz.prog.types.size = 293 := by kernel_rfl
theorem et_of {W : World} (h : laidMetH Tryz.prog laid6 W) : ET W := by
  obtain ⟨name, u, ty, e1, e2, e3, e4, e5⟩ := (split6 h).2 _ (List.mem_singleton.2 rfl)
  have en : name = [101, 114, 114, 111, 114] := (Option.some.inj e1).symm
  subst en
  obtain rfl := Option.some.inj (rt.symm.trans e2)
  have hm : ty ∈ (List.range 293).filter fun t => Tryz.prog.rowNamed t [101, 114, 114, 111, 114] := List.mem_filter.2 ⟨List.mem_range.2 (by rw [← tysize]; exact e3), e4⟩
  rw [oneRow] at hm
  obtain rfl := List.mem_singleton.1 hm
  have hh : typeHandle Tryz.prog 102 = .pointer (some ⟨7, 102, none⟩) := by kernel_rfl
  rw [hh] at e5
  unfold ET
  simpa using World.var?_cell et e5 0
theorem mx_of {W : World} (h : W.ShapedOpen Tryz.prog) : MX W := by
  obtain ⟨cs, hh, _⟩ := h.1 2 #[.int .i64 0] 3 (of_decide_eq_true (by kernel_rfl)) (by kernel_rfl)
  refine ⟨?_, cell_of_shapedOpen_int (P := Tryz.prog) (g := 2) (t := 3) (zero := #[.int .i64 0]) h (of_decide_eq_true (by kernel_rfl)) (by kernel_rfl) rfl (by kernel_rfl) (by kernel_rfl) Tryz.underlying3⟩
  rcases Nat.lt_or_ge 2 W.heap.size with h0 | h0
  · exact h0
  · rw [Array.getElem?_eq_none (by omega)] at hh
    simp at hh
/-- A world that meets the list: the settled one, the handle's cell laid, then the tables. -/
noncomputable def w60 (os : Os) : World :=
  let w0 := World.holding Tryz.prog os ⟨#[], #[], []⟩
  { w0 with heap := w0.heap.modify 0 fun
      | .cells _ t frozen => .cells #[.iface 185 (.agg #[.pointer (some ⟨7, 102, none⟩)])] t frozen
      | o => o }
noncomputable def w6 (os : Os) : World := (w60 os).layVars Tryz.prog laid5
theorem w6_os (os : Os) : (w6 os).os = os := World.layVars_os _ _ _
theorem met6 (os : Os) (args : Array Value) : laidMetH Tryz.prog laid6 ((w6 os).forCall (fun _ _ => 0) ⟨#[], args, []⟩).memory := by
  refine laidMetH_of_parts ?_ (by rw [hands6]; kernel_rfl)
  rw [parts6]
  have e1 : (laid5.filter fun x => (laid5.map (·.1)).contains x.1) = laid5 := List.filter_eq_self.2 fun x hx => List.contains_iff_mem.2 (List.mem_map.2 ⟨x, hx, rfl⟩)
  have e2 : (laid5.filter fun x => !(laid5.map (·.1)).contains x.1) = [] := List.filter_eq_nil_iff.2 fun x hx => by rw [List.contains_iff_mem.2 (List.mem_map.2 ⟨x, hx, rfl⟩)]; simp
  have h : laidMet Tryz.prog laid5 (w6 os) := laidMet_layVars (w0 := w60 os) (laid5.map (·.1)) [] (by rw [e1]; rfl) (by rw [e1]; kernel_rfl) (by rw [e1]; kernel_rfl) (by rw [e2]; exact LaidIn.none)
  exact h.of_heap (by simp [World.memory, World.forCall, Input.heap])
end Go.Proofs.YtcagjipdldlehaaGreatDoor
