/- A decoder and what is fed to it: what a byte makes of them; both in memory. -/
import Derived.Test.YtggeihahbgeneaaDoorCTake
namespace Go.Proofs.YtggeihahbgeneaaDoor
open Go.ChangeShapes Go.WideShapes Go.ChangeAt Go.RowKit

/-! ### What bytes make of a decoder -/
def dEnd (d : Dz) (s : ByteArray) : Nat × Dz := if d.fn = fnSize then dSized d s else if d.fn = fnBody then dRead d s else dTrl d s
def dMost (d : Dz) : Nat := if d.fn = fnBody then 0 else 8192
def dNext (d : Dz) (c : UInt8) : Nat × List UInt8 × Dz :=
  if d.fn = fnBody ∧ 0 < d.left then (0, [c], { d with left := d.left - 1 })
  else if d.ending ≠ decide (c = 10) then (100, [], d)
  else if d.ending = true then ((dEnd { d with line := [], ending := false } (sS d.line)).1, [], (dEnd { d with line := [], ending := false } (sS d.line)).2)
  else if c = 13 then (0, [], { d with ending := true })
  else if d.line.length = dMost d then (100, [], d)
  else (0, [], { d with line := d.line ++ [c] })
def dBytes (d : Dz) : List UInt8 → Nat × Nat × List UInt8 × Dz
  | [] => (0, 0, [], d)
  | c :: r =>
    if (dNext d c).1 ≠ 0 then ((dNext d c).1, 1, (dNext d c).2.1, (dNext d c).2.2)
    else if (dNext d c).2.2.whole = true then (0, 1, (dNext d c).2.1, (dNext d c).2.2)
    else ((dBytes (dNext d c).2.2 r).1, (dBytes (dNext d c).2.2 r).2.1 + 1, (dNext d c).2.1 ++ (dBytes (dNext d c).2.2 r).2.2.1, (dBytes (dNext d c).2.2 r).2.2.2)
def sh (R : Nat × Nat × List UInt8 × Dz) (k : Nat) (o : List UInt8) : Nat × Nat × List UInt8 × Dz := (R.1, R.2.1 + k, o ++ R.2.2.1, R.2.2.2)
theorem sh_zero (R : Nat × Nat × List UInt8 × Dz) : sh R 0 [] = R := by simp [sh]
theorem sh_sh (R : Nat × Nat × List UInt8 × Dz) (k l : Nat) (o u : List UInt8) : sh (sh R k o) l u = sh R (k + l) (u ++ o) := by simp [sh, Nat.add_assoc]
/-- From d at some bytes to d' behind k of them, which told o; e: what is wrong. -/
def Dn (d : Dz) (l : List UInt8) (k : Nat) (o : List UInt8) (e : Nat) (d' : Dz) : Prop :=
  k ≤ l.length ∧ (if e ≠ 0 ∨ d'.whole = true then dBytes d l = (e, k, o, d') else dBytes d l = sh (dBytes d' (l.drop k)) k o)
theorem Dn.refl (d : Dz) (l : List UInt8) (h : d.whole = false) : Dn d l 0 [] 0 d := ⟨Nat.zero_le _, by rw [if_neg (by simp [h])]; simp [sh]⟩
/-- On by one byte. -/
theorem Dn.step {d0 d : Dz} {l r : List UInt8} {c : UInt8} {k : Nat} {o : List UInt8} (h : Dn d0 l k o 0 d) (hw : d.whole = false) (hl : l.drop k = c :: r) : Dn d0 l (k + 1) (o ++ (dNext d c).2.1) (dNext d c).1 (dNext d c).2.2 ∧ l.drop (k + 1) = r := by
  obtain ⟨h1, h2⟩ := h
  rw [if_neg (by simp [hw]), hl, dBytes] at h2
  have hlt : k < l.length := by
    rcases Nat.lt_or_ge k l.length with h3 | h3
    · exact h3
    · rw [List.drop_of_length_le h3] at hl; cases hl
  have hd : l.drop (k + 1) = r := by
    have := congrArg List.tail hl
    simpa using this
  refine ⟨⟨hlt, ?_⟩, hd⟩
  by_cases h3 : (dNext d c).1 ≠ 0
  · rw [if_pos h3] at h2
    rw [if_pos (.inl h3), h2]
    simp [sh, Nat.add_comm]
  · rw [if_neg h3] at h2
    by_cases h4 : (dNext d c).2.2.whole = true
    · rw [if_pos h4] at h2
      have h5 : (dNext d c).1 = 0 := by simpa using h3
      rw [if_pos (.inr h4), h2, h5]
      simp [sh, Nat.add_comm]
    · rw [if_neg h4] at h2
      rw [if_neg (by simp [h4]; simpa using h3), h2, hd]
      simp [sh]
      omega
/-- Bytes of a chunk, taken at once. -/
theorem Dn.takes {d0 : Dz} {l : List UInt8} : ∀ (n : Nat) {d : Dz} {k : Nat} {o : List UInt8}, Dn d0 l k o 0 d → d.whole = false → d.fn = fnBody → n ≤ d.left → n ≤ (l.drop k).length → Dn d0 l (k + n) (o ++ (l.drop k).take n) 0 { d with left := d.left - n }
  | 0, d, k, o, h, _, _, _, _ => by
    simp only [List.take_zero, List.append_nil, Nat.add_zero, Nat.sub_zero]
    exact h
  | n + 1, d, k, o, h, hw, hf, hn, hl => by
    cases hd : l.drop k with
    | nil => rw [hd] at hl; simp at hl
    | cons c r =>
      have e : dNext d c = (0, [c], { d with left := d.left - 1 }) := by unfold dNext; rw [if_pos ⟨hf, by omega⟩]
      obtain ⟨h1, h2⟩ := h.step hw hd
      rw [e] at h1
      have h3 := Dn.takes n (d := { d with left := d.left - 1 }) h1 hw hf (by show n ≤ d.left - 1; omega) (by rw [hd] at hl; rw [h2]; simp at hl; omega)
      rw [h2] at h3
      rw [show k + (n + 1) = k + 1 + n by omega, List.take_succ_cons]
      rw [show d.left - (n + 1) = d.left - 1 - n by omega]
      have e3 : o ++ c :: r.take n = (o ++ [c]) ++ r.take n := by simp
      rw [e3]
      exact h3
/-- What is always so of a decoder. -/
structure FitD (d : Dz) : Prop where
  fn : d.fn = fnSize ∨ d.fn = fnBody ∨ d.fn = fnTrl
  room : d.room ≤ 9007199254740992
  left : d.left ≤ 9007199254740992
  line : d.line.length ≤ 8192
  tr : d.tr.length ≤ 100
  bd : d.fn = fnBody → d.line = []
theorem num16_top (l : List UInt8) : numV 16 l ≤ 9007199254740992 := by
  unfold numV
  split
  · omega
  · rename_i hh
    rw [not_or, not_or] at hh
    have := hh.2.2
    unfold top at this
    omega
theorem FitD.ended {d : Dz} (h : FitD d) (hl : d.line = []) (s : ByteArray) : FitD (dEnd d s).2 := by
  unfold dEnd
  split
  · unfold dSized
    have hn := num16_top (k1 59 s).data.toList
    split
    · exact h
    · split
      · exact h
      · refine ⟨?_, ?_, hn, h.line, h.tr, fun _ => hl⟩
        · dsimp only
          split
          · exact .inr (.inr rfl)
          · exact .inr (.inl rfl)
        · have := h.room; dsimp only; omega
  · split
    · exact ⟨.inl rfl, h.room, h.left, h.line, h.tr, fun _ => hl⟩
    · unfold dTrl
      split
      · exact ⟨h.fn, h.room, h.left, h.line, h.tr, h.bd⟩
      · split
        · exact h
        · rename_i h1
          rw [not_or, not_or] at h1
          refine ⟨h.fn, h.room, h.left, h.line, ?_, h.bd⟩
          have := h.tr
          show (d.tr ++ [fldF s]).length ≤ 100
          rw [List.length_append, List.length_singleton]
          have := h1.2.1
          omega
theorem FitD.next {d : Dz} (h : FitD d) (c : UInt8) : FitD (dNext d c).2.2 := by
  unfold dNext
  split
  · exact ⟨h.fn, h.room, by have := h.left; show d.left - 1 ≤ _; omega, h.line, h.tr, h.bd⟩
  · split
    · exact h
    · split
      · exact FitD.ended (d := { d with line := [], ending := false }) ⟨h.fn, h.room, h.left, Nat.zero_le _, h.tr, fun _ => rfl⟩ rfl _
      · split
        · exact ⟨h.fn, h.room, h.left, h.line, h.tr, h.bd⟩
        · split
          · exact h
          · rename_i h1
            have h2 := h.line
            unfold dMost at h1
            by_cases h3 : d.fn = fnBody
            · rw [if_pos h3, h.bd h3] at h1
              exact absurd rfl h1
            · rw [if_neg h3] at h1
              refine ⟨h.fn, h.room, h.left, ?_, h.tr, fun h4 => absurd h4 h3⟩
              show (d.line ++ [c]).length ≤ 8192
              rw [List.length_append, List.length_singleton]
              omega
theorem fit_dbytes : ∀ (l : List UInt8) (d : Dz), FitD d → FitD (dBytes d l).2.2.2
  | [], _, h => h
  | c :: r, d, h => by
    rw [dBytes]
    split
    · exact h.next c
    · split
      · exact h.next c
      · exact fit_dbytes r _ (h.next c)

/-! ### Both in memory -/
structure DP (w : World) (base : Nat) (A : Nat → Prop) (g h : Nat) (lv tv rv bv : Value) (d : Dz) (rest body : List UInt8) : Prop where
  dec : Dec w base g lv tv d
  pce : Pce w base A h rv bv rest body
  gh : g ≠ h
  lh : lv.ownBlock ≠ some h
  th : tv.ownBlock ≠ some h
  bg : bv.ownBlock ≠ some g
  bl : ∀ k, bv.ownBlock = some k → lv.ownBlock ≠ some k
  bt : ∀ k, bv.ownBlock = some k → tv.ownBlock ≠ some k
  gA : ¬ A g
  lA : ∀ k, lv.ownBlock = some k → ¬ A k
  tA : ∀ k, tv.ownBlock = some k → ¬ A k
structure DK (w w' : World) (g h : Nat) (lv tv bv lv' tv' bv' : Value) : Prop where
  os : w'.os = w.os
  tape : w'.tape = w.tape
  output : w'.output = w.output
  size : w.heap.size ≤ w'.heap.size
  block : ∀ k, k < w.heap.size → k ≠ g → k ≠ h → lv.ownBlock ≠ some k → tv.ownBlock ≠ some k → bv.ownBlock ≠ some k → w'.heap[k]? = w.heap[k]?
  la : ∀ k, k < w.heap.size → lv.ownBlock ≠ some k → lv'.ownBlock ≠ some k
  ta : ∀ k, k < w.heap.size → tv.ownBlock ≠ some k → tv'.ownBlock ≠ some k
  ba : ∀ k, k < w.heap.size → bv.ownBlock ≠ some k → bv'.ownBlock ≠ some k
theorem DK.refl (w : World) (g h : Nat) (lv tv bv : Value) : DK w w g h lv tv bv lv tv bv := ⟨rfl, rfl, rfl, Nat.le_refl _, fun _ _ _ _ _ _ _ => rfl, fun _ _ h => h, fun _ _ h => h, fun _ _ h => h⟩
theorem DK.trans {a b c : World} {g h : Nat} {l t u l1 t1 u1 l2 t2 u2 : Value} (p : DK a b g h l t u l1 t1 u1) (q : DK b c g h l1 t1 u1 l2 t2 u2) : DK a c g h l t u l2 t2 u2 :=
  ⟨q.os.trans p.os, q.tape.trans p.tape, q.output.trans p.output, Nat.le_trans p.size q.size,
    fun k hk h1 h2 h3 h4 h5 => (q.block k (Nat.lt_of_lt_of_le hk p.size) h1 h2 (p.la k hk h3) (p.ta k hk h4) (p.ba k hk h5)).trans (p.block k hk h1 h2 h3 h4 h5),
    fun k hk h3 => q.la k (Nat.lt_of_lt_of_le hk p.size) (p.la k hk h3), fun k hk h3 => q.ta k (Nat.lt_of_lt_of_le hk p.size) (p.ta k hk h3), fun k hk h3 => q.ba k (Nat.lt_of_lt_of_le hk p.size) (p.ba k hk h3)⟩
theorem DK.of_PK {w w' : World} {g h : Nat} {lv tv lv' tv' : Value} (bv : Value) (k : PK w w' g lv tv lv' tv') : DK w w' g h lv tv bv lv' tv' bv :=
  ⟨k.os, k.tape, k.output, k.size, fun i hi h1 _ h3 h4 _ => k.block i hi h1 h3 h4, k.la, k.fa, fun _ _ h => h⟩
theorem DK.of_QK {w w' : World} {g h : Nat} {bv bv' : Value} (lv tv : Value) (k : QK w w' h bv bv') : DK w w' g h lv tv bv lv tv bv' :=
  ⟨k.os, k.tape, k.output, k.size, fun i hi _ h2 _ _ h5 => k.block i hi h2 h5, fun _ _ h => h, fun _ _ h => h, k.ba⟩
theorem DP.of_PK {w w' : World} {base g h : Nat} {A : Nat → Prop} {lv tv rv bv lv' tv' : Value} {d d' : Dz} {rest body : List UInt8} (p : DP w base A g h lv tv rv bv d rest body) (hd : Dec w' base g lv' tv' d') (k : PK w w' g lv tv lv' tv') : DP w' base A g h lv' tv' rv bv d' rest body := by
  have hh := p.pce.lt
  refine ⟨hd, ⟨(k.block h hh p.gh.symm p.lh p.th).trans p.pce.blk, ?_, p.pce.shp, ?_, p.pce.hb, p.pce.bh, p.pce.hA, p.pce.bA, fun i hA => Nat.lt_of_lt_of_le (p.pce.AL i hA) k.size⟩, p.gh, k.la h hh p.lh, k.fa h hh p.th, p.bg, fun i e => k.la i (p.pce.body.lt e).2 (p.bl i e), fun i e => k.fa i (p.pce.body.lt e).2 (p.bt i e), p.gA, fun i e hA => k.la i (p.pce.AL i hA) (fun e2 => p.lA i e2 hA) e, fun i e hA => k.fa i (p.pce.AL i hA) (fun e2 => p.tA i e2 hA) e⟩
  · exact p.pce.rest.keep k.size (fun i h1 h2 => k.block i h2 (fun e => p.gA (by rw [← e]; exact h1)) (fun e => p.lA i e h1) (fun e => p.tA i e h1))
  · exact p.pce.body.frame fun i e => k.block i (p.pce.body.lt e).2 (fun e2 => p.bg (by rw [e, e2])) (p.bl i e) (p.bt i e)
theorem DP.of_QK {w w' : World} {base g h : Nat} {A : Nat → Prop} {lv tv rv bv rv' bv' : Value} {d : Dz} {rest body rest' body' : List UInt8} (p : DP w base A g h lv tv rv bv d rest body) (hq : Pce w' base A h rv' bv' rest' body') (k : QK w w' h bv bv') : DP w' base A g h lv tv rv' bv' d rest' body' := by
  have hg := p.dec.lt
  refine ⟨p.dec.frame fun i hi => ?_, hq, p.gh, p.lh, p.th, k.ba g hg p.bg, fun i e e2 => ?_, fun i e e2 => ?_, p.gA, p.lA, p.tA⟩
  · rcases hi with rfl | hi | hi
    · exact k.block _ hg p.gh p.bg
    · exact k.block i (p.dec.line.lt hi).2 (fun e => p.lh (by rw [hi, e])) (fun e => p.bl i e hi)
    · exact k.block i (p.dec.trs.lt hi).2 (fun e => p.th (by rw [hi, e])) (fun e => p.bt i e hi)
  · exact k.ba i (p.dec.line.lt e2).2 (fun e3 => p.bl i e3 e2) e
  · exact k.ba i (p.dec.trs.lt e2).2 (fun e3 => p.bt i e3 e2) e
end Go.Proofs.YtggeihahbgeneaaDoor
