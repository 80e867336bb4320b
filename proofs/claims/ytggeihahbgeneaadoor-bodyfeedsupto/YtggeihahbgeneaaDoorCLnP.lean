/- Lines, and a body from its front: pure. -/
import Derived.Test.YtggeihahbgeneaaDoorCBndP
namespace Go.Proofs.YtggeihahbgeneaaDoor
open Go.ChangeShapes Go.WideShapes Go.ChangeAt Go.RowKit

/-- What stands in a line from its front: none: it goes on; how many bytes were read, and the line, or none: something is wrong. -/
def lineR : List UInt8 → Bool → List UInt8 → Option (Nat × Option (List UInt8))
  | _, _, [] => none
  | acc, en, c :: r =>
    if en ≠ decide (c = 10) then some (1, none)
    else if en = true then some (1, some acc)
    else if c = 13 then (lineR acc true r).map fun p => (p.1 + 1, p.2)
    else if acc.length = 8192 then some (1, none)
    else (lineR (acc ++ [c]) false r).map fun p => (p.1 + 1, p.2)
theorem most_ln {d : Dz} (h : d.fn ≠ fnBody) : dMost d = 8192 := by unfold dMost; rw [if_neg h]
theorem Dn.cons {d d1 d2 : Dz} {c : UInt8} {r : List UInt8} {k e : Nat} {o o1 : List UInt8} (h0 : dNext d c = (0, o1, d1)) (hw : d1.whole = false) (h : Dn d1 r k o e d2) : Dn d (c :: r) (k + 1) (o1 ++ o) e d2 := by
  obtain ⟨h1, h2⟩ := h
  refine ⟨by simpa using h1, ?_⟩
  have hb : dBytes d (c :: r) = sh (dBytes d1 r) 1 o1 := by
    rw [dBytes, h0]
    simp [hw, sh]
  rw [hb, List.drop_succ_cons]
  split at h2
  · rename_i hx
    rw [if_pos hx, h2]
    simp [sh]
  · rename_i hx
    rw [if_neg hx, h2, sh_sh]
/-- A line, read by a decoder that reads lines. -/
theorem line_dn : ∀ (l acc : List UInt8) (en : Bool) (d : Dz), d.fn ≠ fnBody → d.whole = false → d.line = acc → d.ending = en →
    match lineR acc en l with
    | none => ∃ d', d'.whole = false ∧ Dn d l l.length [] 0 d'
    | some (k, none) => ∃ d', d'.whole = false ∧ Dn d l k [] 100 d'
    | some (k, some s) => Dn d l k [] (dEnd { d with line := [], ending := false } (sS s)).1 (dEnd { d with line := [], ending := false } (sS s)).2
  | [], acc, en, d, _, hw, _, _ => by
    rw [lineR]
    exact ⟨d, hw, Dn.refl d [] hw⟩
  | c :: r, acc, en, d, hf, hw, hl, he => by
    subst hl he
    have hn : ¬ (d.fn = fnBody ∧ 0 < d.left) := fun h => hf h.1
    have one : ∀ e o d1, dNext d c = (e, o, d1) → Dn d (c :: r) 1 o e d1 := by
      intro e o d1 h
      have := (Dn.refl d (c :: r) hw).step hw rfl
      rw [h] at this
      simpa using this.1
    rw [lineR]
    by_cases h1 : d.ending ≠ decide (c = 10)
    · rw [if_pos h1]
      refine ⟨d, hw, one _ _ _ ?_⟩
      unfold dNext
      rw [if_neg hn, if_pos h1]
    · rw [if_neg h1]
      by_cases h2 : d.ending = true
      · rw [if_pos h2]
        refine one _ _ _ ?_
        unfold dNext
        rw [if_neg hn, if_neg h1, if_pos h2]
      · rw [if_neg h2]
        have h2' : d.ending = false := by simpa using h2
        by_cases h3 : c = 13
        · rw [if_pos h3]
          have e1 : dNext d c = (0, [], { d with ending := true }) := by
            unfold dNext
            rw [if_neg hn, if_neg h1, if_neg h2, if_pos h3]
          have ih := line_dn r d.line true { d with ending := true } hf hw rfl rfl
          cases hR : lineR d.line true r with
          | none =>
            rw [hR] at ih
            obtain ⟨d', h4, h5⟩ := ih
            exact ⟨d', h4, Dn.cons e1 hw h5⟩
          | some p =>
            obtain ⟨k, s⟩ := p
            rw [hR] at ih
            cases s with
            | none =>
              obtain ⟨d', h4, h5⟩ := ih
              exact ⟨d', h4, Dn.cons e1 hw h5⟩
            | some s => exact Dn.cons e1 hw ih
        · rw [if_neg h3]
          by_cases h4 : d.line.length = 8192
          · rw [if_pos h4]
            refine ⟨d, hw, one _ _ _ ?_⟩
            unfold dNext
            rw [if_neg hn, if_neg h1, if_neg h2, if_neg h3, if_pos (by rw [most_ln hf]; exact h4)]
          · rw [if_neg h4]
            have e1 : dNext d c = (0, [], { d with line := d.line ++ [c] }) := by
              unfold dNext
              rw [if_neg hn, if_neg h1, if_neg h2, if_neg h3, if_neg (by rw [most_ln hf]; exact h4)]
            have ih := line_dn r (d.line ++ [c]) false { d with line := d.line ++ [c] } hf hw rfl h2'
            have e2 : (Dz.mk d.fn d.room d.left [] false d.tr d.whole d.wrong) = { d with line := [], ending := false } := rfl
            cases hR : lineR (d.line ++ [c]) false r with
            | none =>
              rw [hR] at ih
              obtain ⟨d', h5, h6⟩ := ih
              exact ⟨d', h5, Dn.cons e1 hw h6⟩
            | some p =>
              obtain ⟨k, s⟩ := p
              rw [hR] at ih
              cases s with
              | none =>
                obtain ⟨d', h5, h6⟩ := ih
                exact ⟨d', h5, Dn.cons e1 hw h6⟩
              | some s => exact Dn.cons e1 hw ih
/-- How far a line is read, from a place on. -/
structure LnAt (b : List UInt8) (at' i : Nat) (acc : List UInt8) (en : Bool) : Prop where
  le : at' ≤ i
  ib : i ≤ b.length
  eq : lineR [] false (b.drop at') = (lineR acc en (b.drop i)).map fun p => (p.1 + (i - at'), p.2)
  ac : acc = (b.drop at').take (i - at' - (if en then 1 else 0))
  ee : en = true → at' < i ∧ b[i - 1]? = some 13
  ne : en = false → at' < i → b[i - 1]? ≠ some 13
  len : acc.length ≤ 8192
theorem LnAt.zero {b : List UInt8} {at' : Nat} (h : at' ≤ b.length) : LnAt b at' at' [] false :=
  ⟨Nat.le_refl _, h, by simp, by simp, by simp, by intro _ h; omega, by simp⟩
theorem acc_len {b acc : List UInt8} {at' i : Nat} {en : Bool} (h : LnAt b at' i acc en) (he : en = false) : acc.length = i - at' := by
  rw [h.ac, he]
  have := h.ib
  have := h.le
  simp
  omega
theorem map_map1 {x : Option (Nat × Option (List UInt8))} {k : Nat} : (x.map fun p => (p.1 + 1, p.2)).map (fun p => (p.1 + k, p.2)) = x.map fun p => (p.1 + (k + 1), p.2) := by
  cases x with
  | none => rfl
  | some p => simp; omega
/-- One byte on: the line's end, or not; or something wrong. -/
theorem LnAt.step {b acc : List UInt8} {at' i : Nat} {en : Bool} (h : LnAt b at' i acc en) (hi : i < b.length) :
    (en ≠ decide (b[i] = 10) → lineR [] false (b.drop at') = some (i + 1 - at', none)) ∧
    (en = true → b[i] = 10 → lineR [] false (b.drop at') = some (i + 1 - at', some ((b.drop at').take (i - 1 - at')))) ∧
    (en = false → b[i] ≠ 10 → b[i] = 13 → LnAt b at' (i + 1) acc true) ∧
    (en = false → b[i] ≠ 10 → b[i] ≠ 13 → 8192 ≤ i - at' → lineR [] false (b.drop at') = some (i + 1 - at', none)) ∧
    (en = false → b[i] ≠ 10 → b[i] ≠ 13 → ¬ 8192 ≤ i - at' → LnAt b at' (i + 1) (acc ++ [b[i]]) false) := by
  have hd : b.drop i = b[i] :: b.drop (i + 1) := List.drop_eq_getElem_cons hi
  have hE := h.eq
  rw [hd, lineR] at hE
  have hle := h.le
  refine ⟨fun h1 => ?_, fun h1 h2 => ?_, fun h1 h2 h3 => ?_, fun h1 h2 h3 h4 => ?_, fun h1 h2 h3 h4 => ?_⟩
  · rw [if_pos h1] at hE
    rw [hE]
    simp
    omega
  · rw [if_neg (by simp [h1, h2]), if_pos h1] at hE
    rw [hE, h.ac, h1]
    have := (h.ee h1).1
    simp
    refine ⟨by omega, ?_⟩
    congr 1
    omega
  · rw [if_neg (by simp [h1, h2]), if_neg (by simp [h1]), if_pos h3, map_map1] at hE
    refine ⟨by omega, hi, by rw [hE]; congr; funext p; congr 1; omega, ?_, ?_, by simp, h.len⟩
    · rw [h.ac, h1]
      congr 1
      simp
      omega
    · intro _
      refine ⟨by omega, ?_⟩
      rw [Nat.add_sub_cancel, List.getElem?_eq_getElem hi, h3]
  · have hl := acc_len h h1
    have := h.len
    rw [if_neg (by simp [h1, h2]), if_neg (by simp [h1]), if_neg h3, if_pos (by omega)] at hE
    rw [hE]
    simp
    omega
  · have hl := acc_len h h1
    rw [if_neg (by simp [h1, h2]), if_neg (by simp [h1]), if_neg h3, if_neg (by omega), map_map1] at hE
    refine ⟨by omega, hi, by rw [hE]; congr; funext p; congr 1; omega, ?_, by simp, ?_, ?_⟩
    · rw [h.ac, h1]
      simp only [Bool.false_eq_true, if_false, Nat.sub_zero]
      rw [show i + 1 - at' = i - at' + 1 by omega, List.take_add_one, List.getElem?_drop, show at' + (i - at') = i by omega, List.getElem?_eq_getElem hi]
      rfl
    · intro _ _
      rw [Nat.add_sub_cancel, List.getElem?_eq_getElem hi]
      simp [h3]
    · rw [List.length_append, List.length_singleton, hl]
      omega
theorem LnAt.stop {b acc : List UInt8} {at' : Nat} {en : Bool} (h : LnAt b at' b.length acc en) : lineR [] false (b.drop at') = none := by
  rw [h.eq, List.drop_length, lineR]
  rfl
/-! ### A body, from its front -/
/-- How a decoder stands behind n bytes that told o. -/
def At (most : Nat) (b : List UInt8) (n : Nat) (o : List UInt8) (d : Dz) : Prop := Dn (dNew most) b n o 0 d ∧ d.whole = false
/-- What is read of a body. -/
def Fin' (most : Nat) (b o : List UInt8) (t : List (ByteArray × ByteArray)) (n : Nat) (wh : Bool) (e : Nat) : Prop := ∃ d', dBytes (dNew most) b = (e, n, o, d') ∧ d'.whole = wh ∧ t = if wh then d'.tr else []
def stS (room : Nat) : Dz := ⟨fnSize, room, 0, [], false, [], false, 0⟩
def stB (room left : Nat) (en : Bool) : Dz := ⟨fnBody, room, left, [], en, [], false, 0⟩
def stT (room : Nat) (l : List (ByteArray × ByteArray)) : Dz := ⟨fnTrl, room, 0, [], false, l, false, 0⟩
theorem At.le {most n : Nat} {b o : List UInt8} {d : Dz} (h : At most b n o d) : n ≤ b.length := h.1.1
theorem At.new (most : Nat) (b : List UInt8) : At most b 0 [] (stS most) := ⟨Dn.refl _ _ rfl, rfl⟩
theorem At.fin {most n : Nat} {b o : List UInt8} {d : Dz} (h : At most b n o d) (hn : n = b.length) : Fin' most b o [] n false 0 := by
  refine ⟨d, h.1.done (.inr ?_), h.2, rfl⟩
  rw [hn, List.drop_length]
theorem Fin'.dn {most n e : Nat} {b o : List UInt8} {d : Dz} (h : Dn (dNew most) b n o e d) (he : e ≠ 0) (hw : d.whole = false) : Fin' most b o [] n false e :=
  ⟨d, h.done (.inl (.inl he)), hw, rfl⟩
theorem dn_len {d d1 : Dz} {l : List UInt8} {k e : Nat} {o : List UInt8} (h : Dn d l k o e d1) : o.length ≤ l.length := dn_out h
/-- A line that is not whole. -/
theorem At.part {most n : Nat} {b o : List UInt8} {d : Dz} (h : At most b n o d) (hf : d.fn ≠ fnBody) (hl : d.line = []) (he : d.ending = false) (hR : lineR [] false (b.drop n) = none) : Fin' most b o [] b.length false 0 := by
  have := line_dn (b.drop n) [] false d hf h.2 hl he
  rw [hR] at this
  obtain ⟨d', hw, hd⟩ := this
  have ht := h.1.trans h.2 hd
  rw [List.append_nil] at ht
  have hn := h.le
  have hx : n + (b.drop n).length = b.length := by rw [List.length_drop]; omega
  rw [hx] at ht
  exact At.fin ⟨ht, hw⟩ rfl
/-- A line that is wrong. -/
theorem At.bad {most n k : Nat} {b o : List UInt8} {d : Dz} (h : At most b n o d) (hf : d.fn ≠ fnBody) (hl : d.line = []) (he : d.ending = false) (hR : lineR [] false (b.drop n) = some (k, none)) : Fin' most b o [] (n + k) false 100 := by
  have := line_dn (b.drop n) [] false d hf h.2 hl he
  rw [hR] at this
  obtain ⟨d', hw, hd⟩ := this
  have ht := h.1.trans h.2 hd
  rw [List.append_nil] at ht
  exact Fin'.dn ht (by decide) hw
theorem At.line {most n k : Nat} {b o s : List UInt8} {d : Dz} (h : At most b n o d) (hf : d.fn ≠ fnBody) (hl : d.line = []) (he : d.ending = false) (hR : lineR [] false (b.drop n) = some (k, some s)) : Dn (dNew most) b (n + k) o (dEnd d (sS s)).1 (dEnd d (sS s)).2 := by
  have := line_dn (b.drop n) [] false d hf h.2 hl he
  rw [hR] at this
  have e : ({ d with line := [], ending := false } : Dz) = d := by cases d; simp_all
  rw [e] at this
  have ht := h.1.trans h.2 this
  rw [List.append_nil] at ht
  exact ht
/-- What a size line says; none: it is none. -/
def sizeV (s : ByteArray) : Option Nat := if numE 16 (k1 59 s).data.toList ≠ 0 ∨ (k2 59 s).data.toList.all valc = false then none else some (numV 16 (k1 59 s).data.toList)
theorem At.sized {most n k room : Nat} {b o s : List UInt8} (h : At most b n o (stS room)) (hR : lineR [] false (b.drop n) = some (k, some s)) :
    (sizeV (sS s) = none → Fin' most b o [] (n + k) false 100) ∧ (∀ v, sizeV (sS s) = some v → room < v → Fin' most b o [] (n + k) false 2) ∧
    (sizeV (sS s) = some 0 → At most b (n + k) o (stT room [])) ∧ (∀ v, sizeV (sS s) = some v → v ≤ room → v ≠ 0 → At most b (n + k) o (stB (room - v) v false)) := by
  have ht := h.line fn_ne.1 rfl rfl hR
  have e : dEnd (stS room) (sS s) = dSized (stS room) (sS s) := by unfold dEnd; exact if_pos rfl
  rw [e] at ht
  unfold dSized at ht
  unfold sizeV
  refine ⟨fun h1 => ?_, fun v h1 h2 => ?_, fun h1 => ?_, fun v h1 h2 h3 => ?_⟩
  · split at h1
    · rename_i hc
      rw [if_pos hc] at ht
      exact Fin'.dn ht (by decide) rfl
    · cases h1
  · split at h1
    · cases h1
    · rename_i hc
      simp only [Option.some.injEq] at h1
      rw [if_neg hc, h1, if_pos (show (stS room).room < v from h2)] at ht
      exact Fin'.dn ht (by decide) rfl
  · split at h1
    · cases h1
    · rename_i hc
      simp only [Option.some.injEq] at h1
      rw [if_neg hc, h1, if_neg (by omega), if_pos rfl] at ht
      exact ⟨ht, rfl⟩
  · split at h1
    · cases h1
    · rename_i hc
      simp only [Option.some.injEq] at h1
      rw [if_neg hc, h1, if_neg (by show ¬ room < v; omega), if_neg h3] at ht
      exact ⟨ht, rfl⟩
theorem At.cons {most n : Nat} {b o : List UInt8} {d : Dz} (h : At most b n o d) (hn : n < b.length) : Dn (dNew most) b (n + 1) (o ++ (dNext d b[n]).2.1) (dNext d b[n]).1 (dNext d b[n]).2.2 :=
  (h.1.step h.2 (List.drop_eq_getElem_cons hn)).1
theorem At.byte {most n room left : Nat} {b o : List UInt8} (h : At most b n o (stB room (left + 1) false)) (hn : n < b.length) : At most b (n + 1) (o ++ [b[n]]) (stB room left false) := by
  have ht := h.cons hn
  have e : dNext (stB room (left + 1) false) b[n] = (0, [b[n]], stB room left false) := by
    unfold dNext
    rw [if_pos ⟨rfl, Nat.succ_pos _⟩]
    rfl
  rw [e] at ht
  exact ⟨ht, rfl⟩
theorem At.cr {most n room : Nat} {b o : List UInt8} (h : At most b n o (stB room 0 false)) (hn : n < b.length) :
    (b[n] = 13 → At most b (n + 1) o (stB room 0 true)) ∧ (b[n] ≠ 13 → Fin' most b o [] (n + 1) false 100) := by
  have ht := h.cons hn
  refine ⟨fun h1 => ?_, fun h1 => ?_⟩
  · have e : dNext (stB room 0 false) b[n] = (0, [], stB room 0 true) := by
      unfold dNext
      rw [if_neg (by simp [stB]), if_neg (by rw [h1]; simp [stB]), if_neg (by simp [stB]), if_pos h1]
      rfl
    rw [e, List.append_nil] at ht
    exact ⟨ht, rfl⟩
  · have e : dNext (stB room 0 false) b[n] = (100, [], stB room 0 false) := by
      unfold dNext
      rw [if_neg (by simp [stB])]
      by_cases h2 : b[n] = 10
      · rw [if_pos (by rw [h2]; simp [stB])]
      · rw [if_neg (by rw [decide_eq_false h2]; simp [stB]), if_neg (by simp [stB]), if_neg h1, if_pos (by unfold dMost; exact (if_pos (show (stB room 0 false).fn = fnBody from rfl)).symm)]
    rw [e, List.append_nil] at ht
    exact Fin'.dn ht (by decide) rfl
theorem At.lf {most n room : Nat} {b o : List UInt8} (h : At most b n o (stB room 0 true)) (hn : n < b.length) :
    (b[n] = 10 → At most b (n + 1) o (stS room)) ∧ (b[n] ≠ 10 → Fin' most b o [] (n + 1) false 100) := by
  have ht := h.cons hn
  refine ⟨fun h1 => ?_, fun h1 => ?_⟩
  · have e : dNext (stB room 0 true) b[n] = (0, [], stS room) := by
      unfold dNext
      rw [if_neg (by simp [stB]), if_neg (by rw [h1]; simp [stB]), if_pos (show (stB room 0 true).ending = true from rfl)]
      unfold dEnd
      rw [if_neg (fun e => fn_ne.1 e.symm)]
      rfl
    rw [e, List.append_nil] at ht
    exact ⟨ht, rfl⟩
  · have e : dNext (stB room 0 true) b[n] = (100, [], stB room 0 true) := by
      unfold dNext
      rw [if_neg (by simp [stB]), if_pos (by rw [decide_eq_false h1]; simp [stB])]
    rw [e, List.append_nil] at ht
    exact Fin'.dn ht (by decide) rfl
theorem At.trl {most n k room : Nat} {b o s : List UInt8} {l : List (ByteArray × ByteArray)} (h : At most b n o (stT room l)) (hR : lineR [] false (b.drop n) = some (k, some s)) :
    ((sS s).size = 0 → Fin' most b o l (n + k) true 0) ∧
    ((sS s).size ≠ 0 → (k3 58 (sS s) = false ∨ chkF (fldF (sS s)) ≠ 0 ∨ l.length = 100) → Fin' most b o [] (n + k) false 100) ∧
    ((sS s).size ≠ 0 → ¬ (k3 58 (sS s) = false ∨ chkF (fldF (sS s)) ≠ 0 ∨ l.length = 100) → At most b (n + k) o (stT room (l ++ [fldF (sS s)]))) := by
  have ht := h.line (fun e => fn_ne.2.2 e.symm) rfl rfl hR
  have e : dEnd (stT room l) (sS s) = dTrl (stT room l) (sS s) := by unfold dEnd; rw [if_neg (fun e => fn_ne.2.1 e.symm), if_neg (fun e => fn_ne.2.2 e.symm)]
  rw [e] at ht
  unfold dTrl at ht
  refine ⟨fun h1 => ?_, fun h1 h2 => ?_, fun h1 h2 => ?_⟩
  · rw [if_pos h1] at ht
    exact ⟨_, ht.done (.inl (.inr rfl)), rfl, rfl⟩
  · rw [if_neg h1, if_pos (by rcases h2 with h2 | h2 | h2; exact .inl h2; exact .inr (.inr h2); exact .inr (.inl h2))] at ht
    exact Fin'.dn ht (by decide) rfl
  · rw [if_neg h1, if_neg (fun h3 => h2 (by rcases h3 with h3 | h3 | h3; exact .inl h3; exact .inr (.inr h3); exact .inr (.inl h3)))] at ht
    exact ⟨ht, rfl⟩
end Go.Proofs.YtggeihahbgeneaaDoor
