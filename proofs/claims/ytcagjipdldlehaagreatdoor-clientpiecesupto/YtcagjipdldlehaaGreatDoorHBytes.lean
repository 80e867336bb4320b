/- Bytes in a row: what the parser makes of them. -/
import Derived.Test.YtcagjipdldlehaaGreatDoorHNext2
import Derived.Test.YtcagjipdldlehaaGreatDoorCPce
namespace Go.Proofs.YtcagjipdldlehaaGreatDoor
open Go.ChangeShapes Go.WideShapes Go.ChangeAt Go.RowKit

/-- A change of a parser that keeps what is always so. -/
structure Ok (p q : Pz) : Prop where
  fn : q.fn = p.fn ∨ q.fn = fnFld
  most : q.most = p.most
  read : q.read = p.read
  line : q.line = p.line
  passed : q.passed = p.passed ∨ q.passed ≤ 4
  fs : q.fs = p.fs ∨ q.fs.length ≤ 100
  wrong : q.wrong = p.wrong
theorem Ok.refl (p : Pz) : Ok p p := ⟨.inl rfl, rfl, rfl, rfl, .inl rfl, .inl rfl, rfl⟩
theorem ok_begun (p : Pz) (v : ByteArray) : Ok p (pBegun p v).2 := by
  unfold pBegun
  split
  · split
    · exact ⟨.inr rfl, rfl, rfl, rfl, .inl rfl, .inl rfl, rfl⟩
    · split
      · exact ⟨.inr rfl, rfl, rfl, rfl, .inl rfl, .inl rfl, rfl⟩
      · exact Ok.refl p
  · exact Ok.refl p
theorem ok_req (p : Pz) (s : ByteArray) : Ok p (pReq p s).2 := by
  unfold pReq
  split
  · rename_i h
    exact ⟨.inl rfl, rfl, rfl, rfl, .inr h.2, .inl rfl, rfl⟩
  · split
    · obtain ⟨a, b, c, d, e, f, g⟩ := ok_begun { p with me := k1 32 s, ta := k1 32 (k2 32 s) } (k2 32 (k2 32 s))
      exact ⟨a, b, c, d, e, f, g⟩
    · exact Ok.refl p
theorem ok_res (p : Pz) (s : ByteArray) : Ok p (pRes p s).2 := by
  unfold pRes
  split
  · obtain ⟨a, b, c, d, e, f, g⟩ := ok_begun { p with status := numV 10 (k1 32 (k2 32 s)).data.toList, re := k2 32 (k2 32 s) } (k1 32 s)
    exact ⟨a, b, c, d, e, f, g⟩
  · exact Ok.refl p
theorem ok_fld (p : Pz) (s : ByteArray) (hl : p.fs.length ≤ 100) : Ok p (pFld p s).2 := by
  unfold pFld
  repeat' split
  all_goals first
    | exact Ok.refl p
    | exact ⟨.inl rfl, rfl, rfl, rfl, .inl rfl, .inl rfl, rfl⟩
    | (refine ⟨.inl rfl, rfl, rfl, rfl, .inl rfl, .inr ?_, rfl⟩; rw [List.length_append]; simp only [List.length_singleton]; omega)
theorem ok_line (p : Pz) (s : ByteArray) (hl : p.fs.length ≤ 100) : Ok p (pLine p s).2 := by
  unfold pLine
  split
  · exact ok_req p s
  · split
    · exact ok_res p s
    · exact ok_fld p s hl
theorem Fit.ok {p q : Pz} (h : Fit p) (k : Ok p q) : Fit q := by
  refine ⟨?_, by rw [k.most]; exact h.most, by rw [k.most, k.read]; exact h.read, by rw [k.line]; exact h.line, ?_, ?_⟩
  · rcases k.fn with e | e
    · rw [e]; exact h.fn
    · exact .inr (.inr e)
  · rcases k.passed with e | e
    · rw [e]; exact h.passed
    · exact e
  · rcases k.fs with e | e
    · rw [e]; exact h.fs
    · exact e
theorem Fit.next {p : Pz} (h : Fit p) (c : UInt8) : Fit (pNext p c).2 := by
  have h1 := h.read
  unfold pNext
  split
  · exact h
  · split
    · exact h
    · rename_i hr
      split
      · exact ⟨h.fn, h.most, by show p.read + 1 ≤ p.most; omega, h.line, h.passed, h.fs⟩
      · split
        · exact Fit.ok (p := { p with read := p.read + 1, ending := false, line := [] }) ⟨h.fn, h.most, by show p.read + 1 ≤ p.most; omega, by show (0 : Nat) ≤ 8192; omega, h.passed, h.fs⟩ (ok_line _ _ h.fs)
        · split
          · exact ⟨h.fn, h.most, by show p.read + 1 ≤ p.most; omega, h.line, h.passed, h.fs⟩
          · rename_i hn
            refine ⟨h.fn, h.most, by show p.read + 1 ≤ p.most; omega, ?_, h.passed, h.fs⟩
            show (p.line ++ [c]).length ≤ 8192
            have := h.line
            rw [List.length_append, List.length_singleton]
            omega
theorem next_wrong (p : Pz) (c : UInt8) (hl : p.fs.length ≤ 100) : (pNext p c).2.wrong = p.wrong := by
  unfold pNext
  repeat' split
  all_goals first
    | rfl
    | exact (ok_line { p with read := p.read + 1, ending := false, line := [] } _ hl).wrong
/-- What bytes make of a parser: the error (0: none), how many bytes were read, the parser behind them. -/
def pBytes (p : Pz) : List UInt8 → Nat × Nat × Pz
  | [] => (0, 0, p)
  | c :: r => if (pNext p c).1 ≠ 0 then ((pNext p c).1, 1, (pNext p c).2) else if (pNext p c).2.whole then (0, 1, (pNext p c).2) else
    ((pBytes (pNext p c).2 r).1, (pBytes (pNext p c).2 r).2.1 + 1, (pBytes (pNext p c).2 r).2.2)
/-- A block apart from the parser and its two rows. -/
def Ap (g : Nat) (lv fv : Value) (k : Nat) : Prop := k ≠ g ∧ lv.ownBlock ≠ some k ∧ fv.ownBlock ≠ some k
theorem Ap.pk {w w' : World} {g : Nat} {lv fv lv' fv' : Value} (k : PKh w w' g lv fv lv' fv') {b : Nat} (h : Ap g lv fv b) (hb : b < w.heap.size) : Ap g lv' fv' b := ⟨h.1, k.la b hb h.2.1, k.fa b hb h.2.2⟩
theorem PKh.at {w w' : World} {g : Nat} {lv fv lv' fv' : Value} (k : PKh w w' g lv fv lv' fv') {b o : Nat} (h : Ap g lv fv b) (hb : b < w.heap.size) : w'.cell? ⟨b, o, none⟩ = w.cell? ⟨b, o, none⟩ := by
  unfold World.cell?
  rw [show (⟨b, o, none⟩ : Addr).block = b from rfl, k.block b hb h.1 h.2.1 h.2.2]
/-- What bytes hands back. -/
def byV (R : Nat × Nat × Pz) : Value := if R.1 = 0 then .tuple #[.int .i64 (R.2.1 : Int), .nilIface] else .tuple #[.int .i64 0, .iface 111 (.agg #[.int .i64 (R.2.1 : Int), .iface 24 (.int .i64 (R.1 : Int))])]
theorem PKh.bs {w w' : World} {base g : Nat} {lv fv lv' fv' : Value} {p : Pz} (hP : Par w base g lv fv p) (k : PKh w w' g lv fv lv' fv') {b o : Nat} (hb : b < base) (hw : b < w.heap.size) : w'.cell? ⟨b, o, none⟩ = w.cell? ⟨b, o, none⟩ := by
  have e : w'.heap[b]? = w.heap[b]? := k.block b hw (by have := hP.gb; omega) (fun e => by have := (hP.line.lt e).1; omega) (fun e => by have := (hP.flds.lt e).1; omega)
  unfold World.cell?
  rw [show (⟨b, o, none⟩ : Addr).block = b from rfl, e]
end Go.Proofs.YtcagjipdldlehaaGreatDoor
