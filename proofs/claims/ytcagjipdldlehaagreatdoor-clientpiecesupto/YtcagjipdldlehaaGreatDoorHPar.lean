/- A parser: its block, the rows of its line and of its fields, and what its lines make of it. -/
import Derived.Test.YtcagjipdldlehaaGreatDoorHVer
import Derived.Test.YtcagjipdldlehaaGreatDoorAppK
import Derived.Laws.EntriesVeiled
namespace Go.Proofs.YtcagjipdldlehaaGreatDoor
open Go.ChangeShapes Go.WideShapes Go.ChangeAt Go.RowKit

/-! ### The parser, as plain data -/
structure Pz where
  most : Nat
  read : Nat
  line : List UInt8
  ending : Bool
  passed : Nat
  fn : Nat
  req : Bool
  me : ByteArray
  ta : ByteArray
  minor : Nat
  status : Nat
  re : ByteArray
  fs : List (ByteArray × ByteArray)
  whole : Bool
  wrong : Nat
def fnReq : Nat := 45
def fnRes : Nat := 44
def fnFld : Nat := 84
def pBegun (p : Pz) (v : ByteArray) : Nat × Pz :=
  if verB v.data.toList then (if v.data.toList = ver11 then (0, { p with minor := 1, fn := fnFld }) else if v.data.toList = ver10 then (0, { p with fn := fnFld }) else (86, p)) else (80, p)
def pReq (p : Pz) (s : ByteArray) : Nat × Pz :=
  if s.size = 0 ∧ p.passed < 4 then (0, { p with passed := p.passed + 1 })
  else if tokenB (k1 32 s).data.toList && tgtB (k1 32 (k2 32 s)).data.toList then pBegun { p with me := k1 32 s, ta := k1 32 (k2 32 s) } (k2 32 (k2 32 s)) else (80, p)
def pRes (p : Pz) (s : ByteArray) : Nat × Pz :=
  if k3 32 (k2 32 s) && (statB (k1 32 (k2 32 s)).data.toList && (k2 32 (k2 32 s)).data.toList.all valc) then
    pBegun { p with status := numV 10 (k1 32 (k2 32 s)).data.toList, re := k2 32 (k2 32 s) } (k1 32 s) else (80, p)

/-! ### The parser in memory -/
def stVh (fn g : Nat) : Value := .func (.func fn) #[.pointer (some ⟨g, 0, none⟩)] #[]
def pcells (p : Pz) (g : Nat) (lv fv : Value) : Array Value :=
  #[.int .i64 (p.most : Int), .int .i64 (p.read : Int), lv, .bool p.ending, .int .i64 (p.passed : Int), stVh p.fn g, .bool p.req, .string p.me, .string p.ta, .int .i64 (p.minor : Int), .int .i64 (p.status : Int), .string p.re, fv, .bool p.whole, .int .i64 (p.wrong : Int)]
structure Par (w : World) (base g : Nat) (lv fv : Value) (p : Pz) : Prop where
  blk : w.heap[g]? = some (.cells (pcells p g lv fv) 92 (0, 0))
  line : Row w base 5 lv (bc p.line)
  flds : FRow w base fv p.fs
  gb : base ≤ g
  gl : lv.ownBlock ≠ some g
  gf : fv.ownBlock ≠ some g
  lf : ∀ k, lv.ownBlock = some k → fv.ownBlock ≠ some k
/-- What a call may have changed: the parser's block, its two rows; the rows lie where they lay, or in new blocks. -/
structure PKh (w w' : World) (g : Nat) (lv fv lv' fv' : Value) : Prop where
  os : w'.os = w.os
  tape : w'.tape = w.tape
  output : w'.output = w.output
  size : w.heap.size ≤ w'.heap.size
  block : ∀ k, k < w.heap.size → k ≠ g → lv.ownBlock ≠ some k → fv.ownBlock ≠ some k → w'.heap[k]? = w.heap[k]?
  la : ∀ k, k < w.heap.size → lv.ownBlock ≠ some k → lv'.ownBlock ≠ some k
  fa : ∀ k, k < w.heap.size → fv.ownBlock ≠ some k → fv'.ownBlock ≠ some k
theorem PKh.refl (w : World) (g : Nat) (lv fv : Value) : PKh w w g lv fv lv fv := ⟨rfl, rfl, rfl, Nat.le_refl _, fun _ _ _ _ _ => rfl, fun _ _ h => h, fun _ _ h => h⟩
theorem PKh.trans {a b c : World} {g : Nat} {l f l1 f1 l2 f2 : Value} (h : PKh a b g l f l1 f1) (k : PKh b c g l1 f1 l2 f2) : PKh a c g l f l2 f2 :=
  ⟨k.os.trans h.os, k.tape.trans h.tape, k.output.trans h.output, Nat.le_trans h.size k.size,
    fun i hi h1 h2 h3 => (k.block i (Nat.lt_of_lt_of_le hi h.size) h1 (h.la i hi h2) (h.fa i hi h3)).trans (h.block i hi h1 h2 h3),
    fun i hi h2 => k.la i (Nat.lt_of_lt_of_le hi h.size) (h.la i hi h2), fun i hi h2 => k.fa i (Nat.lt_of_lt_of_le hi h.size) (h.fa i hi h2)⟩
theorem PKh.of_below {w w' : World} (g : Nat) (lv fv : Value) (b : Below w.heap.size w w') : PKh w w' g lv fv lv fv :=
  ⟨b.os, b.tape, b.output, b.size, fun k hk _ _ _ => b.block k hk, fun _ _ h => h, fun _ _ h => h⟩
theorem PKh.set (w : World) (g i : Nat) (v lv fv : Value) : PKh w (w.setCell ⟨g, i, none⟩ v) g lv fv lv fv :=
  ⟨rfl, rfl, rfl, by simp, fun k _ hk _ _ => Below.heap_setCell w ⟨g, i, none⟩ v k hk, fun _ _ h => h, fun _ _ h => h⟩
theorem Par.lt {w : World} {base g : Nat} {lv fv : Value} {p : Pz} (h : Par w base g lv fv p) : g < w.heap.size := lt_heap h.blk
theorem Par.below {w w' : World} {base g : Nat} {lv fv : Value} {p : Pz} (h : Par w base g lv fv p) (b : Below w.heap.size w w') : Par w' base g lv fv p :=
  ⟨(b.block g h.lt).trans h.blk, h.line.below b, h.flds.below b, h.gb, h.gl, h.gf, h.lf⟩
theorem Par.set {w : World} {base g : Nat} {lv fv : Value} {p : Pz} (h : Par w base g lv fv p) (i : Nat) (v : Value) (p' : Pz) (hc : (pcells p g lv fv).setIfInBounds i v = pcells p' g lv fv) (hl : p'.line = p.line) (hf : p'.fs = p.fs) : Par (w.setCell ⟨g, i, none⟩ v) base g lv fv p' := by
  refine ⟨by rw [← hc]; exact hp_set h.blk i v, ?_, ?_, h.gb, h.gl, h.gf, h.lf⟩
  · rw [hl]
    exact h.line.frame fun k hk => Below.heap_setCell w ⟨g, i, none⟩ v k (fun e => h.gl (by rw [hk, e]))
  · rw [hf]
    exact h.flds.frame fun k hk => Below.heap_setCell w ⟨g, i, none⟩ v k (fun e => h.gf (by rw [hk, e]))
theorem Par.cell {w : World} {base g : Nat} {lv fv : Value} {p : Pz} (h : Par w base g lv fv p) (i : Nat) : w.cell? ⟨g, i, none⟩ = (pcells p g lv fv)[i]? := cell_at h.blk i
theorem Par.froz {w : World} {base g : Nat} {lv fv : Value} {p : Pz} (h : Par w base g lv fv p) (i : Nat) : w.frozen? ⟨g, i, none⟩ = false := by rw [frozen_at h.blk]; simp
/-- An error as the code tells it: none, or a number. -/
def errV (n : Nat) : Value := if n = 0 then .nilIface else .iface 24 (.int .i64 (n : Int))

set_option maxHeartbeats 2000000 in
theorem begun_any {w : World} {base g : Nat} {lv fv : Value} {p : Pz} (h : Par w base g lv fv p) (s : ByteArray) :
    Calls Tryz.prog 57 #[.pointer (some ⟨g, 0, none⟩), .string s] w fun e w' => e = .returned (errV (pBegun p s).1) ∧ Par w' base g lv fv (pBegun p s).2 ∧ PKh w w' g lv fv lv fv := by
  have HP := hide h
  have c5 := h.cell 5
  have c9 := h.cell 9
  have f5 := h.froz 5
  have f9 := h.froz 9
  clear h
  have HV := hide (fun W => isVersion_any s W)
  unfold pBegun
  cases hv : verB s.data.toList with
  | false =>
    rw [hv] at HV
    go_enter Tryz.func57, Tryz.ntmps57
    go_wp2_with (refine (HV.out _).mono ?_; rintro e w' ⟨rfl, rfl⟩)
    go_ret
    exact ⟨rfl, HP.out, PKh.refl _ _ _ _⟩
  | true =>
    rw [hv] at HV
    by_cases h1 : s.data.toList = ver11
    · have t1 : (s.toList == [72, 84, 84, 80, 47, 49, 46, 49]) = true := by rw [str_eq]; exact decide_eq_true h1
      rw [if_pos rfl, if_pos h1]
      clear h1 hv
      go_enter Tryz.func57, Tryz.ntmps57
      go_upto_region 4 with (go_at_call 83; refine (HV.out _).mono ?_; rintro e w' ⟨rfl, rfl⟩)
      go_upto_region 7 with fail
      have HQ := hide (HP.out.set 9 (.int .i64 1) { p with minor := 1 } rfl rfl rfl)
      have HK := hide (PKh.set w g 9 (.int .i64 1) lv fv)
      clear c5 c9 f5 f9
      generalize w.setCell ⟨g, 9, none⟩ (.int .i64 1) = w2 at HQ HK ⊢
      have c5 := HQ.out.cell 5
      have f5 := HQ.out.froz 5
      go_wp2_with fail
      go_ret
      exact ⟨rfl, HQ.out.set 5 (stVh fnFld g) { p with minor := 1, fn := fnFld } rfl rfl rfl, HK.out.trans (PKh.set _ _ _ _ _ _)⟩
    · have t1 : (s.toList == [72, 84, 84, 80, 47, 49, 46, 49]) = false := by rw [str_eq]; exact decide_eq_false h1
      rw [if_pos rfl, if_neg h1]
      clear h1 hv
      by_cases h2 : s.data.toList = ver10
      · have t2 : (s.toList == [72, 84, 84, 80, 47, 49, 46, 48]) = true := by rw [str_eq]; exact decide_eq_true h2
        rw [if_pos h2]
        clear h2
        go_enter Tryz.func57, Tryz.ntmps57
        go_wp2_with (refine (HV.out _).mono ?_; rintro e w' ⟨rfl, rfl⟩)
        go_ret
        exact ⟨rfl, HP.out.set 5 (stVh fnFld g) { p with fn := fnFld } rfl rfl rfl, PKh.set _ _ _ _ _ _⟩
      · have t2 : (s.toList == [72, 84, 84, 80, 47, 49, 46, 48]) = false := by rw [str_eq]; exact decide_eq_false h2
        rw [if_neg h2]
        clear h2
        go_enter Tryz.func57, Tryz.ntmps57
        go_wp2_with (refine (HV.out _).mono ?_; rintro e w' ⟨rfl, rfl⟩)
        go_ret
        exact ⟨rfl, HP.out, PKh.refl _ _ _ _⟩
end Go.Proofs.YtcagjipdldlehaaGreatDoor
