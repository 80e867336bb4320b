/- QC: HCut HIs CPar CTrl CPce CTake CRd. -/
import Derived.Test.YthciahpadninpaaDoorQB
import Derived.Deep.QuietTactic
import Derived.BigQuiet
import Derived.Handy
import Derived.Deep.Cut
import Derived.Test.YthciahpadninpaaDoorQA
import Derived.Deep.RegionLaw
import Derived.Laws.EntriesVeiled
import Derived.Maps.AppendAt
/- A text parted at its first byte of a kind: the document's way, the library's. -/
namespace Go.Proofs.YthciahpadninpaaDoor
open Go.ChangeShapes Go.WideShapes Go.ChangeAt Go.RowKit

theorem data_inj {a b : ByteArray} (h : a.data.toList = b.data.toList) : a = b := by
  cases a; cases b; simp only [ByteArray.mk.injEq]; exact Array.toList_inj.1 h
theorem str_eq (a : ByteArray) (l : List UInt8) : (a.toList == l) = decide (a.data.toList = l) := by rw [Lib.toList_data, beq_list]
def cu1 (c : UInt8) (l : List UInt8) : List UInt8 := l.takeWhile fun x => x != c
def cu2 (c : UInt8) (l : List UInt8) : List UInt8 := (l.dropWhile fun x => x != c).tail
def cu3 (c : UInt8) (l : List UInt8) : Bool := l.contains c
theorem cu_no {c : UInt8} : ∀ {l : List UInt8}, (∀ x ∈ l, x ≠ c) → cu1 c l = l ∧ cu2 c l = [] ∧ cu3 c l = false := by
  intro l h
  have h1 : ∀ x ∈ l, (x != c) = true := fun x hx => by simpa using h x hx
  have hd : ∀ {l : List UInt8}, (∀ x ∈ l, (x != c) = true) → l.takeWhile (fun x => x != c) = l ∧ l.dropWhile (fun x => x != c) = [] := by
    intro l
    induction l with
    | nil => intro _; exact ⟨rfl, rfl⟩
    | cons y r ih =>
      intro hh
      have hy := hh y List.mem_cons_self
      have hr := ih fun x hx => hh x (List.mem_cons_of_mem _ hx)
      rw [List.takeWhile_cons, List.dropWhile_cons, hy]
      simp only [if_true]
      exact ⟨by rw [hr.1], hr.2⟩
  refine ⟨(hd h1).1, ?_, ?_⟩
  · unfold cu2
    rw [(hd h1).2]
    rfl
  · unfold cu3
    rw [List.contains_eq_mem]
    exact decide_eq_false fun hm => h c hm rfl
theorem cu_yes {c : UInt8} {a b : List UInt8} (h : ∀ x ∈ a, x ≠ c) : cu1 c (a ++ c :: b) = a ∧ cu2 c (a ++ c :: b) = b ∧ cu3 c (a ++ c :: b) = true := by
  have h1 : ∀ x ∈ a, (x != c) = true := fun x hx => by simpa using h x hx
  refine ⟨?_, ?_, ?_⟩
  · unfold cu1
    rw [List.takeWhile_append_of_pos h1]
    simp
  · unfold cu2
    rw [List.dropWhile_append_of_pos h1]
    simp
  · unfold cu3
    simp
theorem cu_at {c : UInt8} {l : List UInt8} {k : Nat} (hk : k < l.length) (h : ∀ x ∈ l.take k, x ≠ c) (he : l[k] = c) : cu1 c l = l.take k ∧ cu2 c l = l.drop (k + 1) ∧ cu3 c l = true := by
  have e : l = l.take k ++ c :: l.drop (k + 1) := by rw [← he]; simp
  have := cu_yes (c := c) (a := l.take k) (b := l.drop (k + 1)) h
  rw [← e] at this
  exact this
/-- Every text has no byte of the kind, or parts at its first one. -/
theorem cu_form (c : UInt8) (l : List UInt8) : (∀ x ∈ l, x ≠ c) ∨ ∃ a b, l = a ++ c :: b ∧ ∀ x ∈ a, x ≠ c := by
  induction l with
  | nil => exact .inl fun x hx => by simp at hx
  | cons y r ih =>
    by_cases hy : y = c
    · exact .inr ⟨[], r, by rw [hy]; rfl, fun x hx => by simp at hx⟩
    · rcases ih with h | ⟨a, b, h1, h2⟩
      · exact .inl fun x hx => by
          rcases List.mem_cons.1 hx with rfl | hx
          · exact hy
          · exact h x hx
      · exact .inr ⟨y :: a, b, by rw [h1]; rfl, fun x hx => by
          rcases List.mem_cons.1 hx with rfl | hx
          · exact hy
          · exact h2 x hx⟩
def k1 (c : UInt8) (s : ByteArray) : ByteArray := sS (cu1 c s.data.toList)
def k2 (c : UInt8) (s : ByteArray) : ByteArray := sS (cu2 c s.data.toList)
def k3 (c : UInt8) (s : ByteArray) : Bool := cu3 c s.data.toList
theorem k1_size (c : UInt8) (s : ByteArray) : (k1 c s).size ≤ s.size := by
  unfold k1
  rw [sS_size, ← size_len]
  unfold cu1
  exact (List.takeWhile_sublist _).length_le
theorem k2_size (c : UInt8) (s : ByteArray) : (k2 c s).size ≤ s.size := by
  unfold k2
  rw [sS_size, ← size_len]
  unfold cu2
  have h := (List.dropWhile_sublist (fun x => x != c) (l := s.data.toList)).length_le
  rw [List.length_tail]
  omega
end Go.Proofs.YthciahpadninpaaDoor
/- The program's texts of a first line: the library's Cut, a target, a status, a reason. -/
namespace Go.Proofs.YthciahpadninpaaDoor
open Go.ChangeShapes Go.WideShapes Go.ChangeAt Go.RowKit

theorem idx_no {c : UInt8} : ∀ {l : List UInt8}, (∀ x ∈ l, x ≠ c) → Lib.index l [c] = -1
  | [], _ => rfl
  | y :: r, h => by
    have hy : y ≠ c := h y List.mem_cons_self
    have ih := idx_no (c := c) (l := r) fun x hx => h x (List.mem_cons_of_mem _ hx)
    unfold Lib.index
    rw [ih]
    simp [List.isPrefixOf, Ne.symm hy]
theorem idx_yes {c : UInt8} {b : List UInt8} : ∀ {a : List UInt8}, (∀ x ∈ a, x ≠ c) → Lib.index (a ++ c :: b) [c] = a.length
  | [], _ => by simp [Lib.index, List.isPrefixOf]
  | y :: r, h => by
    have hy : y ≠ c := h y List.mem_cons_self
    have ih := idx_yes (c := c) (b := b) (a := r) fun x hx => h x (List.mem_cons_of_mem _ hx)
    rw [List.cons_append]
    unfold Lib.index
    rw [ih, if_neg (by simp [List.isPrefixOf, Ne.symm hy]), if_neg (by simp only [beq_iff_eq]; omega), List.length_cons]
    omega
theorem cut_eq (c : UInt8) (l : List UInt8) : Lib.cut l [c] = (cu1 c l, cu2 c l, cu3 c l) := by
  unfold Lib.cut
  rcases cu_form c l with h | ⟨a, b, rfl, h⟩
  · rw [idx_no h, (cu_no h).1, (cu_no h).2.1, (cu_no h).2.2]
    rfl
  · rw [idx_yes h, (cu_yes h).1, (cu_yes h).2.1, (cu_yes h).2.2, if_pos (by omega)]
    simp
/-- The cell of bytealg.MaxLen holds a number. -/
def MX (w : World) : Prop := 1 < w.heap.size ∧ ∃ m : Int, w.cell? ⟨1, 0, none⟩ = some (.int .i64 m)
theorem MX.below {w w' : World} (h : MX w) (b : Below w.heap.size w w') : MX w' := by
  obtain ⟨h0, m, hm⟩ := h
  exact ⟨Nat.lt_of_lt_of_le h0 b.size, m, (b.cell (p := ⟨1, 0, none⟩) h0).trans hm⟩
theorem pcut_any (s : ByteArray) (c : UInt8) (w : World) (hs : s.size ≤ 65536) (hm : MX w) :
    Calls Tryd.prog 43 #[.string s, .string ⟨#[c]⟩] w fun e w' => e = .returned (.tuple #[.string (k1 c s), .string (k2 c s), .bool (k3 c s)]) ∧ Below w.heap.size w w' := by
  obtain ⟨_, m, hm⟩ := hm
  refine (Tryd.strings_Cut s ⟨#[c]⟩ m w (by omega) hm).mono ?_
  rintro e w' ⟨rfl, n, rfl⟩
  refine ⟨?_, below_drewN w n⟩
  rw [show (ByteArray.mk #[c]).data.toList = [c] from rfl, cut_eq]
  rfl

def tgc (c : UInt8) : Bool := decide (33 ≤ c.toNat) && decide (c.toNat ≤ 126)
def tgtB (l : List UInt8) : Bool := l.all tgc && !l.isEmpty
def statB (l : List UInt8) : Bool := decide (numE 10 l = 0) && (decide (l.length = 3) && (decide (100 ≤ numV 10 l) && decide (numV 10 l ≤ 599)))
theorem rsn_eq (l : List UInt8) : valueB (trimB l) = l.all valc := by
  unfold valueB
  rw [trimB_idem, decide_eq_true rfl, Bool.and_true, trimB_eq]
  have hb : ∀ c, blankc c = true → valc c = true := by
    intro c h
    unfold blankc at h
    unfold valc
    simp only [Bool.or_eq_true, decide_eq_true_eq] at h
    rcases h with h | h <;> simp [h]
  have hd : ∀ l : List UInt8, (l.dropWhile blankc).all valc = l.all valc := by
    intro l
    induction l with
    | nil => rfl
    | cons y r ih =>
      rw [List.dropWhile_cons]
      cases hy : blankc y with
      | true => rw [if_pos rfl, ih, List.all_cons, hb y hy, Bool.true_and]
      | false => rw [if_neg (by simp)]
  unfold ltrim rtrim
  rw [hd, List.all_reverse, hd, List.all_reverse]
end Go.Proofs.YthciahpadninpaaDoor
/- A decoder: its block, the rows of its line and of its trailers, and what lines make of it. -/
namespace Go.Proofs.YthciahpadninpaaDoor
open Go.ChangeShapes Go.WideShapes Go.ChangeAt Go.RowKit

/-! ### The decoder, as plain data -/
structure Dz where
  fn : Nat
  room : Nat
  left : Nat
  line : List UInt8
  ending : Bool
  tr : List (ByteArray × ByteArray)
  whole : Bool
  wrong : Nat
def fnSize : Nat := 20
def fnBody : Nat := 46
def fnTrl : Nat := 47
theorem fn_ne : fnSize ≠ fnBody ∧ fnSize ≠ fnTrl ∧ fnBody ≠ fnTrl := by decide
def fldF (s : ByteArray) : ByteArray × ByteArray := (k1 58 s, trimS (k2 58 s))
def dSized (d : Dz) (s : ByteArray) : Nat × Dz :=
  if numE 16 (k1 59 s).data.toList ≠ 0 ∨ (k2 59 s).data.toList.all valc = false then (100, d)
  else if d.room < numV 16 (k1 59 s).data.toList then (2, d)
  else (0, { d with room := d.room - numV 16 (k1 59 s).data.toList, left := numV 16 (k1 59 s).data.toList, fn := if numV 16 (k1 59 s).data.toList = 0 then fnTrl else fnBody })
def dTrl (d : Dz) (s : ByteArray) : Nat × Dz :=
  if s.size = 0 then (0, { d with whole := true })
  else if k3 58 s = false ∨ d.tr.length = 100 ∨ chkF (fldF s) ≠ 0 then (100, d)
  else (0, { d with tr := d.tr ++ [fldF s] })
def dRead (d : Dz) (_ : ByteArray) : Nat × Dz := (0, { d with fn := fnSize })

/-! ### The decoder in memory -/
def stV (fn g : Nat) : Value := .func (.func fn) #[.pointer (some ⟨g, 0, none⟩)] #[]
def dcells (d : Dz) (g : Nat) (lv tv : Value) : Array Value :=
  #[stV d.fn g, .int .i64 (d.room : Int), .int .i64 (d.left : Int), lv, .bool d.ending, tv, .bool d.whole, .int .i64 (d.wrong : Int)]
structure Dec (w : World) (base g : Nat) (lv tv : Value) (d : Dz) : Prop where
  blk : w.heap[g]? = some (.cells (dcells d g lv tv) 53 (0, 0))
  line : Row w base 5 lv (bc d.line)
  trs : FRow w base tv d.tr
  gb : base ≤ g
  gl : lv.ownBlock ≠ some g
  gf : tv.ownBlock ≠ some g
  lf : ∀ k, lv.ownBlock = some k → tv.ownBlock ≠ some k
/-- What a call may have changed: the decoder's block, its two rows; the rows lie where they lay, or in new blocks. -/
structure PK (w w' : World) (g : Nat) (lv fv lv' fv' : Value) : Prop where
  os : w'.os = w.os
  tape : w'.tape = w.tape
  output : w'.output = w.output
  size : w.heap.size ≤ w'.heap.size
  block : ∀ k, k < w.heap.size → k ≠ g → lv.ownBlock ≠ some k → fv.ownBlock ≠ some k → w'.heap[k]? = w.heap[k]?
  la : ∀ k, k < w.heap.size → lv.ownBlock ≠ some k → lv'.ownBlock ≠ some k
  fa : ∀ k, k < w.heap.size → fv.ownBlock ≠ some k → fv'.ownBlock ≠ some k
theorem PK.refl (w : World) (g : Nat) (lv fv : Value) : PK w w g lv fv lv fv := ⟨rfl, rfl, rfl, Nat.le_refl _, fun _ _ _ _ _ => rfl, fun _ _ h => h, fun _ _ h => h⟩
theorem PK.trans {a b c : World} {g : Nat} {l f l1 f1 l2 f2 : Value} (h : PK a b g l f l1 f1) (k : PK b c g l1 f1 l2 f2) : PK a c g l f l2 f2 :=
  ⟨k.os.trans h.os, k.tape.trans h.tape, k.output.trans h.output, Nat.le_trans h.size k.size,
    fun i hi h1 h2 h3 => (k.block i (Nat.lt_of_lt_of_le hi h.size) h1 (h.la i hi h2) (h.fa i hi h3)).trans (h.block i hi h1 h2 h3),
    fun i hi h2 => k.la i (Nat.lt_of_lt_of_le hi h.size) (h.la i hi h2), fun i hi h2 => k.fa i (Nat.lt_of_lt_of_le hi h.size) (h.fa i hi h2)⟩
theorem PK.of_below {w w' : World} (g : Nat) (lv fv : Value) (b : Below w.heap.size w w') : PK w w' g lv fv lv fv :=
  ⟨b.os, b.tape, b.output, b.size, fun k hk _ _ _ => b.block k hk, fun _ _ h => h, fun _ _ h => h⟩
theorem PK.set (w : World) (g i : Nat) (v lv fv : Value) : PK w (w.setCell ⟨g, i, none⟩ v) g lv fv lv fv :=
  ⟨rfl, rfl, rfl, by simp, fun k _ hk _ _ => Below.heap_setCell w ⟨g, i, none⟩ v k hk, fun _ _ h => h, fun _ _ h => h⟩
theorem Dec.lt {w : World} {base g : Nat} {lv fv : Value} {d : Dz} (h : Dec w base g lv fv d) : g < w.heap.size := lt_heap h.blk
theorem Dec.below {w w' : World} {base g : Nat} {lv fv : Value} {d : Dz} (h : Dec w base g lv fv d) (b : Below w.heap.size w w') : Dec w' base g lv fv d :=
  ⟨(b.block g h.lt).trans h.blk, h.line.below b, h.trs.below b, h.gb, h.gl, h.gf, h.lf⟩
theorem Dec.set {w : World} {base g : Nat} {lv fv : Value} {d : Dz} (h : Dec w base g lv fv d) (i : Nat) (v : Value) (d' : Dz) (hc : (dcells d g lv fv).setIfInBounds i v = dcells d' g lv fv) (hl : d'.line = d.line) (hf : d'.tr = d.tr) : Dec (w.setCell ⟨g, i, none⟩ v) base g lv fv d' := by
  refine ⟨by rw [← hc]; exact hp_set h.blk i v, ?_, ?_, h.gb, h.gl, h.gf, h.lf⟩
  · rw [hl]
    exact h.line.frame fun k hk => Below.heap_setCell w ⟨g, i, none⟩ v k (fun e => h.gl (by rw [hk, e]))
  · rw [hf]
    exact h.trs.frame fun k hk => Below.heap_setCell w ⟨g, i, none⟩ v k (fun e => h.gf (by rw [hk, e]))
theorem Dec.cell {w : World} {base g : Nat} {lv fv : Value} {d : Dz} (h : Dec w base g lv fv d) (i : Nat) : w.cell? ⟨g, i, none⟩ = (dcells d g lv fv)[i]? := cell_at h.blk i
theorem Dec.froz {w : World} {base g : Nat} {lv fv : Value} {d : Dz} (h : Dec w base g lv fv d) (i : Nat) : w.frozen? ⟨g, i, none⟩ = false := by rw [frozen_at h.blk]; simp
/-- The decoder elsewhere untouched: another block may change. -/
theorem Dec.frame {w w' : World} {base g : Nat} {lv fv : Value} {d : Dz} (h : Dec w base g lv fv d) (hb : ∀ k, (k = g ∨ lv.ownBlock = some k ∨ fv.ownBlock = some k) → w'.heap[k]? = w.heap[k]?) : Dec w' base g lv fv d :=
  ⟨(hb g (.inl rfl)).trans h.blk, h.line.frame fun k hk => hb k (.inr (.inl hk)), h.trs.frame fun k hk => hb k (.inr (.inr hk)), h.gb, h.gl, h.gf, h.lf⟩

/-! ### Rows that grow -/
theorem append_fld_k (W : World) (base : Nat) (ty : TypeId) (v : Value) (A : List (ByteArray × ByteArray)) (f : ByteArray × ByteArray) (hown : FRow W base v A) (hn : A.length ≤ 1099511627776) (hbase : base ≤ W.heap.size) :
    ∃ v' W', (Builtin.append_ #[30, 30] ty #[v, .slice (some ⟨W.heap.size, 0, none⟩) 1 1]).run Tryd.prog (W.alloc (.cells #[.string f.1, .string f.2] 46)) = .ok v' W' ∧ FRow W' base v' (A ++ [f]) ∧ Below base W W' ∧ Kept W W' v v' := by
  obtain ⟨i, hi, hz, hs1, hb1⟩ := infoF
  have ho : FRow (W.alloc (.cells #[.string f.1, .string f.2] 46)) base v A := hown.frame fun g hg => Below.heap_alloc W _ g (hown.lt hg).2
  have hsz : (W.alloc (.cells #[.string f.1, .string f.2] 46)).heap.size = W.heap.size + 1 := by show (W.heap.push _).size = _; simp
  obtain ⟨v', W', hr, h1, hg, _, hloc⟩ := run_append_own_at (w := W.alloc (.cells #[.string f.1, .string f.2] 46)) base 30 ty 46 i _ 2 32 Tryd.underlying30 hi hz hs1 hb1 rfl (by omega) v A.length (fcs A) ho ⟨W.heap.size, 0, none⟩ 1 1 (fc f) rfl (two_cells W f) (by intro u hu; simp [fc] at hu; rcases hu with rfl | rfl <;> rfl) (by unfold maxLen; omega) (by omega) (by simp; omega)
  refine ⟨v', W', hr, ?_, ?_, ?_⟩
  · unfold FRow
    rw [List.length_append, fcs_snoc]
    exact h1
  · exact ((Below.refl base W).alloc hbase _).grown hg (by simp; omega) (fun k hk => (hown.lt hk).1)
  · have hs2 := hg.size
    refine ⟨by rw [hsz] at hs2; omega, fun g h2 h3 => ?_, fun g h2 h3 h4 => ?_⟩
    · rw [hg.block g (by rw [hsz]; omega) (fun h => h3 h.symm)]
      exact Below.heap_alloc W _ g h2
    · rcases hloc with h5 | h5
      · exact h3 (h5.symm.trans h4)
      · rw [h5, hsz] at h4
        simp only [Option.some.injEq] at h4
        omega
theorem Dec.grow_f {w W : World} {base g : Nat} {lv fv v' : Value} {d : Dz} {fs : List (ByteArray × ByteArray)} (h : Dec w base g lv fv d) (hk : Kept w W fv v') (hR : FRow W base v' fs) :
    W.heap[g]? = some (.cells (dcells d g lv fv) 53 (0, 0)) ∧ Dec (W.setCell ⟨g, 5, none⟩ v') base g lv v' { d with tr := fs } := by
  have hb : W.heap[g]? = some (.cells (dcells d g lv fv) 53 (0, 0)) := (hk.block g h.lt h.gf).trans h.blk
  have hg' : v'.ownBlock ≠ some g := hk.apart g h.lt h.gf
  refine ⟨hb, ⟨hp_set hb 5 v', ?_, ?_, h.gb, h.gl, hg', ?_⟩⟩
  · refine h.line.frame fun k e => ?_
    have hl := (h.line.lt e).2
    rw [Below.heap_setCell W ⟨g, 5, none⟩ v' k (fun e2 => h.gl (by rw [e, e2]))]
    exact hk.block k hl (h.lf k e)
  · exact hR.frame fun k e => Below.heap_setCell W ⟨g, 5, none⟩ v' k (fun e2 => hg' (by rw [e, e2]))
  · intro k e
    exact hk.apart k (h.line.lt e).2 (h.lf k e)
theorem Dec.app_f {w : World} {base g : Nat} {lv fv : Value} {d : Dz} (h : Dec w base g lv fv d) (ty : TypeId) (f : ByteArray × ByteArray) (hn : d.tr.length ≤ 100) :
    ∃ ad n c W', (Builtin.append_ #[30, 30] ty #[fv, .slice (some ⟨w.heap.size, 0, none⟩) 1 1]).run Tryd.prog (w.alloc (.cells #[.string f.1, .string f.2] 46)) = .ok (.slice ad n c) W' ∧
      W'.cell? ⟨g, 5, none⟩ = some fv ∧ W'.frozen? ⟨g, 5, none⟩ = false ∧ Dec (W'.setCell ⟨g, 5, none⟩ (.slice ad n c)) base g lv (.slice ad n c) { d with tr := d.tr ++ [f] } ∧ PK w (W'.setCell ⟨g, 5, none⟩ (.slice ad n c)) g lv fv lv (.slice ad n c) := by
  obtain ⟨v', W', hr, hR, hB, hK⟩ := append_fld_k w base ty fv d.tr f h.trs (by omega) (Nat.le_of_lt (Nat.lt_of_le_of_lt h.gb h.lt))
  obtain ⟨ad, c, rfl, _, _⟩ := hR.shape
  obtain ⟨hb, hP⟩ := h.grow_f hK hR
  refine ⟨ad, _, c, W', hr, cell_at hb 5, by rw [frozen_at hb]; simp, hP, ?_⟩
  have hs := PK.set W' g 5 (.slice ad (d.tr ++ [f]).length c) lv fv
  exact ⟨hs.os.trans hB.os, hs.tape.trans hB.tape, hs.output.trans hB.output, Nat.le_trans hK.size hs.size, fun k hk h1 h2 h3 => (Below.heap_setCell W' ⟨g, 5, none⟩ _ k h1).trans (hK.block k hk h3), fun _ _ e => e, fun k hk e => hK.apart k hk e⟩
theorem Dec.grow_l {w W : World} {base g : Nat} {lv fv v' : Value} {d : Dz} {l : List UInt8} (h : Dec w base g lv fv d) (hk : Kept w W lv v') (hR : Row W base 5 v' (bc l)) :
    W.heap[g]? = some (.cells (dcells d g lv fv) 53 (0, 0)) ∧ Dec (W.setCell ⟨g, 3, none⟩ v') base g v' fv { d with line := l } := by
  have hb : W.heap[g]? = some (.cells (dcells d g lv fv) 53 (0, 0)) := (hk.block g h.lt h.gl).trans h.blk
  have hg' : v'.ownBlock ≠ some g := hk.apart g h.lt h.gl
  have hfl : ∀ k, fv.ownBlock = some k → lv.ownBlock ≠ some k := fun k e e2 => h.lf k e2 e
  refine ⟨hb, ⟨hp_set hb 3 v', ?_, ?_, h.gb, hg', h.gf, ?_⟩⟩
  · exact hR.frame fun k e => Below.heap_setCell W ⟨g, 3, none⟩ v' k (fun e2 => hg' (by rw [e, e2]))
  · refine h.trs.frame fun k e => ?_
    have hl := (h.trs.lt e).2
    rw [Below.heap_setCell W ⟨g, 3, none⟩ v' k (fun e2 => h.gf (by rw [e, e2]))]
    exact hk.block k hl (hfl k e)
  · intro k e e2
    exact hk.apart k (h.trs.lt e2).2 (hfl k e2) e
theorem Dec.app_l {w : World} {base g : Nat} {lv fv : Value} {d : Dz} (h : Dec w base g lv fv d) (ty : TypeId) (x : UInt8) (hn : d.line.length ≤ 65536) :
    ∃ ad n c W', (Builtin.append_ #[29, 29] ty #[lv, .slice (some ⟨w.heap.size, 0, none⟩) 1 1]).run Tryd.prog (w.alloc (.cells #[.int .u8 (x.toNat : Int)] 5)) = .ok (.slice ad n c) W' ∧
      W'.cell? ⟨g, 3, none⟩ = some lv ∧ W'.frozen? ⟨g, 3, none⟩ = false ∧ Dec (W'.setCell ⟨g, 3, none⟩ (.slice ad n c)) base g (.slice ad n c) fv { d with line := d.line ++ [x] } ∧ PK w (W'.setCell ⟨g, 3, none⟩ (.slice ad n c)) g lv fv (.slice ad n c) fv := by
  have hlen : (bc d.line).length = d.line.length := by simp [bc]
  obtain ⟨v', W', hr, hR, hB, hK⟩ := append_one_k elB w base ty lv (bc d.line) (.int .u8 (x.toNat : Int)) h.line rfl (by rw [hlen]; omega) (by rw [hlen]; omega) (Nat.le_of_lt (Nat.lt_of_le_of_lt h.gb h.lt))
  rw [show bc d.line ++ [.int .u8 (x.toNat : Int)] = bc (d.line ++ [x]) by simp [bc]] at hR
  obtain ⟨ad, c, rfl, _, _⟩ := hR.shape
  obtain ⟨hb, hP⟩ := h.grow_l hK hR
  refine ⟨ad, _, c, W', hr, cell_at hb 3, by rw [frozen_at hb]; simp, hP, ?_⟩
  have hs := PK.set W' g 3 (.slice ad (bc (d.line ++ [x])).length c) lv fv
  exact ⟨hs.os.trans hB.os, hs.tape.trans hB.tape, hs.output.trans hB.output, Nat.le_trans hK.size hs.size, fun k hk h1 h2 h3 => (Below.heap_setCell W' ⟨g, 3, none⟩ _ k h1).trans (hK.block k hk h2), fun k hk e => hK.apart k hk e, fun _ _ e => e⟩
/-- A row of which nothing is left. -/
theorem Row.cut0 {W : World} {base : Nat} {e : TypeId} {a : Option Addr} {n c : Nat} {xs : List Value} (h : Row W base e (.slice a n c) xs) : Row W base e (.slice a 0 c) [] := by
  refine ⟨rfl, ?_⟩
  rcases h.2 with ⟨h1, h0⟩ | ⟨g, cap, cur, hv, h1, hg, hc, hmx, hs, ht⟩
  · simp only [Value.slice.injEq] at h1
    obtain ⟨rfl, rfl, rfl⟩ := h1
    exact .inl ⟨rfl, rfl⟩
  · simp only [Value.slice.injEq] at hv
    obtain ⟨rfl, rfl, rfl⟩ := hv
    exact .inr ⟨g, _, cur, rfl, h1, hg, Nat.zero_le _, hmx, hs, by simp⟩

/-! ### What lines make of it -/
theorem flds_one (w : World) (a b : ByteArray) : Flds (w.alloc (.cells #[.string a, .string b] 46)) (.slice (some ⟨w.heap.size, 0, none⟩) 1 1) [(a, b)] := by
  refine ⟨some ⟨w.heap.size, 0, none⟩, 1, rfl, ⟨Nat.le_refl _, by simp⟩, fun j hj => ?_⟩
  have hj0 : j = 0 := by simp at hj; exact hj
  subst hj0
  exact ⟨w.heap.size, 0, rfl, by show _ < (w.heap.push _).size; simp, cell_at (hp_new w _) 0, cell_at (hp_new w _) 1⟩
theorem chk_one (f : ByteArray × ByteArray) : chkL [f] = chkF f := by
  unfold chkL chkA
  by_cases h : chkF f = 0
  · simp [h]
  · simp [h]
theorem ext_any (s : ByteArray) (w : World) (hs : s.size ≤ 281474976710656) :
    Calls Tryd.prog 45 #[.string s] w fun e w' => e = .returned (.bool (s.data.toList.all valc)) ∧ Below w.heap.size w w' := by
  have HT := hide (trim_any s w hs)
  have HV := hide (fun W => value_any (trimS s) W (by have := trim_size s; unfold maxLen; omega))
  have e1 : valueB (trimS s).data.toList = s.data.toList.all valc := by
    rw [← rsn_eq, show (trimS s).data.toList = trimB s.data.toList by simp [trimS]]
  rw [e1] at HV
  clear e1
  generalize s.data.toList.all valc = r at HV ⊢
  generalize trimS s = t at HT HV
  go_enter Tryd.func45, Tryd.ntmps45
  go_wp2_with fail
  refine HT.out.mono ?_
  rintro e w1 ⟨rfl, b1⟩
  go_wp2_with fail
  refine (HV.out _).mono ?_
  rintro e w2 ⟨rfl, b2⟩
  go_wp2
  go_ret
  exact ⟨rfl, by first | exact b1.trans (b2.mono b1.size) | (subst b2; exact b1)⟩
theorem chunkRead_any {w : World} {base g : Nat} {lv fv : Value} {d : Dz} (h : Dec w base g lv fv d) (s : ByteArray) :
    Calls Tryd.prog 59 #[.pointer (some ⟨g, 0, none⟩), .string s] w fun e w' => e = .returned (.int .i64 ((dRead d s).1 : Int)) ∧ ∃ fv', Dec w' base g lv fv' (dRead d s).2 ∧ PK w w' g lv fv lv fv' := by
  have HP := hide h
  have c0 := h.cell 0
  have f0 := h.froz 0
  clear h
  go_enter Tryd.func59, Tryd.ntmps59
  go_wp2_with fail
  go_ret
  exact ⟨rfl, _, HP.out.set 0 (stV fnSize g) { d with fn := fnSize } rfl rfl rfl, PK.set _ _ _ _ _ _⟩
set_option maxHeartbeats 4000000 in
theorem sized_any {w : World} {base g : Nat} {lv fv : Value} {d : Dz} (h : Dec w base g lv fv d) (hm : MX w) (s : ByteArray) (hs : s.size ≤ 8192) (hr : d.room ≤ 9007199254740992) :
    Calls Tryd.prog 33 #[.pointer (some ⟨g, 0, none⟩), .string s] w fun e w' => e = .returned (.int .i64 ((dSized d s).1 : Int)) ∧ ∃ fv', Dec w' base g lv fv' (dSized d s).2 ∧ PK w w' g lv fv lv fv' := by
  have HP := hide h
  have HC := hide (pcut_any s 59 w (by omega) hm)
  have z1 : (k1 59 s).size ≤ 8192 := by have := k1_size 59 s; omega
  have z2 : (k2 59 s).size ≤ 8192 := by have := k2_size 59 s; omega
  have HH := hide (fun W => Hex_any (k1 59 s) W (by unfold maxLen; omega))
  have HX := hide (fun W => ext_any (k2 59 s) W (by omega))
  have hnt : numV 16 (k1 59 s).data.toList ≤ 9007199254740992 := by
    unfold numV
    split
    · omega
    · rename_i hh
      rw [not_or, not_or] at hh
      have := hh.2.2
      unfold top at this
      omega
  clear h hm
  generalize hR0 : dSized d s = R
  unfold dSized at hR0
  generalize numV 16 (k1 59 s).data.toList = n at HH hR0 hnt
  generalize numE 16 (k1 59 s).data.toList = ne at HH hR0
  generalize (k2 59 s).data.toList.all valc = ex at HX hR0
  generalize k1 59 s = na at HC HH z1
  generalize k2 59 s = tx at HC HX z2
  generalize k3 59 s = o1 at HC
  have HR := hide hR0
  clear hR0
  go_enter Tryd.func33, Tryd.ntmps33
  go_upto_region 3 with (first | (go_at_call 43; refine HC.out.mono ?_; rintro e w1 ⟨rfl, b1⟩) | (go_at_call 44; refine (HH.out _).mono ?_; rintro e w' ⟨rfl, rfl⟩))
  have HP1 := hide (HP.out.below b1)
  have HK1 := hide (PK.of_below g lv fv b1)
  clear b1 HP
  by_cases h1 : ne = 0
  · have t1 : ((ne : Int) != 0) = false := by rw [bne_eq_false_iff_eq]; omega
    cases ex with
    | false =>
      have e := HR.out
      rw [if_pos (.inr rfl)] at e
      have HE := hide e
      clear e HR h1
      go_wp2_with (go_at_call 45; refine (HX.out _).mono ?_; rintro e w2 ⟨rfl, b2⟩)
      go_ret
      exact ⟨by rw [← HE.out]; rfl, _, by rw [← HE.out]; exact HP1.out.below b2, HK1.out.trans (PK.of_below _ _ _ b2)⟩
    | true =>
      have e := HR.out
      rw [if_neg (by simp [h1])] at e
      have HE := hide e
      clear e HR h1
      go_upto_region 5 with (go_at_call 45; refine (HX.out _).mono ?_; rintro e w2 ⟨rfl, b2⟩)
      have HP2 := hide (HP1.out.below b2)
      have HK2 := hide (HK1.out.trans (PK.of_below g lv fv b2))
      clear b2 HP1 HK1
      have c1 := HP2.out.cell 1
      rw [show (dcells d g lv fv)[1]? = some (.int .i64 (d.room : Int)) from rfl] at c1
      by_cases h2 : d.room < n
      · have t2 : (d.room : Int) < (n : Int) := by omega
        have e := HE.out
        rw [if_pos h2] at e
        have HF := hide e
        clear e HE h2
        go_wp2_with fail
        go_ret
        exact ⟨by rw [← HF.out]; rfl, _, by rw [← HF.out]; exact HP2.out, HK2.out⟩
      · have t2 : ¬ (d.room : Int) < (n : Int) := by omega
        have e := HE.out
        rw [if_neg h2] at e
        have HF := hide e
        have f1 := HP2.out.froz 1
        have i1 : (d.room : Int) - (n : Int) = ((d.room - n : Nat) : Int) := by omega
        have i2 : ((d.room - n : Nat) : Int) ≤ 9007199254740992 := by omega
        clear e HE
        go_upto_region 8 with fail
        have HP3 := hide (HP2.out.set 1 (.int .i64 ((d.room - n : Nat) : Int)) { d with room := d.room - n } rfl rfl rfl)
        have HK3 := hide (HK2.out.trans (PK.set w2 g 1 (.int .i64 ((d.room - n : Nat) : Int)) lv fv))
        clear c1 f1 i1 t2 h2
        generalize w2.setCell ⟨g, 1, none⟩ (.int .i64 ((d.room - n : Nat) : Int)) = w3 at HP3 HK3 ⊢
        have c2 := HP3.out.cell 2
        have f2 := HP3.out.froz 2
        go_upto_region 9 with fail
        have HP4 := hide (HP3.out.set 2 (.int .i64 (n : Int)) { d with room := d.room - n, left := n } rfl rfl rfl)
        have HK4 := hide (HK3.out.trans (PK.set w3 g 2 (.int .i64 (n : Int)) lv fv))
        clear c2 f2
        generalize w3.setCell ⟨g, 2, none⟩ (.int .i64 (n : Int)) = w4 at HP4 HK4 ⊢
        have c0 := HP4.out.cell 0
        have f0 := HP4.out.froz 0
        go_upto_region 10 with fail
        have HP5 := hide (HP4.out.set 0 (stV fnBody g) { d with room := d.room - n, left := n, fn := fnBody } rfl rfl rfl)
        have HK5 := hide (HK4.out.trans (PK.set w4 g 0 (stV fnBody g) lv fv))
        clear c0 f0
        have e5 : w4.setCell ⟨g, 0, none⟩ (.func (.func 46) #[.pointer (some ⟨g, 0, none⟩)] #[]) = w4.setCell ⟨g, 0, none⟩ (stV fnBody g) := rfl
        rw [e5]
        clear e5
        generalize w4.setCell ⟨g, 0, none⟩ (stV fnBody g) = w5 at HP5 HK5 ⊢
        by_cases h3 : n = 0
        · have t3 : ((n : Int) == 0) = true := by rw [h3]; rfl
          have c0 := HP5.out.cell 0
          have f0 := HP5.out.froz 0
          have e := HF.out
          rw [if_pos h3] at e
          have HG := hide e
          clear e HF h3
          go_wp2_with fail
          go_ret
          exact ⟨by rw [← HG.out]; rfl, _, by rw [← HG.out]; exact HP5.out.set 0 (stV fnTrl g) _ rfl rfl rfl, HK5.out.trans (PK.set _ _ _ _ _ _)⟩
        · have t3 : ((n : Int) == 0) = false := by rw [beq_eq_false_iff_ne]; omega
          have e := HF.out
          rw [if_neg h3] at e
          have HG := hide e
          clear e HF h3
          go_wp2_with fail
          go_ret
          exact ⟨by rw [← HG.out]; rfl, _, by rw [← HG.out]; exact HP5.out, HK5.out⟩
  · have t1 : ((ne : Int) != 0) = true := by rw [bne_iff_ne]; omega
    have e := HR.out
    rw [if_pos (.inl h1)] at e
    have HE := hide e
    clear e HR h1
    go_wp2_with fail
    go_ret
    exact ⟨by rw [← HE.out]; rfl, _, by rw [← HE.out]; exact HP1.out, HK1.out⟩
end Go.Proofs.YthciahpadninpaaDoor
/- A decoder: a trailer's line. -/
namespace Go.Proofs.YthciahpadninpaaDoor
open Go.ChangeShapes Go.WideShapes Go.ChangeAt Go.RowKit

theorem emp_t {s : ByteArray} (h : s.size = 0) : s.toList.isEmpty = true := by rw [Lib.toList_data, isEmpty_size]; exact decide_eq_true h
theorem emp_f {s : ByteArray} (h : s.size ≠ 0) : s.toList.isEmpty = false := by rw [Lib.toList_data, isEmpty_size]; exact decide_eq_false h
set_option maxHeartbeats 4000000 in
theorem trailer_any {w : World} {base g : Nat} {lv fv : Value} {d : Dz} (h : Dec w base g lv fv d) (hm : MX w) (s : ByteArray) (hs : s.size ≤ 8192) (hl : d.tr.length ≤ 100) :
    Calls Tryd.prog 60 #[.pointer (some ⟨g, 0, none⟩), .string s] w fun e w' => e = .returned (.int .i64 ((dTrl d s).1 : Int)) ∧ ∃ fv', Dec w' base g lv fv' (dTrl d s).2 ∧ PK w w' g lv fv lv fv' := by
  obtain ⟨fa, fc, rfl, _, _⟩ := h.trs.shape
  have HP := hide h
  have HM := hide hm
  clear h hm
  unfold dTrl
  by_cases h0 : s.size = 0
  · have t0 := emp_t h0
    rw [if_pos h0]
    clear h0
    have c6 := HP.out.cell 6
    have f6 := HP.out.froz 6
    go_enter Tryd.func60, Tryd.ntmps60
    go_wp2_with fail
    go_ret
    exact ⟨rfl, _, HP.out.set 6 (.bool true) { d with whole := true } rfl rfl rfl, PK.set _ _ _ _ _ _⟩
  · rw [if_neg h0]
    have t0 := emp_f h0
    clear h0
    have HC := hide (pcut_any s 58 w (by omega) HM.out)
    have z1 : (k1 58 s).size ≤ 8192 := by have := k1_size 58 s; omega
    have z2 : (k2 58 s).size ≤ 8192 := by have := k2_size 58 s; omega
    have HCL := hide (fun W => clone_any (k1 58 s) W (by omega))
    have HT := hide (fun W => trim_any (k2 58 s) W (by omega))
    have z3 : (trimS (k2 58 s)).size ≤ 8192 := by have := trim_size (k2 58 s); omega
    have HK := hide (fun (W : World) (v : Value) (hF : Flds W v [(k1 58 s, trimS (k2 58 s))]) => Check_any W v _ hF ⟨by simp, fun f hf => by
      rw [List.mem_singleton.1 hf]
      exact ⟨Nat.le_trans z1 (by omega), Nat.le_trans z3 (by omega)⟩⟩)
    simp only [chk_one] at HK
    unfold fldF
    generalize trimS (k2 58 s) = va at HT HK z3 ⊢
    generalize k1 58 s = na at HC HCL HK z1 ⊢
    generalize k2 58 s = tx at HC HT z2
    generalize k3 58 s = o1 at HC ⊢
    generalize chkF (na, va) = ck at HK ⊢
    generalize hR0 : (if o1 = false ∨ d.tr.length = 100 ∨ ck ≠ 0 then ((100 : Nat), d) else (0, { d with tr := d.tr ++ [(na, va)] })) = R
    have HX := hide hR0
    clear hR0
    go_enter Tryd.func60, Tryd.ntmps60
    go_upto_region 5 with (go_at_call 43; refine HC.out.mono ?_; rintro e w1 ⟨rfl, b1⟩)
    have HP1 := hide (HP.out.below b1)
    have HK1 := hide (PK.of_below g lv (.slice fa d.tr.length fc) b1)
    clear b1 HP
    go_wp2_with fail
    refine (HCL.out w1).mono ?_
    rintro e w2 ⟨rfl, b2⟩
    have HP2 := hide (HP1.out.below b2)
    have HK2 := hide (HK1.out.trans (PK.of_below g lv (.slice fa d.tr.length fc) b2))
    clear b2 HP1 HK1
    go_wp2_with fail
    refine (HT.out w2).mono ?_
    rintro e w3 ⟨rfl, b3⟩
    have HP3 := hide (HP2.out.below b3)
    have HK3 := hide (HK2.out.trans (PK.of_below g lv (.slice fa d.tr.length fc) b3))
    clear b3 HP2 HK2
    go_upto_region 6 with fail
    have HB4 := hide ((Below.refl w3.heap.size w3).alloc (Nat.le_refl _) (.cells #[.string na, .string va] 46))
    have HD := hide (hp_new w3 (.cells #[.string na, .string va] 46))
    have HP4 := hide (HP3.out.below HB4.out)
    have HK4 := hide (HK3.out.trans (PK.of_below g lv (.slice fa d.tr.length fc) HB4.out))
    clear HB4 HP3 HK3
    generalize w3.alloc (.cells #[.string na, .string va] 46) = x at HD HP4 HK4 ⊢
    generalize w3.heap.size = bf at HD ⊢
    have c5 := HP4.out.cell 5
    rw [show (dcells d g lv (.slice fa d.tr.length fc))[5]? = some (.slice fa d.tr.length fc) from rfl] at c5
    have d0 : x.cell? ⟨bf, 0, none⟩ = some (.string na) := cell_at HD.out 0
    have d1 : x.cell? ⟨bf, 1, none⟩ = some (.string va) := cell_at HD.out 1
    cases o1 with
    | false =>
      go_wp2_with fail
      go_ret
      exact ⟨by rw [← HX.out]; rfl, _, by rw [← HX.out]; exact HP4.out, HK4.out⟩
    | true =>
      by_cases h4 : d.tr.length = 100
      · have t4 : ((d.tr.length : Int) == 100) = true := by simp [h4]
        have HX4 : Hid ((100, d) = R) := by (have e := HX.out; rw [if_pos (.inr (.inl h4))] at e; exact hide e)
        clear h4
        go_wp2_with fail
        go_ret
        exact ⟨by rw [← HX4.out]; rfl, _, by rw [← HX4.out]; exact HP4.out, HK4.out⟩
      · have t4 : ((d.tr.length : Int) == 100) = false := by simp; omega
        have HCK := hide (HK.out _ _ (flds_one x na va))
        have HBX := hide ((Below.refl x.heap.size x).alloc (Nat.le_refl _) (.cells #[.string na, .string va] 46))
        by_cases h3 : ck = 0
        · have HX4 : Hid ((0, { d with tr := d.tr ++ [(na, va)] }) = R) := by (have e := HX.out; rw [if_neg (by simp [h3, h4])] at e; exact hide e)
          subst h3
          clear h4 HX
          go_wp2_with fail
          refine HCK.out.mono ?_
          rintro e w5 ⟨rfl, b5⟩
          have HB5 := hide (HBX.out.trans (b5.mono HBX.out.size))
          have HD5 := hide ((HB5.out.block _ (lt_heap HD.out)).trans HD.out)
          have HP5 := hide (HP4.out.below HB5.out)
          have HK5 := hide (HK4.out.trans (PK.of_below g lv (.slice fa d.tr.length fc) HB5.out))
          clear b5 HB5 HBX d0 d1 HCK HD c5
          go_upto_region 8 with fail
          have c5 := HP5.out.cell 5
          have f5 := HP5.out.froz 5
          rw [show (dcells d g lv (.slice fa d.tr.length fc))[5]? = some (.slice fa d.tr.length fc) from rfl] at c5
          have d0 : w5.cell? ⟨bf, 0, none⟩ = some (.string na) := cell_at HD5.out 0
          have d1 : w5.cell? ⟨bf, 1, none⟩ = some (.string va) := cell_at HD5.out 1
          have BD := hide ((Below.refl w5.heap.size w5).drew)
          have HK6 := hide (HK5.out.trans (PK.of_below g lv (.slice fa d.tr.length fc) BD.out))
          obtain ⟨ad, n, c, W, hrun, q1, q2, hP, hK⟩ := (HP5.out.below BD.out).app_f 30 (na, va) hl
          have cA := ((HP5.out.below ((Below.refl w5.heap.size w5).alloc (Nat.le_refl _) (.cells #[.string na, .string va] 46))).cell 5)
          rw [show (dcells d g lv (.slice fa d.tr.length fc))[5]? = some (.slice fa d.tr.length fc) from rfl] at cA
          have HPW := hide hP
          have HKW := hide (HK6.out.trans hK)
          clear hP hK
          go_region_law (refine step_append_is rfl (.tmp 45) (.tmp 47) 30 rfl (.slice fa d.tr.length fc) (.slice (some ⟨w5.heap.size, 0, none⟩) 1 1) (.slice ad n c) (by simp [Act.eval]) (by simp [Act.eval]) hrun ?_)
          all_goals (go_wp2_with fail)
          all_goals go_ret
          all_goals exact ⟨by rw [← HX4.out]; rfl, _, by rw [← HX4.out]; exact HPW.out, HKW.out⟩
        · have t3 : ((ck : Int) != 0) = true := by rw [bne_iff_ne]; omega
          have HX3 : Hid ((100, d) = R) := by (have e := HX.out; rw [if_pos (.inr (.inr h3))] at e; exact hide e)
          clear h3 HX h4
          go_wp2_with fail
          refine HCK.out.mono ?_
          rintro e w5 ⟨rfl, b5⟩
          have HB5 := hide (HBX.out.trans (b5.mono HBX.out.size))
          clear b5
          go_wp2_with fail
          go_ret
          exact ⟨by rw [← HX3.out]; rfl, _, by rw [← HX3.out]; exact HP4.out.below HB5.out, HK4.out.trans (PK.of_below _ _ _ HB5.out)⟩
end Go.Proofs.YthciahpadninpaaDoor
/- What is fed at one time: its block, what is not read of it, the body's bytes that were read of it. -/
namespace Go.Proofs.YthciahpadninpaaDoor
open Go.ChangeShapes Go.WideShapes Go.ChangeAt Go.RowKit

/-- A slice that reads as bytes; they lie ahead of base. -/
def Bs (w : World) (base : Nat) (v : Value) (l : List UInt8) : Prop := ∃ (a : Option Addr) (c : Nat), v = .slice a l.length c ∧ l.length ≤ c ∧ ∀ j (h : j < l.length), ∃ g o, a = some ⟨g, o, none⟩ ∧ g < base ∧ g < w.heap.size ∧ w.cell? ⟨g, o + j, none⟩ = some (.int .u8 (l[j].toNat : Int))
theorem Bs.below {w w' : World} {base base' : Nat} {v : Value} {l : List UInt8} (h : Bs w base v l) (hb : base ≤ base') (b : Below w.heap.size w w') : Bs w' base' v l := by
  obtain ⟨a, c, rfl, hc, hx⟩ := h
  refine ⟨a, c, rfl, hc, fun j hj => ?_⟩
  obtain ⟨g, o, h1, h2, h3, h4⟩ := hx j hj
  exact ⟨g, o, h1, Nat.lt_of_lt_of_le h2 hb, Nat.lt_of_lt_of_le h3 b.size, (b.cell (p := ⟨g, o + j, none⟩) h3).trans h4⟩
theorem Bs.keep {w w' : World} {base : Nat} {v : Value} {l : List UInt8} (h : Bs w base v l) (hs : w.heap.size ≤ w'.heap.size) (b : ∀ k, k < base → k < w.heap.size → w'.heap[k]? = w.heap[k]?) : Bs w' base v l := by
  obtain ⟨a, c, rfl, hc, hx⟩ := h
  refine ⟨a, c, rfl, hc, fun j hj => ?_⟩
  obtain ⟨g, o, h1, h2, h3, h4⟩ := hx j hj
  refine ⟨g, o, h1, h2, Nat.lt_of_lt_of_le h3 hs, ?_⟩
  rw [← h4]
  unfold World.cell?
  rw [show (⟨g, o + j, none⟩ : Addr).block = g from rfl, b g h2 h3]
/-- A slice that is nil or has an address. -/
def Shp (v : Value) : Prop := v = .slice none 0 0 ∨ ∃ a n c, v = .slice (some a) n c
/-- A slice that reads as bytes, in blocks of a kind. -/
def Bf (w : World) (A : Nat → Prop) (v : Value) (l : List UInt8) : Prop := ∃ (a : Option Addr) (c : Nat), v = .slice a l.length c ∧ l.length ≤ c ∧ ∀ j (h : j < l.length), ∃ g o, a = some ⟨g, o, none⟩ ∧ A g ∧ g < w.heap.size ∧ w.cell? ⟨g, o + j, none⟩ = some (.int .u8 (l[j].toNat : Int))
theorem Bf.below {w w' : World} {A : Nat → Prop} {v : Value} {l : List UInt8} (h : Bf w A v l) (b : Below w.heap.size w w') : Bf w' A v l := by
  obtain ⟨a, c, rfl, hc, hx⟩ := h
  refine ⟨a, c, rfl, hc, fun j hj => ?_⟩
  obtain ⟨g, o, h1, h2, h3, h4⟩ := hx j hj
  exact ⟨g, o, h1, h2, Nat.lt_of_lt_of_le h3 b.size, (b.cell (p := ⟨g, o + j, none⟩) h3).trans h4⟩
theorem Bf.keep {w w' : World} {A : Nat → Prop} {v : Value} {l : List UInt8} (h : Bf w A v l) (hs : w.heap.size ≤ w'.heap.size) (b : ∀ k, A k → k < w.heap.size → w'.heap[k]? = w.heap[k]?) : Bf w' A v l := by
  obtain ⟨a, c, rfl, hc, hx⟩ := h
  refine ⟨a, c, rfl, hc, fun j hj => ?_⟩
  obtain ⟨g, o, h1, h2, h3, h4⟩ := hx j hj
  refine ⟨g, o, h1, h2, Nat.lt_of_lt_of_le h3 hs, ?_⟩
  rw [← h4]
  unfold World.cell?
  rw [show (⟨g, o + j, none⟩ : Addr).block = g from rfl, b g h2 h3]
theorem Bf.bs {w : World} {A : Nat → Prop} {v : Value} {l : List UInt8} (h : Bf w A v l) : Bs w w.heap.size v l := by
  obtain ⟨a, c, rfl, hc, hx⟩ := h
  refine ⟨a, c, rfl, hc, fun j hj => ?_⟩
  obtain ⟨g, o, h1, h2, h3, h4⟩ := hx j hj
  exact ⟨g, o, h1, h3, h3, h4⟩
structure Pce (w : World) (base : Nat) (A : Nat → Prop) (h : Nat) (rv bv : Value) (rest body : List UInt8) : Prop where
  blk : w.heap[h]? = some (.cells #[rv, bv] 59 (0, 0))
  rest : Bf w A rv rest
  shp : Shp rv
  body : Row w base 5 bv (bc body)
  hb : base ≤ h
  bh : bv.ownBlock ≠ some h
  hA : ¬ A h
  bA : ∀ k, bv.ownBlock = some k → ¬ A k
  AL : ∀ k, A k → k < w.heap.size
theorem Pce.lt {w : World} {base h : Nat} {A : Nat → Prop} {rv bv : Value} {rest body : List UInt8} (p : Pce w base A h rv bv rest body) : h < w.heap.size := lt_heap p.blk
theorem Pce.cell {w : World} {base h : Nat} {A : Nat → Prop} {rv bv : Value} {rest body : List UInt8} (p : Pce w base A h rv bv rest body) (i : Nat) : w.cell? ⟨h, i, none⟩ = (#[rv, bv] : Array Value)[i]? := cell_at p.blk i
theorem Pce.froz {w : World} {base h : Nat} {A : Nat → Prop} {rv bv : Value} {rest body : List UInt8} (p : Pce w base A h rv bv rest body) (i : Nat) : w.frozen? ⟨h, i, none⟩ = false := by rw [frozen_at p.blk]; simp
theorem Pce.below {w w' : World} {base h : Nat} {A : Nat → Prop} {rv bv : Value} {rest body : List UInt8} (p : Pce w base A h rv bv rest body) (b : Below w.heap.size w w') : Pce w' base A h rv bv rest body :=
  ⟨(b.block h p.lt).trans p.blk, p.rest.below b, p.shp, p.body.below b, p.hb, p.bh, p.hA, p.bA, fun k hk => Nat.lt_of_lt_of_le (p.AL k hk) b.size⟩
/-- The rest is another one. -/
theorem Pce.turn {w : World} {base h : Nat} {A : Nat → Prop} {rv bv : Value} {rest body : List UInt8} (p : Pce w base A h rv bv rest body) {rv' : Value} {rest' : List UInt8} (hr : Bf w A rv' rest') (hs : Shp rv') : Pce (w.setCell ⟨h, 0, none⟩ rv') base A h rv' bv rest' body := by
  refine ⟨hp_set p.blk 0 rv', hr.keep (by simp) (fun k hk _ => Below.heap_setCell w ⟨h, 0, none⟩ rv' k (fun e => p.hA (by rw [← show k = h from e]; exact hk))), hs, ?_, p.hb, p.bh, p.hA, p.bA, fun k hk => by simpa using p.AL k hk⟩
  exact p.body.frame fun k hk => Below.heap_setCell w ⟨h, 0, none⟩ rv' k (fun e => p.bh (by rw [hk, e]))
/-- What a call that reads on may have changed: the piece's block, and the row of its body. -/
structure QK (w w' : World) (h : Nat) (bv bv' : Value) : Prop where
  os : w'.os = w.os
  tape : w'.tape = w.tape
  output : w'.output = w.output
  size : w.heap.size ≤ w'.heap.size
  block : ∀ k, k < w.heap.size → k ≠ h → bv.ownBlock ≠ some k → w'.heap[k]? = w.heap[k]?
  ba : ∀ k, k < w.heap.size → bv.ownBlock ≠ some k → bv'.ownBlock ≠ some k
theorem QK.refl (w : World) (h : Nat) (bv : Value) : QK w w h bv bv := ⟨rfl, rfl, rfl, Nat.le_refl _, fun _ _ _ _ => rfl, fun _ _ h => h⟩
theorem QK.trans {a b c : World} {h : Nat} {u v x : Value} (p : QK a b h u v) (q : QK b c h v x) : QK a c h u x :=
  ⟨q.os.trans p.os, q.tape.trans p.tape, q.output.trans p.output, Nat.le_trans p.size q.size, fun k hk h1 h2 => (q.block k (Nat.lt_of_lt_of_le hk p.size) h1 (p.ba k hk h2)).trans (p.block k hk h1 h2), fun k hk h2 => q.ba k (Nat.lt_of_lt_of_le hk p.size) (p.ba k hk h2)⟩
theorem QK.set (w : World) (h i : Nat) (v bv : Value) : QK w (w.setCell ⟨h, i, none⟩ v) h bv bv :=
  ⟨rfl, rfl, rfl, by simp, fun k _ hk _ => Below.heap_setCell w ⟨h, i, none⟩ v k hk, fun _ _ h => h⟩
theorem QK.of_below {w w' : World} (h : Nat) (bv : Value) (b : Below w.heap.size w w') : QK w w' h bv bv :=
  ⟨b.os, b.tape, b.output, b.size, fun k hk _ _ => b.block k hk, fun _ _ h => h⟩
theorem Bf.tail {w : World} {A : Nat → Prop} {g o : Nat} {c : Nat} {x : UInt8} {l : List UInt8} (h : Bf w A (.slice (some ⟨g, o, none⟩) (l.length + 1) c) (x :: l)) : Bf w A (.slice (some ⟨g, o + 1, none⟩) l.length (c - 1)) l := by
  obtain ⟨a, c', he, hc, hx⟩ := h
  simp only [Value.slice.injEq, List.length_cons] at he hc
  obtain ⟨rfl, _, rfl⟩ := he
  refine ⟨_, c - 1, rfl, by omega, fun j hj => ?_⟩
  obtain ⟨g', o', h1, h2, h3, h4⟩ := hx (j + 1) (by simp; omega)
  simp only [Option.some.injEq, Addr.mk.injEq] at h1
  obtain ⟨rfl, rfl, _⟩ := h1
  refine ⟨g, o + 1, rfl, h2, h3, ?_⟩
  rw [show o + 1 + j = o + (j + 1) by omega, h4]
  simp
set_option maxHeartbeats 2000000 in
theorem next_any {w : World} {base h : Nat} {A : Nat → Prop} {rv bv : Value} {x : UInt8} {rest body : List UInt8} (p : Pce w base A h rv bv (x :: rest) body) (hl : rest.length ≤ 140737488355328) :
    Calls Tryd.prog 42 #[.pointer (some ⟨h, 0, none⟩)] w fun e w' => e = .returned (.int .u8 (x.toNat : Int)) ∧ ∃ rv', Pce w' base A h rv' bv rest body ∧ QK w w' h bv bv := by
  have HP := hide p
  obtain ⟨a, c, rfl, hc, hx⟩ := p.rest
  obtain ⟨g, o, rfl, hg1, hg2, hx0⟩ := hx 0 (by simp)
  have HR := hide p.rest
  simp only [List.length_cons] at hc
  have hlen : (x :: rest).length = rest.length + 1 := rfl
  rw [hlen] at HP HR
  have c0 : w.cell? ⟨h, 0, none⟩ = some (.slice (some ⟨g, o, none⟩) (rest.length + 1) c) := HP.out.cell 0
  have f0 := HP.out.froz 0
  have r0 : w.cell? ⟨g, o, none⟩ = some (.int .u8 (x.toNat : Int)) := hx0
  clear p hx hx0 hlen
  by_cases h1 : c = 1
  · subst h1
    have hr0 : rest = [] := List.eq_nil_of_length_eq_zero (by omega)
    subst hr0
    go_enter Tryd.func42, Tryd.ntmps42
    go_wp2
    go_ret
    exact ⟨rfl, _, HP.out.turn ⟨_, 0, rfl, Nat.le_refl _, fun j hj => by simp at hj⟩ (.inr ⟨_, _, _, rfl⟩), QK.set _ _ _ _ _⟩
  · go_enter Tryd.func42, Tryd.ntmps42
    go_wp2
    go_ret
    exact ⟨rfl, _, HP.out.turn HR.out.tail (.inr ⟨_, _, _, rfl⟩), QK.set _ _ _ _ _⟩
end Go.Proofs.YthciahpadninpaaDoor
/- Bytes of the body, taken at once. -/
namespace Go.Proofs.YthciahpadninpaaDoor
open Go.ChangeShapes Go.WideShapes Go.ChangeAt Go.RowKit

theorem infoB : ∃ i, Tryd.prog.info? 5 = some i ∧ i.zero = some (.int .u8 0) ∧ i.size = 1 ∧ i.bytes = 1 := elB.i
/-- An append of bytes that came in, beside other rows. -/
theorem append_bs_k (W : World) (base nb : Nat) (ty : TypeId) (v u : Value) (O l : List UInt8) (hown : Row W base 5 v (bc O)) (hB : Bs W nb u l) (hS : Shp u) (hn : O.length + l.length ≤ 140737488355328) (hbase : base ≤ W.heap.size) :
    ∃ v' W', (Builtin.append_ #[29, 29] ty #[v, u]).run Tryd.prog W = .ok v' W' ∧ Row W' base 5 v' (bc (O ++ l)) ∧ Below base W W' ∧ Kept W W' v v' := by
  obtain ⟨i, hi, hz, hs1, hb1⟩ := infoB
  obtain ⟨a, c, rfl, hc, hcell⟩ := hB
  unfold Row at hown
  rw [bc_len] at hown
  rcases hS with he | ⟨ad, m, c', he⟩
  · simp only [Value.slice.injEq] at he
    obtain ⟨rfl, hl0, rfl⟩ := he
    have e : l = [] := List.eq_nil_of_length_eq_zero hl0
    subst e
    refine ⟨v, W, run_append_owned_none W base 29 ty 5 i 1 Tryd.underlying29 hi v _ _ hown, ?_, Below.refl _ _, Kept.refl _ _⟩
    unfold Row
    rw [List.append_nil, bc_len]
    exact hown
  · simp only [Value.slice.injEq] at he
    obtain ⟨rfl, _, _⟩ := he
    obtain ⟨v', W', hr, h1, hg, _, hloc⟩ := run_append_own_at (w := W) base 29 ty 5 i _ 1 1 Tryd.underlying29 hi hz hs1 hb1 rfl (by omega) v O.length (bc O) hown ad l.length c (bc l) (by rw [bc_len]; omega) (by
      intro j u hj
      have hjl : j < l.length := by
        rw [← bc_len]
        exact (List.getElem?_eq_some_iff.1 hj).1
      obtain ⟨b, off, e, _, _, x1⟩ := hcell j hjl
      simp only [Option.some.injEq] at e
      subst e
      have e2 : (⟨b, off, none⟩ : Addr).add j = ⟨b, off + j, none⟩ := by unfold Addr.add; split <;> simp_all
      rw [e2, x1, ← hj]
      simp [bc, hjl]) (by
      intro u hu
      unfold bc at hu
      obtain ⟨x, _, rfl⟩ := List.mem_map.1 hu
      rfl) (by unfold maxLen; omega) (by omega) hbase
    refine ⟨v', W', hr, ?_, (Below.refl base W).grown hg hbase (fun k hk => (World.ownsRow.lt hown k hk).1), ?_⟩
    · unfold Row
      rw [bc_len, List.length_append, show bc (O ++ l) = bc O ++ bc l by simp [bc]]
      exact h1
    · refine ⟨hg.size, fun g h2 h3 => hg.block g h2 (fun h => h3 h.symm), fun g h2 h3 h4 => ?_⟩
      rcases hloc with h5 | h5
      · exact h3 (h5.symm.trans h4)
      · rw [h5] at h4
        simp only [Option.some.injEq] at h4
        omega
theorem Bf.take {w : World} {A : Nat → Prop} {a : Option Addr} {m c : Nat} {l : List UInt8} (h : Bf w A (.slice a m c) l) (k : Nat) (hk : k ≤ l.length) : Bf w A (.slice a k c) (l.take k) := by
  obtain ⟨a', c', he, hc, hx⟩ := h
  simp only [Value.slice.injEq] at he
  obtain ⟨rfl, _, rfl⟩ := he
  have hl : (l.take k).length = k := by simp; omega
  refine ⟨a, c, by rw [hl], by rw [hl]; omega, fun j hj => ?_⟩
  obtain ⟨g, o, h1, h2, h3, h4⟩ := hx j (by omega)
  exact ⟨g, o, h1, h2, h3, by rw [h4]; simp⟩
theorem Bf.drop {w : World} {A : Nat → Prop} {g o : Nat} {m c : Nat} {l : List UInt8} (h : Bf w A (.slice (some ⟨g, o, none⟩) m c) l) (k : Nat) (hk : k ≤ l.length) : Bf w A (.slice (some ⟨g, o + k, none⟩) (l.length - k) (c - k)) (l.drop k) := by
  obtain ⟨a', c', he, hc, hx⟩ := h
  simp only [Value.slice.injEq] at he
  obtain ⟨rfl, _, rfl⟩ := he
  have hl : (l.drop k).length = l.length - k := by simp
  refine ⟨_, c - k, by rw [hl], by rw [hl]; omega, fun j hj => ?_⟩
  obtain ⟨g', o', h1, h2, h3, h4⟩ := hx (k + j) (by omega)
  simp only [Option.some.injEq, Addr.mk.injEq] at h1
  obtain ⟨rfl, rfl, _⟩ := h1
  refine ⟨g, o + k, rfl, h2, h3, ?_⟩
  rw [show o + k + j = o + (k + j) by omega, h4]
  simp
theorem Pce.grow {w W : World} {base h : Nat} {A : Nat → Prop} {rv bv bv' : Value} {rest body body' : List UInt8} (p : Pce w base A h rv bv rest body) (hB : Below base w W) (hk : Kept w W bv bv') (hR : Row W base 5 bv' (bc body')) :
    W.heap[h]? = some (.cells #[rv, bv] 59 (0, 0)) ∧ Pce (W.setCell ⟨h, 1, none⟩ bv') base A h rv bv' rest body' ∧ QK w (W.setCell ⟨h, 1, none⟩ bv') h bv bv' := by
  have hbl : W.heap[h]? = some (.cells #[rv, bv] 59 (0, 0)) := (hk.block h p.lt p.bh).trans p.blk
  have hb' : bv'.ownBlock ≠ some h := hk.apart h p.lt p.bh
  refine ⟨hbl, ⟨hp_set hbl 1 bv', ?_, p.shp, ?_, p.hb, hb', p.hA, fun k e hA => hk.apart k (p.AL k hA) (fun e2 => p.bA k e2 hA) e, fun k hA => Nat.lt_of_lt_of_le (p.AL k hA) (by simpa using hk.size)⟩, ⟨hB.os, hB.tape, hB.output, by simpa using hk.size, fun k hk2 h1 h2 => (Below.heap_setCell W ⟨h, 1, none⟩ bv' k h1).trans (hk.block k hk2 h2), fun k hk2 h2 => hk.apart k hk2 h2⟩⟩
  · refine p.rest.keep (by simpa using hk.size) (fun k h1 h2 => ?_)
    rw [Below.heap_setCell W ⟨h, 1, none⟩ bv' k (fun e => p.hA (by rw [← show k = h from e]; exact h1))]
    exact hk.block k h2 (fun e => p.bA k e h1)
  · exact hR.frame fun k e => Below.heap_setCell W ⟨h, 1, none⟩ bv' k (fun e2 => hb' (by rw [e, e2]))
set_option maxHeartbeats 4000000 in
theorem take_any {w : World} {base h : Nat} {A : Nat → Prop} {rv bv : Value} {rest body : List UInt8} (p : Pce w base A h rv bv rest body) (hb : base ≤ w.heap.size) (n : Nat) (h0 : rest ≠ []) (hl : rest.length + body.length ≤ 140737488355328) (hn : n ≤ 9007199254740992) :
    Calls Tryd.prog 58 #[.pointer (some ⟨h, 0, none⟩), .int .i64 (n : Int)] w fun e w' => e = .returned (.int .i64 ((min n rest.length : Nat) : Int)) ∧ ∃ rv' bv', Pce w' base A h rv' bv' (rest.drop (min n rest.length)) (body ++ rest.take (min n rest.length)) ∧ QK w w' h bv bv' := by
  have HP := hide p
  have HB := hide hb
  obtain ⟨a, c, rfl, hc, hx⟩ := p.rest
  obtain ⟨g, o, rfl, hg1, hg2, hx0⟩ := hx 0 (List.length_pos_iff.2 h0)
  have HRT := hide p.rest
  obtain ⟨ba, bc2, rfl, _, _⟩ := p.body.shape
  rw [bc_len] at HP
  clear p hx hx0 hb
  obtain ⟨k, hkd⟩ : ∃ k, min n rest.length = k := ⟨_, rfl⟩
  have hk1 : k ≤ rest.length := by omega
  have hmin : (min (n : Int) (rest.length : Int)) = (k : Int) := by omega
  have hkn : n < rest.length ∧ k = n ∨ rest.length ≤ n ∧ k = rest.length := by omega
  rw [hkd]
  have c0 : w.cell? ⟨h, 0, none⟩ = some (.slice (some ⟨g, o, none⟩) rest.length c) := HP.out.cell 0
  have hkc : k ≤ c := by omega
  have BD := hide ((Below.refl w.heap.size w).drew)
  have HPD := hide (HP.out.below BD.out)
  obtain ⟨v', W, hrun, hR, hB, hK⟩ := append_bs_k w.drew base w.drew.heap.size 29 (.slice ba body.length bc2) (.slice (some ⟨g, o, none⟩) k c) body (rest.take k) HPD.out.body ((HRT.out.take k hk1).below BD.out).bs (.inr ⟨_, _, _, rfl⟩) (by rw [List.length_take]; omega) HB.out
  obtain ⟨na, nc, rfl, _, _⟩ := hR.shape
  obtain ⟨hbl, hP2, hQ2⟩ := HPD.out.grow hB hK hR
  have HP2 := hide hP2
  have HQ2 := hide ((QK.of_below h (.slice ba body.length bc2) BD.out).trans hQ2)
  have c1 : w.cell? ⟨h, 1, none⟩ = some (.slice ba body.length bc2) := HP.out.cell 1
  have f1 := HP.out.froz 1
  have d1 : W.cell? ⟨h, 1, none⟩ = some (.slice ba body.length bc2) := cell_at hbl 1
  have g1 : W.frozen? ⟨h, 1, none⟩ = false := by rw [frozen_at hbl]; simp
  have HRUN := hide hrun
  clear hP2 hQ2 hB hK hR hkd
  obtain ⟨nl, hnl⟩ : ∃ nl, (bc (body ++ rest.take k)).length = nl := ⟨_, rfl⟩
  rw [hnl] at hrun HP2 HQ2 HRUN
  clear hnl
  rw [bc_len]
  rcases hkn with ⟨hlt, rfl⟩ | ⟨hge, rfl⟩
  · clear hrun
    go_enter Tryd.func58, Tryd.ntmps58
    go_upto_region 2 with fail
    have hrun := HRUN.out
    go_region_law (refine step_append_is rfl (.tmp 16) (.tmp 22) 29 rfl (.slice ba body.length bc2) (.slice (some ⟨g, o, none⟩) k c) (.slice na nl nc) rfl rfl hrun ?_)
    all_goals (clear hrun HRUN c0 c1 f1 d1 g1 hbl)
    all_goals (generalize W.setCell ⟨h, 1, none⟩ (.slice na nl nc) = w2 at HP2 HQ2 ⊢)
    all_goals (have c0 : w2.cell? ⟨h, 0, none⟩ = some (.slice (some ⟨g, o, none⟩) rest.length c) := HP2.out.cell 0)
    all_goals (have f0 := HP2.out.froz 0)
    all_goals (have hcc : ¬ c = k := by omega)
    all_goals (go_wp2_with fail)
    all_goals go_ret
    all_goals exact ⟨rfl, _, _, HP2.out.turn (HP2.out.rest.drop k (by omega)) (.inr ⟨_, _, _, rfl⟩), HQ2.out.trans (QK.set _ _ _ _ _)⟩
  · clear hrun
    go_enter Tryd.func58, Tryd.ntmps58
    go_upto_region 2 with fail
    have hrun := HRUN.out
    go_region_law (refine step_append_is rfl (.tmp 16) (.tmp 22) 29 rfl (.slice ba body.length bc2) (.slice (some ⟨g, o, none⟩) rest.length c) (.slice na nl nc) rfl rfl hrun ?_)
    all_goals (clear hrun HRUN c0 c1 f1 d1 g1 hbl)
    all_goals (generalize W.setCell ⟨h, 1, none⟩ (.slice na nl nc) = w2 at HP2 HQ2 ⊢)
    all_goals (have c0 : w2.cell? ⟨h, 0, none⟩ = some (.slice (some ⟨g, o, none⟩) rest.length c) := HP2.out.cell 0)
    all_goals (have f0 := HP2.out.froz 0)
    all_goals (
      by_cases hcc : c = rest.length
      · subst hcc
        go_wp2_with fail
        go_ret
        exact ⟨rfl, _, _, HP2.out.turn ⟨some ⟨g, o, none⟩, 0, by simp, by simp, fun j hj => by simp at hj⟩ (.inr ⟨_, _, _, rfl⟩), HQ2.out.trans (QK.set _ _ _ _ _)⟩
      · go_wp2_with fail
        go_ret
        exact ⟨rfl, _, _, HP2.out.turn (by have h := HP2.out.rest.drop rest.length (Nat.le_refl _); rw [Nat.sub_self] at h; exact h) (.inr ⟨_, _, _, rfl⟩), HQ2.out.trans (QK.set _ _ _ _ _)⟩)
end Go.Proofs.YthciahpadninpaaDoor
/- A decoder and what is fed to it: what a byte makes of them; both in memory. -/
namespace Go.Proofs.YthciahpadninpaaDoor
open Go.ChangeShapes Go.WideShapes Go.ChangeAt Go.RowKit

/-! ### What bytes make of a decoder -/
def dEnd (d : Dz) (s : ByteArray) : Nat × Dz := if d.fn = fnSize then dSized d s else if d.fn = fnBody then dRead d s else dTrl d s
def dMost (d : Dz) : Nat := if d.fn = fnBody then 0 else 8192
def dNext (d : Dz) (c : UInt8) : Nat × List UInt8 × Dz :=
  if d.fn = fnBody ∧ 0 < d.left then (0, [c], { d with left := d.left - 1 })
  else if d.ending ≠ decide (c = 10) then (100, [], d)
  else if d.ending = true then ((dEnd { d with line := [], ending := false } (sS d.line)).1, [], (dEnd { d with line := [], ending := false } (sS d.line)).2)
  else if c = 13 then (0, [], { d with ending := true })
  else if d.line.length = dMost d then (100, [], d)
  else (0, [], { d with line := d.line ++ [c] })
def dBytes (d : Dz) : List UInt8 → Nat × Nat × List UInt8 × Dz
  | [] => (0, 0, [], d)
  | c :: r =>
    if (dNext d c).1 ≠ 0 then ((dNext d c).1, 1, (dNext d c).2.1, (dNext d c).2.2)
    else if (dNext d c).2.2.whole = true then (0, 1, (dNext d c).2.1, (dNext d c).2.2)
    else ((dBytes (dNext d c).2.2 r).1, (dBytes (dNext d c).2.2 r).2.1 + 1, (dNext d c).2.1 ++ (dBytes (dNext d c).2.2 r).2.2.1, (dBytes (dNext d c).2.2 r).2.2.2)
def sh (R : Nat × Nat × List UInt8 × Dz) (k : Nat) (o : List UInt8) : Nat × Nat × List UInt8 × Dz := (R.1, R.2.1 + k, o ++ R.2.2.1, R.2.2.2)
theorem sh_zero (R : Nat × Nat × List UInt8 × Dz) : sh R 0 [] = R := by simp [sh]
theorem sh_sh (R : Nat × Nat × List UInt8 × Dz) (k l : Nat) (o u : List UInt8) : sh (sh R k o) l u = sh R (k + l) (u ++ o) := by simp [sh, Nat.add_assoc]
/-- From d at some bytes to d' behind k of them, which told o; e: what is wrong. -/
def Dn (d : Dz) (l : List UInt8) (k : Nat) (o : List UInt8) (e : Nat) (d' : Dz) : Prop :=
  k ≤ l.length ∧ (if e ≠ 0 ∨ d'.whole = true then dBytes d l = (e, k, o, d') else dBytes d l = sh (dBytes d' (l.drop k)) k o)
theorem Dn.refl (d : Dz) (l : List UInt8) (h : d.whole = false) : Dn d l 0 [] 0 d := ⟨Nat.zero_le _, by rw [if_neg (by simp [h])]; simp [sh]⟩
/-- On by one byte. -/
theorem Dn.step {d0 d : Dz} {l r : List UInt8} {c : UInt8} {k : Nat} {o : List UInt8} (h : Dn d0 l k o 0 d) (hw : d.whole = false) (hl : l.drop k = c :: r) : Dn d0 l (k + 1) (o ++ (dNext d c).2.1) (dNext d c).1 (dNext d c).2.2 ∧ l.drop (k + 1) = r := by
  obtain ⟨h1, h2⟩ := h
  rw [if_neg (by simp [hw]), hl, dBytes] at h2
  have hlt : k < l.length := by
    rcases Nat.lt_or_ge k l.length with h3 | h3
    · exact h3
    · rw [List.drop_of_length_le h3] at hl; cases hl
  have hd : l.drop (k + 1) = r := by
    have := congrArg List.tail hl
    simpa using this
  refine ⟨⟨hlt, ?_⟩, hd⟩
  by_cases h3 : (dNext d c).1 ≠ 0
  · rw [if_pos h3] at h2
    rw [if_pos (.inl h3), h2]
    simp [sh, Nat.add_comm]
  · rw [if_neg h3] at h2
    by_cases h4 : (dNext d c).2.2.whole = true
    · rw [if_pos h4] at h2
      have h5 : (dNext d c).1 = 0 := by simpa using h3
      rw [if_pos (.inr h4), h2, h5]
      simp [sh, Nat.add_comm]
    · rw [if_neg h4] at h2
      rw [if_neg (by simp [h4]; simpa using h3), h2, hd]
      simp [sh]
      omega
/-- Bytes of a chunk, taken at once. -/
theorem Dn.takes {d0 : Dz} {l : List UInt8} : ∀ (n : Nat) {d : Dz} {k : Nat} {o : List UInt8}, Dn d0 l k o 0 d → d.whole = false → d.fn = fnBody → n ≤ d.left → n ≤ (l.drop k).length → Dn d0 l (k + n) (o ++ (l.drop k).take n) 0 { d with left := d.left - n }
  | 0, d, k, o, h, _, _, _, _ => by
    simp only [List.take_zero, List.append_nil, Nat.add_zero, Nat.sub_zero]
    exact h
  | n + 1, d, k, o, h, hw, hf, hn, hl => by
    cases hd : l.drop k with
    | nil => rw [hd] at hl; simp at hl
    | cons c r =>
      have e : dNext d c = (0, [c], { d with left := d.left - 1 }) := by unfold dNext; rw [if_pos ⟨hf, by omega⟩]
      obtain ⟨h1, h2⟩ := h.step hw hd
      rw [e] at h1
      have h3 := Dn.takes n (d := { d with left := d.left - 1 }) h1 hw hf (by show n ≤ d.left - 1; omega) (by rw [hd] at hl; rw [h2]; simp at hl; omega)
      rw [h2] at h3
      rw [show k + (n + 1) = k + 1 + n by omega, List.take_succ_cons]
      rw [show d.left - (n + 1) = d.left - 1 - n by omega]
      have e3 : o ++ c :: r.take n = (o ++ [c]) ++ r.take n := by simp
      rw [e3]
      exact h3
/-- What is always so of a decoder. -/
structure FitD (d : Dz) : Prop where
  fn : d.fn = fnSize ∨ d.fn = fnBody ∨ d.fn = fnTrl
  room : d.room ≤ 9007199254740992
  left : d.left ≤ 9007199254740992
  line : d.line.length ≤ 8192
  tr : d.tr.length ≤ 100
  bd : d.fn = fnBody → d.line = []
theorem num16_top (l : List UInt8) : numV 16 l ≤ 9007199254740992 := by
  unfold numV
  split
  · omega
  · rename_i hh
    rw [not_or, not_or] at hh
    have := hh.2.2
    unfold top at this
    omega
theorem FitD.ended {d : Dz} (h : FitD d) (hl : d.line = []) (s : ByteArray) : FitD (dEnd d s).2 := by
  unfold dEnd
  split
  · unfold dSized
    have hn := num16_top (k1 59 s).data.toList
    split
    · exact h
    · split
      · exact h
      · refine ⟨?_, ?_, hn, h.line, h.tr, fun _ => hl⟩
        · dsimp only
          split
          · exact .inr (.inr rfl)
          · exact .inr (.inl rfl)
        · have := h.room; dsimp only; omega
  · split
    · exact ⟨.inl rfl, h.room, h.left, h.line, h.tr, fun _ => hl⟩
    · unfold dTrl
      split
      · exact ⟨h.fn, h.room, h.left, h.line, h.tr, h.bd⟩
      · split
        · exact h
        · rename_i h1
          rw [not_or, not_or] at h1
          refine ⟨h.fn, h.room, h.left, h.line, ?_, h.bd⟩
          have := h.tr
          show (d.tr ++ [fldF s]).length ≤ 100
          rw [List.length_append, List.length_singleton]
          have := h1.2.1
          omega
theorem FitD.next {d : Dz} (h : FitD d) (c : UInt8) : FitD (dNext d c).2.2 := by
  unfold dNext
  split
  · exact ⟨h.fn, h.room, by have := h.left; show d.left - 1 ≤ _; omega, h.line, h.tr, h.bd⟩
  · split
    · exact h
    · split
      · exact FitD.ended (d := { d with line := [], ending := false }) ⟨h.fn, h.room, h.left, Nat.zero_le _, h.tr, fun _ => rfl⟩ rfl _
      · split
        · exact ⟨h.fn, h.room, h.left, h.line, h.tr, h.bd⟩
        · split
          · exact h
          · rename_i h1
            have h2 := h.line
            unfold dMost at h1
            by_cases h3 : d.fn = fnBody
            · rw [if_pos h3, h.bd h3] at h1
              exact absurd rfl h1
            · rw [if_neg h3] at h1
              refine ⟨h.fn, h.room, h.left, ?_, h.tr, fun h4 => absurd h4 h3⟩
              show (d.line ++ [c]).length ≤ 8192
              rw [List.length_append, List.length_singleton]
              omega
theorem fit_dbytes : ∀ (l : List UInt8) (d : Dz), FitD d → FitD (dBytes d l).2.2.2
  | [], _, h => h
  | c :: r, d, h => by
    rw [dBytes]
    split
    · exact h.next c
    · split
      · exact h.next c
      · exact fit_dbytes r _ (h.next c)

/-! ### Both in memory -/
structure DP (w : World) (base : Nat) (A : Nat → Prop) (g h : Nat) (lv tv rv bv : Value) (d : Dz) (rest body : List UInt8) : Prop where
  dec : Dec w base g lv tv d
  pce : Pce w base A h rv bv rest body
  gh : g ≠ h
  lh : lv.ownBlock ≠ some h
  th : tv.ownBlock ≠ some h
  bg : bv.ownBlock ≠ some g
  bl : ∀ k, bv.ownBlock = some k → lv.ownBlock ≠ some k
  bt : ∀ k, bv.ownBlock = some k → tv.ownBlock ≠ some k
  gA : ¬ A g
  lA : ∀ k, lv.ownBlock = some k → ¬ A k
  tA : ∀ k, tv.ownBlock = some k → ¬ A k
structure DK (w w' : World) (g h : Nat) (lv tv bv lv' tv' bv' : Value) : Prop where
  os : w'.os = w.os
  tape : w'.tape = w.tape
  output : w'.output = w.output
  size : w.heap.size ≤ w'.heap.size
  block : ∀ k, k < w.heap.size → k ≠ g → k ≠ h → lv.ownBlock ≠ some k → tv.ownBlock ≠ some k → bv.ownBlock ≠ some k → w'.heap[k]? = w.heap[k]?
  la : ∀ k, k < w.heap.size → lv.ownBlock ≠ some k → lv'.ownBlock ≠ some k
  ta : ∀ k, k < w.heap.size → tv.ownBlock ≠ some k → tv'.ownBlock ≠ some k
  ba : ∀ k, k < w.heap.size → bv.ownBlock ≠ some k → bv'.ownBlock ≠ some k
theorem DK.refl (w : World) (g h : Nat) (lv tv bv : Value) : DK w w g h lv tv bv lv tv bv := ⟨rfl, rfl, rfl, Nat.le_refl _, fun _ _ _ _ _ _ _ => rfl, fun _ _ h => h, fun _ _ h => h, fun _ _ h => h⟩
theorem DK.trans {a b c : World} {g h : Nat} {l t u l1 t1 u1 l2 t2 u2 : Value} (p : DK a b g h l t u l1 t1 u1) (q : DK b c g h l1 t1 u1 l2 t2 u2) : DK a c g h l t u l2 t2 u2 :=
  ⟨q.os.trans p.os, q.tape.trans p.tape, q.output.trans p.output, Nat.le_trans p.size q.size,
    fun k hk h1 h2 h3 h4 h5 => (q.block k (Nat.lt_of_lt_of_le hk p.size) h1 h2 (p.la k hk h3) (p.ta k hk h4) (p.ba k hk h5)).trans (p.block k hk h1 h2 h3 h4 h5),
    fun k hk h3 => q.la k (Nat.lt_of_lt_of_le hk p.size) (p.la k hk h3), fun k hk h3 => q.ta k (Nat.lt_of_lt_of_le hk p.size) (p.ta k hk h3), fun k hk h3 => q.ba k (Nat.lt_of_lt_of_le hk p.size) (p.ba k hk h3)⟩
theorem DK.of_PK {w w' : World} {g h : Nat} {lv tv lv' tv' : Value} (bv : Value) (k : PK w w' g lv tv lv' tv') : DK w w' g h lv tv bv lv' tv' bv :=
  ⟨k.os, k.tape, k.output, k.size, fun i hi h1 _ h3 h4 _ => k.block i hi h1 h3 h4, k.la, k.fa, fun _ _ h => h⟩
theorem DK.of_QK {w w' : World} {g h : Nat} {bv bv' : Value} (lv tv : Value) (k : QK w w' h bv bv') : DK w w' g h lv tv bv lv tv bv' :=
  ⟨k.os, k.tape, k.output, k.size, fun i hi _ h2 _ _ h5 => k.block i hi h2 h5, fun _ _ h => h, fun _ _ h => h, k.ba⟩
theorem DP.of_PK {w w' : World} {base g h : Nat} {A : Nat → Prop} {lv tv rv bv lv' tv' : Value} {d d' : Dz} {rest body : List UInt8} (p : DP w base A g h lv tv rv bv d rest body) (hd : Dec w' base g lv' tv' d') (k : PK w w' g lv tv lv' tv') : DP w' base A g h lv' tv' rv bv d' rest body := by
  have hh := p.pce.lt
  refine ⟨hd, ⟨(k.block h hh p.gh.symm p.lh p.th).trans p.pce.blk, ?_, p.pce.shp, ?_, p.pce.hb, p.pce.bh, p.pce.hA, p.pce.bA, fun i hA => Nat.lt_of_lt_of_le (p.pce.AL i hA) k.size⟩, p.gh, k.la h hh p.lh, k.fa h hh p.th, p.bg, fun i e => k.la i (p.pce.body.lt e).2 (p.bl i e), fun i e => k.fa i (p.pce.body.lt e).2 (p.bt i e), p.gA, fun i e hA => k.la i (p.pce.AL i hA) (fun e2 => p.lA i e2 hA) e, fun i e hA => k.fa i (p.pce.AL i hA) (fun e2 => p.tA i e2 hA) e⟩
  · exact p.pce.rest.keep k.size (fun i h1 h2 => k.block i h2 (fun e => p.gA (by rw [← e]; exact h1)) (fun e => p.lA i e h1) (fun e => p.tA i e h1))
  · exact p.pce.body.frame fun i e => k.block i (p.pce.body.lt e).2 (fun e2 => p.bg (by rw [e, e2])) (p.bl i e) (p.bt i e)
theorem DP.of_QK {w w' : World} {base g h : Nat} {A : Nat → Prop} {lv tv rv bv rv' bv' : Value} {d : Dz} {rest body rest' body' : List UInt8} (p : DP w base A g h lv tv rv bv d rest body) (hq : Pce w' base A h rv' bv' rest' body') (k : QK w w' h bv bv') : DP w' base A g h lv tv rv' bv' d rest' body' := by
  have hg := p.dec.lt
  refine ⟨p.dec.frame fun i hi => ?_, hq, p.gh, p.lh, p.th, k.ba g hg p.bg, fun i e e2 => ?_, fun i e e2 => ?_, p.gA, p.lA, p.tA⟩
  · rcases hi with rfl | hi | hi
    · exact k.block _ hg p.gh p.bg
    · exact k.block i (p.dec.line.lt hi).2 (fun e => p.lh (by rw [hi, e])) (fun e => p.bl i e hi)
    · exact k.block i (p.dec.trs.lt hi).2 (fun e => p.th (by rw [hi, e])) (fun e => p.bt i e hi)
  · exact k.ba i (p.dec.line.lt e2).2 (fun e3 => p.bl i e3 e2) e
  · exact k.ba i (p.dec.trs.lt e2).2 (fun e3 => p.bt i e3 e2) e
end Go.Proofs.YthciahpadninpaaDoor
