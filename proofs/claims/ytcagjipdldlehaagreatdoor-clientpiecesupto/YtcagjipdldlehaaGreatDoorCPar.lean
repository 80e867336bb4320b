/- A decoder: its block, the rows of its line and of its trailers, and what lines make of it. -/
import Derived.Test.YtcagjipdldlehaaGreatDoorHIs
import Derived.Test.YtcagjipdldlehaaGreatDoorAppK
import Derived.Test.YtcagjipdldlehaaGreatDoorStp
import Derived.Test.YtcagjipdldlehaaGreatDoorBlk
import Derived.Deep.RegionLaw
import Derived.Deep.QuietTactic
import Derived.Laws.EntriesVeiled
namespace Go.Proofs.YtcagjipdldlehaaGreatDoor
open Go.ChangeShapes Go.WideShapes Go.ChangeAt Go.RowKit

/-! ### The decoder, as plain data -/
structure Dz where
  fn : Nat
  room : Nat
  left : Nat
  line : List UInt8
  ending : Bool
  tr : List (ByteArray × ByteArray)
  whole : Bool
  wrong : Nat
def fnSize : Nat := 159
def fnBody : Nat := 185
def fnTrl : Nat := 186
theorem fn_ne : fnSize ≠ fnBody ∧ fnSize ≠ fnTrl ∧ fnBody ≠ fnTrl := by decide
def fldF (s : ByteArray) : ByteArray × ByteArray := (k1 58 s, trimS (k2 58 s))
def dSized (d : Dz) (s : ByteArray) : Nat × Dz :=
  if numE 16 (k1 59 s).data.toList ≠ 0 ∨ (k2 59 s).data.toList.all valc = false then (100, d)
  else if d.room < numV 16 (k1 59 s).data.toList then (2, d)
  else (0, { d with room := d.room - numV 16 (k1 59 s).data.toList, left := numV 16 (k1 59 s).data.toList, fn := if numV 16 (k1 59 s).data.toList = 0 then fnTrl else fnBody })
def dTrl (d : Dz) (s : ByteArray) : Nat × Dz :=
  if s.size = 0 then (0, { d with whole := true })
  else if k3 58 s = false ∨ d.tr.length = 100 ∨ chkF (fldF s) ≠ 0 then (100, d)
  else (0, { d with tr := d.tr ++ [fldF s] })
def dRead (d : Dz) (_ : ByteArray) : Nat × Dz := (0, { d with fn := fnSize })

/-! ### The decoder in memory -/
def stV (fn g : Nat) : Value := .func (.func fn) #[.pointer (some ⟨g, 0, none⟩)] #[]
def dcells (d : Dz) (g : Nat) (lv tv : Value) : Array Value :=
  #[stV d.fn g, .int .i64 (d.room : Int), .int .i64 (d.left : Int), lv, .bool d.ending, tv, .bool d.whole, .int .i64 (d.wrong : Int)]
structure Dec (w : World) (base g : Nat) (lv tv : Value) (d : Dz) : Prop where
  blk : w.heap[g]? = some (.cells (dcells d g lv tv) 236 (0, 0))
  line : Row w base 5 lv (bc d.line)
  trs : FRow w base tv d.tr
  gb : base ≤ g
  gl : lv.ownBlock ≠ some g
  gf : tv.ownBlock ≠ some g
  lf : ∀ k, lv.ownBlock = some k → tv.ownBlock ≠ some k
/-- What a call may have changed: the decoder's block, its two rows; the rows lie where they lay, or in new blocks. -/
structure PK (w w' : World) (g : Nat) (lv fv lv' fv' : Value) : Prop where
  os : w'.os = w.os
  tape : w'.tape = w.tape
  output : w'.output = w.output
  size : w.heap.size ≤ w'.heap.size
  block : ∀ k, k < w.heap.size → k ≠ g → lv.ownBlock ≠ some k → fv.ownBlock ≠ some k → w'.heap[k]? = w.heap[k]?
  la : ∀ k, k < w.heap.size → lv.ownBlock ≠ some k → lv'.ownBlock ≠ some k
  fa : ∀ k, k < w.heap.size → fv.ownBlock ≠ some k → fv'.ownBlock ≠ some k
theorem PK.refl (w : World) (g : Nat) (lv fv : Value) : PK w w g lv fv lv fv := ⟨rfl, rfl, rfl, Nat.le_refl _, fun _ _ _ _ _ => rfl, fun _ _ h => h, fun _ _ h => h⟩
theorem PK.trans {a b c : World} {g : Nat} {l f l1 f1 l2 f2 : Value} (h : PK a b g l f l1 f1) (k : PK b c g l1 f1 l2 f2) : PK a c g l f l2 f2 :=
  ⟨k.os.trans h.os, k.tape.trans h.tape, k.output.trans h.output, Nat.le_trans h.size k.size,
    fun i hi h1 h2 h3 => (k.block i (Nat.lt_of_lt_of_le hi h.size) h1 (h.la i hi h2) (h.fa i hi h3)).trans (h.block i hi h1 h2 h3),
    fun i hi h2 => k.la i (Nat.lt_of_lt_of_le hi h.size) (h.la i hi h2), fun i hi h2 => k.fa i (Nat.lt_of_lt_of_le hi h.size) (h.fa i hi h2)⟩
theorem PK.of_below {w w' : World} (g : Nat) (lv fv : Value) (b : Below w.heap.size w w') : PK w w' g lv fv lv fv :=
  ⟨b.os, b.tape, b.output, b.size, fun k hk _ _ _ => b.block k hk, fun _ _ h => h, fun _ _ h => h⟩
theorem PK.set (w : World) (g i : Nat) (v lv fv : Value) : PK w (w.setCell ⟨g, i, none⟩ v) g lv fv lv fv :=
  ⟨rfl, rfl, rfl, by simp, fun k _ hk _ _ => Below.heap_setCell w ⟨g, i, none⟩ v k hk, fun _ _ h => h, fun _ _ h => h⟩
theorem Dec.lt {w : World} {base g : Nat} {lv fv : Value} {d : Dz} (h : Dec w base g lv fv d) : g < w.heap.size := lt_heap h.blk
theorem Dec.below {w w' : World} {base g : Nat} {lv fv : Value} {d : Dz} (h : Dec w base g lv fv d) (b : Below w.heap.size w w') : Dec w' base g lv fv d :=
  ⟨(b.block g h.lt).trans h.blk, h.line.below b, h.trs.below b, h.gb, h.gl, h.gf, h.lf⟩
theorem Dec.set {w : World} {base g : Nat} {lv fv : Value} {d : Dz} (h : Dec w base g lv fv d) (i : Nat) (v : Value) (d' : Dz) (hc : (dcells d g lv fv).setIfInBounds i v = dcells d' g lv fv) (hl : d'.line = d.line) (hf : d'.tr = d.tr) : Dec (w.setCell ⟨g, i, none⟩ v) base g lv fv d' := by
  refine ⟨by rw [← hc]; exact hp_set h.blk i v, ?_, ?_, h.gb, h.gl, h.gf, h.lf⟩
  · rw [hl]
    exact h.line.frame fun k hk => Below.heap_setCell w ⟨g, i, none⟩ v k (fun e => h.gl (by rw [hk, e]))
  · rw [hf]
    exact h.trs.frame fun k hk => Below.heap_setCell w ⟨g, i, none⟩ v k (fun e => h.gf (by rw [hk, e]))
theorem Dec.cell {w : World} {base g : Nat} {lv fv : Value} {d : Dz} (h : Dec w base g lv fv d) (i : Nat) : w.cell? ⟨g, i, none⟩ = (dcells d g lv fv)[i]? := cell_at h.blk i
theorem Dec.froz {w : World} {base g : Nat} {lv fv : Value} {d : Dz} (h : Dec w base g lv fv d) (i : Nat) : w.frozen? ⟨g, i, none⟩ = false := by rw [frozen_at h.blk]; simp
/-- The decoder elsewhere untouched: another block may change. -/
theorem Dec.frame {w w' : World} {base g : Nat} {lv fv : Value} {d : Dz} (h : Dec w base g lv fv d) (hb : ∀ k, (k = g ∨ lv.ownBlock = some k ∨ fv.ownBlock = some k) → w'.heap[k]? = w.heap[k]?) : Dec w' base g lv fv d :=
  ⟨(hb g (.inl rfl)).trans h.blk, h.line.frame fun k hk => hb k (.inr (.inl hk)), h.trs.frame fun k hk => hb k (.inr (.inr hk)), h.gb, h.gl, h.gf, h.lf⟩

/-! ### Rows that grow -/
theorem append_fld_k (W : World) (base : Nat) (ty : TypeId) (v : Value) (A : List (ByteArray × ByteArray)) (f : ByteArray × ByteArray) (hown : FRow W base v A) (hn : A.length ≤ 1099511627776) (hbase : base ≤ W.heap.size) :
    ∃ v' W', (Builtin.append_ #[43, 43] ty #[v, .slice (some ⟨W.heap.size, 0, none⟩) 1 1]).run Tryz.prog (W.alloc (.cells #[.string f.1, .string f.2] 48)) = .ok v' W' ∧ FRow W' base v' (A ++ [f]) ∧ Below base W W' ∧ Kept W W' v v' := by
  obtain ⟨i, hi, hz, hs1, hb1⟩ := infoF
  have ho : FRow (W.alloc (.cells #[.string f.1, .string f.2] 48)) base v A := hown.frame fun g hg => Below.heap_alloc W _ g (hown.lt hg).2
  have hsz : (W.alloc (.cells #[.string f.1, .string f.2] 48)).heap.size = W.heap.size + 1 := by show (W.heap.push _).size = _; simp
  obtain ⟨v', W', hr, h1, hg, _, hloc⟩ := run_append_own_at (w := W.alloc (.cells #[.string f.1, .string f.2] 48)) base 43 ty 48 i _ 2 32 Tryz.underlying43 hi hz hs1 hb1 rfl (by omega) v A.length (fcs A) ho ⟨W.heap.size, 0, none⟩ 1 1 (fc f) rfl (two_cells W f) (by intro u hu; simp [fc] at hu; rcases hu with rfl | rfl <;> rfl) (by unfold maxLen; omega) (by omega) (by simp; omega)
  refine ⟨v', W', hr, ?_, ?_, ?_⟩
  · unfold FRow
    rw [List.length_append, fcs_snoc]
    exact h1
  · exact ((Below.refl base W).alloc hbase _).grown hg (by simp; omega) (fun k hk => (hown.lt hk).1)
  · have hs2 := hg.size
    refine ⟨by rw [hsz] at hs2; omega, fun g h2 h3 => ?_, fun g h2 h3 h4 => ?_⟩
    · rw [hg.block g (by rw [hsz]; omega) (fun h => h3 h.symm)]
      exact Below.heap_alloc W _ g h2
    · rcases hloc with h5 | h5
      · exact h3 (h5.symm.trans h4)
      · rw [h5, hsz] at h4
        simp only [Option.some.injEq] at h4
        omega
theorem Dec.grow_f {w W : World} {base g : Nat} {lv fv v' : Value} {d : Dz} {fs : List (ByteArray × ByteArray)} (h : Dec w base g lv fv d) (hk : Kept w W fv v') (hR : FRow W base v' fs) :
    W.heap[g]? = some (.cells (dcells d g lv fv) 236 (0, 0)) ∧ Dec (W.setCell ⟨g, 5, none⟩ v') base g lv v' { d with tr := fs } := by
  have hb : W.heap[g]? = some (.cells (dcells d g lv fv) 236 (0, 0)) := (hk.block g h.lt h.gf).trans h.blk
  have hg' : v'.ownBlock ≠ some g := hk.apart g h.lt h.gf
  refine ⟨hb, ⟨hp_set hb 5 v', ?_, ?_, h.gb, h.gl, hg', ?_⟩⟩
  · refine h.line.frame fun k e => ?_
    have hl := (h.line.lt e).2
    rw [Below.heap_setCell W ⟨g, 5, none⟩ v' k (fun e2 => h.gl (by rw [e, e2]))]
    exact hk.block k hl (h.lf k e)
  · exact hR.frame fun k e => Below.heap_setCell W ⟨g, 5, none⟩ v' k (fun e2 => hg' (by rw [e, e2]))
  · intro k e
    exact hk.apart k (h.line.lt e).2 (h.lf k e)
theorem Dec.app_f {w : World} {base g : Nat} {lv fv : Value} {d : Dz} (h : Dec w base g lv fv d) (ty : TypeId) (f : ByteArray × ByteArray) (hn : d.tr.length ≤ 100) :
    ∃ ad n c W', (Builtin.append_ #[43, 43] ty #[fv, .slice (some ⟨w.heap.size, 0, none⟩) 1 1]).run Tryz.prog (w.alloc (.cells #[.string f.1, .string f.2] 48)) = .ok (.slice ad n c) W' ∧
      W'.cell? ⟨g, 5, none⟩ = some fv ∧ W'.frozen? ⟨g, 5, none⟩ = false ∧ Dec (W'.setCell ⟨g, 5, none⟩ (.slice ad n c)) base g lv (.slice ad n c) { d with tr := d.tr ++ [f] } ∧ PK w (W'.setCell ⟨g, 5, none⟩ (.slice ad n c)) g lv fv lv (.slice ad n c) := by
  obtain ⟨v', W', hr, hR, hB, hK⟩ := append_fld_k w base ty fv d.tr f h.trs (by omega) (Nat.le_of_lt (Nat.lt_of_le_of_lt h.gb h.lt))
  obtain ⟨ad, c, rfl, _, _⟩ := hR.shape
  obtain ⟨hb, hP⟩ := h.grow_f hK hR
  refine ⟨ad, _, c, W', hr, cell_at hb 5, by rw [frozen_at hb]; simp, hP, ?_⟩
  have hs := PK.set W' g 5 (.slice ad (d.tr ++ [f]).length c) lv fv
  exact ⟨hs.os.trans hB.os, hs.tape.trans hB.tape, hs.output.trans hB.output, Nat.le_trans hK.size hs.size, fun k hk h1 h2 h3 => (Below.heap_setCell W' ⟨g, 5, none⟩ _ k h1).trans (hK.block k hk h3), fun _ _ e => e, fun k hk e => hK.apart k hk e⟩
theorem Dec.grow_l {w W : World} {base g : Nat} {lv fv v' : Value} {d : Dz} {l : List UInt8} (h : Dec w base g lv fv d) (hk : Kept w W lv v') (hR : Row W base 5 v' (bc l)) :
    W.heap[g]? = some (.cells (dcells d g lv fv) 236 (0, 0)) ∧ Dec (W.setCell ⟨g, 3, none⟩ v') base g v' fv { d with line := l } := by
  have hb : W.heap[g]? = some (.cells (dcells d g lv fv) 236 (0, 0)) := (hk.block g h.lt h.gl).trans h.blk
  have hg' : v'.ownBlock ≠ some g := hk.apart g h.lt h.gl
  have hfl : ∀ k, fv.ownBlock = some k → lv.ownBlock ≠ some k := fun k e e2 => h.lf k e2 e
  refine ⟨hb, ⟨hp_set hb 3 v', ?_, ?_, h.gb, hg', h.gf, ?_⟩⟩
  · exact hR.frame fun k e => Below.heap_setCell W ⟨g, 3, none⟩ v' k (fun e2 => hg' (by rw [e, e2]))
  · refine h.trs.frame fun k e => ?_
    have hl := (h.trs.lt e).2
    rw [Below.heap_setCell W ⟨g, 3, none⟩ v' k (fun e2 => h.gf (by rw [e, e2]))]
    exact hk.block k hl (hfl k e)
  · intro k e e2
    exact hk.apart k (h.trs.lt e2).2 (hfl k e2) e
theorem Dec.app_l {w : World} {base g : Nat} {lv fv : Value} {d : Dz} (h : Dec w base g lv fv d) (ty : TypeId) (x : UInt8) (hn : d.line.length ≤ 65536) :
    ∃ ad n c W', (Builtin.append_ #[31, 31] ty #[lv, .slice (some ⟨w.heap.size, 0, none⟩) 1 1]).run Tryz.prog (w.alloc (.cells #[.int .u8 (x.toNat : Int)] 5)) = .ok (.slice ad n c) W' ∧
      W'.cell? ⟨g, 3, none⟩ = some lv ∧ W'.frozen? ⟨g, 3, none⟩ = false ∧ Dec (W'.setCell ⟨g, 3, none⟩ (.slice ad n c)) base g (.slice ad n c) fv { d with line := d.line ++ [x] } ∧ PK w (W'.setCell ⟨g, 3, none⟩ (.slice ad n c)) g lv fv (.slice ad n c) fv := by
  have hlen : (bc d.line).length = d.line.length := by simp [bc]
  obtain ⟨v', W', hr, hR, hB, hK⟩ := append_one_k elB w base ty lv (bc d.line) (.int .u8 (x.toNat : Int)) h.line rfl (by rw [hlen]; omega) (by rw [hlen]; omega) (Nat.le_of_lt (Nat.lt_of_le_of_lt h.gb h.lt))
  rw [show bc d.line ++ [.int .u8 (x.toNat : Int)] = bc (d.line ++ [x]) by simp [bc]] at hR
  obtain ⟨ad, c, rfl, _, _⟩ := hR.shape
  obtain ⟨hb, hP⟩ := h.grow_l hK hR
  refine ⟨ad, _, c, W', hr, cell_at hb 3, by rw [frozen_at hb]; simp, hP, ?_⟩
  have hs := PK.set W' g 3 (.slice ad (bc (d.line ++ [x])).length c) lv fv
  exact ⟨hs.os.trans hB.os, hs.tape.trans hB.tape, hs.output.trans hB.output, Nat.le_trans hK.size hs.size, fun k hk h1 h2 h3 => (Below.heap_setCell W' ⟨g, 3, none⟩ _ k h1).trans (hK.block k hk h2), fun k hk e => hK.apart k hk e, fun _ _ e => e⟩
/-- A row of which nothing is left. -/
theorem Row.cut0 {W : World} {base : Nat} {e : TypeId} {a : Option Addr} {n c : Nat} {xs : List Value} (h : Row W base e (.slice a n c) xs) : Row W base e (.slice a 0 c) [] := by
  refine ⟨rfl, ?_⟩
  rcases h.2 with ⟨h1, h0⟩ | ⟨g, cap, cur, hv, h1, hg, hc, hmx, hs, ht⟩
  · simp only [Value.slice.injEq] at h1
    obtain ⟨rfl, rfl, rfl⟩ := h1
    exact .inl ⟨rfl, rfl⟩
  · simp only [Value.slice.injEq] at hv
    obtain ⟨rfl, rfl, rfl⟩ := hv
    exact .inr ⟨g, _, cur, rfl, h1, hg, Nat.zero_le _, hmx, hs, by simp⟩

/-! ### What lines make of it -/
theorem flds_one (w : World) (a b : ByteArray) : Flds (w.alloc (.cells #[.string a, .string b] 48)) (.slice (some ⟨w.heap.size, 0, none⟩) 1 1) [(a, b)] := by
  refine ⟨some ⟨w.heap.size, 0, none⟩, 1, rfl, ⟨Nat.le_refl _, by simp⟩, fun j hj => ?_⟩
  have hj0 : j = 0 := by simp at hj; exact hj
  subst hj0
  exact ⟨w.heap.size, 0, rfl, by show _ < (w.heap.push _).size; simp, cell_at (hp_new w _) 0, cell_at (hp_new w _) 1⟩
theorem chk_one (f : ByteArray × ByteArray) : chkL [f] = chkF f := by
  unfold chkL chkA
  by_cases h : chkF f = 0
  · simp [h]
  · simp [h]
theorem ext_any (s : ByteArray) (w : World) (hs : s.size ≤ 281474976710656) :
    Calls Tryz.prog 184 #[.string s] w fun e w' => e = .returned (.bool (s.data.toList.all valc)) ∧ Below w.heap.size w w' := by
  have HT := hide (trim_any s w hs)
  have HV := hide (fun W => value_any (trimS s) W (by have := trim_size s; unfold maxLen; omega))
  have e1 : valueB (trimS s).data.toList = s.data.toList.all valc := by
    rw [← rsn_eq, show (trimS s).data.toList = trimB s.data.toList by simp [trimS]]
  rw [e1] at HV
  clear e1
  generalize s.data.toList.all valc = r at HV ⊢
  generalize trimS s = t at HT HV
  go_enter Tryz.func184, Tryz.ntmps184
  go_wp2_with fail
  refine HT.out.mono ?_
  rintro e w1 ⟨rfl, b1⟩
  go_wp2_with fail
  refine (HV.out _).mono ?_
  rintro e w2 ⟨rfl, b2⟩
  go_wp2
  go_ret
  exact ⟨rfl, by first | exact b1.trans (b2.mono b1.size) | (subst b2; exact b1)⟩
theorem chunkRead_any {w : World} {base g : Nat} {lv fv : Value} {d : Dz} (h : Dec w base g lv fv d) (s : ByteArray) :
    Calls Tryz.prog 191 #[.pointer (some ⟨g, 0, none⟩), .string s] w fun e w' => e = .returned (.int .i64 ((dRead d s).1 : Int)) ∧ ∃ fv', Dec w' base g lv fv' (dRead d s).2 ∧ PK w w' g lv fv lv fv' := by
  have HP := hide h
  have c0 := h.cell 0
  have f0 := h.froz 0
  clear h
  go_enter Tryz.func191, Tryz.ntmps191
  go_wp2_with fail
  go_ret
  exact ⟨rfl, _, HP.out.set 0 (stV fnSize g) { d with fn := fnSize } rfl rfl rfl, PK.set _ _ _ _ _ _⟩
set_option maxHeartbeats 4000000 in
theorem sized_any {w : World} {base g : Nat} {lv fv : Value} {d : Dz} (h : Dec w base g lv fv d) (hm : MX w) (s : ByteArray) (hs : s.size ≤ 8192) (hr : d.room ≤ 9007199254740992) :
    Calls Tryz.prog 174 #[.pointer (some ⟨g, 0, none⟩), .string s] w fun e w' => e = .returned (.int .i64 ((dSized d s).1 : Int)) ∧ ∃ fv', Dec w' base g lv fv' (dSized d s).2 ∧ PK w w' g lv fv lv fv' := by
  have HP := hide h
  have HC := hide (pcut_any s 59 w (by omega) hm)
  have z1 : (k1 59 s).size ≤ 8192 := by have := k1_size 59 s; omega
  have z2 : (k2 59 s).size ≤ 8192 := by have := k2_size 59 s; omega
  have HH := hide (fun W => Hex_any (k1 59 s) W (by unfold maxLen; omega))
  have HX := hide (fun W => ext_any (k2 59 s) W (by omega))
  have hnt : numV 16 (k1 59 s).data.toList ≤ 9007199254740992 := by
    unfold numV
    split
    · omega
    · rename_i hh
      rw [not_or, not_or] at hh
      have := hh.2.2
      unfold top at this
      omega
  clear h hm
  generalize hR0 : dSized d s = R
  unfold dSized at hR0
  generalize numV 16 (k1 59 s).data.toList = n at HH hR0 hnt
  generalize numE 16 (k1 59 s).data.toList = ne at HH hR0
  generalize (k2 59 s).data.toList.all valc = ex at HX hR0
  generalize k1 59 s = na at HC HH z1
  generalize k2 59 s = tx at HC HX z2
  generalize k3 59 s = o1 at HC
  have HR := hide hR0
  clear hR0
  go_enter Tryz.func174, Tryz.ntmps174
  go_upto_region 3 with (first | (go_at_call 53; refine HC.out.mono ?_; rintro e w1 ⟨rfl, b1⟩) | (go_at_call 183; refine (HH.out _).mono ?_; rintro e w' ⟨rfl, rfl⟩))
  have HP1 := hide (HP.out.below b1)
  have HK1 := hide (PK.of_below g lv fv b1)
  clear b1 HP
  by_cases h1 : ne = 0
  · have t1 : ((ne : Int) != 0) = false := by rw [bne_eq_false_iff_eq]; omega
    cases ex with
    | false =>
      have e := HR.out
      rw [if_pos (.inr rfl)] at e
      have HE := hide e
      clear e HR h1
      go_wp2_with (go_at_call 184; refine (HX.out _).mono ?_; rintro e w2 ⟨rfl, b2⟩)
      go_ret
      exact ⟨by rw [← HE.out]; rfl, _, by rw [← HE.out]; exact HP1.out.below b2, HK1.out.trans (PK.of_below _ _ _ b2)⟩
    | true =>
      have e := HR.out
      rw [if_neg (by simp [h1])] at e
      have HE := hide e
      clear e HR h1
      go_upto_region 5 with (go_at_call 184; refine (HX.out _).mono ?_; rintro e w2 ⟨rfl, b2⟩)
      have HP2 := hide (HP1.out.below b2)
      have HK2 := hide (HK1.out.trans (PK.of_below g lv fv b2))
      clear b2 HP1 HK1
      have c1 := HP2.out.cell 1
      rw [show (dcells d g lv fv)[1]? = some (.int .i64 (d.room : Int)) from rfl] at c1
      by_cases h2 : d.room < n
      · have t2 : (d.room : Int) < (n : Int) := by omega
        have e := HE.out
        rw [if_pos h2] at e
        have HF := hide e
        clear e HE h2
        go_wp2_with fail
        go_ret
        exact ⟨by rw [← HF.out]; rfl, _, by rw [← HF.out]; exact HP2.out, HK2.out⟩
      · have t2 : ¬ (d.room : Int) < (n : Int) := by omega
        have e := HE.out
        rw [if_neg h2] at e
        have HF := hide e
        have f1 := HP2.out.froz 1
        have i1 : (d.room : Int) - (n : Int) = ((d.room - n : Nat) : Int) := by omega
        have i2 : ((d.room - n : Nat) : Int) ≤ 9007199254740992 := by omega
        clear e HE
        go_upto_region 8 with fail
        have HP3 := hide (HP2.out.set 1 (.int .i64 ((d.room - n : Nat) : Int)) { d with room := d.room - n } rfl rfl rfl)
        have HK3 := hide (HK2.out.trans (PK.set w2 g 1 (.int .i64 ((d.room - n : Nat) : Int)) lv fv))
        clear c1 f1 i1 t2 h2
        generalize w2.setCell ⟨g, 1, none⟩ (.int .i64 ((d.room - n : Nat) : Int)) = w3 at HP3 HK3 ⊢
        have c2 := HP3.out.cell 2
        have f2 := HP3.out.froz 2
        go_upto_region 9 with fail
        have HP4 := hide (HP3.out.set 2 (.int .i64 (n : Int)) { d with room := d.room - n, left := n } rfl rfl rfl)
        have HK4 := hide (HK3.out.trans (PK.set w3 g 2 (.int .i64 (n : Int)) lv fv))
        clear c2 f2
        generalize w3.setCell ⟨g, 2, none⟩ (.int .i64 (n : Int)) = w4 at HP4 HK4 ⊢
        have c0 := HP4.out.cell 0
        have f0 := HP4.out.froz 0
        go_upto_region 10 with fail
        have HP5 := hide (HP4.out.set 0 (stV fnBody g) { d with room := d.room - n, left := n, fn := fnBody } rfl rfl rfl)
        have HK5 := hide (HK4.out.trans (PK.set w4 g 0 (stV fnBody g) lv fv))
        clear c0 f0
        have e5 : w4.setCell ⟨g, 0, none⟩ (.func (.func 185) #[.pointer (some ⟨g, 0, none⟩)] #[]) = w4.setCell ⟨g, 0, none⟩ (stV fnBody g) := rfl
        rw [e5]
        clear e5
        generalize w4.setCell ⟨g, 0, none⟩ (stV fnBody g) = w5 at HP5 HK5 ⊢
        by_cases h3 : n = 0
        · have t3 : ((n : Int) == 0) = true := by rw [h3]; rfl
          have c0 := HP5.out.cell 0
          have f0 := HP5.out.froz 0
          have e := HF.out
          rw [if_pos h3] at e
          have HG := hide e
          clear e HF h3
          go_wp2_with fail
          go_ret
          exact ⟨by rw [← HG.out]; rfl, _, by rw [← HG.out]; exact HP5.out.set 0 (stV fnTrl g) _ rfl rfl rfl, HK5.out.trans (PK.set _ _ _ _ _ _)⟩
        · have t3 : ((n : Int) == 0) = false := by rw [beq_eq_false_iff_ne]; omega
          have e := HF.out
          rw [if_neg h3] at e
          have HG := hide e
          clear e HF h3
          go_wp2_with fail
          go_ret
          exact ⟨by rw [← HG.out]; rfl, _, by rw [← HG.out]; exact HP5.out, HK5.out⟩
  · have t1 : ((ne : Int) != 0) = true := by rw [bne_iff_ne]; omega
    have e := HR.out
    rw [if_pos (.inl h1)] at e
    have HE := hide e
    clear e HR h1
    go_wp2_with fail
    go_ret
    exact ⟨by rw [← HE.out]; rfl, _, by rw [← HE.out]; exact HP1.out, HK1.out⟩
end Go.Proofs.YtcagjipdldlehaaGreatDoor
