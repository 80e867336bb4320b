/- YP. -/
import Derived.Test.YtecjlcjaccijpaaGreatDoorYC
import Derived.Test.YtecjlcjaccijpaaGreatDoorYA
import Derived.Deep.RegionLaw
import Derived.Deep.QuietTactic
import Derived.Laws.EntriesVeiled
namespace Go.Proofs.YtecjlcjaccijpaaGreatDoor
open Go.ChangeShapes Go.WideShapes Go.ChangeAt Go.RowKit
set_option linter.unusedVariables false
set_option maxHeartbeats 16000000
set_option maxRecDepth 100000
/-! ### The decoder, as plain data -/
structure Dz where
 fn : Nat
 room : Nat
 left : Nat
 line : List UInt8
 ending : Bool
 tr : List (ByteArray × ByteArray)
 whole : Bool
 wrong : Nat
def fnSize : Nat := 139
def fnBody : Nat := 159
def fnTrl : Nat := 160
theorem fn_ne : fnSize ≠ fnBody /\ fnSize ≠ fnTrl /\ fnBody ≠ fnTrl := by decide
def fldF (s : ByteArray) : ByteArray × ByteArray := (k1 58 s, trimS (k2 58 s))
def dSized (d : Dz) (s : ByteArray) : Nat × Dz :=
 if numE 16 (k1 59 s).data.toList ≠ 0 ∨ (k2 59 s).data.toList.all valc = false then (100, d)
 else if d.room < numV 16 (k1 59 s).data.toList then (2, d)
 else (0, { d with room := d.room - numV 16 (k1 59 s).data.toList, left := numV 16 (k1 59 s).data.toList, fn := if numV 16 (k1 59 s).data.toList = 0 then fnTrl else fnBody })
def dTrl (d : Dz) (s : ByteArray) : Nat × Dz :=
 if s.size = 0 then (0, { d with whole := true })
 else if k3 58 s = false ∨ d.tr.length = 100 ∨ chkF (fldF s) ≠ 0 then (100, d)
 else (0, { d with tr := d.tr ++ [fldF s] })
def dRead (d : Dz) (_ : ByteArray) : Nat × Dz := (0, { d with fn := fnSize })
/-! ### The decoder in memory -/
def stV (fn g : Nat) : Value := .func (.func fn) #[.pointer (some ⟨g, 0, none⟩)] #[]
def dcells (d : Dz) (g : Nat) (lv tv : Value) : Array Value :=
 #[stV d.fn g, .int .i64 (d.room : Int), .int .i64 (d.left : Int), lv, .bool d.ending, tv, .bool d.whole, .int .i64 (d.wrong : Int)]
structure Dec (w : World) (base g : Nat) (lv tv : Value) (d : Dz) : Prop where
 blk : w.heap[g]? = some (.cells (dcells d g lv tv) 213 (0, 0))
 line : Row w base 5 lv (bc d.line)
 trs : FRow w base tv d.tr
 gb : base <= g
 gl : lv.ownBlock ≠ some g
 gf : tv.ownBlock ≠ some g
 lf : ∀ k, lv.ownBlock = some k -> tv.ownBlock ≠ some k
structure PK (w w' : World) (g : Nat) (lv fv lv' fv' : Value) : Prop where
 os : w'.os = w.os
 tape : w'.tape = w.tape
 output : w'.output = w.output
 size : w.heap.size <= w'.heap.size
 block : ∀ k, k < w.heap.size -> k ≠ g -> lv.ownBlock ≠ some k -> fv.ownBlock ≠ some k -> w'.heap[k]? = w.heap[k]?
 la : ∀ k, k < w.heap.size -> lv.ownBlock ≠ some k -> lv'.ownBlock ≠ some k
 fa : ∀ k, k < w.heap.size -> fv.ownBlock ≠ some k -> fv'.ownBlock ≠ some k
theorem PK.refl (w : World) (g : Nat) (lv fv : Value) : PK w w g lv fv lv fv := ⟨rfl, rfl, rfl, Nat.le_refl _, fun _ _ _ _ _ => rfl, fun _ _ h => h, fun _ _ h => h⟩
theorem PK.trans {a b c : World} {g : Nat} {l f l1 f1 l2 f2 : Value} (h : PK a b g l f l1 f1) (k : PK b c g l1 f1 l2 f2) : PK a c g l f l2 f2 :=
 ⟨k.os.trans h.os, k.tape.trans h.tape, k.output.trans h.output, Nat.le_trans h.size k.size,
  fun i hi h1 h2 h3 => (k.block i (Nat.lt_of_lt_of_le hi h.size) h1 (h.la i hi h2) (h.fa i hi h3)).trans (h.block i hi h1 h2 h3),
  fun i hi h2 => k.la i (Nat.lt_of_lt_of_le hi h.size) (h.la i hi h2), fun i hi h2 => k.fa i (Nat.lt_of_lt_of_le hi h.size) (h.fa i hi h2)⟩
theorem PK.of_below {w w' : World} (g : Nat) (lv fv : Value) (b : Below w.heap.size w w') : PK w w' g lv fv lv fv :=
 ⟨b.os, b.tape, b.output, b.size, fun k hk _ _ _ => b.block k hk, fun _ _ h => h, fun _ _ h => h⟩
theorem PK.set (w : World) (g i : Nat) (v lv fv : Value) : PK w (w.setCell ⟨g, i, none⟩ v) g lv fv lv fv :=
 ⟨rfl, rfl, rfl, by simp, fun k _ hk _ _ => Below.heap_setCell w ⟨g, i, none⟩ v k hk, fun _ _ h => h, fun _ _ h => h⟩
theorem Dec.lt {w : World} {base g : Nat} {lv fv : Value} {d : Dz} (h : Dec w base g lv fv d) : g < w.heap.size := lt_heap h.blk
theorem Dec.below {w w' : World} {base g : Nat} {lv fv : Value} {d : Dz} (h : Dec w base g lv fv d) (b : Below w.heap.size w w') : Dec w' base g lv fv d :=
 ⟨(b.block g h.lt).trans h.blk, h.line.below b, h.trs.below b, h.gb, h.gl, h.gf, h.lf⟩
theorem Dec.set {w : World} {base g : Nat} {lv fv : Value} {d : Dz} (h : Dec w base g lv fv d) (i : Nat) (v : Value) (d' : Dz) (hc : (dcells d g lv fv).setIfInBounds i v = dcells d' g lv fv) (hl : d'.line = d.line) (hf : d'.tr = d.tr) : Dec (w.setCell ⟨g, i, none⟩ v) base g lv fv d' := by
 refine ⟨by rw [<- hc]; exact hp_set h.blk i v, ?_, ?_, h.gb, h.gl, h.gf, h.lf⟩
 ·rw [hl]
  exact h.line.frame fun k hk => Below.heap_setCell w ⟨g, i, none⟩ v k (fun e => h.gl (by rw [hk, e]))
 ·rw [hf]
  exact h.trs.frame fun k hk => Below.heap_setCell w ⟨g, i, none⟩ v k (fun e => h.gf (by rw [hk, e]))
theorem Dec.cell {w : World} {base g : Nat} {lv fv : Value} {d : Dz} (h : Dec w base g lv fv d) (i : Nat) : w.cell? ⟨g, i, none⟩ = (dcells d g lv fv)[i]? := cell_at h.blk i
theorem Dec.froz {w : World} {base g : Nat} {lv fv : Value} {d : Dz} (h : Dec w base g lv fv d) (i : Nat) : w.frozen? ⟨g, i, none⟩ = false := by rw [frozen_at h.blk]; simp
theorem Dec.frame {w w' : World} {base g : Nat} {lv fv : Value} {d : Dz} (h : Dec w base g lv fv d) (hb : ∀ k, (k = g ∨ lv.ownBlock = some k ∨ fv.ownBlock = some k) -> w'.heap[k]? = w.heap[k]?) : Dec w' base g lv fv d :=
 ⟨(hb g (.inl rfl)).trans h.blk, h.line.frame fun k hk => hb k (.inr (.inl hk)), h.trs.frame fun k hk => hb k (.inr (.inr hk)), h.gb, h.gl, h.gf, h.lf⟩
/-! ### Rows that grow -/
theorem append_fld_k (W : World) (base : Nat) (ty : TypeId) (v : Value) (A : List (ByteArray × ByteArray)) (f : ByteArray × ByteArray) (hown : FRow W base v A) (hn : A.length <= 1099511627776) (hbase : base <= W.heap.size) :
  ∃ v' W', (Builtin.append_ #[25, 25] ty #[v, .slice (some ⟨W.heap.size, 0, none⟩) 1 1]).run Tryz.prog (W.alloc (.cells #[.string f.1, .string f.2] 92)) = .ok v' W' /\ FRow W' base v' (A ++ [f]) /\ Below base W W' /\ Kept W W' v v' := by
 obtain ⟨i, hi, hz, hs1, hb1⟩ := infoF
 have ho : FRow (W.alloc (.cells #[.string f.1, .string f.2] 92)) base v A := hown.frame fun g hg => Below.heap_alloc W _ g (hown.lt hg).2
 have hsz : (W.alloc (.cells #[.string f.1, .string f.2] 92)).heap.size = W.heap.size + 1 := by show (W.heap.push _).size = _; simp
 obtain ⟨v', W', hr, h1, hg, _, hloc⟩ := run_append_own_at (w := W.alloc (.cells #[.string f.1, .string f.2] 92)) base 25 ty 92 i _ 2 32 Tryz.underlying25 hi hz hs1 hb1 rfl (by omega) v A.length (fcs A) ho ⟨W.heap.size, 0, none⟩ 1 1 (fc f) rfl (two_cells W f) (by intro u hu; simp [fc] at hu; rcases hu with rfl | rfl <;> rfl) (by unfold maxLen; omega) (by omega) (by simp; omega)
 refine ⟨v', W', hr, ?_, ?_, ?_⟩
 ·unfold FRow
  rw [List.length_append, fcs_snoc]
  exact h1
 ·exact ((Below.refl base W).alloc hbase _).grown hg (by simp; omega) (fun k hk => (hown.lt hk).1)
 ·have hs2 := hg.size
  refine ⟨by rw [hsz] at hs2; omega, fun g h2 h3 => ?_, fun g h2 h3 h4 => ?_⟩
  ·rw [hg.block g (by rw [hsz]; omega) (fun h => h3 h.symm)]
   exact Below.heap_alloc W _ g h2
  ·rcases hloc with h5 | h5
   ·exact h3 (h5.symm.trans h4)
   ·rw [h5, hsz] at h4
    simp only [Option.some.injEq] at h4
    omega
theorem Dec.grow_f {w W : World} {base g : Nat} {lv fv v' : Value} {d : Dz} {fs : List (ByteArray × ByteArray)} (h : Dec w base g lv fv d) (hk : Kept w W fv v') (hR : FRow W base v' fs) :
  W.heap[g]? = some (.cells (dcells d g lv fv) 213 (0, 0)) /\ Dec (W.setCell ⟨g, 5, none⟩ v') base g lv v' { d with tr := fs } := by
 have hb : W.heap[g]? = some (.cells (dcells d g lv fv) 213 (0, 0)) := (hk.block g h.lt h.gf).trans h.blk
 have hg' : v'.ownBlock ≠ some g := hk.apart g h.lt h.gf
 refine ⟨hb, ⟨hp_set hb 5 v', ?_, ?_, h.gb, h.gl, hg', ?_⟩⟩
 ·refine h.line.frame fun k e => ?_
  have hl := (h.line.lt e).2
  rw [Below.heap_setCell W ⟨g, 5, none⟩ v' k (fun e2 => h.gl (by rw [e, e2]))]
  exact hk.block k hl (h.lf k e)
 ·exact hR.frame fun k e => Below.heap_setCell W ⟨g, 5, none⟩ v' k (fun e2 => hg' (by rw [e, e2]))
 ·intro k e
  exact hk.apart k (h.line.lt e).2 (h.lf k e)
theorem Dec.app_f {w : World} {base g : Nat} {lv fv : Value} {d : Dz} (h : Dec w base g lv fv d) (ty : TypeId) (f : ByteArray × ByteArray) (hn : d.tr.length <= 100) :
  ∃ ad n c W', (Builtin.append_ #[25, 25] ty #[fv, .slice (some ⟨w.heap.size, 0, none⟩) 1 1]).run Tryz.prog (w.alloc (.cells #[.string f.1, .string f.2] 92)) = .ok (.slice ad n c) W' /\
   W'.cell? ⟨g, 5, none⟩ = some fv /\ W'.frozen? ⟨g, 5, none⟩ = false /\ Dec (W'.setCell ⟨g, 5, none⟩ (.slice ad n c)) base g lv (.slice ad n c) { d with tr := d.tr ++ [f] } /\ PK w (W'.setCell ⟨g, 5, none⟩ (.slice ad n c)) g lv fv lv (.slice ad n c) := by
 obtain ⟨v', W', hr, hR, hB, hK⟩ := append_fld_k w base ty fv d.tr f h.trs (by omega) (Nat.le_of_lt (Nat.lt_of_le_of_lt h.gb h.lt))
 obtain ⟨ad, c, rfl, _, _⟩ := hR.shape
 obtain ⟨hb, hP⟩ := h.grow_f hK hR
 refine ⟨ad, _, c, W', hr, cell_at hb 5, by rw [frozen_at hb]; simp, hP, ?_⟩
 have hs := PK.set W' g 5 (.slice ad (d.tr ++ [f]).length c) lv fv
 exact ⟨hs.os.trans hB.os, hs.tape.trans hB.tape, hs.output.trans hB.output, Nat.le_trans hK.size hs.size, fun k hk h1 h2 h3 => (Below.heap_setCell W' ⟨g, 5, none⟩ _ k h1).trans (hK.block k hk h3), fun _ _ e => e, fun k hk e => hK.apart k hk e⟩
theorem Dec.grow_l {w W : World} {base g : Nat} {lv fv v' : Value} {d : Dz} {l : List UInt8} (h : Dec w base g lv fv d) (hk : Kept w W lv v') (hR : Row W base 5 v' (bc l)) :
  W.heap[g]? = some (.cells (dcells d g lv fv) 213 (0, 0)) /\ Dec (W.setCell ⟨g, 3, none⟩ v') base g v' fv { d with line := l } := by
 have hb : W.heap[g]? = some (.cells (dcells d g lv fv) 213 (0, 0)) := (hk.block g h.lt h.gl).trans h.blk
 have hg' : v'.ownBlock ≠ some g := hk.apart g h.lt h.gl
 have hfl : ∀ k, fv.ownBlock = some k -> lv.ownBlock ≠ some k := fun k e e2 => h.lf k e2 e
 refine ⟨hb, ⟨hp_set hb 3 v', ?_, ?_, h.gb, hg', h.gf, ?_⟩⟩
 ·exact hR.frame fun k e => Below.heap_setCell W ⟨g, 3, none⟩ v' k (fun e2 => hg' (by rw [e, e2]))
 ·refine h.trs.frame fun k e => ?_
  have hl := (h.trs.lt e).2
  rw [Below.heap_setCell W ⟨g, 3, none⟩ v' k (fun e2 => h.gf (by rw [e, e2]))]
  exact hk.block k hl (hfl k e)
 ·intro k e e2
  exact hk.apart k (h.trs.lt e2).2 (hfl k e2) e
theorem Dec.app_l {w : World} {base g : Nat} {lv fv : Value} {d : Dz} (h : Dec w base g lv fv d) (ty : TypeId) (x : UInt8) (hn : d.line.length <= 65536) :
  ∃ ad n c W', (Builtin.append_ #[24, 24] ty #[lv, .slice (some ⟨w.heap.size, 0, none⟩) 1 1]).run Tryz.prog (w.alloc (.cells #[.int .u8 (x.toNat : Int)] 5)) = .ok (.slice ad n c) W' /\
   W'.cell? ⟨g, 3, none⟩ = some lv /\ W'.frozen? ⟨g, 3, none⟩ = false /\ Dec (W'.setCell ⟨g, 3, none⟩ (.slice ad n c)) base g (.slice ad n c) fv { d with line := d.line ++ [x] } /\ PK w (W'.setCell ⟨g, 3, none⟩ (.slice ad n c)) g lv fv (.slice ad n c) fv := by
 have hlen : (bc d.line).length = d.line.length := by simp [bc]
 obtain ⟨v', W', hr, hR, hB, hK⟩ := append_one_k elB w base ty lv (bc d.line) (.int .u8 (x.toNat : Int)) h.line rfl (by rw [hlen]; omega) (by rw [hlen]; omega) (Nat.le_of_lt (Nat.lt_of_le_of_lt h.gb h.lt))
 rw [show bc d.line ++ [.int .u8 (x.toNat : Int)] = bc (d.line ++ [x]) by simp [bc]] at hR
 obtain ⟨ad, c, rfl, _, _⟩ := hR.shape
 obtain ⟨hb, hP⟩ := h.grow_l hK hR
 refine ⟨ad, _, c, W', hr, cell_at hb 3, by rw [frozen_at hb]; simp, hP, ?_⟩
 have hs := PK.set W' g 3 (.slice ad (bc (d.line ++ [x])).length c) lv fv
 exact ⟨hs.os.trans hB.os, hs.tape.trans hB.tape, hs.output.trans hB.output, Nat.le_trans hK.size hs.size, fun k hk h1 h2 h3 => (Below.heap_setCell W' ⟨g, 3, none⟩ _ k h1).trans (hK.block k hk h2), fun k hk e => hK.apart k hk e, fun _ _ e => e⟩
theorem Row.cut0 {W : World} {base : Nat} {e : TypeId} {a : Option Addr} {n c : Nat} {xs : List Value} (h : Row W base e (.slice a n c) xs) : Row W base e (.slice a 0 c) [] := by
 refine ⟨rfl, ?_⟩
 rcases h.2 with ⟨h1, h0⟩ | ⟨g, cap, cur, hv, h1, hg, hc, hmx, hs, ht⟩
 ·simp only [Value.slice.injEq] at h1
  obtain ⟨rfl, rfl, rfl⟩ := h1
  exact .inl ⟨rfl, rfl⟩
 ·simp only [Value.slice.injEq] at hv
  obtain ⟨rfl, rfl, rfl⟩ := hv
  exact .inr ⟨g, _, cur, rfl, h1, hg, Nat.zero_le _, hmx, hs, by simp⟩
/-! ### What lines make of it -/
theorem flds_one (w : World) (a b : ByteArray) : Flds (w.alloc (.cells #[.string a, .string b] 92)) (.slice (some ⟨w.heap.size, 0, none⟩) 1 1) [(a, b)] := by
 refine ⟨some ⟨w.heap.size, 0, none⟩, 1, rfl, ⟨Nat.le_refl _, by simp⟩, fun j hj => ?_⟩
 have hj0 : j = 0 := by simp at hj; exact hj
 subst hj0
 exact ⟨w.heap.size, 0, rfl, by show _ < (w.heap.push _).size; simp, cell_at (hp_new w _) 0, cell_at (hp_new w _) 1⟩
theorem chk_one (f : ByteArray × ByteArray) : chkL [f] = chkF f := by
 unfold chkL chkA
 by_cases h : chkF f = 0
 ·simp [h]
 ·simp [h]
theorem ext_any (s : ByteArray) (w : World) (hs : s.size <= 281474976710656) :
  Calls Tryz.prog 158 #[.string s] w fun e w' => e = .returned (.bool (s.data.toList.all valc)) /\ Below w.heap.size w w' := by
 have HT := hide (trim_any s w hs)
 have HV := hide (fun W => value_any (trimS s) W (by have := trim_size s; unfold maxLen; omega))
 have e1 : valueB (trimS s).data.toList = s.data.toList.all valc := by
  rw [<- rsn_eq, show (trimS s).data.toList = trimB s.data.toList by simp [trimS]]
 rw [e1] at HV
 clear e1
 generalize s.data.toList.all valc = r at HV |-
 generalize trimS s = t at HT HV
 go_enter Tryz.func158, Tryz.ntmps158
 go_wp2_with fail
 refine HT.out.mono ?_
 rintro e w1 ⟨rfl, b1⟩
 go_wp2_with fail
 refine (HV.out _).mono ?_
 rintro e w2 ⟨rfl, b2⟩
 go_wp2
 go_ret
 exact ⟨rfl, by first | exact b1.trans (b2.mono b1.size) | (subst b2; exact b1)⟩
theorem chunkRead_any {w : World} {base g : Nat} {lv fv : Value} {d : Dz} (h : Dec w base g lv fv d) (s : ByteArray) :
  Calls Tryz.prog 164 #[.pointer (some ⟨g, 0, none⟩), .string s] w fun e w' => e = .returned (.int .i64 ((dRead d s).1 : Int)) /\ ∃ fv', Dec w' base g lv fv' (dRead d s).2 /\ PK w w' g lv fv lv fv' := by
 have HP := hide h
 have c0 := h.cell 0
 have f0 := h.froz 0
 clear h
 go_enter Tryz.func164, Tryz.ntmps164
 go_wp2_with fail
 go_ret
 exact ⟨rfl, _, HP.out.set 0 (stV fnSize g) { d with fn := fnSize } rfl rfl rfl, PK.set _ _ _ _ _ _⟩
theorem sized_any {w : World} {base g : Nat} {lv fv : Value} {d : Dz} (h : Dec w base g lv fv d) (hm : MX w) (s : ByteArray) (hs : s.size <= 8192) (hr : d.room <= 9007199254740992) :
  Calls Tryz.prog 150 #[.pointer (some ⟨g, 0, none⟩), .string s] w fun e w' => e = .returned (.int .i64 ((dSized d s).1 : Int)) /\ ∃ fv', Dec w' base g lv fv' (dSized d s).2 /\ PK w w' g lv fv lv fv' := by
 have HP := hide h
 have HC := hide (pcut_any s 59 w (by omega) hm)
 have z1 : (k1 59 s).size <= 8192 := by have := k1_size 59 s; omega
 have z2 : (k2 59 s).size <= 8192 := by have := k2_size 59 s; omega
 have HH := hide (fun W => Hex_any (k1 59 s) W (by unfold maxLen; omega))
 have HX := hide (fun W => ext_any (k2 59 s) W (by omega))
 have hnt : numV 16 (k1 59 s).data.toList <= 9007199254740992 := by
  unfold numV
  split
  ·omega
  ·rename_i hh
   rw [not_or, not_or] at hh
   have := hh.2.2
   unfold top at this
   omega
 clear h hm
 generalize hR0 : dSized d s = R
 unfold dSized at hR0
 generalize numV 16 (k1 59 s).data.toList = n at HH hR0 hnt
 generalize numE 16 (k1 59 s).data.toList = ne at HH hR0
 generalize (k2 59 s).data.toList.all valc = ex at HX hR0
 generalize k1 59 s = na at HC HH z1
 generalize k2 59 s = tx at HC HX z2
 generalize k3 59 s = o1 at HC
 have HR := hide hR0
 clear hR0
 go_enter Tryz.func150, Tryz.ntmps150
 go_upto_region 3 with (first | (go_at_call 56; refine HC.out.mono ?_; rintro e w1 ⟨rfl, b1⟩) | (go_at_call 157; refine (HH.out _).mono ?_; rintro e w' ⟨rfl, rfl⟩))
 have HP1 := hide (HP.out.below b1)
 have HK1 := hide (PK.of_below g lv fv b1)
 clear b1 HP
 by_cases h1 : ne = 0
 ·have t1 : ((ne : Int) != 0) = false := by rw [bne_eq_false_iff_eq]; omega
  cases ex with
  | false =>
   have e := HR.out
   rw [if_pos (.inr rfl)] at e
   have HE := hide e
   clear e HR h1
   go_wp2_with (go_at_call 158; refine (HX.out _).mono ?_; rintro e w2 ⟨rfl, b2⟩)
   go_ret
   exact ⟨by rw [<- HE.out]; rfl, _, by rw [<- HE.out]; exact HP1.out.below b2, HK1.out.trans (PK.of_below _ _ _ b2)⟩
  | true =>
   have e := HR.out
   rw [if_neg (by simp [h1])] at e
   have HE := hide e
   clear e HR h1
   go_upto_region 5 with (go_at_call 158; refine (HX.out _).mono ?_; rintro e w2 ⟨rfl, b2⟩)
   have HP2 := hide (HP1.out.below b2)
   have HK2 := hide (HK1.out.trans (PK.of_below g lv fv b2))
   clear b2 HP1 HK1
   have c1 := HP2.out.cell 1
   rw [show (dcells d g lv fv)[1]? = some (.int .i64 (d.room : Int)) from rfl] at c1
   by_cases h2 : d.room < n
   ·have t2 : (d.room : Int) < (n : Int) := by omega
    have e := HE.out
    rw [if_pos h2] at e
    have HF := hide e
    clear e HE h2
    go_wp2_with fail
    go_ret
    exact ⟨by rw [<- HF.out]; rfl, _, by rw [<- HF.out]; exact HP2.out, HK2.out⟩
   ·have t2 : ¬ (d.room : Int) < (n : Int) := by omega
    have e := HE.out
    rw [if_neg h2] at e
    have HF := hide e
    have f1 := HP2.out.froz 1
    have i1 : (d.room : Int) - (n : Int) = ((d.room - n : Nat) : Int) := by omega
    have i2 : ((d.room - n : Nat) : Int) <= 9007199254740992 := by omega
    clear e HE
    go_upto_region 8 with fail
    have HP3 := hide (HP2.out.set 1 (.int .i64 ((d.room - n : Nat) : Int)) { d with room := d.room - n } rfl rfl rfl)
    have HK3 := hide (HK2.out.trans (PK.set w2 g 1 (.int .i64 ((d.room - n : Nat) : Int)) lv fv))
    clear c1 f1 i1 t2 h2
    generalize w2.setCell ⟨g, 1, none⟩ (.int .i64 ((d.room - n : Nat) : Int)) = w3 at HP3 HK3 |-
    have c2 := HP3.out.cell 2
    have f2 := HP3.out.froz 2
    go_upto_region 9 with fail
    have HP4 := hide (HP3.out.set 2 (.int .i64 (n : Int)) { d with room := d.room - n, left := n } rfl rfl rfl)
    have HK4 := hide (HK3.out.trans (PK.set w3 g 2 (.int .i64 (n : Int)) lv fv))
    clear c2 f2
    generalize w3.setCell ⟨g, 2, none⟩ (.int .i64 (n : Int)) = w4 at HP4 HK4 |-
    have c0 := HP4.out.cell 0
    have f0 := HP4.out.froz 0
    go_upto_region 10 with fail
    have HP5 := hide (HP4.out.set 0 (stV fnBody g) { d with room := d.room - n, left := n, fn := fnBody } rfl rfl rfl)
    have HK5 := hide (HK4.out.trans (PK.set w4 g 0 (stV fnBody g) lv fv))
    clear c0 f0
    have e5 : w4.setCell ⟨g, 0, none⟩ (.func (.func 159) #[.pointer (some ⟨g, 0, none⟩)] #[]) = w4.setCell ⟨g, 0, none⟩ (stV fnBody g) := rfl
    rw [e5]
    clear e5
    generalize w4.setCell ⟨g, 0, none⟩ (stV fnBody g) = w5 at HP5 HK5 |-
    by_cases h3 : n = 0
    ·have t3 : ((n : Int) == 0) = true := by rw [h3]; rfl
     have c0 := HP5.out.cell 0
     have f0 := HP5.out.froz 0
     have e := HF.out
     rw [if_pos h3] at e
     have HG := hide e
     clear e HF h3
     go_wp2_with fail
     go_ret
     exact ⟨by rw [<- HG.out]; rfl, _, by rw [<- HG.out]; exact HP5.out.set 0 (stV fnTrl g) _ rfl rfl rfl, HK5.out.trans (PK.set _ _ _ _ _ _)⟩
    ·have t3 : ((n : Int) == 0) = false := by rw [beq_eq_false_iff_ne]; omega
     have e := HF.out
     rw [if_neg h3] at e
     have HG := hide e
     clear e HF h3
     go_wp2_with fail
     go_ret
     exact ⟨by rw [<- HG.out]; rfl, _, by rw [<- HG.out]; exact HP5.out, HK5.out⟩
 ·have t1 : ((ne : Int) != 0) = true := by rw [bne_iff_ne]; omega
  have e := HR.out
  rw [if_pos (.inl h1)] at e
  have HE := hide e
  clear e HR h1
  go_wp2_with fail
  go_ret
  exact ⟨by rw [<- HE.out]; rfl, _, by rw [<- HE.out]; exact HP1.out, HK1.out⟩
theorem emp_t {s : ByteArray} (h : s.size = 0) : s.toList.isEmpty = true := by rw [Lib.toList_data, isEmpty_size]; exact decide_eq_true h
theorem emp_f {s : ByteArray} (h : s.size ≠ 0) : s.toList.isEmpty = false := by rw [Lib.toList_data, isEmpty_size]; exact decide_eq_false h
theorem trailer_any {w : World} {base g : Nat} {lv fv : Value} {d : Dz} (h : Dec w base g lv fv d) (hm : MX w) (s : ByteArray) (hs : s.size <= 8192) (hl : d.tr.length <= 100) :
  Calls Tryz.prog 165 #[.pointer (some ⟨g, 0, none⟩), .string s] w fun e w' => e = .returned (.int .i64 ((dTrl d s).1 : Int)) /\ ∃ fv', Dec w' base g lv fv' (dTrl d s).2 /\ PK w w' g lv fv lv fv' := by
 obtain ⟨fa, fc, rfl, _, _⟩ := h.trs.shape
 have HP := hide h
 have HM := hide hm
 clear h hm
 unfold dTrl
 by_cases h0 : s.size = 0
 ·have t0 := emp_t h0
  rw [if_pos h0]
  clear h0
  have c6 := HP.out.cell 6
  have f6 := HP.out.froz 6
  go_enter Tryz.func165, Tryz.ntmps165
  go_wp2_with fail
  go_ret
  exact ⟨rfl, _, HP.out.set 6 (.bool true) { d with whole := true } rfl rfl rfl, PK.set _ _ _ _ _ _⟩
 ·rw [if_neg h0]
  have t0 := emp_f h0
  clear h0
  have HC := hide (pcut_any s 58 w (by omega) HM.out)
  have z1 : (k1 58 s).size <= 8192 := by have := k1_size 58 s; omega
  have z2 : (k2 58 s).size <= 8192 := by have := k2_size 58 s; omega
  have HCL := hide (fun W => clone_any (k1 58 s) W (by omega))
  have HT := hide (fun W => trim_any (k2 58 s) W (by omega))
  have z3 : (trimS (k2 58 s)).size <= 8192 := by have := trim_size (k2 58 s); omega
  have HK := hide (fun (W : World) (v : Value) (hF : Flds W v [(k1 58 s, trimS (k2 58 s))]) => Check_any W v _ hF ⟨by simp, fun f hf => by
   rw [List.mem_singleton.1 hf]
   exact ⟨Nat.le_trans z1 (by omega), Nat.le_trans z3 (by omega)⟩⟩)
  simp only [chk_one] at HK
  unfold fldF
  generalize trimS (k2 58 s) = va at HT HK z3 |-
  generalize k1 58 s = na at HC HCL HK z1 |-
  generalize k2 58 s = tx at HC HT z2
  generalize k3 58 s = o1 at HC |-
  generalize chkF (na, va) = ck at HK |-
  generalize hR0 : (if o1 = false ∨ d.tr.length = 100 ∨ ck ≠ 0 then ((100 : Nat), d) else (0, { d with tr := d.tr ++ [(na, va)] })) = R
  have HX := hide hR0
  clear hR0
  go_enter Tryz.func165, Tryz.ntmps165
  go_upto_region 5 with (go_at_call 56; refine HC.out.mono ?_; rintro e w1 ⟨rfl, b1⟩)
  have HP1 := hide (HP.out.below b1)
  have HK1 := hide (PK.of_below g lv (.slice fa d.tr.length fc) b1)
  clear b1 HP
  go_wp2_with fail
  refine (HCL.out w1).mono ?_
  rintro e w2 ⟨rfl, b2⟩
  have HP2 := hide (HP1.out.below b2)
  have HK2 := hide (HK1.out.trans (PK.of_below g lv (.slice fa d.tr.length fc) b2))
  clear b2 HP1 HK1
  go_wp2_with fail
  refine (HT.out w2).mono ?_
  rintro e w3 ⟨rfl, b3⟩
  have HP3 := hide (HP2.out.below b3)
  have HK3 := hide (HK2.out.trans (PK.of_below g lv (.slice fa d.tr.length fc) b3))
  clear b3 HP2 HK2
  go_upto_region 6 with fail
  have HB4 := hide ((Below.refl w3.heap.size w3).alloc (Nat.le_refl _) (.cells #[.string na, .string va] 92))
  have HD := hide (hp_new w3 (.cells #[.string na, .string va] 92))
  have HP4 := hide (HP3.out.below HB4.out)
  have HK4 := hide (HK3.out.trans (PK.of_below g lv (.slice fa d.tr.length fc) HB4.out))
  clear HB4 HP3 HK3
  generalize w3.alloc (.cells #[.string na, .string va] 92) = x at HD HP4 HK4 |-
  generalize w3.heap.size = bf at HD |-
  have c5 := HP4.out.cell 5
  rw [show (dcells d g lv (.slice fa d.tr.length fc))[5]? = some (.slice fa d.tr.length fc) from rfl] at c5
  have d0 : x.cell? ⟨bf, 0, none⟩ = some (.string na) := cell_at HD.out 0
  have d1 : x.cell? ⟨bf, 1, none⟩ = some (.string va) := cell_at HD.out 1
  cases o1 with
  | false =>
   go_wp2_with fail
   go_ret
   exact ⟨by rw [<- HX.out]; rfl, _, by rw [<- HX.out]; exact HP4.out, HK4.out⟩
  | true =>
   by_cases h4 : d.tr.length = 100
   ·have t4 : ((d.tr.length : Int) == 100) = true := by simp [h4]
    have HX4 : Hid ((100, d) = R) := by (have e := HX.out; rw [if_pos (.inr (.inl h4))] at e; exact hide e)
    clear h4
    go_wp2_with fail
    go_ret
    exact ⟨by rw [<- HX4.out]; rfl, _, by rw [<- HX4.out]; exact HP4.out, HK4.out⟩
   ·have t4 : ((d.tr.length : Int) == 100) = false := by simp; omega
    have HCK := hide (HK.out _ _ (flds_one x na va))
    have HBX := hide ((Below.refl x.heap.size x).alloc (Nat.le_refl _) (.cells #[.string na, .string va] 92))
    by_cases h3 : ck = 0
    ·have HX4 : Hid ((0, { d with tr := d.tr ++ [(na, va)] }) = R) := by (have e := HX.out; rw [if_neg (by simp [h3, h4])] at e; exact hide e)
     subst h3
     clear h4 HX
     go_wp2_with fail
     refine HCK.out.mono ?_
     rintro e w5 ⟨rfl, b5⟩
     have HB5 := hide (HBX.out.trans (b5.mono HBX.out.size))
     have HD5 := hide ((HB5.out.block _ (lt_heap HD.out)).trans HD.out)
     have HP5 := hide (HP4.out.below HB5.out)
     have HK5 := hide (HK4.out.trans (PK.of_below g lv (.slice fa d.tr.length fc) HB5.out))
     clear b5 HB5 HBX d0 d1 HCK HD c5
     go_upto_region 8 with fail
     have c5 := HP5.out.cell 5
     have f5 := HP5.out.froz 5
     rw [show (dcells d g lv (.slice fa d.tr.length fc))[5]? = some (.slice fa d.tr.length fc) from rfl] at c5
     have d0 : w5.cell? ⟨bf, 0, none⟩ = some (.string na) := cell_at HD5.out 0
     have d1 : w5.cell? ⟨bf, 1, none⟩ = some (.string va) := cell_at HD5.out 1
     have BD := hide ((Below.refl w5.heap.size w5).drew)
     have HK6 := hide (HK5.out.trans (PK.of_below g lv (.slice fa d.tr.length fc) BD.out))
     obtain ⟨ad, n, c, W, hrun, q1, q2, hP, hK⟩ := (HP5.out.below BD.out).app_f 25 (na, va) hl
     have cA := ((HP5.out.below ((Below.refl w5.heap.size w5).alloc (Nat.le_refl _) (.cells #[.string na, .string va] 92))).cell 5)
     rw [show (dcells d g lv (.slice fa d.tr.length fc))[5]? = some (.slice fa d.tr.length fc) from rfl] at cA
     have HPW := hide hP
     have HKW := hide (HK6.out.trans hK)
     clear hP hK
     go_region_law (refine step_append_is rfl (.tmp 45) (.tmp 47) 25 rfl (.slice fa d.tr.length fc) (.slice (some ⟨w5.heap.size, 0, none⟩) 1 1) (.slice ad n c) (by simp [Act.eval]) (by simp [Act.eval]) hrun ?_)
     all_goals (go_wp2_with fail)
     all_goals go_ret
     all_goals exact ⟨by rw [<- HX4.out]; rfl, _, by rw [<- HX4.out]; exact HPW.out, HKW.out⟩
    ·have t3 : ((ck : Int) != 0) = true := by rw [bne_iff_ne]; omega
     have HX3 : Hid ((100, d) = R) := by (have e := HX.out; rw [if_pos (.inr (.inr h3))] at e; exact hide e)
     clear h3 HX h4
     go_wp2_with fail
     refine HCK.out.mono ?_
     rintro e w5 ⟨rfl, b5⟩
     have HB5 := hide (HBX.out.trans (b5.mono HBX.out.size))
     clear b5
     go_wp2_with fail
     go_ret
     exact ⟨by rw [<- HX3.out]; rfl, _, by rw [<- HX3.out]; exact HP4.out.below HB5.out, HK4.out.trans (PK.of_below _ _ _ HB5.out)⟩
def Bs (w : World) (base : Nat) (v : Value) (l : List UInt8) : Prop := ∃ (a : Option Addr) (c : Nat), v = .slice a l.length c /\ l.length <= c /\ ∀ j (h : j < l.length), ∃ g o, a = some ⟨g, o, none⟩ /\ g < base /\ g < w.heap.size /\ w.cell? ⟨g, o + j, none⟩ = some (.int .u8 (l[j].toNat : Int))
theorem Bs.below {w w' : World} {base base' : Nat} {v : Value} {l : List UInt8} (h : Bs w base v l) (hb : base <= base') (b : Below w.heap.size w w') : Bs w' base' v l := by
 obtain ⟨a, c, rfl, hc, hx⟩ := h
 refine ⟨a, c, rfl, hc, fun j hj => ?_⟩
 obtain ⟨g, o, h1, h2, h3, h4⟩ := hx j hj
 exact ⟨g, o, h1, Nat.lt_of_lt_of_le h2 hb, Nat.lt_of_lt_of_le h3 b.size, (b.cell (p := ⟨g, o + j, none⟩) h3).trans h4⟩
def Shp (v : Value) : Prop := v = .slice none 0 0 ∨ ∃ a n c, v = .slice (some a) n c
def Bf (w : World) (A : Nat -> Prop) (v : Value) (l : List UInt8) : Prop := ∃ (a : Option Addr) (c : Nat), v = .slice a l.length c /\ l.length <= c /\ ∀ j (h : j < l.length), ∃ g o, a = some ⟨g, o, none⟩ /\ A g /\ g < w.heap.size /\ w.cell? ⟨g, o + j, none⟩ = some (.int .u8 (l[j].toNat : Int))
theorem Bf.below {w w' : World} {A : Nat -> Prop} {v : Value} {l : List UInt8} (h : Bf w A v l) (b : Below w.heap.size w w') : Bf w' A v l := by
 obtain ⟨a, c, rfl, hc, hx⟩ := h
 refine ⟨a, c, rfl, hc, fun j hj => ?_⟩
 obtain ⟨g, o, h1, h2, h3, h4⟩ := hx j hj
 exact ⟨g, o, h1, h2, Nat.lt_of_lt_of_le h3 b.size, (b.cell (p := ⟨g, o + j, none⟩) h3).trans h4⟩
theorem Bf.keep {w w' : World} {A : Nat -> Prop} {v : Value} {l : List UInt8} (h : Bf w A v l) (hs : w.heap.size <= w'.heap.size) (b : ∀ k, A k -> k < w.heap.size -> w'.heap[k]? = w.heap[k]?) : Bf w' A v l := by
 obtain ⟨a, c, rfl, hc, hx⟩ := h
 refine ⟨a, c, rfl, hc, fun j hj => ?_⟩
 obtain ⟨g, o, h1, h2, h3, h4⟩ := hx j hj
 refine ⟨g, o, h1, h2, Nat.lt_of_lt_of_le h3 hs, ?_⟩
 rw [<- h4]
 unfold World.cell?
 rw [show (⟨g, o + j, none⟩ : Addr).block = g from rfl, b g h2 h3]
theorem Bf.bs {w : World} {A : Nat -> Prop} {v : Value} {l : List UInt8} (h : Bf w A v l) : Bs w w.heap.size v l := by
 obtain ⟨a, c, rfl, hc, hx⟩ := h
 refine ⟨a, c, rfl, hc, fun j hj => ?_⟩
 obtain ⟨g, o, h1, h2, h3, h4⟩ := hx j hj
 exact ⟨g, o, h1, h3, h3, h4⟩
structure Pce (w : World) (base : Nat) (A : Nat -> Prop) (h : Nat) (rv bv : Value) (rest body : List UInt8) : Prop where
 blk : w.heap[h]? = some (.cells #[rv, bv] 233 (0, 0))
 rest : Bf w A rv rest
 shp : Shp rv
 body : Row w base 5 bv (bc body)
 hb : base <= h
 bh : bv.ownBlock ≠ some h
 hA : ¬ A h
 bA : ∀ k, bv.ownBlock = some k -> ¬ A k
 AL : ∀ k, A k -> k < w.heap.size
theorem Pce.lt {w : World} {base h : Nat} {A : Nat -> Prop} {rv bv : Value} {rest body : List UInt8} (p : Pce w base A h rv bv rest body) : h < w.heap.size := lt_heap p.blk
theorem Pce.cell {w : World} {base h : Nat} {A : Nat -> Prop} {rv bv : Value} {rest body : List UInt8} (p : Pce w base A h rv bv rest body) (i : Nat) : w.cell? ⟨h, i, none⟩ = (#[rv, bv] : Array Value)[i]? := cell_at p.blk i
theorem Pce.froz {w : World} {base h : Nat} {A : Nat -> Prop} {rv bv : Value} {rest body : List UInt8} (p : Pce w base A h rv bv rest body) (i : Nat) : w.frozen? ⟨h, i, none⟩ = false := by rw [frozen_at p.blk]; simp
theorem Pce.below {w w' : World} {base h : Nat} {A : Nat -> Prop} {rv bv : Value} {rest body : List UInt8} (p : Pce w base A h rv bv rest body) (b : Below w.heap.size w w') : Pce w' base A h rv bv rest body :=
 ⟨(b.block h p.lt).trans p.blk, p.rest.below b, p.shp, p.body.below b, p.hb, p.bh, p.hA, p.bA, fun k hk => Nat.lt_of_lt_of_le (p.AL k hk) b.size⟩
theorem Pce.turn {w : World} {base h : Nat} {A : Nat -> Prop} {rv bv : Value} {rest body : List UInt8} (p : Pce w base A h rv bv rest body) {rv' : Value} {rest' : List UInt8} (hr : Bf w A rv' rest') (hs : Shp rv') : Pce (w.setCell ⟨h, 0, none⟩ rv') base A h rv' bv rest' body := by
 refine ⟨hp_set p.blk 0 rv', hr.keep (by simp) (fun k hk _ => Below.heap_setCell w ⟨h, 0, none⟩ rv' k (fun e => p.hA (by rw [<- show k = h from e]; exact hk))), hs, ?_, p.hb, p.bh, p.hA, p.bA, fun k hk => by simpa using p.AL k hk⟩
 exact p.body.frame fun k hk => Below.heap_setCell w ⟨h, 0, none⟩ rv' k (fun e => p.bh (by rw [hk, e]))
structure QK (w w' : World) (h : Nat) (bv bv' : Value) : Prop where
 os : w'.os = w.os
 tape : w'.tape = w.tape
 output : w'.output = w.output
 size : w.heap.size <= w'.heap.size
 block : ∀ k, k < w.heap.size -> k ≠ h -> bv.ownBlock ≠ some k -> w'.heap[k]? = w.heap[k]?
 ba : ∀ k, k < w.heap.size -> bv.ownBlock ≠ some k -> bv'.ownBlock ≠ some k
theorem QK.trans {a b c : World} {h : Nat} {u v x : Value} (p : QK a b h u v) (q : QK b c h v x) : QK a c h u x :=
 ⟨q.os.trans p.os, q.tape.trans p.tape, q.output.trans p.output, Nat.le_trans p.size q.size, fun k hk h1 h2 => (q.block k (Nat.lt_of_lt_of_le hk p.size) h1 (p.ba k hk h2)).trans (p.block k hk h1 h2), fun k hk h2 => q.ba k (Nat.lt_of_lt_of_le hk p.size) (p.ba k hk h2)⟩
theorem QK.set (w : World) (h i : Nat) (v bv : Value) : QK w (w.setCell ⟨h, i, none⟩ v) h bv bv :=
 ⟨rfl, rfl, rfl, by simp, fun k _ hk _ => Below.heap_setCell w ⟨h, i, none⟩ v k hk, fun _ _ h => h⟩
theorem QK.of_below {w w' : World} (h : Nat) (bv : Value) (b : Below w.heap.size w w') : QK w w' h bv bv :=
 ⟨b.os, b.tape, b.output, b.size, fun k hk _ _ => b.block k hk, fun _ _ h => h⟩
theorem Bf.tail {w : World} {A : Nat -> Prop} {g o : Nat} {c : Nat} {x : UInt8} {l : List UInt8} (h : Bf w A (.slice (some ⟨g, o, none⟩) (l.length + 1) c) (x :: l)) : Bf w A (.slice (some ⟨g, o + 1, none⟩) l.length (c - 1)) l := by
 obtain ⟨a, c', he, hc, hx⟩ := h
 simp only [Value.slice.injEq, List.length_cons] at he hc
 obtain ⟨rfl, _, rfl⟩ := he
 refine ⟨_, c - 1, rfl, by omega, fun j hj => ?_⟩
 obtain ⟨g', o', h1, h2, h3, h4⟩ := hx (j + 1) (by simp; omega)
 simp only [Option.some.injEq, Addr.mk.injEq] at h1
 obtain ⟨rfl, rfl, _⟩ := h1
 refine ⟨g, o + 1, rfl, h2, h3, ?_⟩
 rw [show o + 1 + j = o + (j + 1) by omega, h4]
 simp
theorem next_any {w : World} {base h : Nat} {A : Nat -> Prop} {rv bv : Value} {x : UInt8} {rest body : List UInt8} (p : Pce w base A h rv bv (x :: rest) body) (hl : rest.length <= 140737488355328) :
  Calls Tryz.prog 156 #[.pointer (some ⟨h, 0, none⟩)] w fun e w' => e = .returned (.int .u8 (x.toNat : Int)) /\ ∃ rv', Pce w' base A h rv' bv rest body /\ QK w w' h bv bv := by
 have HP := hide p
 obtain ⟨a, c, rfl, hc, hx⟩ := p.rest
 obtain ⟨g, o, rfl, hg1, hg2, hx0⟩ := hx 0 (by simp)
 have HR := hide p.rest
 simp only [List.length_cons] at hc
 have hlen : (x :: rest).length = rest.length + 1 := rfl
 rw [hlen] at HP HR
 have c0 : w.cell? ⟨h, 0, none⟩ = some (.slice (some ⟨g, o, none⟩) (rest.length + 1) c) := HP.out.cell 0
 have f0 := HP.out.froz 0
 have r0 : w.cell? ⟨g, o, none⟩ = some (.int .u8 (x.toNat : Int)) := hx0
 clear p hx hx0 hlen
 by_cases h1 : c = 1
 ·subst h1
  have hr0 : rest = [] := List.eq_nil_of_length_eq_zero (by omega)
  subst hr0
  go_enter Tryz.func156, Tryz.ntmps156
  go_wp2
  go_ret
  exact ⟨rfl, _, HP.out.turn ⟨_, 0, rfl, Nat.le_refl _, fun j hj => by simp at hj⟩ (.inr ⟨_, _, _, rfl⟩), QK.set _ _ _ _ _⟩
 ·go_enter Tryz.func156, Tryz.ntmps156
  go_wp2
  go_ret
  exact ⟨rfl, _, HP.out.turn HR.out.tail (.inr ⟨_, _, _, rfl⟩), QK.set _ _ _ _ _⟩
end Go.Proofs.YtecjlcjaccijpaaGreatDoor
