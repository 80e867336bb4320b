/- YQ. -/
import Derived.Test.YtecjlcjaccijpaaGreatDoorYD
import Derived.Test.YtecjlcjaccijpaaGreatDoorYHH
import Derived.Test.YtecjlcjaccijpaaGreatDoorYG
import Derived.Test.YtecjlcjaccijpaaGreatDoorYB2
import Derived.Laws.EntriesVeiled
import Derived.Test.YtecjlcjaccijpaaGreatDoorYB
import Derived.OwnWalk
import Derived.Test.YtecjlcjaccijpaaGreatDoorYT
import Derived.Lib.SlBytesConst
import Derived.Test.YtecjlcjaccijpaaGreatDoorRows
import Derived.Lib.LaidTab
import Derived.LaidLaws
import Derived.LaidHandle
import Derived.LaidSub
import Derived.Stop.LaidErr
import Derived.Shelf.Vars
import Derived.Lay
import Derived.MakeChecks
namespace Go.Proofs.YtecjlcjaccijpaaGreatDoor
open Go.ChangeShapes Go.WideShapes Go.ChangeAt Go.RowKit
set_option linter.unusedVariables false
set_option maxHeartbeats 16000000
set_option maxRecDepth 100000
structure Uk where
 me : ByteArray
 mo : Nat
 pa : Nat
 kn : Bool
 fk : Int
 fl : Int
 fp : Bool
 en : Bool
def usC (k : Uk) (st pv bv : Value) (wr : Int) : Array Value := #[.string k.me, .int .i64 (k.mo : Int), st, pv, .int .i64 (k.pa : Int), .bool k.kn, .int .i64 k.fk, .int .i64 k.fl, .bool k.fp, bv, .bool k.en, .int .i64 wr]
def uH (c : Nat) : Value := .func (.func 26) #[.pointer (some ⟨c, 0, none⟩)] #[]
def uB (c : Nat) : Value := .func (.func 89) #[.pointer (some ⟨c, 0, none⟩)] #[]
structure CK (w w' : World) (c : Nat) : Prop where
 os : w'.os = w.os
 tape : w'.tape = w.tape
 output : w'.output = w.output
 size : w.heap.size <= w'.heap.size
 block : ∀ k, k < w.heap.size -> k ≠ c -> w'.heap[k]? = w.heap[k]?
theorem CK.refl (w : World) (c : Nat) : CK w w c := ⟨rfl, rfl, rfl, Nat.le_refl _, fun _ _ _ => rfl⟩
theorem CK.trans {a b d : World} {c : Nat} (h : CK a b c) (k : CK b d c) : CK a d c := ⟨k.os.trans h.os, k.tape.trans h.tape, k.output.trans h.output, Nat.le_trans h.size k.size, fun i hi hc => (k.block i (Nat.lt_of_lt_of_le hi h.size) hc).trans (h.block i hi hc)⟩
theorem CK.of_below {w w' : World} (c : Nat) (b : Below w.heap.size w w') : CK w w' c := ⟨b.os, b.tape, b.output, b.size, fun k hk _ => b.block k hk⟩
theorem CK.set (w : World) (c i : Nat) (v : Value) : CK w (w.setCell ⟨c, i, none⟩ v) c := ⟨rfl, rfl, rfl, by simp, fun k _ hk => Below.heap_setCell w ⟨c, i, none⟩ v k hk⟩
theorem CK.low {w w' : World} {c base : Nat} (h : CK w w' c) (h1 : base <= c) (h2 : base <= w.heap.size) : Below base w w' := ⟨h.os, h.tape, h.output, h.size, fun k hk => h.block k (by omega) (by omega)⟩
theorem CK.drew {w w' : World} {c : Nat} (h : CK w w' c) : CK w w'.drew c := ⟨h.os, h.tape, h.output, h.size, h.block⟩
section
variable {w : World} {c : Nat} {k : Uk} {st pv bv : Value} {wr : Int}
abbrev ClB (w : World) (c : Nat) (k : Uk) (st pv bv : Value) (wr : Int) : Prop := w.heap[c]? = some (.cells (usC k st pv bv wr) 65 (0, 0))
theorem cl_cells (h : ClB w c k st pv bv wr) : w.cell? ⟨c, 0, none⟩ = some (.string k.me) /\ w.cell? ⟨c, 1, none⟩ = some (.int .i64 (k.mo : Int)) /\ w.cell? ⟨c, 2, none⟩ = some st /\ w.cell? ⟨c, 3, none⟩ = some pv /\ w.cell? ⟨c, 4, none⟩ = some (.int .i64 (k.pa : Int)) /\ w.cell? ⟨c, 5, none⟩ = some (.bool k.kn) /\ w.cell? ⟨c, 6, none⟩ = some (.int .i64 k.fk) /\ w.cell? ⟨c, 7, none⟩ = some (.int .i64 k.fl) /\ w.cell? ⟨c, 8, none⟩ = some (.bool k.fp) /\ w.cell? ⟨c, 9, none⟩ = some bv /\ w.cell? ⟨c, 10, none⟩ = some (.bool k.en) /\ w.cell? ⟨c, 11, none⟩ = some (.int .i64 wr) :=
 ⟨cell_at h 0, cell_at h 1, cell_at h 2, cell_at h 3, cell_at h 4, cell_at h 5, cell_at h 6, cell_at h 7, cell_at h 8, cell_at h 9, cell_at h 10, cell_at h 11⟩
theorem cl_fz (h : ClB w c k st pv bv wr) (i : Nat) : w.frozen? ⟨c, i, none⟩ = false := by rw [frozen_at h]; simp
end
theorem Par.ck {w w' : World} {base g c : Nat} {lv fv : Value} {p : Pz} (h : Par w base g lv fv p) (k : CK w w' c) (a : Ap g lv fv c) : Par w' base g lv fv p :=
 ⟨(k.block g h.lt (fun e => a.1 e.symm)).trans h.blk, h.line.frame fun i hi => k.block i (h.line.lt hi).2 (fun e => a.2.1 (e ▸ hi)), h.flds.frame fun i hi => k.block i (h.flds.lt hi).2 (fun e => a.2.2 (e ▸ hi)), h.gb, h.gl, h.gf, h.lf⟩
theorem ap_nil {g bk : Nat} (h : bk ≠ g) : Ap g (.slice none 0 0) (.slice none 0 0) bk := ⟨h, by simp [Value.ownBlock], by simp [Value.ownBlock]⟩
structure HK (w w' : World) (c g : Nat) (lv fv : Value) : Prop where
 os : w'.os = w.os
 tape : w'.tape = w.tape
 output : w'.output = w.output
 size : w.heap.size <= w'.heap.size
 block : ∀ i, i < w.heap.size -> i ≠ c -> Ap g lv fv i -> w'.heap[i]? = w.heap[i]?
theorem HK.of {w w1 w' : World} {c g : Nat} {lv fv lv' fv' : Value} (k : PKh w w1 g lv fv lv' fv') (h : CK w1 w' c) : HK w w' c g lv fv := ⟨h.os.trans k.os, h.tape.trans k.tape, h.output.trans k.output, Nat.le_trans k.size h.size, fun i h1 h2 h3 => (h.block i (Nat.lt_of_lt_of_le h1 k.size) h2).trans (k.block i h1 h3.1 h3.2.1 h3.2.2)⟩
theorem HK.low {w w' : World} {base c g B : Nat} {lv fv : Value} {p : Pz} (k : HK w w' c g lv fv) (hp : Par w base g lv fv p) (h0 : B <= c) (h1 : B <= base) (h2 : B <= w.heap.size) : Below B w w' :=
 ⟨k.os, k.tape, k.output, k.size, fun i hi => k.block i (by omega) (by omega) ⟨by have := hp.gb; omega, fun e => by have := (hp.line.lt e).1; omega, fun e => by have := (hp.flds.lt e).1; omega⟩⟩
theorem u_eq_fun (fn : Nat) (c : Nat) (w : World) : (binOp BinOp.eql 62 (.func (.func fn) #[.pointer (some ⟨c, 0, none⟩)] #[]) .nilFunc).run Tryz.prog w = .ok (.bool false) w := by kernel_rfl
theorem hr_inter {w : World} {c : Nat} {k : Uk} {st pv bv : Value} {wr : Int} {p : Pz} {la : Option Addr} {ln lc : Nat} (h : ClB w c k st pv bv wr) (hs : p.status < 200) (h1 : p.status ≠ 101) (hp : k.pa < 8) (hm : 16 <= k.mo) (hm2 : k.mo <= 65536) :
  Calls Tryz.prog 43 #[.pointer (some ⟨c, 0, none⟩), hdV p (.slice la ln lc)] w fun e w' => e = .returned (.tuple #[]) /\ ∃ g, w.heap.size < g /\ Par w' g g (.slice none 0 0) (.slice none 0 0) (pNew false k.mo) /\ ClB w' c { k with pa := k.pa + 1 } st (.pointer (some ⟨g, 0, none⟩)) bv wr /\ CK w w' c := by
 have hcl := lt_heap h
 have HN := hide (fun W => hnew_any false k.mo W hm hm2)
 have B0 := hide ((Below.refl w.heap.size w).alloc (Nat.le_refl _) (.cells #[.bool p.req, .string p.me, .string p.ta, .int .i64 (p.minor : Int), .int .i64 (p.status : Int), .string p.re, .slice la ln lc] 27))
 have F0 := hide (hp_new w (.cells #[.bool p.req, .string p.me, .string p.ta, .int .i64 (p.minor : Int), .int .i64 (p.status : Int), .string p.re, .slice la ln lc] 27))
 have H0 := hide ((B0.out.block c hcl).trans h)
 unfold hdV
 have t1 : ¬ (200 : Int) <= (p.status : Int) := by omega
 have t2 : (p.status : Int) < 200 := by omega
 have t3 : ((p.status : Int) == 101) = false := by simp; omega
 have t4 : ((k.pa : Int) == 8) = false := by simp; omega
 have hpa := hp
 clear h hm hm2 hs h1 hp
 go_enter Tryz.func43, Tryz.ntmps43
 go_upto_region 3 with fail
 generalize w.alloc _ = w1 at *
 have e4 : w1.cell? ⟨w.heap.size, 4, none⟩ = some (.int .i64 (p.status : Int)) := cell_at F0.out 4
 obtain ⟨-, -, -, -, k4, -, -, -, -, -, -, -⟩ := cl_cells H0.out
 have z4 := cl_fz H0.out 4
 have H1 : Hid (ClB (w1.setCell ⟨c, 4, none⟩ (.int .i64 ((k.pa : Int) + 1))) c { k with pa := k.pa + 1 } st pv bv wr) := hide (hp_set H0.out 4 _)
 have C1 := hide ((CK.of_below c B0.out).trans (CK.set w1 c 4 (.int .i64 ((k.pa : Int) + 1))))
 have hs1 : w.heap.size < w1.heap.size := lt_heap F0.out
 go_upto_region 2 with fail
 have hs2 : w1.heap.size = (w1.setCell ⟨c, 4, none⟩ (.int .i64 ((k.pa : Int) + 1))).heap.size := by simp
 clear e4 k4 z4 F0 H0 B0
 generalize w1.setCell ⟨c, 4, none⟩ (.int .i64 ((k.pa : Int) + 1)) = w2 at *
 obtain ⟨-, k1, -, -, -, -, -, -, -, -, -, -⟩ := cl_cells H1.out
 have hcl2 : c < w2.heap.size := lt_heap H1.out
 go_wp2_with (go_at_call 24; refine (HN.out w2).mono ?_; rintro e w3 ⟨rfl, y1, y2⟩; have H2 := hide ((y2.block c hcl2).trans H1.out); have HP := hide y1; have C2 := hide (C1.out.trans (CK.of_below c y2)); clear y1 y2; have k3 := (cl_cells H2.out).2.2.2.1; have z3 := cl_fz H2.out 3)
 have H3 : Hid (ClB (w3.setCell ⟨c, 3, none⟩ (.pointer (some ⟨w2.heap.size, 0, none⟩))) c { k with pa := k.pa + 1 } st (.pointer (some ⟨w2.heap.size, 0, none⟩)) bv wr) := hide (hp_set H2.out 3 _)
 have HP3 := hide (HP.out.ck (CK.set w3 c 3 (.pointer (some ⟨w2.heap.size, 0, none⟩))) (ap_nil (by omega)))
 have C3 := hide (C2.out.trans (CK.set w3 c 3 (.pointer (some ⟨w2.heap.size, 0, none⟩))))
 go_end0
 exact ⟨rfl, w2.heap.size, by omega, HP3.out, H3.out, C3.out⟩
theorem readHead_of {w : World} {c : Nat} {k : Uk} {bv : Value} {wr : Int} {base g : Nat} {lv fv : Value} {p p' : Pz} {n : Nat} (h : ClB w c k (uH c) (.pointer (some ⟨g, 0, none⟩)) bv wr) (hp : Par w base g lv fv p) (hf : Fit p) (hz : Sz p) (hm : MX w) (he : ET w) (hb : 3 <= base) (ha : Ap g lv fv c) (v : Value) (l : List UInt8) (hv : Bf w (Ap g lv fv) v l) (hl : l.length <= 140737488355328) (hF : pFeed p l = (n, true, 0, p')) (hw : p'.whole = true)
  (Post : World -> Prop) (hR : ∀ W lv' fv' la lc b, w.heap.size <= W.heap.size -> ClB W c k (uH c) (.pointer (some ⟨g, 0, none⟩)) bv 0 -> Par W base g lv' fv' p' -> Ap g lv' fv' c -> c < b -> FRow W b (.slice la p'.fs.length lc) p'.fs -> Calls Tryz.prog 43 #[.pointer (some ⟨c, 0, none⟩), hdV p' (.slice la p'.fs.length lc)] W fun e w' => e = .returned (.tuple #[]) /\ Post w' /\ CK W w' c) :
  Calls Tryz.prog 26 #[.pointer (some ⟨c, 0, none⟩), v] w fun e w' => e = .returned (.tuple #[.int .i64 (n : Int), .slice none 0 0]) /\ Post w' /\ HK w w' c g lv fv := by
 have HF := hide (hfeed_any hp hf hm he hb v l hv hl)
 have hf2 := hf.feed l
 have hz2 := hz.feed hf l
 rw [hF] at HF hf2 hz2
 dsimp only at hf2 hz2
 unfold fdV at HF
 dsimp only at HF
 have HRd := hide hR
 have HFZ := hide (And.intro hf2 (And.intro hz2 hw))
 obtain ⟨-, -, -, k3, -, -, -, -, -, -, -, -⟩ := cl_cells h
 have HH := hide h
 have hcl : c < w.heap.size := lt_heap h
 have HC : Hid (∀ w' lv' fv', PKh w w' g lv fv lv' fv' -> w'.heap[c]? = w.heap[c]? /\ Ap g lv' fv' c) := hide (fun w' lv' fv' k => ⟨k.block c hcl ha.1 ha.2.1 ha.2.2, ha.pk k hcl⟩)
 clear h hp hf hm he hv hF hf2 hz2 hz hw hR ha
 go_enter Tryz.func26, Tryz.ntmps26
 go_upto_region 4 with (go_at_call 42; refine HF.out.mono ?_; rintro e w1 ⟨rfl, lv', fv', y1, y2⟩; have H1 := hide ((HC.out _ _ _ y2).1.trans HH.out); have HA1 := hide (HC.out _ _ _ y2).2; have HY := hide y1; have HL := hide y2; have hs1 := y2.size; clear y1 y2; have k11 := (cl_cells H1.out).2.2.2.2.2.2.2.2.2.2.2; have z11 := cl_fz H1.out 11)
 have H2 : Hid (ClB (w1.setCell ⟨c, 11, none⟩ (.int .i64 0)) c k (uH c) (.pointer (some ⟨g, 0, none⟩)) bv 0) := hide (hp_set H1.out 11 _)
 have HY2 := hide (HY.out.ck (CK.set w1 c 11 (.int .i64 0)) HA1.out)
 have C2 := hide (CK.set w1 c 11 (.int .i64 0))
 have hs2 : w.heap.size <= (w1.setCell ⟨c, 11, none⟩ (.int .i64 0)).heap.size := by simpa using hs1
 clear k3 k11 z11 H1 HY HF HH HC
 generalize w1.setCell ⟨c, 11, none⟩ (.int .i64 0) = w2 at *
 have k3 := (cl_cells H2.out).2.2.2.1
 have HD := hide (head_whole HY2.out HFZ.out.2.2 HFZ.out.2.1 HFZ.out.1)
 unfold hdV at HD HRd
 have hcl2 : c < w2.heap.size := lt_heap H2.out
 go_wp2_with (go_at_call 31; refine HD.out.mono ?_; rintro e w3 ⟨lh, rfl, y1, y2⟩; have HS := hide y1.shape; have HL3 := hide y1; have H3 := hide ((y2.block c hcl2).trans H2.out); have HY3 := hide (HY2.out.below y2); have C3 := hide (C2.out.trans (CK.of_below c y2)); have hs3 := y2.size; clear y1 y2)
 obtain ⟨la, lc, rfl, -⟩ := HS.out
 refine (HRd.out w3 lv' fv' la lc w2.heap.size (by omega) H3.out HY3.out HA1.out hcl2 HL3.out).mono ?_
 rintro e w4 ⟨rfl, y1, y2⟩
 have HZ := hide y1
 have HB4 := hide (HK.of HL.out (C3.out.trans y2))
 clear y1 y2 HRd H3 HY3 HL3 HS HD HL C3
 go_wp2_with fail
 go_ret2
 exact ⟨rfl, HZ.out, HB4.out⟩
def putF (w : World) (c : Nat) (fk fl : Int) (fp : Bool) : World := ((w.setCell ⟨c, 6, none⟩ (.int .i64 fk)).setCell ⟨c, 7, none⟩ (.int .i64 fl)).setCell ⟨c, 8, none⟩ (.bool fp)
theorem putF_ok {w : World} {c : Nat} {k : Uk} {st pv bv : Value} {wr : Int} (h : ClB w c k st pv bv wr) (fk fl : Int) (fp : Bool) : ClB (putF w c fk fl fp) c { k with fk := fk, fl := fl, fp := fp } st pv bv wr /\ CK w (putF w c fk fl fp) c := by
 have a0 : ClB (w.setCell ⟨c, 6, none⟩ (.int .i64 fk)) c { k with fk := fk } st pv bv wr := hp_set h 6 _
 have a1 : ClB (_) c { k with fk := fk, fl := fl } st pv bv wr := hp_set a0 7 (.int .i64 fl)
 have a2 : ClB (_) c { k with fk := fk, fl := fl, fp := fp } st pv bv wr := hp_set a1 8 (.bool fp)
 exact ⟨a2, ((CK.set w c 6 _).trans (CK.set _ c 7 _)).trans (CK.set _ c 8 _)⟩
theorem beginBody_of {w : World} {c b : Nat} {k : Uk} {pv bv : Value} {wr : Int} {p : Pz} {la : Option Addr} {lc : Nat} {fk fl : Int} {fp : Bool} (h : ClB w c k (uH c) pv bv wr) (hcb : c < b) (hl : FRow w b (.slice la p.fs.length lc) p.fs) (hS : Sm p.fs) (hq : resO p.fs p.req (p.minor : Int) (p.status : Int) k.me = ⟨fk, fl, fp, 0⟩)
    (R : World -> World -> Option Addr -> Prop) (hN : ∀ W, Calls Tryz.prog 88 #[frV fk fl fp, .int .i64 9007199254740992] W fun e w' => ∃ ro, e = .returned (.tuple #[.pointer ro, .int .i64 0]) /\ R W w' ro /\ Below W.heap.size W w') :
    Calls Tryz.prog 64 #[.pointer (some ⟨c, 0, none⟩), hdV p (.slice la p.fs.length lc)] w fun e w' => e = .returned (.tuple #[]) /\ (∃ W y ro, w.heap.size <= W.heap.size /\ R W y ro /\ CK y w' c /\ c < W.heap.size /\ ClB w' c { k with kn := true, fk := fk, fl := fl, fp := fp } (uB c) pv (.pointer ro) 0) /\ CK w w' c := by
  have hcl := lt_heap h
  have HQ := hide (fun W (ck : CK w W c) => (res_any W p.req p.me p.ta (p.minor : Int) (p.status : Int) p.re (.slice la p.fs.length lc) p.fs k.me (Flds.of_row (hl.frame fun i e => ck.block i (hl.lt e).2 (by have := (hl.lt e).1; omega))) hS))
  rw [hq] at HQ
  unfold hdC foV at HQ
  have HN := hide hN
  unfold frV at HN
  unfold frVg at HQ
  have HQ2 : Hid (∀ W (ck : CK w W c), Calls Tryz.prog 87 #[.agg #[.bool p.req, .string p.me, .string p.ta, .int .i64 (p.minor : Int), .int .i64 (p.status : Int), .string p.re, .slice la p.fs.length lc], .string k.me] W fun e w' => ∃ r, e = .returned r /\ r = .tuple #[.agg #[.int .i64 fk, .int .i64 fl, .bool fp], .int .i64 0] /\ Below W.heap.size W w') := hide (fun W ck => (HQ.out W ck).mono (fun e w' ⟨a1, a2⟩ => ⟨_, a1, rfl, a2⟩))
  have B0 := hide ((Below.refl w.heap.size w).alloc (Nat.le_refl _) (.cells #[.bool p.req, .string p.me, .string p.ta, .int .i64 (p.minor : Int), .int .i64 (p.status : Int), .string p.re, .slice la p.fs.length lc] 27))
  have F0 := hide (hp_new w (.cells #[.bool p.req, .string p.me, .string p.ta, .int .i64 (p.minor : Int), .int .i64 (p.status : Int), .string p.re, .slice la p.fs.length lc] 27))
  have H0 := hide ((B0.out.block c hcl).trans h)
  unfold hdV
  clear h hl hS hq hN HQ
  go_enter Tryz.func64, Tryz.ntmps64
  go_upto_region 1 with fail
  generalize w.alloc _ = w1 at *
  have k5 := (cl_cells H0.out).2.2.2.2.2.1
  have z5 := cl_fz H0.out 5
  have H1 : Hid (ClB (w1.setCell ⟨c, 5, none⟩ (.bool true)) c { k with kn := true } (uH c) pv bv wr) := hide (hp_set H0.out 5 _)
  have C1 := hide ((CK.of_below c B0.out).trans (CK.set w1 c 5 (.bool true)))
  have hs1 : w.heap.size < w1.heap.size := lt_heap F0.out
  have F1 := hide ((Below.heap_setCell w1 ⟨c, 5, none⟩ (.bool true) w.heap.size (by have : c ≠ w.heap.size := by omega
                                                                                    exact fun e => this e.symm)).trans F0.out)
  go_upto_region 2 with fail
  clear k5 z5 H0 B0 F0
  generalize w1.setCell ⟨c, 5, none⟩ (.bool true) = w2 at *
  have k0 := (cl_cells H1.out).1
  have e0 : w2.cell? ⟨w.heap.size, 0, none⟩ = some (.bool p.req) := cell_at F1.out 0
  have e1 : w2.cell? ⟨w.heap.size, 1, none⟩ = some (.string p.me) := cell_at F1.out 1
  have e2 : w2.cell? ⟨w.heap.size, 2, none⟩ = some (.string p.ta) := cell_at F1.out 2
  have e3 : w2.cell? ⟨w.heap.size, 3, none⟩ = some (.int .i64 (p.minor : Int)) := cell_at F1.out 3
  have e4 : w2.cell? ⟨w.heap.size, 4, none⟩ = some (.int .i64 (p.status : Int)) := cell_at F1.out 4
  have e5 : w2.cell? ⟨w.heap.size, 5, none⟩ = some (.string p.re) := cell_at F1.out 5
  have e6 : w2.cell? ⟨w.heap.size, 6, none⟩ = some (.slice la p.fs.length lc) := cell_at F1.out 6
  have hs2 := C1.out.size
  have hcl2 : c < w2.heap.size := lt_heap H1.out
  go_region_law (refine step_callg rfl 87 _ _ rfl (enters_of Tryz.func87 (by kernel_rfl) rfl) #[.agg #[.bool p.req, .string p.me, .string p.ta, .int .i64 (p.minor : Int), .int .i64 (p.status : Int), .string p.re, .slice la p.fs.length lc], .string k.me] (by simp [Act.eval]) _ (HQ2.out _ C1.out.drew) ?_; rintro v y ⟨rfl, y1⟩; have HY : Hid (ClB y c { k with kn := true } (uH c) pv bv wr) := hide ((y1.block c hcl2).trans H1.out); have CY := hide (C1.out.drew.trans (CK.of_below c y1)); have hsy := y1.size; clear y1; obtain ⟨-, -, -, -, -, -, k6, k7, k8, -, -, k11⟩ := cl_cells HY.out; have z6 := cl_fz HY.out 6; have z7 := cl_fz HY.out 7; have z8 := cl_fz HY.out 8; have z11 := cl_fz HY.out 11)
  all_goals
    have HF := hide (putF_ok HY.out fk fl fp)
    have H3 : Hid (ClB ((putF y c fk fl fp).setCell ⟨c, 11, none⟩ (.int .i64 0)) c { k with kn := true, fk := fk, fl := fl, fp := fp } (uH c) pv bv 0) := hide (hp_set HF.out.1 11 _)
    have C3 := hide (CY.out.trans (HF.out.2.trans (CK.set _ c 11 (.int .i64 0))))
    unfold putF at H3 C3
    go_upto_region 3 with fail
    clear k0 e0 e1 e2 e3 e4 e5 e6 k6 k7 k8 k11 z6 z7 z8 z11 HF HY CY F1 H1 C1 HQ2
    generalize (((y.setCell ⟨c, 6, none⟩ (.int .i64 fk)).setCell ⟨c, 7, none⟩ (.int .i64 fl)).setCell ⟨c, 8, none⟩ (.bool fp)).setCell ⟨c, 11, none⟩ (.int .i64 0) = w3 at *
    obtain ⟨-, -, -, -, -, -, k6, k7, k8, -, -, k11⟩ := cl_cells H3.out
    have hcl3 : c < w3.heap.size := lt_heap H3.out
    go_upto_region 5 with (go_at_call 88; refine (HN.out w3).mono ?_; rintro e y4 ⟨ro, rfl, y1, y2⟩; have HY := hide ((y2.block c hcl3).trans H3.out); have CY := hide (C3.out.trans (CK.of_below c y2)); have HR := hide y1; clear y1 y2; have k9 := (cl_cells HY.out).2.2.2.2.2.2.2.2.2.1; have q11 := (cl_cells HY.out).2.2.2.2.2.2.2.2.2.2.2; have z9 := cl_fz HY.out 9; have z11 := cl_fz HY.out 11)
    have H5 : Hid (ClB ((y4.setCell ⟨c, 9, none⟩ (.pointer ro)).setCell ⟨c, 11, none⟩ (.int .i64 0)) c { k with kn := true, fk := fk, fl := fl, fp := fp } (uH c) pv (.pointer ro) 0) := by
      have a0 : ClB (y4.setCell ⟨c, 9, none⟩ (.pointer ro)) c { k with kn := true, fk := fk, fl := fl, fp := fp } (uH c) pv (.pointer ro) 0 := hp_set HY.out 9 _
      exact hide (hp_set a0 11 (.int .i64 0))
    have C5 := hide ((CK.set y4 c 9 (.pointer ro)).trans (CK.set _ c 11 (.int .i64 0)))
    clear k6 k7 k8 k11 k9 q11 z9 z11 HY
    generalize (y4.setCell ⟨c, 9, none⟩ (.pointer ro)).setCell ⟨c, 11, none⟩ (.int .i64 0) = w5 at *
    have k2 := (cl_cells H5.out).2.2.1
    have z2 := cl_fz H5.out 2
    have H6 : Hid (ClB (w5.setCell ⟨c, 2, none⟩ (uB c)) c { k with kn := true, fk := fk, fl := fl, fp := fp } (uB c) pv (.pointer ro) 0) := hide (hp_set H5.out 2 _)
    have C6 := hide (C5.out.trans (CK.set w5 c 2 (uB c)))
    have C7 := hide (CY.out.trans C6.out)
    unfold uH at k2
    have hs3 := C3.out.size
    clear C5 C3 CY H3 HN
    unfold uB at H6 C6 C7
    go_wp2_with fail
    go_end0
    exact ⟨rfl, ⟨w3, y4, ro, hs3, HR.out, C6.out, hcl3, H6.out⟩, C7.out⟩
theorem hr_final {w : World} {c b : Nat} {k : Uk} {pv bv : Value} {wr : Int} {p : Pz} {la : Option Addr} {lc : Nat} {fk fl : Int} {fp : Bool} (hs : 200 <= p.status) (h : ClB w c k (uH c) pv bv wr) (hcb : c < b) (hl : FRow w b (.slice la p.fs.length lc) p.fs) (hS : Sm p.fs) (hq : resO p.fs p.req (p.minor : Int) (p.status : Int) k.me = ⟨fk, fl, fp, 0⟩)
  (R : World -> World -> Option Addr -> Prop) (hN : ∀ W, Calls Tryz.prog 88 #[frV fk fl fp, .int .i64 9007199254740992] W fun e w' => ∃ ro, e = .returned (.tuple #[.pointer ro, .int .i64 0]) /\ R W w' ro /\ Below W.heap.size W w') :
  Calls Tryz.prog 43 #[.pointer (some ⟨c, 0, none⟩), hdV p (.slice la p.fs.length lc)] w fun e w' => e = .returned (.tuple #[]) /\ (∃ W y ro, w.heap.size <= W.heap.size /\ R W y ro /\ CK y w' c /\ c < W.heap.size /\ ClB w' c { k with kn := true, fk := fk, fl := fl, fp := fp } (uB c) pv (.pointer ro) 0) /\ CK w w' c := by
 have hcl := lt_heap h
 have B0 := hide ((Below.refl w.heap.size w).alloc (Nat.le_refl _) (.cells #[.bool p.req, .string p.me, .string p.ta, .int .i64 (p.minor : Int), .int .i64 (p.status : Int), .string p.re, .slice la p.fs.length lc] 27))
 have F0 := hide (hp_new w (.cells #[.bool p.req, .string p.me, .string p.ta, .int .i64 (p.minor : Int), .int .i64 (p.status : Int), .string p.re, .slice la p.fs.length lc] 27))
 have HB := hide (beginBody_of (w := w.alloc (.cells #[.bool p.req, .string p.me, .string p.ta, .int .i64 (p.minor : Int), .int .i64 (p.status : Int), .string p.re, .slice la p.fs.length lc] 27)) ((B0.out.block c hcl).trans h) hcb (hl.frame fun i e => B0.out.block i (hl.lt e).2) hS hq R hN)
 unfold hdV at HB |-
 have t1 : (200 : Int) <= (p.status : Int) := by omega
 have t2 : ¬ (p.status : Int) < 200 := by omega
 clear h hl hS hq hN hs
 go_enter Tryz.func43, Tryz.ntmps43
 go_upto_region 3 with fail
 generalize w.alloc _ = w1 at *
 have e0 : w1.cell? ⟨w.heap.size, 0, none⟩ = some (.bool p.req) := cell_at F0.out 0
 have e1 : w1.cell? ⟨w.heap.size, 1, none⟩ = some (.string p.me) := cell_at F0.out 1
 have e2 : w1.cell? ⟨w.heap.size, 2, none⟩ = some (.string p.ta) := cell_at F0.out 2
 have e3 : w1.cell? ⟨w.heap.size, 3, none⟩ = some (.int .i64 (p.minor : Int)) := cell_at F0.out 3
 have e4 : w1.cell? ⟨w.heap.size, 4, none⟩ = some (.int .i64 (p.status : Int)) := cell_at F0.out 4
 have e5 : w1.cell? ⟨w.heap.size, 5, none⟩ = some (.string p.re) := cell_at F0.out 5
 have e6 : w1.cell? ⟨w.heap.size, 6, none⟩ = some (.slice la p.fs.length lc) := cell_at F0.out 6
 have hs1 : w.heap.size < w1.heap.size := lt_heap F0.out
 go_wp2_with fail
 refine HB.out.mono ?_
 rintro e w2 ⟨rfl, ⟨W, y, ro, q1, q2, q3, q4, q5⟩, q6⟩
 have HZ := hide q2
 have HZ5 := hide q5
 have C1 := hide ((CK.of_below c B0.out).trans q6)
 have C2 := hide q3
 clear q2 q3 q5 q6 HB
 go_wp2_with fail
 go_end0
 exact ⟨rfl, ⟨W, y, ro, by omega, HZ.out, C2.out, q4, HZ5.out⟩, C1.out⟩
theorem readBody_meas {w : World} {c base gr g L : Nat} {k : Uk} {pv : Value} {wr : Int} {t : Tal} (h : ClB w c k (uB c) pv (.pointer (some ⟨gr, 0, none⟩)) wr) (hr : Rdr w base gr g 188 190 t [.int .i64 (L : Int)]) (hcb : c < base) (hb : base <= w.heap.size) (v : Value) (b : List UInt8) (hB : Bs w w.heap.size v b) (hS : Shp v) (hL : L <= 9007199254740992) (hg : t.got <= L) (ht : t.wrong = 0) (hl : b.length <= 140737488355328) :
  Calls Tryz.prog 89 #[.pointer (some ⟨c, 0, none⟩), v] w fun e w' => ∃ ua uc, e = .returned (.tuple #[.int .i64 ((tkN b L t.got : Nat) : Int), .slice ua (tkN b L t.got) uc]) /\ Row w' w.heap.size 5 (.slice ua (tkN b L t.got) uc) (bc (b.take (tkN b L t.got))) /\ ClB w' c k (uB c) pv (.pointer (some ⟨gr, 0, none⟩)) 0 /\ (t.got + tkN b L t.got = L -> ∃ g', w.heap.size <= g' /\ Rdr w' base gr g' 123 125 ⟨L, true, 0⟩ []) /\ (t.got + tkN b L t.got ≠ L -> Rdr w' base gr g 188 190 ⟨t.got + tkN b L t.got, false, 0⟩ [.int .i64 (L : Int)]) /\ Below c w w' /\ (∀ i, i < base -> i ≠ c -> w'.heap[i]? = w.heap[i]?) := by
 have hF := feed_meas hr hb v b hB hS hL hg hl
 rw [ht] at hF
 generalize hk : tkN b L t.got = n at *
 have hcl : c < w.heap.size := lt_heap h
 have hgr := hr.rb
 have hgg := hr.fb
 have HF := hide hF
 have HH := hide h
 have k9 := (cl_cells h).2.2.2.2.2.2.2.2.2.1
 have hv : ∃ a m cp, v = .slice a m cp := by obtain ⟨a, cp, e, _⟩ := hB; exact ⟨a, _, cp, e⟩
 clear h hr hB hS hF hk
 obtain ⟨va, vn, vc, rfl⟩ := hv
 dsimp only at HF
 go_enter Tryz.func89, Tryz.ntmps89
 go_upto_region 3 with (go_at_call 109; refine HF.out.mono ?_; rintro e w1 ⟨ua, uc, rfl, r1, r2⟩; have H1 := hide ((r2.2.2.block c hcl (by omega) (by omega)).trans HH.out); have HR1 := hide r1; have HR2 := hide r2; have k11 := (cl_cells H1.out).2.2.2.2.2.2.2.2.2.2.2; have z11 := cl_fz H1.out 11; have hs1 := r2.2.2.size; clear r1 r2)
 have H2 : Hid (ClB (w1.setCell ⟨c, 11, none⟩ (.int .i64 0)) c k (uB c) pv (.pointer (some ⟨gr, 0, none⟩)) 0) := hide (hp_set H1.out 11 _)
 have C2 := hide (CK.set w1 c 11 (.int .i64 0))
 have R2 := hide (HR1.out.frame (W' := w1.setCell ⟨c, 11, none⟩ (.int .i64 0)) fun i hi => Below.heap_setCell w1 ⟨c, 11, none⟩ _ i (fun e => by have := (HR1.out.lt hi).1; have e3 : i = c := e; omega))
 have hk2 : ∀ i, i ≠ c -> (w1.setCell ⟨c, 11, none⟩ (.int .i64 0)).heap[i]? = w1.heap[i]? := fun i hi => Below.heap_setCell w1 ⟨c, 11, none⟩ _ i hi
 have hs2 : w1.heap.size = (w1.setCell ⟨c, 11, none⟩ (.int .i64 0)).heap.size := by simp
 have HZ : Hid ((t.got + n = L -> ∃ g', w.heap.size <= g' /\ Rdr (w1.setCell ⟨c, 11, none⟩ (.int .i64 0)) base gr g' 123 125 ⟨L, true, 0⟩ []) /\ (t.got + n ≠ L -> Rdr (w1.setCell ⟨c, 11, none⟩ (.int .i64 0)) base gr g 188 190 ⟨t.got + n, false, 0⟩ [.int .i64 (L : Int)]) /\ Below c w (w1.setCell ⟨c, 11, none⟩ (.int .i64 0)) /\ (∀ i, i < base -> i ≠ c -> (w1.setCell ⟨c, 11, none⟩ (.int .i64 0)).heap[i]? = w.heap[i]?)) := by
  refine hide ⟨fun e => ?_, fun e => ?_, ?_, fun i h1 h2 => ?_⟩
  ·obtain ⟨g2, q1, q2⟩ := HR2.out.1 (by simp [overT, e])
   rw [e] at q2
   have e0 : decide (L = L) = true := by simp
   rw [e0] at q2
   exact ⟨g2, q1, (hk2 gr (by omega)).trans q2.rd, (hk2 g2 (by omega)).trans q2.fr, q2.ne, q2.rb, q2.fb⟩
  ·have q2 := HR2.out.2.1 (by simp [overT, e])
   have e0 : decide (t.got + n = L) = false := decide_eq_false e
   rw [e0] at q2
   exact ⟨(hk2 gr (by omega)).trans q2.rd, (hk2 g (by omega)).trans q2.fr, q2.ne, q2.rb, q2.fb⟩
  ·have q := HR2.out.2.2
   exact ⟨(C2.out.os).trans q.os, (C2.out.tape).trans q.tape, (C2.out.output).trans q.output, by omega, fun i hi => (hk2 i (by omega)).trans (q.block i (by omega) (by omega) (by omega))⟩
  ·exact (hk2 i h2).trans (HR2.out.2.2.block i (by omega) (by omega) (by omega))
 clear k9 k11 z11 H1 C2 HR1 HR2 HF HH
 generalize w1.setCell ⟨c, 11, none⟩ (.int .i64 0) = w2 at *
 go_wp2_with fail
 go_ret2
 exact ⟨_, _, rfl, R2.out, H2.out, HZ.out.1, HZ.out.2.1, HZ.out.2.2.1, HZ.out.2.2.2⟩
theorem bwhole_nil (w : World) : Calls Tryz.prog 29 #[.pointer none] w fun e w' => e = .returned (.bool false) /\ w = w' := by
 have HN := hide (fun W => isNone_nil W)
 go_enter Tryz.func29, Tryz.ntmps29
 go_wp2_with (go_at_call 44; refine (HN.out _).mono ?_; rintro e w' ⟨rfl, rfl⟩)
 go_ret
 exact ⟨rfl, rfl⟩
section
variable {w : World} {c : Nat} {k : Uk} {st pv bv : Value} {wr : Int}
theorem over_none (h : ClB w c k st pv (.pointer none) 0) : Calls Tryz.prog 28 #[.pointer (some ⟨c, 0, none⟩)] w fun e w' => e = .returned (.bool false) /\ w = w' := by
 obtain ⟨-, -, -, -, -, -, -, -, -, k9, -, k11⟩ := cl_cells h
 have HN := hide (fun W => bwhole_nil W)
 clear h
 go_enter Tryz.func28, Tryz.ntmps28
 go_wp2_with (go_at_call 29; refine (HN.out _).mono ?_; rintro e w' ⟨rfl, rfl⟩)
 go_ret
 exact ⟨rfl, rfl⟩
theorem over_rdr {base gr g : Nat} {it ct : TypeId} {t : Tal} {X : List Value} (h : ClB w c k st pv (.pointer (some ⟨gr, 0, none⟩)) 0) (hr : Rdr w base gr g it ct t X) (hk : KT it) : Calls Tryz.prog 28 #[.pointer (some ⟨c, 0, none⟩)] w fun e w' => e = .returned (.bool t.whole) /\ w = w' := by
 obtain ⟨-, -, -, -, -, -, -, -, -, k9, -, k11⟩ := cl_cells h
 have HN := hide (wholeR_any hr hk)
 clear h hr hk
 go_enter Tryz.func28, Tryz.ntmps28
 go_wp2_with (go_at_call 29; refine HN.out.mono ?_; rintro e w' ⟨rfl, rfl⟩)
 go_ret
 exact ⟨rfl, rfl⟩
theorem over_wrong (h : ClB w c k st pv bv wr) (h0 : wr ≠ 0) : Calls Tryz.prog 28 #[.pointer (some ⟨c, 0, none⟩)] w fun e w' => e = .returned (.bool true) /\ w = w' := by
 obtain ⟨-, -, -, -, -, -, -, -, -, k9, -, k11⟩ := cl_cells h
 have e0 : (wr == 0) = false := by simpa using h0
 clear h
 go_enter Tryz.func28, Tryz.ntmps28
 go_wp2
 go_ret
 exact ⟨rfl, rfl⟩
theorem uwhole_rdr {base gr g : Nat} {it ct : TypeId} {t : Tal} {X : List Value} (h : ClB w c k st pv (.pointer (some ⟨gr, 0, none⟩)) wr) (hr : Rdr w base gr g it ct t X) (hk : KT it) : Calls Tryz.prog 12 #[.pointer (some ⟨c, 0, none⟩)] w fun e w' => e = .returned (.bool t.whole) /\ w = w' := by
 obtain ⟨-, -, -, -, -, -, -, -, -, k9, -, k11⟩ := cl_cells h
 have HN := hide (wholeR_any hr hk)
 clear h hr hk
 go_enter Tryz.func12, Tryz.ntmps12
 go_wp2_with (go_at_call 29; refine HN.out.mono ?_; rintro e w' ⟨rfl, rfl⟩)
 go_ret
 exact ⟨rfl, rfl⟩
theorem again_rdr {base gr g : Nat} {it ct : TypeId} {t : Tal} {X : List Value} (h : ClB w c k st pv (.pointer (some ⟨gr, 0, none⟩)) wr) (hr : Rdr w base gr g it ct t X) (hk : KT it) (hw : t.whole = true) (hfp : k.fp = true) (hen : k.en = false) : Calls Tryz.prog 14 #[.pointer (some ⟨c, 0, none⟩)] w fun e w' => e = .returned (.bool true) /\ w = w' := by
 obtain ⟨-, -, -, -, -, -, -, -, k8, -, k10, -⟩ := cl_cells h
 have HN := hide (uwhole_rdr h hr hk)
 rw [hw] at HN
 rw [hfp] at k8
 rw [hen] at k10
 clear h hr hk
 go_enter Tryz.func14, Tryz.ntmps14
 go_wp2_with (go_at_call 12; refine HN.out.mono ?_; rintro e w' ⟨rfl, rfl⟩)
 go_ret
 exact ⟨rfl, rfl⟩
end
theorem isNoneU_any {w : World} {c fn : Nat} {k : Uk} {pv bv : Value} {wr : Int} (h : ClB w c k (.func (.func fn) #[.pointer (some ⟨c, 0, none⟩)] #[]) pv bv wr) : Calls Tryz.prog 27 #[.pointer (some ⟨c, 0, none⟩)] w fun e w' => e = .returned (.bool false) /\ w = w' := by
 have k2 := (cl_cells h).2.2.1
 have E := u_eq_fun fn c
 clear h
 go_enter Tryz.func27, Tryz.ntmps27
 go_wp2
 go_ret
 exact ⟨rfl, rfl⟩
def hdA (r : Bool) (me ta : ByteArray) (mi st : Int) (re : ByteArray) (l : Value) : Array Value := #[.bool r, .string me, .string ta, .int .i64 mi, .int .i64 st, .string re, l]
def put7 (w : World) (b : Nat) (r : Bool) (me ta : ByteArray) (mi st : Int) (re : ByteArray) (l : Value) : World :=
 ((((((w.setCell ⟨b, 0, none⟩ (.bool r)).setCell ⟨b, 1, none⟩ (.string me)).setCell ⟨b, 2, none⟩ (.string ta)).setCell ⟨b, 3, none⟩ (.int .i64 mi)).setCell ⟨b, 4, none⟩ (.int .i64 st)).setCell ⟨b, 5, none⟩ (.string re)).setCell ⟨b, 6, none⟩ l
theorem put7_ok {w : World} {b : Nat} {r0 : Bool} {m0 t0 : ByteArray} {i0 s0 : Int} {e0 : ByteArray} {l0 : Value} (h : w.heap[b]? = some (.cells (hdA r0 m0 t0 i0 s0 e0 l0) 27 (0, 0))) (r : Bool) (me ta : ByteArray) (mi st : Int) (re : ByteArray) (l : Value) : (put7 w b r me ta mi st re l).heap[b]? = some (.cells (hdA r me ta mi st re l) 27 (0, 0)) /\ CK w (put7 w b r me ta mi st re l) b := by
 have a0 : (_ : World).heap[b]? = some (.cells (hdA r m0 t0 i0 s0 e0 l0) 27 (0, 0)) := hp_set h 0 (.bool r)
 have a1 : (_ : World).heap[b]? = some (.cells (hdA r me t0 i0 s0 e0 l0) 27 (0, 0)) := hp_set a0 1 (.string me)
 have a2 : (_ : World).heap[b]? = some (.cells (hdA r me ta i0 s0 e0 l0) 27 (0, 0)) := hp_set a1 2 (.string ta)
 have a3 : (_ : World).heap[b]? = some (.cells (hdA r me ta mi s0 e0 l0) 27 (0, 0)) := hp_set a2 3 (.int .i64 mi)
 have a4 : (_ : World).heap[b]? = some (.cells (hdA r me ta mi st e0 l0) 27 (0, 0)) := hp_set a3 4 (.int .i64 st)
 have a5 : (_ : World).heap[b]? = some (.cells (hdA r me ta mi st re l0) 27 (0, 0)) := hp_set a4 5 (.string re)
 have a6 : (_ : World).heap[b]? = some (.cells (hdA r me ta mi st re l) 27 (0, 0)) := hp_set a5 6 l
 exact ⟨a6, ((((((CK.set w b 0 _).trans (CK.set _ b 1 _)).trans (CK.set _ b 2 _)).trans (CK.set _ b 3 _)).trans (CK.set _ b 4 _)).trans (CK.set _ b 5 _)).trans (CK.set _ b 6 _)⟩
theorem hd_cells {w : World} {b : Nat} {r : Bool} {me ta : ByteArray} {mi st : Int} {re : ByteArray} {l : Value} (h : w.heap[b]? = some (.cells (hdA r me ta mi st re l) 27 (0, 0))) : w.cell? ⟨b, 0, none⟩ = some (.bool r) /\ w.cell? ⟨b, 1, none⟩ = some (.string me) /\ w.cell? ⟨b, 2, none⟩ = some (.string ta) /\ w.cell? ⟨b, 3, none⟩ = some (.int .i64 mi) /\ w.cell? ⟨b, 4, none⟩ = some (.int .i64 st) /\ w.cell? ⟨b, 5, none⟩ = some (.string re) /\ w.cell? ⟨b, 6, none⟩ = some l :=
 ⟨cell_at h 0, cell_at h 1, cell_at h 2, cell_at h 3, cell_at h 4, cell_at h 5, cell_at h 6⟩
theorem head_known {w : World} {c : Nat} {k : Uk} {st bv : Value} {wr : Int} {base g : Nat} {lv fv : Value} {p : Pz} (h : ClB w c k st (.pointer (some ⟨g, 0, none⟩)) bv wr) (hk : k.kn = true) (hp : Par w base g lv fv p) (hw : p.whole = true) (hz : Sz p) (hf : Fit p) :
  Calls Tryz.prog 15 #[.pointer (some ⟨c, 0, none⟩)] w fun e w' => ∃ la lc, e = .returned (.tuple #[hdV p (.slice la p.fs.length lc), .bool true]) /\ Flds w' (.slice la p.fs.length lc) p.fs /\ Below w.heap.size w w' := by
 have HD := hide (fun W (b : Below w.heap.size w W) => head_whole (hp.below b) hw hz hf)
 have hcl : c < w.heap.size := lt_heap h
 have B0 := hide ((Below.refl w.heap.size w).alloc (Nat.le_refl _) (.cells #[.bool false, .string ⟨#[]⟩, .string ⟨#[]⟩, .int .i64 0, .int .i64 0, .string ⟨#[]⟩, .slice none 0 0] 27))
 have F0 := hide (hp_new w (.cells #[.bool false, .string ⟨#[]⟩, .string ⟨#[]⟩, .int .i64 0, .int .i64 0, .string ⟨#[]⟩, .slice none 0 0] 27))
 have H0 := hide ((B0.out.block c hcl).trans h)
 unfold hdV at HD |-
 clear h hp hw hz hf
 go_enter Tryz.func15, Tryz.ntmps15
 go_upto_region 1 with fail
 generalize w.alloc _ = w1 at *
 obtain ⟨-, -, -, k3, -, k5, -, -, -, -, -, -⟩ := cl_cells H0.out
 rw [hk] at k5
 have hs1 : w.heap.size < w1.heap.size := lt_heap F0.out
 have HA : Hid (∀ (y : World) (l : Value), FRow y w1.heap.size l p.fs -> Below w1.heap.size w1 y -> y.heap[w.heap.size]? = some (.cells (hdA false ⟨#[]⟩ ⟨#[]⟩ 0 0 ⟨#[]⟩ (.slice none 0 0)) 27 (0, 0)) /\ Below w.heap.size w y /\ (∃ a cp, l = .slice a p.fs.length cp) /\ Flds (put7 y w.heap.size p.req p.me p.ta (p.minor : Int) (p.status : Int) p.re l) l p.fs) := hide (fun y l y1 y2 => by
  have hF : y.heap[w.heap.size]? = some (.cells (hdA false ⟨#[]⟩ ⟨#[]⟩ 0 0 ⟨#[]⟩ (.slice none 0 0)) 27 (0, 0)) := (y2.block w.heap.size hs1).trans F0.out
  refine ⟨hF, B0.out.trans (y2.mono B0.out.size), ?_, ?_⟩
  ·obtain ⟨a, cp, e, -⟩ := y1.shape
   exact ⟨a, cp, e⟩
  ·have ck := (put7_ok hF p.req p.me p.ta (p.minor : Int) (p.status : Int) p.re l).2
   refine Flds.of_row (base := w1.heap.size) (y1.frame fun k hk => ck.block k (y1.lt hk).2 (fun e => ?_))
   have := (y1.lt hk).1
   rw [e] at this
   exact absurd this (Nat.not_le_of_lt hs1))
 go_wp2_with (go_at_call 31; refine (HD.out w1 B0.out).mono ?_; rintro e y ⟨l, rfl, y1, y2⟩; obtain ⟨aa2, aa3, ⟨la, lk, rfl⟩, aa5⟩ := HA.out y l y1 y2; have FY := hide aa2; have HBY := hide aa3; have HFL := hide aa5; obtain ⟨r0, r1, r2, r3, r4, r5, r6⟩ := hd_cells aa2; have rz := (fun i => (by rw [frozen_at aa2]; simp : y.frozen? ⟨w.heap.size, i, none⟩ = false)); have rz0 := rz 0; have rz1 := rz 1; have rz2 := rz 2; have rz3 := rz 3; have rz4 := rz 4; have rz5 := rz 5; have rz6 := rz 6; clear y1 y2 rz aa2 aa3 aa5)
 have P7 := hide (put7_ok FY.out p.req p.me p.ta (p.minor : Int) (p.status : Int) p.re (.slice la p.fs.length lk))
 have BP := hide (HBY.out.trans (P7.out.2.low (Nat.le_refl _) HBY.out.size))
 unfold put7 at P7 BP HFL
 clear r0 r1 r2 r3 r4 r5 r6 rz0 rz1 rz2 rz3 rz4 rz5 rz6 k3 k5 FY HBY HD HA
 generalize ((((((y.setCell ⟨w.heap.size, 0, none⟩ (.bool p.req)).setCell ⟨w.heap.size, 1, none⟩ (.string p.me)).setCell ⟨w.heap.size, 2, none⟩ (.string p.ta)).setCell ⟨w.heap.size, 3, none⟩ (.int .i64 (p.minor : Int))).setCell ⟨w.heap.size, 4, none⟩ (.int .i64 (p.status : Int))).setCell ⟨w.heap.size, 5, none⟩ (.string p.re)).setCell ⟨w.heap.size, 6, none⟩ (.slice la p.fs.length lk) = y9 at *
 obtain ⟨s0, s1, s2, s3, s4, s5, s6⟩ := hd_cells P7.out.1
 exact bodyPost_ret (v := .tuple #[.agg #[.bool p.req, .string p.me, .string p.ta, .int .i64 (p.minor : Int), .int .i64 (p.status : Int), .string p.re, .slice la p.fs.length lk], .bool true]) (by simp [results, Tryz.results15, go_sem, s0, s1, s2, s3, s4, s5, s6]) rfl ⟨_, _, rfl, HFL.out, BP.out⟩
theorem put3_ok {w : World} {b : Nat} (h : w.heap[b]? = some (.cells #[.int .i64 0, .int .i64 0, .bool false] 29 (0, 0))) (x y : Int) (z : Bool) : (((w.setCell ⟨b, 0, none⟩ (.int .i64 x)).setCell ⟨b, 1, none⟩ (.int .i64 y)).setCell ⟨b, 2, none⟩ (.bool z)).heap[b]? = some (.cells #[.int .i64 x, .int .i64 y, .bool z] 29 (0, 0)) /\ CK w (((w.setCell ⟨b, 0, none⟩ (.int .i64 x)).setCell ⟨b, 1, none⟩ (.int .i64 y)).setCell ⟨b, 2, none⟩ (.bool z)) b := by
 have a0 : (_ : World).heap[b]? = some (.cells #[.int .i64 x, .int .i64 0, .bool false] 29 (0, 0)) := hp_set h 0 (.int .i64 x)
 have a1 : (_ : World).heap[b]? = some (.cells #[.int .i64 x, .int .i64 y, .bool false] 29 (0, 0)) := hp_set a0 1 (.int .i64 y)
 have a2 : (_ : World).heap[b]? = some (.cells #[.int .i64 x, .int .i64 y, .bool z] 29 (0, 0)) := hp_set a1 2 (.bool z)
 exact ⟨a2, ((CK.set w b 0 _).trans (CK.set _ b 1 _)).trans (CK.set _ b 2 _)⟩
theorem framing_any {w : World} {c : Nat} {k : Uk} {st pv bv : Value} {wr : Int} (h : ClB w c k st pv bv wr) : Calls Tryz.prog 16 #[.pointer (some ⟨c, 0, none⟩)] w fun e w' => e = .returned (.agg #[.int .i64 k.fk, .int .i64 k.fl, .bool k.fp]) /\ Below w.heap.size w w' := by
 have hcl : c < w.heap.size := lt_heap h
 have B0 := hide ((Below.refl w.heap.size w).alloc (Nat.le_refl _) (.cells #[.int .i64 0, .int .i64 0, .bool false] 29))
 have F0 := hide (hp_new w (.cells #[.int .i64 0, .int .i64 0, .bool false] 29))
 have H0 := hide ((B0.out.block c hcl).trans h)
 clear h
 go_enter Tryz.func16, Tryz.ntmps16
 go_upto_region 1 with fail
 generalize w.alloc _ = w1 at *
 have P7 := hide (put3_ok F0.out k.fk k.fl k.fp)
 have BP := hide (B0.out.trans (P7.out.2.low (Nat.le_refl _) B0.out.size))
 have r0 : w1.cell? ⟨w.heap.size, 0, none⟩ = some (.int .i64 0) := cell_at F0.out 0
 have r1 : w1.cell? ⟨w.heap.size, 1, none⟩ = some (.int .i64 0) := cell_at F0.out 1
 have r2 : w1.cell? ⟨w.heap.size, 2, none⟩ = some (.bool false) := cell_at F0.out 2
 have rz := (fun i => (by rw [frozen_at F0.out]; simp : w1.frozen? ⟨w.heap.size, i, none⟩ = false))
 have rz0 := rz 0; have rz1 := rz 1; have rz2 := rz 2
 obtain ⟨-, -, -, -, -, -, k6, k7, k8, -, -, -⟩ := cl_cells H0.out
 clear rz F0 B0 H0
 go_wp2_with fail
 clear r0 r1 r2 rz0 rz1 rz2 k6 k7 k8
 generalize ((w1.setCell ⟨w.heap.size, 0, none⟩ (.int .i64 k.fk)).setCell ⟨w.heap.size, 1, none⟩ (.int .i64 k.fl)).setCell ⟨w.heap.size, 2, none⟩ (.bool k.fp) = y9 at *
 have s0 : y9.cell? ⟨w.heap.size, 0, none⟩ = some (.int .i64 k.fk) := cell_at P7.out.1 0
 have s1 : y9.cell? ⟨w.heap.size, 1, none⟩ = some (.int .i64 k.fl) := cell_at P7.out.1 1
 have s2 : y9.cell? ⟨w.heap.size, 2, none⟩ = some (.bool k.fp) := cell_at P7.out.1 2
 exact bodyPost_ret (v := .agg #[.int .i64 k.fk, .int .i64 k.fl, .bool k.fp]) (by simp [results, Tryz.results16, go_sem, s0, s1, s2]) rfl ⟨rfl, BP.out⟩
theorem unew_any (w : World) (me : ByteArray) (mo : Nat) (ht : tokenB me.data.toList = true) (hs : me.size <= 1048576) (h1 : 16 <= mo) (h2 : mo <= 65536) :
  Calls Tryz.prog 10 #[.string me, .int .i64 (mo : Int)] w fun e w' => ∃ c g, e = .returned (.tuple #[.pointer (some ⟨c, 0, none⟩), .int .i64 0]) /\ w.heap.size <= g /\ w.heap.size <= c /\ g ≠ c /\ Par w' g g (.slice none 0 0) (.slice none 0 0) (pNew false mo) /\ ClB w' c ⟨me, mo, 0, false, 0, 0, false, false⟩ (uH c) (.pointer (some ⟨g, 0, none⟩)) (.pointer none) 0 /\ Below w.heap.size w w' := by
 have HT := hide (token_any me w (by unfold maxLen; omega))
 rw [ht] at HT
 have HN := hide (hnew_any false mo w h1 h2)
 have HC := hide (fun W => clone_any me W (by omega))
 clear ht
 go_enter Tryz.func10, Tryz.ntmps10
 go_upto_region 6 with (first | (go_at_call 23; refine HT.out.mono ?_; rintro e w' ⟨rfl, rfl⟩) | (go_at_call 24; refine HN.out.mono ?_; rintro e w1 ⟨rfl, y1, y2⟩; have HP := hide y1; have B1 := hide y2; clear y1 y2))
 have hgl := HP.out.lt
 go_upto_region 7 with (go_at_call 25; refine (HC.out _).mono ?_; rintro e w2 ⟨rfl, y2⟩; have HP2 := hide (HP.out.below y2); have B2 := hide (B1.out.trans (y2.mono B1.out.size)); have hs2 := y2.size; clear y2)
 have F3 := hide (hp_new w2 (.cells (usC ⟨me, mo, 0, false, 0, 0, false, false⟩ .nilFunc (.pointer (some ⟨w.heap.size, 0, none⟩)) (.pointer none) 0) 65))
 have HP3 := hide (HP2.out.below ((Below.refl w2.heap.size w2).alloc (Nat.le_refl _) (.cells (usC ⟨me, mo, 0, false, 0, 0, false, false⟩ .nilFunc (.pointer (some ⟨w.heap.size, 0, none⟩)) (.pointer none) 0) 65)))
 have B3 := hide (B2.out.alloc B2.out.size (.cells (usC ⟨me, mo, 0, false, 0, 0, false, false⟩ .nilFunc (.pointer (some ⟨w.heap.size, 0, none⟩)) (.pointer none) 0) 65))
 have hc : w.heap.size ≠ w2.heap.size := by omega
 have hcw : w.heap.size <= w2.heap.size := B2.out.size
 unfold usC at F3 HP3 B3
 dsimp only at F3 HP3 B3
 clear HP HP2 B1 B2 HT HN HC
 generalize w2.alloc _ = w3 at *
 generalize w2.heap.size = c at *
 have F3' : ClB w3 c ⟨me, mo, 0, false, 0, 0, false, false⟩ .nilFunc (.pointer (some ⟨w.heap.size, 0, none⟩)) (.pointer none) 0 := F3.out
 have k2 := (cl_cells F3').2.2.1
 have z2 := cl_fz F3' 2
 have H4 : Hid (ClB (w3.setCell ⟨c, 2, none⟩ (uH c)) c ⟨me, mo, 0, false, 0, 0, false, false⟩ (uH c) (.pointer (some ⟨w.heap.size, 0, none⟩)) (.pointer none) 0) := hide (hp_set F3' 2 _)
 have HP4 := hide (HP3.out.ck (CK.set w3 c 2 (uH c)) (ap_nil (fun e => hc e.symm)))
 have B4 := hide (B3.out.trans ((CK.set w3 c 2 (uH c)).low hcw B3.out.size))
 clear F3 F3' HP3 B3
 unfold uH at H4 HP4 B4
 go_wp2_with fail
 go_ret2
 exact ⟨c, w.heap.size, rfl, Nat.le_refl _, hcw, hc, HP4.out, H4.out, B4.out⟩
theorem step_callv {P : Program} {ops : Array Oper} {o : Oper} {a : Act} {w : World} {K : Act -> World -> Prop} {Q : Exit -> Act -> World -> Prop} {E : Prop}
  (hw : Region.wanted o (yielded ops a.tmps) = true) (x : Operand) (xs : Array Operand) (ts : Array TypeId) (hop : o.op = Op.call { callee := Callee.value x, args := xs, argTypes := ts }) (f : Nat) (r0 : Value) (hf : a.eval x = .func (.func f) #[r0] #[]) (he : ∀ args w, (callFunc f args).run P w = .ok (.enter f args) w) (v : Value) (hx : xs.map a.eval = #[v])
  (R : Value -> World -> Prop) (C : Calls P f #[r0, v] w fun e w' => ∃ r, e = .returned r /\ R r w') (hK : ∀ r w', R r w' -> K (a.put o.dst r) w') : if Region.wanted o (yielded ops a.tmps) = true then Oper.wp P o a w K Q else E := by
 rw [if_pos hw]
 have hr : (execOp a.eval o).run P w = .ok (.enter f #[r0, v]) w := by
  simp [execOp, hop, resolve, invoke, Deferred.ofValue, hx, hf, he]
 unfold Oper.wp
 rw [hr]
 refine C.mono ?_
 rintro e w' ⟨r, rfl, h⟩
 exact hK r w' h
theorem app_nil (W : World) (ty : TypeId) : (Builtin.append_ #[24, 24] ty #[.slice none 0 0, .slice none 0 0]).run Tryz.prog W = .ok (.slice none 0 0) W := by kernel_rfl
theorem wpList_append_none {ops : Array Oper} {rest : List Oper} {o : Oper} {a : Act} {Q : Exit -> Act -> World -> Prop} (hgd : o.guard = none) (s x : Operand)
  (ho : o.op = .call { callee := .builtin .append, args := #[s, x], argTypes := #[24, 24] }) (W : World) (hs : a.eval s = .slice none 0 0) (hx : a.eval x = .slice none 0 0)
  (h : wpList Tryz.prog ops Q rest (a.put o.dst (.slice none 0 0)) W) : wpList Tryz.prog ops Q (o :: rest) a W := by
 refine wpList_plain hgd fun K hK => ?_
 unfold Oper.wp execOp
 simp only [ho, resolve, invoke, builtin, Sem.run_bind, Sem.run_pure, Result.andThen_ok, List.map_toArray, List.map_cons, List.map_nil, hs, hx, app_nil]
 exact hK _ _ h
def StR (B : Nat) (I : World -> Nat -> Prop) (E : World -> Nat -> List UInt8 -> Prop) (k : Nat) (W w' : World) (r : Value) : Prop :=
 Below B W w' /\ ∃ j : Nat, 1 <= j /\ ∃ ua n uc, r = .tuple #[.int .i64 (j : Int), .slice ua n uc] /\ ((ua = none /\ n = 0 /\ uc = 0 /\ I w' (k + j)) ∨ (∃ l : List UInt8, n = l.length /\ Bs w' w'.heap.size (.slice ua n uc) l /\ Shp (.slice ua n uc) /\ l.length <= 140737488355328 /\ E w' (k + j) l))
structure Rounds (c m bk o vc B : Nat) (over : World -> Nat -> Bool) (I : World -> Nat -> Prop) (E : World -> Nat -> List UInt8 -> Prop) : Prop where
 keep : ∀ W W' k, I W k -> Below W.heap.size W W' -> I W' k
 keepE : ∀ W W' k l, E W k l -> Below W.heap.size W W' -> E W' k l
 leE : ∀ W k l, E W k l -> k <= m /\ (∃ wr : Int, W.cell? ⟨c, 11, none⟩ = some (.int .i64 wr)) /\ (k < m -> Calls Tryz.prog 28 #[.pointer (some ⟨c, 0, none⟩)] W fun e w' => e = .returned (.bool true) /\ W = w')
 stp : ∀ W k, I W k -> k <= m /\ ∃ (f : Nat) (wr : Int), W.cell? ⟨c, 2, none⟩ = some (.func (.func f) #[.pointer (some ⟨c, 0, none⟩)] #[]) /\ (∀ args w, (callFunc f args).run Tryz.prog w = .ok (.enter f args) w) /\ W.cell? ⟨c, 11, none⟩ = some (.int .i64 wr) /\ (Calls Tryz.prog 28 #[.pointer (some ⟨c, 0, none⟩)] W fun e w' => e = .returned (.bool (over W k)) /\ W = w') /\ (over W k = false -> k < m -> ∀ W', Below W.heap.size W W' -> Calls Tryz.prog f #[.pointer (some ⟨c, 0, none⟩), .slice (some ⟨bk, o + k, none⟩) (m - k) (vc - k)] W' fun e w' => ∃ r, e = .returned r /\ StR B I E k W' w' r)
def RdE (c m : Nat) (over : World -> Nat -> Bool) (I : World -> Nat -> Prop) (E : World -> Nat -> List UInt8 -> Prop) (w' : World) (k : Nat) (tv : Value) (wr : Int) : Prop :=
 w'.cell? ⟨c, 11, none⟩ = some (.int .i64 wr) /\ ((tv = .slice none 0 0 /\ I w' k /\ (k = m ∨ ∃ W, I W k /\ over W k = true)) ∨ ∃ l b, Row w' b 5 tv (bc l) /\ E w' k l)
theorem read_of {w : World} {c m bk o vc B : Nat} {over : World -> Nat -> Bool} {I : World -> Nat -> Prop} {E : World -> Nat -> List UInt8 -> Prop} (hR : Rounds c m bk o vc B over I E) (h0 : I w 0) (hm : m <= 140737488355328) (hvc : m <= vc) (hcw : B <= w.heap.size)
  (hN : Calls Tryz.prog 27 #[.pointer (some ⟨c, 0, none⟩)] w fun e w' => e = .returned (.bool false) /\ w = w') :
  Calls Tryz.prog 11 #[.pointer (some ⟨c, 0, none⟩), .slice (some ⟨bk, o, none⟩) m vc] w fun e w' => ∃ (k : Nat) (tv : Value) (wr : Int), e = .returned (.tuple #[.int .i64 (k : Int), tv, .int .i64 wr]) /\ Below B w w' /\ RdE c m over I E w' k tv wr := by
 have HRS := hide hR
 have HI0 := hide h0
 have HN := hide hN
 clear hR h0 hN
 go_enter Tryz.func11, Tryz.ntmps11
 go_wp2_with (go_at_call 27; refine HN.out.mono ?_; rintro e w' ⟨rfl, rfl⟩)
 go_loopw [7, 8] (fun u tv wr => ∃ k : Nat, k <= m /\ u = .int .i64 (k : Int) /\ Hid (Below B w wr) /\ ((tv = .slice none 0 0 /\ Hid (I wr k)) ∨ (∃ ta tn tc l b, tv = .slice ta tn tc /\ Hid (Row wr b 5 (.slice ta tn tc) (bc l)) /\ Hid (E wr k l)))) (fun u _ _ => m - (intOf u).toNat)
 case atStart => exact ⟨0, Nat.zero_le _, rfl, hide (Below.refl _ _), .inl ⟨rfl, HI0⟩⟩
 case round =>
  clear HI0 HN
  obtain ⟨k, hk, rfl, HB, hcase⟩ := hrel
  rcases hcase with ⟨rfl, HI⟩ | ⟨ta, tn, tc, l, b, rfl, HRow, HE⟩
  ·obtain ⟨-, f, er, k2, hen, k11, hov, hst⟩ := HRS.out.stp wr k HI.out
   have HOV := hide hov
   have HEN := hide hen
   have HST := hide hst
   clear hov hen hst
   by_cases hlt : k < m
   ·have hlti : (k : Int) < (m : Int) := by omega
    have hkc : ¬ vc = k := by omega
    have hkc2 : k <= vc := by omega
    cases hovv : over wr k with
    | true =>
     rw [hovv] at HOV
     go_wp2_with (go_at_call 28; refine HOV.out.mono ?_; rintro e w' ⟨rfl, rfl⟩)
     go_quiet (fail)
     have HZ := hide (HB.out.trans (⟨rfl, rfl, rfl, Nat.le_refl _, fun _ _ => rfl⟩ : Below B wr (wr.drewN nq)))
     have k11' : (wr.drewN nq).cell? ⟨c, 11, none⟩ = some (.int .i64 er) := k11
     go_wp2_with fail
     go_ret3
     exact ⟨k, _, er, rfl, HZ.out, k11', .inl ⟨rfl, HRS.out.keep _ _ _ HI.out ⟨rfl, rfl, rfl, Nat.le_refl _, fun _ _ => rfl⟩, .inr ⟨wr, HI.out, hovv⟩⟩⟩
    | false =>
     rw [hovv] at HOV
     have HC := hide (HST.out hovv hlt wr.drew (Below.refl _ _).drew)
     go_upto_region 6 with (go_at_call 28; refine HOV.out.mono ?_; rintro e w' ⟨rfl, rfl⟩)
     go_region_law (refine step_callv rfl _ _ _ rfl f (.pointer (some ⟨c, 0, none⟩)) (by simp [Act.eval]) HEN.out (.slice (some ⟨bk, o + k, none⟩) (m - k) (vc - k)) (by simp [Act.eval]) _ HC.out ?_; rintro v y ⟨y1, j, y2, ua, n, uc, rfl, y3⟩; have HY := hide y3; have HBY := hide (HB.out.drew.trans y1); clear y1 y3)
     all_goals
      have hjm : k + j <= m := by
       rcases HY.out with ⟨-, -, -, q⟩ | ⟨l, -, -, -, -, q⟩
       ·exact (HRS.out.stp y _ q).1
       ·exact (HRS.out.leE y _ l q).1
      go_upto_region 8 with fail
      go_wp2_with (at_builtin; apply Hid.out)
      unfold Hid
      rcases HY.out with ⟨rfl, rfl, rfl, q⟩ | ⟨l, rfl, q1, q2, q3, q⟩
      ·refine wpList_append_none rfl _ _ rfl y rfl rfl ?_
       have HQ := hide q
       clear q
       go_wp2_with fail
       go_roundw
       case rel => exact ⟨k + j, hjm, by simp, HBY, .inl ⟨by simp, HQ⟩⟩
       case measure => simp [intOf]; omega
      ·have HQ := hide q
       refine wpList_append_bs_k rfl _ _ rfl y y.heap.size y.heap.size (.slice none 0 0) (.slice ua l.length uc) [] l rfl rfl (Row.nil _ _ _) q1 q2 (by simpa using q3) (Nat.le_refl _) ?_
       intro v' W' r1 r2 _
       obtain ⟨va, vk, rfl, _⟩ := r1.shape
       have HR1 := hide r1
       have HE1 := hide (HRS.out.keepE y W' _ l HQ.out r2)
       have HBZ := hide (HBY.out.trans (r2.mono (Nat.le_trans hcw HBY.out.size)))
       clear r1 r2 q q1 q2
       go_wp2_with fail
       go_roundw
       case rel => exact ⟨k + j, hjm, by simp, HBZ, .inr ⟨_, _, _, l, _, rfl, HR1, HE1⟩⟩
       case measure => simp [intOf]; omega
   ·have hlti : ¬ (k : Int) < (m : Int) := by omega
    obtain rfl : k = m := by omega
    go_wp2_with fail
    go_quiet (fail)
    have HZ := hide (HB.out.trans (⟨rfl, rfl, rfl, Nat.le_refl _, fun _ _ => rfl⟩ : Below B wr (wr.drewN nq)))
    have k11' : (wr.drewN nq).cell? ⟨c, 11, none⟩ = some (.int .i64 er) := k11
    go_wp2_with fail
    go_ret3
    exact ⟨k, _, er, rfl, HZ.out, k11', .inl ⟨rfl, HRS.out.keep _ _ _ HI.out ⟨rfl, rfl, rfl, Nat.le_refl _, fun _ _ => rfl⟩, .inl rfl⟩⟩
  ·obtain ⟨-, ⟨er, k11⟩, hov⟩ := HRS.out.leE wr k l HE.out
   have HOV := hide hov
   clear hov
   by_cases hlt : k < m
   ·have hlti : (k : Int) < (m : Int) := by omega
    go_wp2_with (go_at_call 28; refine (HOV.out hlt).mono ?_; rintro e w' ⟨rfl, rfl⟩)
    go_quiet (fail)
    have BQ : Below wr.heap.size wr (wr.drewN nq) := ⟨rfl, rfl, rfl, Nat.le_refl _, fun _ _ => rfl⟩
    have HZ := hide (HB.out.trans (⟨rfl, rfl, rfl, Nat.le_refl _, fun _ _ => rfl⟩ : Below B wr (wr.drewN nq)))
    have k11' : (wr.drewN nq).cell? ⟨c, 11, none⟩ = some (.int .i64 er) := k11
    go_wp2_with fail
    go_ret3
    exact ⟨k, _, er, rfl, HZ.out, k11', .inr ⟨l, b, HRow.out.frame fun _ _ => rfl, HRS.out.keepE _ _ _ _ HE.out BQ⟩⟩
   ·have hlti : ¬ (k : Int) < (m : Int) := by omega
    go_wp2_with fail
    go_quiet (fail)
    have BQ : Below wr.heap.size wr (wr.drewN nq) := ⟨rfl, rfl, rfl, Nat.le_refl _, fun _ _ => rfl⟩
    have HZ := hide (HB.out.trans (⟨rfl, rfl, rfl, Nat.le_refl _, fun _ _ => rfl⟩ : Below B wr (wr.drewN nq)))
    have k11' : (wr.drewN nq).cell? ⟨c, 11, none⟩ = some (.int .i64 er) := k11
    go_wp2_with fail
    go_ret3
    exact ⟨k, _, er, rfl, HZ.out, k11', .inr ⟨l, b, HRow.out.frame fun _ _ => rfl, HRS.out.keepE _ _ _ _ HE.out BQ⟩⟩
def usq : List UInt8 := [72, 84, 84, 80, 47, 49, 46, 49, 32, 49, 48, 51, 32, 88, 13, 10, 13, 10, 72, 84, 84, 80, 47, 49, 46, 49, 32, 50, 48, 48, 32, 79, 75, 13, 10, 67, 111, 110, 116, 101, 110, 116, 45, 76, 101, 110, 103, 116, 104, 58, 32, 50, 13, 10, 13, 10, 97, 98, 99]
def uz1 : Pz := (pFeed (pNew false 200) usq).2.2.2
def uz2 : Pz := (pFeed (pNew false 200) (usq.drop 18)).2.2.2
theorem uz1_fed : pFeed (pNew false 200) usq = (18, true, 0, uz1) := by kernel_rfl
theorem uz2_fed : pFeed (pNew false 200) (usq.drop 18) = (38, true, 0, uz2) := by kernel_rfl
theorem uz1_whole : uz1.whole = true := by decide +kernel
theorem uz2_whole : uz2.whole = true := by decide +kernel
theorem uz1_status : uz1.status = 103 := by decide +kernel
theorem uz2_status : uz2.status = 200 := by decide +kernel
theorem uz2_req : uz2.req = false := by decide +kernel
theorem uz2_minor : uz2.minor = 1 := by decide +kernel
theorem uz2_fs : uz2.fs = [(⟨#[67, 111, 110, 116, 101, 110, 116, 45, 76, 101, 110, 103, 116, 104]⟩, ⟨#[50]⟩)] := by decide +kernel
theorem uz2_q : resO uz2.fs uz2.req (uz2.minor : Int) (uz2.status : Int) ⟨#[71, 69, 84]⟩ = ⟨2, 2, true, 0⟩ := by rw [uz2_fs, uz2_req, uz2_minor, uz2_status]; kernel_rfl
theorem uz2_sm : Sm uz2.fs := by
 rw [uz2_fs]
 exact ⟨by simp, fun f hf => by obtain rfl := List.mem_singleton.1 hf; decide⟩
def uk (n : Nat) : Uk := ⟨⟨#[71, 69, 84]⟩, 200, n, false, 0, 0, false, false⟩
def uk2 : Uk := ⟨⟨#[71, 69, 84]⟩, 200, 1, true, 2, 2, true, false⟩
structure ParB (W : World) (c base g : Nat) (p : Pz) : Prop where
 ex : ∃ pb lv fv, Par W pb g lv fv p /\ Ap g lv fv c /\ g < base /\ (∀ i, lv.ownBlock = some i -> i < base) /\ (∀ i, fv.ownBlock = some i -> i < base)
theorem ParB.keep {W W' : World} {c base g : Nat} {p : Pz} (h : ParB W c base g p) (b : ∀ i, i < base -> i ≠ c -> W'.heap[i]? = W.heap[i]?) : ParB W' c base g p := by
 obtain ⟨pb, lv, fv, h1, h2, h3, h4, h5⟩ := h.ex
 exact ⟨pb, lv, fv, ⟨(b g h3 (fun e => h2.1 e.symm)).trans h1.blk, h1.line.frame fun i hi => b i (h4 i hi) (fun e => h2.2.1 (e ▸ hi)), h1.flds.frame fun i hi => b i (h5 i hi) (fun e => h2.2.2 (e ▸ hi)), h1.gb, h1.gl, h1.gf, h1.lf⟩, h2, h3, h4, h5⟩
structure UH (W : World) (c bk B n : Nat) : Prop where
 ex : ∃ g, B <= g /\ Par W g g (.slice none 0 0) (.slice none 0 0) (pNew false 200) /\ ClB W c (uk n) (uH c) (.pointer (some ⟨g, 0, none⟩)) (.pointer none) 0 /\ c ≠ g /\ bk ≠ g
structure UB (W : World) (c bk B : Nat) : Prop where
 ex : ∃ base gr g gp, ClB W c uk2 (uB c) (.pointer (some ⟨gp, 0, none⟩)) (.pointer (some ⟨gr, 0, none⟩)) 0 /\ Rdr W base gr g 188 190 ⟨0, false, 0⟩ [.int .i64 ((2 : Nat) : Int)] /\ c < base /\ bk < base /\ B <= base /\ base <= W.heap.size /\ ParB W c base gp uz2
structure UE (W : World) (c : Nat) : Prop where
 ex : ∃ base gr g gp, ClB W c uk2 (uB c) (.pointer (some ⟨gp, 0, none⟩)) (.pointer (some ⟨gr, 0, none⟩)) 0 /\ Rdr W base gr g 123 125 ⟨2, true, 0⟩ [] /\ ParB W c base gp uz2 /\ base <= W.heap.size
theorem UH.below {W W' : World} {c bk B n : Nat} (h : UH W c bk B n) (b : Below W.heap.size W W') : UH W' c bk B n := by
 obtain ⟨g, h1, h2, h3, h4⟩ := h.ex
 exact ⟨g, h1, h2.below b, (b.block c (lt_heap h3)).trans h3, h4⟩
theorem UB.below {W W' : World} {c bk B : Nat} (h : UB W c bk B) (b : Below W.heap.size W W') : UB W' c bk B := by
 obtain ⟨base, gr, g, gp, h1, h2, h3, h4, h5, h6, h7⟩ := h.ex
 exact ⟨base, gr, g, gp, (b.block c (lt_heap h1)).trans h1, h2.below b, h3, h4, h5, Nat.le_trans h6 b.size, h7.keep fun i hi _ => b.block i (by omega)⟩
theorem UE.below {W W' : World} {c : Nat} (h : UE W c) (b : Below W.heap.size W W') : UE W' c := by
 obtain ⟨base, gr, g, gp, h1, h2, h3, h4⟩ := h.ex
 exact ⟨base, gr, g, gp, (b.block c (lt_heap h1)).trans h1, h2.below b, h3.keep fun i hi _ => b.block i (by omega), Nat.le_trans h4 b.size⟩
structure UW (W : World) (bk B : Nat) : Prop where
 mx : MX W
 et : ET W
 input : Bf W (fun i => i = bk) (.slice (some ⟨bk, 0, none⟩) usq.length 59) usq
 low : B <= W.heap.size
theorem UW.below {W W' : World} {bk B : Nat} (h : UW W bk B) (b : Below W.heap.size W W') : UW W' bk B := ⟨h.mx.below b, h.et.below b, h.input.below b, Nat.le_trans h.low b.size⟩
theorem cell_blk {w w' : World} {b o : Nat} (e : w'.heap[b]? = w.heap[b]?) : w'.cell? ⟨b, o, none⟩ = w.cell? ⟨b, o, none⟩ := by
 unfold World.cell?
 rw [show (⟨b, o, none⟩ : Addr).block = b from rfl, e]
theorem UW.turn {W W' : World} {bk B : Nat} (h : UW W bk B) (b : Below B W W') (hB : 3 <= B) (e : W'.heap[bk]? = W.heap[bk]?) : UW W' bk B := by
 obtain ⟨h0, m, hm⟩ := h.mx
 exact ⟨⟨Nat.lt_of_lt_of_le h0 b.size, m, (cell_blk (b.block _ (by omega))).trans hm⟩, (cell_blk (b.block 0 (by omega))).trans h.et, h.input.keep b.size fun k hk _ => by rw [hk]; exact e, Nat.le_trans h.low b.size⟩
def UI (c bk B : Nat) (W : World) (k : Nat) : Prop := UW W bk B /\ ((k = 0 /\ UH W c bk B 0) ∨ (k = 18 /\ UH W c bk B 1) ∨ (k = 56 /\ UB W c bk B))
def UEl (c bk B : Nat) (W : World) (k : Nat) (l : List UInt8) : Prop := UW W bk B /\ k = 58 /\ l = [97, 98] /\ UE W c
theorem UW.from {W : World} {bk B : Nat} (h : UW W bk B) (k : Nat) (hk : k <= 59) : Bf W (fun i => i = bk) (.slice (some ⟨bk, 0 + k, none⟩) (59 - k) (59 - k)) (usq.drop k) := h.input.drop k hk
theorem Bf.imp {w : World} {A A' : Nat -> Prop} {v : Value} {l : List UInt8} (h : Bf w A v l) (f : ∀ k, A k -> A' k) : Bf w A' v l := by
 obtain ⟨a, n, e, h1, h2⟩ := h
 exact ⟨a, n, e, h1, fun j hj => by obtain ⟨g, o, q1, q2, q3⟩ := h2 j hj; exact ⟨g, o, q1, f g q2, q3⟩⟩
theorem Bs.of_row {w : World} {base : Nat} {v : Value} {l : List UInt8} (h : Row w base 5 v (bc l)) : Bs w w.heap.size v l := by
 obtain ⟨a, c, rfl, hc, _⟩ := h.shape
 rw [bc_len] at h hc
 refine ⟨a, c, by rw [bc_len], hc, fun j hj => ?_⟩
 obtain ⟨g, rfl, hcell⟩ := h.cell (j := j) (by rw [bc_len]; exact hj)
 have hg := (h.lt rfl).2
 refine ⟨g, 0, rfl, hg, hg, ?_⟩
 rw [Nat.zero_add, hcell]
 simp [bc, hj]
theorem Shp.of_row {w : World} {base : Nat} {a : Option Addr} {n c : Nat} {xs : List Value} (h : Row w base 5 (.slice a n c) xs) : Shp (.slice a n c) := by
 rcases h.2 with ⟨h1, h0⟩ | ⟨g, cap, cur, h1, -⟩
 ·exact .inl h1
 ·rw [h1]; exact .inr ⟨_, _, _, rfl⟩
section
variable {c bk B : Nat} {W W' : World}
theorem inter_round (hB : 3 <= B) (hBc : B <= c) (hbc : bk ≠ c) (hBk : B <= bk) (hW : UW W' bk B) (h : UH W' c bk B 0) :
  Calls Tryz.prog 26 #[.pointer (some ⟨c, 0, none⟩), .slice (some ⟨bk, 0 + 0, none⟩) (59 - 0) (59 - 0)] W' fun e w' => ∃ r, e = .returned r /\ StR B (UI c bk B) (UEl c bk B) 0 W' w' r := by
 obtain ⟨g, hg, hp, hc, hcg, hbg⟩ := h.ex
 have hbl : bk < W'.heap.size := by obtain ⟨a, n, e, -, q⟩ := hW.input; obtain ⟨g', o, e1, rfl, e3, -⟩ := q 0 (by decide); exact e3
 refine (readHead_of hc hp (fit_new false 200 (by omega)) (sz_new false 200) hW.mx hW.et (by omega) (ap_nil hcg) _ usq ((hW.from 0 (by omega)).imp fun k e => by subst e; exact ap_nil hbg) (by decide) uz1_fed uz1_whole (fun w' => ∃ g2, W'.heap.size <= g2 /\ Par w' g2 g2 (.slice none 0 0) (.slice none 0 0) (pNew false 200) /\ ClB w' c (uk 1) (uH c) (.pointer (some ⟨g2, 0, none⟩)) (.pointer none) 0) (fun X lv' fv' la lc b0 hs y1 y2 y3 y4 y5 => ?_)).mono ?_
 ·refine (hr_inter y1 (by rw [uz1_status]; omega) (by rw [uz1_status]; omega) (by show 0 < 8; omega) (by show 16 <= 200; omega) (by show 200 <= 65536; omega)).mono ?_
  rintro e w' ⟨rfl, g2, q1, q2, q3, q4⟩
  exact ⟨rfl, ⟨g2, by omega, q2, q3⟩, q4⟩
 ·rintro e w' ⟨rfl, ⟨g2, q1, q2, q3⟩, q4⟩
  have hlow := q4.low hp hBc hg hW.low
  have hcl := lt_heap hc
  exact ⟨_, rfl, hlow, 18, by omega, none, 0, 0, rfl, .inl ⟨rfl, rfl, rfl, hW.turn hlow hB (q4.block bk hbl hbc (ap_nil hbg)), .inr (.inl ⟨rfl, g2, by have := hW.low; omega, q2, q3, by omega, by omega⟩)⟩⟩
theorem head_round (hB : 3 <= B) (hBc : B <= c) (hbc : bk ≠ c) (hBk : B <= bk) (hW : UW W' bk B) (h : UH W' c bk B 1) :
  Calls Tryz.prog 26 #[.pointer (some ⟨c, 0, none⟩), .slice (some ⟨bk, 0 + 18, none⟩) (59 - 18) (59 - 18)] W' fun e w' => ∃ r, e = .returned r /\ StR B (UI c bk B) (UEl c bk B) 18 W' w' r := by
 obtain ⟨g, hg, hp, hc, hcg, hbg⟩ := h.ex
 have hbl : bk < W'.heap.size := by obtain ⟨a, n, e, -, q⟩ := hW.input; obtain ⟨g', o, e1, rfl, e3, -⟩ := q 0 (by decide); exact e3
 have hcl := lt_heap hc
 refine (readHead_of hc hp (fit_new false 200 (by omega)) (sz_new false 200) hW.mx hW.et (by omega) (ap_nil hcg) _ (usq.drop 18) ((hW.from 18 (by omega)).imp fun k e => by subst e; exact ap_nil hbg) (by decide) uz2_fed uz2_whole (fun w' => UB w' c bk B) (fun X lv' fv' la lc b0 hs y1 y2 y3 y4 y5 => ?_)).mono ?_
 ·refine (hr_final (k := uk 1) (by rw [uz2_status]; omega) y1 y4 y5 uz2_sm uz2_q (fun V y ro => ∃ gr g', ro = some ⟨gr, 0, none⟩ /\ Rdr y V.heap.size gr g' 188 190 ⟨0, false, 0⟩ [.int .i64 ((2 : Nat) : Int)] /\ V.heap.size <= y.heap.size) (fun V => ?_)).mono ?_
  ·refine (new_of (it := 188) (ct := 190) (t := ⟨0, decide (2 = 0), 0⟩) (X := [.int .i64 ((2 : Nat) : Int)]) (k := 2) (len := 2) (x := true) (most := 9007199254740992) (w := V) (.inl rfl) (by omega) (by omega) (by decide) (by omega) (fun U => framed_len 2 true _ U)).mono ?_
   rintro e w' ⟨gr, g2, rfl, a1, a2, a3, -, a5⟩
   exact ⟨_, rfl, ⟨gr, g2, rfl, a5 rfl, a3.size⟩, a3⟩
  ·rintro e w' ⟨rfl, ⟨V, y, ro, q1, ⟨gr, g2, rfl, q2, q2s⟩, q3, q4, q5⟩, q6⟩
   have hpw := y2.ck q6 y3
   have hgl := y2.lt
   refine ⟨rfl, ⟨V.heap.size, gr, g2, g, q5, ⟨(q3.block gr (lt_heap' q2.rd) (by have := q2.rb; omega)).trans q2.rd, (q3.block g2 (lt_heap' q2.fr) (by have := q2.fb; omega)).trans q2.fr, q2.ne, q2.rb, q2.fb⟩, q4, by omega, by have := hW.low; omega, by have := q3.size; omega, ?_⟩, q6⟩
   exact ⟨_, lv', fv', hpw, y3, by omega, fun i e => by have := (y2.line.lt e).2; omega, fun i e => by have := (y2.flds.lt e).2; omega⟩
 ·rintro e w' ⟨rfl, q1, q4⟩
  have hlow := q4.low hp hBc hg hW.low
  exact ⟨_, rfl, hlow, 38, by omega, none, 0, 0, rfl, .inl ⟨rfl, rfl, rfl, hW.turn hlow hB (q4.block bk hbl hbc (ap_nil hbg)), .inr (.inr ⟨rfl, q1⟩)⟩⟩
theorem body_round (hB : 3 <= B) (hBc : B <= c) (hbc : bk ≠ c) (hBk : B <= bk) (hW : UW W' bk B) (h : UB W' c bk B) :
  Calls Tryz.prog 89 #[.pointer (some ⟨c, 0, none⟩), .slice (some ⟨bk, 0 + 56, none⟩) (59 - 56) (59 - 56)] W' fun e w' => ∃ r, e = .returned r /\ StR B (UI c bk B) (UEl c bk B) 56 W' w' r := by
 obtain ⟨base, gr, g, gp, hc, hr, h3, h4, h5, h6, h7⟩ := h.ex
 have hbl : bk < W'.heap.size := by obtain ⟨a, n, e, -, q⟩ := hW.input; obtain ⟨g', o, e1, rfl, e3, -⟩ := q 0 (by decide); exact e3
 have hF := readBody_meas hc hr h3 h6 (.slice (some ⟨bk, 0 + 56, none⟩) (59 - 56) (59 - 56)) (usq.drop 56) (hW.from 56 (by omega)).bs (.inr ⟨_, _, _, rfl⟩) (by omega) (by simp) rfl (by decide)
 have hk : tkN (usq.drop 56) 2 0 = 2 := by decide
 have ht : (usq.drop 56).take 2 = [97, 98] := by decide
 dsimp only at hF
 rw [hk, ht] at hF
 refine hF.mono ?_
 rintro e w' ⟨ua, uc, rfl, r1, r2, r3, -, r5, r6⟩
 obtain ⟨g2, s1, s2⟩ := r3 rfl
 have hlow : Below B W' w' := r5.mono hBc
 exact ⟨_, rfl, hlow, 2, by omega, ua, 2, uc, rfl, .inr ⟨[97, 98], rfl, Bs.of_row r1, Shp.of_row r1, by decide, hW.turn hlow hB (r6 bk h4 hbc), rfl, rfl, base, gr, g2, gp, r2, s2, h7.keep r6, Nat.le_trans h6 r5.size⟩⟩
end
theorem bf_blk {W : World} {A : Nat -> Prop} {bk : Nat} {cs : Array Value} {fr : Nat × Nat} {l : List UInt8} (h : W.heap[bk]? = some (.cells cs 5 fr)) (hc : cs.toList = l.map fun x => Value.int .u8 (x.toNat : Int)) (hA : A bk) : Bf W A (.slice (some ⟨bk, 0, none⟩) l.length l.length) l := by
 refine ⟨_, _, rfl, Nat.le_refl _, fun j hj => ⟨bk, 0, rfl, hA, lt_heap h, ?_⟩⟩
 rw [cell_at h, Nat.zero_add, <- Array.getElem?_toList, hc, List.getElem?_map, List.getElem?_eq_getElem hj]
 rfl
theorem kt_meas : KT 188 := .inl rfl
theorem kt_over : KT 123 := .inr (.inr (.inr rfl))
theorem uz_rounds {c bk B : Nat} (hB : 3 <= B) (hBc : B <= c) (hbc : bk ≠ c) (hBk : B <= bk) : Rounds c 59 bk 0 59 B (fun _ _ => false) (UI c bk B) (UEl c bk B) where
 keep := by
  rintro W W' k ⟨h1, h2⟩ b
  refine ⟨h1.below b, ?_⟩
  rcases h2 with ⟨rfl, h⟩ | ⟨rfl, h⟩ | ⟨rfl, h⟩
  ·exact .inl ⟨rfl, h.below b⟩
  ·exact .inr (.inl ⟨rfl, h.below b⟩)
  ·exact .inr (.inr ⟨rfl, h.below b⟩)
 keepE := by
  rintro W W' k l ⟨h1, rfl, rfl, h2⟩ b
  exact ⟨h1.below b, rfl, rfl, h2.below b⟩
 leE := by
  rintro W k l ⟨h1, rfl, rfl, h2⟩
  obtain ⟨base, gr, g, gp, q1, q2, -, -⟩ := h2.ex
  exact ⟨by omega, ⟨0, (cl_cells q1).2.2.2.2.2.2.2.2.2.2.2⟩, fun _ => over_rdr q1 q2 kt_over⟩
 stp := by
  rintro W k ⟨h1, h2⟩
  rcases h2 with ⟨rfl, h⟩ | ⟨rfl, h⟩ | ⟨rfl, h⟩
  ·obtain ⟨g, -, -, q, -⟩ := h.ex
   exact ⟨by omega, 26, 0, (cl_cells q).2.2.1, enters_of Tryz.func26 (by kernel_rfl) rfl, (cl_cells q).2.2.2.2.2.2.2.2.2.2.2, over_none q, fun _ _ W' b => inter_round hB hBc hbc hBk (h1.below b) (h.below b)⟩
  ·obtain ⟨g, -, -, q, -⟩ := h.ex
   exact ⟨by omega, 26, 0, (cl_cells q).2.2.1, enters_of Tryz.func26 (by kernel_rfl) rfl, (cl_cells q).2.2.2.2.2.2.2.2.2.2.2, over_none q, fun _ _ W' b => head_round hB hBc hbc hBk (h1.below b) (h.below b)⟩
  ·obtain ⟨base, gr, g, gp, q1, q2, -⟩ := h.ex
   exact ⟨by omega, 89, 0, (cl_cells q1).2.2.1, enters_of Tryz.func89 (by kernel_rfl) rfl, (cl_cells q1).2.2.2.2.2.2.2.2.2.2.2, over_rdr q1 q2 kt_meas, fun _ _ W' b => body_round hB hBc hbc hBk (h1.below b) (h.below b)⟩
theorem sp_read {w : World} {c g B : Nat} (hp : Par w g g (.slice none 0 0) (.slice none 0 0) (pNew false 200)) (hc : ClB w c (uk 0) (uH c) (.pointer (some ⟨g, 0, none⟩)) (.pointer none) 0) (hg : B <= g) (hcB : B <= c) (hgc : g ≠ c) (h3 : 3 <= B) (hBw : B <= w.heap.size) (hm : MX w) (he : ET w) :
  Calls Tryz.prog 11 #[.pointer (some ⟨c, 0, none⟩), .slice (some ⟨w.heap.size, 0, none⟩) 59 59] (w.alloc (.cells #[.int .u8 72, .int .u8 84, .int .u8 84, .int .u8 80, .int .u8 47, .int .u8 49, .int .u8 46, .int .u8 49, .int .u8 32, .int .u8 49, .int .u8 48, .int .u8 51, .int .u8 32, .int .u8 88, .int .u8 13, .int .u8 10, .int .u8 13, .int .u8 10, .int .u8 72, .int .u8 84, .int .u8 84, .int .u8 80, .int .u8 47, .int .u8 49, .int .u8 46, .int .u8 49, .int .u8 32, .int .u8 50, .int .u8 48, .int .u8 48, .int .u8 32, .int .u8 79, .int .u8 75, .int .u8 13, .int .u8 10, .int .u8 67, .int .u8 111, .int .u8 110, .int .u8 116, .int .u8 101, .int .u8 110, .int .u8 116, .int .u8 45, .int .u8 76, .int .u8 101, .int .u8 110, .int .u8 103, .int .u8 116, .int .u8 104, .int .u8 58, .int .u8 32, .int .u8 50, .int .u8 13, .int .u8 10, .int .u8 13, .int .u8 10, .int .u8 97, .int .u8 98, .int .u8 99] 5 (59, 60))) fun e w' => ∃ tv b, e = .returned (.tuple #[.int .i64 58, tv, .int .i64 0]) /\ Row w' b 5 tv (bc [97, 98]) /\ UE w' c /\ Below B w w' := by
 have b := (Below.refl w.heap.size w).alloc (Nat.le_refl _) (.cells #[.int .u8 72, .int .u8 84, .int .u8 84, .int .u8 80, .int .u8 47, .int .u8 49, .int .u8 46, .int .u8 49, .int .u8 32, .int .u8 49, .int .u8 48, .int .u8 51, .int .u8 32, .int .u8 88, .int .u8 13, .int .u8 10, .int .u8 13, .int .u8 10, .int .u8 72, .int .u8 84, .int .u8 84, .int .u8 80, .int .u8 47, .int .u8 49, .int .u8 46, .int .u8 49, .int .u8 32, .int .u8 50, .int .u8 48, .int .u8 48, .int .u8 32, .int .u8 79, .int .u8 75, .int .u8 13, .int .u8 10, .int .u8 67, .int .u8 111, .int .u8 110, .int .u8 116, .int .u8 101, .int .u8 110, .int .u8 116, .int .u8 45, .int .u8 76, .int .u8 101, .int .u8 110, .int .u8 103, .int .u8 116, .int .u8 104, .int .u8 58, .int .u8 32, .int .u8 50, .int .u8 13, .int .u8 10, .int .u8 13, .int .u8 10, .int .u8 97, .int .u8 98, .int .u8 99] 5 (59, 60))
 have hN := hp_new w (.cells #[.int .u8 72, .int .u8 84, .int .u8 84, .int .u8 80, .int .u8 47, .int .u8 49, .int .u8 46, .int .u8 49, .int .u8 32, .int .u8 49, .int .u8 48, .int .u8 51, .int .u8 32, .int .u8 88, .int .u8 13, .int .u8 10, .int .u8 13, .int .u8 10, .int .u8 72, .int .u8 84, .int .u8 84, .int .u8 80, .int .u8 47, .int .u8 49, .int .u8 46, .int .u8 49, .int .u8 32, .int .u8 50, .int .u8 48, .int .u8 48, .int .u8 32, .int .u8 79, .int .u8 75, .int .u8 13, .int .u8 10, .int .u8 67, .int .u8 111, .int .u8 110, .int .u8 116, .int .u8 101, .int .u8 110, .int .u8 116, .int .u8 45, .int .u8 76, .int .u8 101, .int .u8 110, .int .u8 103, .int .u8 116, .int .u8 104, .int .u8 58, .int .u8 32, .int .u8 50, .int .u8 13, .int .u8 10, .int .u8 13, .int .u8 10, .int .u8 97, .int .u8 98, .int .u8 99] 5 (59, 60))
 have hbk := lt_heap hN
 have hcl := lt_heap hc
 have hgl := hp.lt
 generalize w.alloc _ = W at b hN hbk |-
 have hcW := (b.block c hcl).trans hc
 have hUW : UW W w.heap.size B := ⟨hm.below b, he.below b, bf_blk hN rfl rfl, Nat.le_trans hBw b.size⟩
 have hUI : UI c w.heap.size B W 0 := ⟨hUW, .inl ⟨rfl, g, hg, hp.below b, hcW, fun e => hgc e.symm, by omega⟩⟩
 refine (read_of (uz_rounds h3 hcB (by omega) hBw) hUI (by omega) (by omega) (Nat.le_trans hBw b.size) (isNoneU_any hcW)).mono ?_
 rintro e w' ⟨k, tv, wr, rfl, hb, hcell, hcase⟩
 rcases hcase with ⟨rfl, hI, hk⟩ | ⟨l, b2, hrow, -, rfl, rfl, hUE⟩
 ·exfalso
  rcases hk with rfl | ⟨_, _, hov⟩
  ·rcases hI.2 with ⟨q, -⟩ | ⟨q, -⟩ | ⟨q, -⟩ <;> omega
  ·cases hov
 ·obtain ⟨base, gr, g', gp, q1, q2, -, -⟩ := hUE.ex
  have e0 := (cl_cells q1).2.2.2.2.2.2.2.2.2.2.2
  rw [hcell] at e0
  simp only [Option.some.injEq, Value.int.injEq, true_and] at e0
  subst e0
  exact ⟨tv, b2, rfl, hrow, hUE, (b.mono hBw).trans hb⟩
theorem sp_head {w : World} {c : Nat} (h : UE w c) : Calls Tryz.prog 15 #[.pointer (some ⟨c, 0, none⟩)] w fun e w' => ∃ r m t i re l ln lc, e = .returned (.tuple #[.agg #[.bool r, .string m, .string t, .int .i64 i, .int .i64 200, .string re, .slice l ln lc], .bool true]) /\ Below w.heap.size w w' := by
 obtain ⟨base, gr, g', gp, q1, -, q3, -⟩ := h.ex
 obtain ⟨pb, lv, fv, hp, -, -⟩ := q3.ex
 refine (head_known q1 rfl hp uz2_whole ((sz_new false 200).feed (fit_new false 200 (by omega)) (usq.drop 18)) ((fit_new false 200 (by omega)).feed (usq.drop 18))).mono ?_
 rintro e w' ⟨la, lc, rfl, -, y⟩
 refine ⟨uz2.req, uz2.me, uz2.ta, (uz2.minor : Int), uz2.re, la, uz2.fs.length, lc, ?_, y⟩
 unfold hdV
 rw [uz2_status]
 rfl
theorem field_fr (x y : Int) (z : Bool) (W : World) : (Instr.field 29 (.agg #[.int .i64 x, .int .i64 y, .bool z]) 1).run Tryz.prog W = .ok (.int .i64 y) W := by kernel_rfl
theorem uspeaks_any (w : World) (hm : MX w) (he : ET w) : Calls Tryz.prog 9 #[] w fun e w' => e = .returned (.bool true) /\ Below w.heap.size w w' := by
 have h3 : 3 <= w.heap.size := by have := hm.1; omega
 have HM := hide hm
 have HE := hide he
 have HN := hide (unew_any w ⟨#[71, 69, 84]⟩ 200 (by decide) (by decide) (by omega) (by omega))
 rw [show ((200 : Nat) : Int) = 200 from rfl] at HN
 clear hm he
 go_enter Tryz.func9, Tryz.ntmps9
 go_wp2_with fail
 refine HN.out.mono ?_
 rintro e w1 ⟨c, g, rfl, hg, hcB, hgc, hp, hc, b1⟩
 have HR := hide (sp_read hp hc hg hcB hgc h3 b1.size (HM.out.below b1) (HE.out.below b1))
 have B1 := hide b1
 have hcv : (convert 24 24 (.slice (some ⟨w1.heap.size, 0, none⟩) 59 59)).run Tryz.prog (w1.alloc (.cells #[.int .u8 72, .int .u8 84, .int .u8 84, .int .u8 80, .int .u8 47, .int .u8 49, .int .u8 46, .int .u8 49, .int .u8 32, .int .u8 49, .int .u8 48, .int .u8 51, .int .u8 32, .int .u8 88, .int .u8 13, .int .u8 10, .int .u8 13, .int .u8 10, .int .u8 72, .int .u8 84, .int .u8 84, .int .u8 80, .int .u8 47, .int .u8 49, .int .u8 46, .int .u8 49, .int .u8 32, .int .u8 50, .int .u8 48, .int .u8 48, .int .u8 32, .int .u8 79, .int .u8 75, .int .u8 13, .int .u8 10, .int .u8 67, .int .u8 111, .int .u8 110, .int .u8 116, .int .u8 101, .int .u8 110, .int .u8 116, .int .u8 45, .int .u8 76, .int .u8 101, .int .u8 110, .int .u8 103, .int .u8 116, .int .u8 104, .int .u8 58, .int .u8 32, .int .u8 50, .int .u8 13, .int .u8 10, .int .u8 13, .int .u8 10, .int .u8 97, .int .u8 98, .int .u8 99] 5)) = .ok (.slice (some ⟨w1.heap.size, 0, none⟩) 59 59) (w1.alloc (.cells #[.int .u8 72, .int .u8 84, .int .u8 84, .int .u8 80, .int .u8 47, .int .u8 49, .int .u8 46, .int .u8 49, .int .u8 32, .int .u8 49, .int .u8 48, .int .u8 51, .int .u8 32, .int .u8 88, .int .u8 13, .int .u8 10, .int .u8 13, .int .u8 10, .int .u8 72, .int .u8 84, .int .u8 84, .int .u8 80, .int .u8 47, .int .u8 49, .int .u8 46, .int .u8 49, .int .u8 32, .int .u8 50, .int .u8 48, .int .u8 48, .int .u8 32, .int .u8 79, .int .u8 75, .int .u8 13, .int .u8 10, .int .u8 67, .int .u8 111, .int .u8 110, .int .u8 116, .int .u8 101, .int .u8 110, .int .u8 116, .int .u8 45, .int .u8 76, .int .u8 101, .int .u8 110, .int .u8 103, .int .u8 116, .int .u8 104, .int .u8 58, .int .u8 32, .int .u8 50, .int .u8 13, .int .u8 10, .int .u8 13, .int .u8 10, .int .u8 97, .int .u8 98, .int .u8 99] 5 (59, 60))) := Lib.run_convert_bytes_const w1 24 5 #[.int .u8 72, .int .u8 84, .int .u8 84, .int .u8 80, .int .u8 47, .int .u8 49, .int .u8 46, .int .u8 49, .int .u8 32, .int .u8 49, .int .u8 48, .int .u8 51, .int .u8 32, .int .u8 88, .int .u8 13, .int .u8 10, .int .u8 13, .int .u8 10, .int .u8 72, .int .u8 84, .int .u8 84, .int .u8 80, .int .u8 47, .int .u8 49, .int .u8 46, .int .u8 49, .int .u8 32, .int .u8 50, .int .u8 48, .int .u8 48, .int .u8 32, .int .u8 79, .int .u8 75, .int .u8 13, .int .u8 10, .int .u8 67, .int .u8 111, .int .u8 110, .int .u8 116, .int .u8 101, .int .u8 110, .int .u8 116, .int .u8 45, .int .u8 76, .int .u8 101, .int .u8 110, .int .u8 103, .int .u8 116, .int .u8 104, .int .u8 58, .int .u8 32, .int .u8 50, .int .u8 13, .int .u8 10, .int .u8 13, .int .u8 10, .int .u8 97, .int .u8 98, .int .u8 99] 59 59 Tryz.underlying24 Tryz.underlying5
 clear hp hc b1 HN
 go_wp2_with fail
 refine HR.out.mono ?_
 rintro e w2 ⟨tv, bb, rfl, hrow, hue, b2⟩
 obtain ⟨ta, tc, rfl⟩ : ∃ a n, tv = .slice a 2 n := by obtain ⟨a, n, h, _⟩ := hrow.shape; exact ⟨a, n, h⟩
 have HRow := hide hrow
 have HU := hide hue
 have B2 := hide (B1.out.trans b2)
 have HH := hide (sp_head hue)
 clear hrow hue b2 HR hcv B1
 go_wp2_with fail
 refine HH.out.mono ?_
 rintro e w3 ⟨r, m, t, i, re, l, ln, lc, rfl, b3⟩
 have HRow3 := hide (HRow.out.below b3)
 have HU3 := hide (HU.out.below b3)
 have B3 := hide (B2.out.trans (b3.mono B2.out.size))
 clear b3 HH HRow HU B2
 have b4 := (Below.refl w3.heap.size w3).alloc (Nat.le_refl _) (.cells #[.bool r, .string m, .string t, .int .i64 i, .int .i64 200, .string re, .slice l ln lc] 27)
 have F4 := hide (hp_new w3 (.cells #[.bool r, .string m, .string t, .int .i64 i, .int .i64 200, .string re, .slice l ln lc] 27))
 have HRow4 := hide (HRow3.out.below b4)
 have HU4 := hide (HU3.out.below b4)
 have B4 := hide (B3.out.trans (b4.mono B3.out.size))
 clear b4 HRow3 HU3
 go_upto_region 6 with fail
 clear B3
 generalize w3.alloc _ = w4 at *
 have m4 : w4.cell? ⟨w3.heap.size, 4, none⟩ = some (.int .i64 200) := cell_at F4.out 4
 have htx : (convert 24 9 (.slice ta 2 tc)).run Tryz.prog w4 = .ok (.string ⟨#[97, 98]⟩) w4 := HRow4.out.text
 have HX := hide HU4.out.ex
 obtain ⟨base, gr, g', gp, q1, q2, -, -⟩ := HX.out
 have HW := hide (uwhole_rdr q1 q2 kt_over)
 have HA := hide (again_rdr q1 q2 kt_over rfl rfl rfl)
 have HF := hide (framing_any q1)
 change Hid (Calls _ _ _ _ fun e w' => e = .returned (.agg #[.int .i64 2, .int .i64 2, .bool true]) /\ _) at HF
 clear q1 q2 HX HU4 F4 HRow4
 have HFd := field_fr 2 2 true
 go_wp2_with (first | (go_at_call 12; refine HW.out.mono ?_; rintro e w' ⟨rfl, rfl⟩) | (go_at_call 14; refine HA.out.mono ?_; rintro e w' ⟨rfl, rfl⟩) | (go_at_call 16; refine HF.out.mono ?_; rintro e w5 ⟨rfl, y⟩; have B5 := hide (B4.out.trans (y.mono B4.out.size)); clear y))
 go_ret
 exact ⟨rfl, B5.out⟩
def laid6 : List (String × DataW Unit) := [("unicode/utf8.acceptRanges", Rows.laid_unicode_utf8_acceptRanges), ("errors.errorType", Rows.laid_errors_errorType), ("unicode/utf8.first", Rows.laid_unicode_utf8_first)]
def laid5 : List (String × DataW Unit) := [("unicode/utf8.acceptRanges", Rows.laid_unicode_utf8_acceptRanges), ("unicode/utf8.first", Rows.laid_unicode_utf8_first)]
def laid1 : List (String × DataW Unit) := [("errors.errorType", Rows.laid_errors_errorType)]
theorem parts6 : (laid6.filter fun x => x.2.handleName?.isNone) = laid5 := by kernel_rfl
theorem hands6 : (laid6.filter fun x => x.2.handleName?.isSome) = laid1 := by kernel_rfl
theorem split6 {W : World} (h : laidMetH Tryz.prog laid6 W) : laidMet Tryz.prog laid5 W /\ handlesMet Tryz.prog laid1 W := by
 have := laidMetH_iff.1 h
 rw [parts6, hands6] at this
 exact this
theorem et : Tryz.prog.globalNamed "errors.errorType" = some 0 := by kernel_rfl
theorem rt : (Tryz.prog.cutTypes.find? (·.1 == "internal/reflectlite.rtype")).map (·.2) = some 158 := by kernel_rfl
theorem oneRow : ((List.range 265).filter fun t => Tryz.prog.rowNamed t [101, 114, 114, 111, 114]) = [110] := by kernel_rfl
theorem tysize : Tryz.prog.types.size = 265 := by kernel_rfl
theorem et_of {W : World} (h : laidMetH Tryz.prog laid6 W) : ET W := by
 obtain ⟨name, u, ty, e1, e2, e3, e4, e5⟩ := (split6 h).2 _ (List.mem_singleton.2 rfl)
 have en : name = [101, 114, 114, 111, 114] := (Option.some.inj e1).symm
 subst en
 obtain rfl := Option.some.inj (rt.symm.trans e2)
 have hm : ty ∈ (List.range 265).filter fun t => Tryz.prog.rowNamed t [101, 114, 114, 111, 114] := List.mem_filter.2 ⟨List.mem_range.2 (by rw [<- tysize]; exact e3), e4⟩
 rw [oneRow] at hm
 obtain rfl := List.mem_singleton.1 hm
 have hh : typeHandle Tryz.prog 110 = .pointer (some ⟨4, 110, none⟩) := by kernel_rfl
 rw [hh] at e5
 unfold ET
 simpa using World.var?_cell et e5 0
theorem size3 {W : World} (h : W.ShapedOpen Tryz.prog) : 2 < W.heap.size := by
 have hs : (((begin Tryz.prog (fun _ _ => 0) default).world.heap[2]?).bind Obj.row?).isSome = true := by kernel_rfl
 obtain ⟨⟨z, t⟩, hz⟩ := Option.isSome_iff_exists.1 hs
 obtain ⟨cs, hh, _⟩ := h.1 2 z t (of_decide_eq_true (by kernel_rfl)) hz
 rcases Nat.lt_or_ge 2 W.heap.size with h0 | h0
 ·exact h0
 ·rw [Array.getElem?_eq_none (by omega)] at hh
  simp at hh
theorem mx_of {W : World} (h : W.ShapedOpen Tryz.prog) : MX W :=
 ⟨size3 h, cell_of_shapedOpen_int (P := Tryz.prog) (g := 1) (t := 3) (zero := #[.int .i64 0]) h (of_decide_eq_true (by kernel_rfl)) (by kernel_rfl) rfl (by kernel_rfl) (by kernel_rfl) Tryz.underlying3⟩
noncomputable def w60 (os : Os) : World :=
 let w0 := World.holding Tryz.prog os ⟨#[], #[], []⟩
 { w0 with heap := w0.heap.modify 0 fun
   | .cells _ t frozen => .cells #[.iface 158 (.agg #[.pointer (some ⟨4, 110, none⟩)])] t frozen
   | o => o }
noncomputable def w6 (os : Os) : World := (w60 os).layVars Tryz.prog laid5
theorem w6_os (os : Os) : (w6 os).os = os := World.layVars_os _ _ _
theorem met6 (os : Os) (args : Array Value) : laidMetH Tryz.prog laid6 ((w6 os).forCall (fun _ _ => 0) ⟨#[], args, []⟩).memory := by
 refine laidMetH_of_parts ?_ (by rw [hands6]; kernel_rfl)
 rw [parts6]
 have e1 : (laid5.filter fun x => (laid5.map (·.1)).contains x.1) = laid5 := List.filter_eq_self.2 fun x hx => List.contains_iff_mem.2 (List.mem_map.2 ⟨x, hx, rfl⟩)
 have e2 : (laid5.filter fun x => !(laid5.map (·.1)).contains x.1) = [] := List.filter_eq_nil_iff.2 fun x hx => by rw [List.contains_iff_mem.2 (List.mem_map.2 ⟨x, hx, rfl⟩)]; simp
 have h : laidMet Tryz.prog laid5 (w6 os) := laidMet_layVars (w0 := w60 os) (laid5.map (·.1)) [] (by rw [e1]; rfl) (by rw [e1]; kernel_rfl) (by rw [e1]; kernel_rfl) (by rw [e2]; exact LaidIn.none)
 exact h.of_heap (by simp [World.memory, World.forCall, Input.heap])
theorem readHead_still {w : World} {c : Nat} {k : Uk} {bv : Value} {wr : Int} {base g : Nat} {lv fv : Value} {p p' : Pz} {n er : Nat} (h : ClB w c k (uH c) (.pointer (some ⟨g, 0, none⟩)) bv wr) (hp : Par w base g lv fv p) (hf : Fit p) (hm : MX w) (he : ET w) (hb : 3 <= base) (ha : Ap g lv fv c) (v : Value) (l : List UInt8) (hv : Bf w (Ap g lv fv) v l) (hl : l.length <= 140737488355328) (hF : pFeed p l = (n, false, er, p')) :
  Calls Tryz.prog 26 #[.pointer (some ⟨c, 0, none⟩), v] w fun e w' => e = .returned (.tuple #[.int .i64 (n : Int), .slice none 0 0]) /\ ClB w' c k (uH c) (.pointer (some ⟨g, 0, none⟩)) bv (er : Int) /\ (∃ lv' fv', Par w' base g lv' fv' p' /\ Ap g lv' fv' c) /\ HK w w' c g lv fv := by
 have HF := hide (hfeed_any hp hf hm he hb v l hv hl)
 rw [hF] at HF
 unfold fdV at HF
 dsimp only at HF
 obtain ⟨-, -, -, k3, -, -, -, -, -, -, -, -⟩ := cl_cells h
 have HH := hide h
 have hcl : c < w.heap.size := lt_heap h
 have HC : Hid (∀ w' lv' fv', PKh w w' g lv fv lv' fv' -> w'.heap[c]? = w.heap[c]? /\ Ap g lv' fv' c) := hide (fun w' lv' fv' k => ⟨k.block c hcl ha.1 ha.2.1 ha.2.2, ha.pk k hcl⟩)
 clear h hp hf hm he hv hF ha
 go_enter Tryz.func26, Tryz.ntmps26
 go_upto_region 5 with (go_at_call 42; refine HF.out.mono ?_; rintro e w1 ⟨rfl, lv', fv', y1, y2⟩; have H1 := hide ((HC.out _ _ _ y2).1.trans HH.out); have HA1 := hide (HC.out _ _ _ y2).2; have HY := hide y1; have HL := hide y2; clear y1 y2; have k11 := (cl_cells H1.out).2.2.2.2.2.2.2.2.2.2.2; have z11 := cl_fz H1.out 11)
 have H2 : Hid (ClB (w1.setCell ⟨c, 11, none⟩ (.int .i64 (er : Int))) c k (uH c) (.pointer (some ⟨g, 0, none⟩)) bv (er : Int)) := hide (hp_set H1.out 11 _)
 have HY2 := hide (HY.out.ck (CK.set w1 c 11 (.int .i64 (er : Int))) HA1.out)
 have HB := hide (HK.of HL.out (CK.set w1 c 11 (.int .i64 (er : Int))))
 go_wp2_with fail
 go_ret2
 exact ⟨rfl, H2.out, ⟨_, _, HY2.out, HA1.out⟩, HB.out⟩
end Go.Proofs.YtecjlcjaccijpaaGreatDoor
