/- YS. -/
import Derived.Test.YtecjlcjaccijpaaGreatDoorYR
import Derived.Test.YtecjlcjaccijpaaGreatDoorYK
import Derived.Deep.MidRow
import Derived.Laws.Tables
import Derived.Deep.CutRange
namespace Go.Proofs.YtecjlcjaccijpaaGreatDoor
open Go.ChangeShapes Go.WideShapes Go.ChangeAt Go.RowKit
set_option linter.unusedVariables false
set_option maxHeartbeats 16000000
set_option maxRecDepth 100000
abbrev snN (n : Int) : Sn := { sn0 with n := n }
abbrev snE (n e : Int) : Sn := { sn0 with n := n, e := e }
abbrev snT (p : Pz) (n : Int) (u : Value) (th : Bool) (k l : Int) (b : Bool) (ov : Value) (wh : Bool) (e : Int) : Sn := ⟨n, p.req, p.me, p.ta, (p.minor : Int), (p.status : Int), p.re, u, th, k, l, b, ov, wh, e⟩
theorem snC_one (s : Sn) {a b : Option Addr} {m n k l : Nat} (hu : s.u = .slice a m k) (ho : s.ov = .slice b n l) : (snC s).all (·.oneCell') = true := by simp [snC, Value.oneCell', hu, ho]
theorem range_of {W : World} {b : Nat} {L : List Value} {t : TypeId} {fr : Nat × Nat} (h : W.heap[b]? = some (.cells L.toArray t fr)) : W.rangeAt b 0 L := by
 intro j v hv
 rw [Nat.zero_add, cell_at h]
 simpa using hv
theorem CK.setRow (w : World) (c : Nat) (cs : Array Value) : CK w (w.setRow c cs) c := ⟨rfl, rfl, rfl, by simp, fun k _ hk => setRow_other w c k cs hk⟩
theorem seen_results {w : World} {b : Nat} {s : Sn} (h : SnB w b s) (tmps : Array Value) (ht : tmps.getD 8 undef = .pointer (some ⟨b, 0, none⟩)) : (results Tryz.f7 tmps).run Tryz.prog w = .ok (snV s) w := by
 have hl := run_loadVar_mid (P := Tryz.prog) w b 0 31 (snC s).toList _ (range_of h) Tryz.underlying31 rfl (by kernel_rfl)
 have ht' : tmps[8]?.getD undef = .pointer (some ⟨b, 0, none⟩) := by simpa using ht
 simp [results, Tryz.results7, ht', asAddr, hl, snV, snC]
def thr (W : World) (b : Nat) : Nat := match W.cell? ⟨b, 8, none⟩ with | some (.bool true) => 0 | _ => 1
theorem thr_f {W : World} {b : Nat} (h : W.cell? ⟨b, 8, none⟩ = some (.bool false)) : thr W b = 1 := by unfold thr; rw [h]
theorem thr_t {W : World} {b : Nat} (h : W.cell? ⟨b, 8, none⟩ = some (.bool true)) : thr W b = 0 := by unfold thr; rw [h]
def putHd (w : World) (b : Nat) (r : Bool) (me ta : ByteArray) (mi st : Int) (re : ByteArray) (u : Value) : World := (((((((w.setCell ⟨b, 1, none⟩ (.bool r)).setCell ⟨b, 2, none⟩ (.string me)).setCell ⟨b, 3, none⟩ (.string ta)).setCell ⟨b, 4, none⟩ (.int .i64 mi)).setCell ⟨b, 5, none⟩ (.int .i64 st)).setCell ⟨b, 6, none⟩ (.string re)).setCell ⟨b, 7, none⟩ (u))
theorem putHd_ok {w : World} {b : Nat} {z : Sn} (h : SnB w b z) (r : Bool) (me ta : ByteArray) (mi st : Int) (re : ByteArray) (u : Value) : SnB (putHd w b r me ta mi st re u) b { z with r := r, me := me, ta := ta, mi := mi, st := st, re := re, u := u } /\ CK w (putHd w b r me ta mi st re u) b := by
 have a1 : SnB (_) b { z with r := r } := hp_set h 1 (.bool r)
 have a2 : SnB (_) b { z with r := r, me := me } := hp_set a1 2 (.string me)
 have a3 : SnB (_) b { z with r := r, me := me, ta := ta } := hp_set a2 3 (.string ta)
 have a4 : SnB (_) b { z with r := r, me := me, ta := ta, mi := mi } := hp_set a3 4 (.int .i64 mi)
 have a5 : SnB (_) b { z with r := r, me := me, ta := ta, mi := mi, st := st } := hp_set a4 5 (.int .i64 st)
 have a6 : SnB (_) b { z with r := r, me := me, ta := ta, mi := mi, st := st, re := re } := hp_set a5 6 (.string re)
 have a7 : SnB (_) b { z with r := r, me := me, ta := ta, mi := mi, st := st, re := re, u := u } := hp_set a6 7 (u)
 exact ⟨a7, ((((((CK.set w b 1 _).trans (CK.set _ b 2 _)).trans (CK.set _ b 3 _)).trans (CK.set _ b 4 _)).trans (CK.set _ b 5 _)).trans (CK.set _ b 6 _)).trans (CK.set _ b 7 _)⟩
def putFm (w : World) (b : Nat) (k l : Int) (p : Bool) : World := ((w.setCell ⟨b, 9, none⟩ (.int .i64 k)).setCell ⟨b, 10, none⟩ (.int .i64 l)).setCell ⟨b, 11, none⟩ (.bool p)
theorem putFm_ok {w : World} {b : Nat} {z : Sn} (h : SnB w b z) (k l : Int) (p : Bool) : SnB (putFm w b k l p) b { z with fk := k, fl := l, fp := p } /\ CK w (putFm w b k l p) b := by
 have a9 : SnB (_) b { z with fk := k } := hp_set h 9 (.int .i64 k)
 have a10 : SnB (_) b { z with fk := k, fl := l } := hp_set a9 10 (.int .i64 l)
 have a11 : SnB (_) b { z with fk := k, fl := l, fp := p } := hp_set a10 11 (.bool p)
 exact ⟨a11, ((CK.set w b 9 _).trans (CK.set _ b 10 _)).trans (CK.set _ b 11 _)⟩
def putBd (w : World) (b : Nat) (n : Int) (ov : Value) (wh : Bool) (e : Int) : World := (((w.setCell ⟨b, 0, none⟩ (.int .i64 n)).setCell ⟨b, 12, none⟩ ov).setCell ⟨b, 13, none⟩ (.bool wh)).setCell ⟨b, 14, none⟩ (.int .i64 e)
theorem putBd_ok {w : World} {b : Nat} {z : Sn} (h : SnB w b z) (n : Int) (ov : Value) (wh : Bool) (e : Int) : SnB (putBd w b n ov wh e) b { z with n := n, ov := ov, wh := wh, e := e } /\ CK w (putBd w b n ov wh e) b := by
 have a0 : SnB (_) b { z with n := n } := hp_set h 0 (.int .i64 n)
 have a1 : SnB (_) b { z with n := n, ov := ov } := hp_set a0 12 ov
 have a2 : SnB (_) b { z with n := n, ov := ov, wh := wh } := hp_set a1 13 (.bool wh)
 have a3 : SnB (_) b { z with n := n, ov := ov, wh := wh, e := e } := hp_set a2 14 (.int .i64 e)
 exact ⟨a3, (((CK.set w b 0 _).trans (CK.set _ b 12 _)).trans (CK.set _ b 13 _)).trans (CK.set _ b 14 _)⟩
theorem Bs.from {w : World} {base bk o vc : Nat} {l : List UInt8} (h : Bs w base (.slice (some ⟨bk, o, none⟩) l.length vc) l) (k : Nat) (hk : k <= l.length) : Bs w base (.slice (some ⟨bk, o + k, none⟩) (l.length - k) (vc - k)) (l.drop k) := by
 obtain ⟨a, n, e, h1, h2⟩ := h
 simp only [Value.slice.injEq, true_and] at e
 obtain ⟨rfl, rfl⟩ := e
 refine ⟨_, _, by rw [List.length_drop], by rw [List.length_drop]; omega, fun j hj => ?_⟩
 rw [List.length_drop] at hj
 obtain ⟨b, o', q1, q2, q3, q4⟩ := h2 (k + j) (by omega)
 simp only [Option.some.injEq, Addr.mk.injEq, and_true] at q1
 obtain ⟨rfl, rfl⟩ := q1
 exact ⟨bk, o + k, rfl, q2, q3, by rw [Nat.add_assoc]; simpa using q4⟩
theorem Bs.zero (w : World) (base : Nat) (a : Option Addr) (c : Nat) : Bs w base (.slice a 0 c) [] := ⟨a, c, rfl, Nat.zero_le _, fun j hj => by simp at hj⟩
def UQ (w : World) (en : Bool) (BQ : Nat -> Fo -> List UInt8 -> Nat -> Bool -> Nat -> Prop) : UR -> Ending -> World -> Prop
 | .bad n er, e, w' => e = .returned (snV (snE (n : Int) er)) /\ Below w.heap.size w w'
 | .cut n, e, w' => e = .returned (snV (snE (n : Int) (if en = true then 110 else 0))) /\ Below w.heap.size w w'
 | .got n p fo, e, w' => ∃ bo bN bw bE ov la lc, BQ n fo bo bN bw bE /\ e = .returned (snV (snT p ((n : Int) + (bN : Int)) (.slice la p.fs.length lc) true fo.k fo.n fo.b ov bw (bE : Int))) /\ Row w' w.heap.size 5 ov (bc bo) /\ FRow w' w.heap.size (.slice la p.fs.length lc) p.fs /\ Below w.heap.size w w'
theorem uall_z0 (w : World) (me : ByteArray) (most : Nat) 
  (hread : ∀ W v, Below w.heap.size w W -> Bs W w.heap.size v [] -> Calls Tryz.prog 17 #[.bool false, .int .i64 (most : Int), v] W fun e w' => ∃ (h : Hx) (u : Value), e = .returned (.tuple #[hxV h u, .int .i64 0, .bool false, .int .i64 0]) /\ FRow w' W.heap.size u h.fs /\ Below W.heap.size W w') :
  Calls Tryz.prog 7 #[.string me, .int .i64 (most : Int), .slice none 0 0, .bool false] w fun e w' => e = .returned (snV sn0) /\ Below w.heap.size w w' := by
 have HRD := hide hread
 clear hread
 have T0 := hide (Bl.two w #[.int .i64 0, .bool false, .string ⟨#[]⟩, .string ⟨#[]⟩, .int .i64 0, .int .i64 0, .string ⟨#[]⟩, (.slice none 0 0), .bool false, .int .i64 0, .int .i64 0, .bool false, (.slice none 0 0), .bool false, .int .i64 0] 31 #[.int .i64 0, .bool false, .string ⟨#[]⟩, .string ⟨#[]⟩, .int .i64 0, .int .i64 0, .string ⟨#[]⟩, (.slice none 0 0), .bool false, .int .i64 0, .int .i64 0, .bool false, (.slice none 0 0), .bool false, .int .i64 0] 31)
 go_enter Tryz.func7, Tryz.ntmps7
 go_upto_region 2 with fail
 generalize ((w.alloc (.cells #[.int .i64 0, .bool false, .string ⟨#[]⟩, .string ⟨#[]⟩, .int .i64 0, .int .i64 0, .string ⟨#[]⟩, (.slice none 0 0), .bool false, .int .i64 0, .int .i64 0, .bool false, (.slice none 0 0), .bool false, .int .i64 0] 31)).alloc (.cells #[.int .i64 0, .bool false, .string ⟨#[]⟩, .string ⟨#[]⟩, .int .i64 0, .int .i64 0, .string ⟨#[]⟩, (.slice none 0 0), .bool false, .int .i64 0, .int .i64 0, .bool false, (.slice none 0 0), .bool false, .int .i64 0] 31)) = x at T0 |-
 have HR0 : Hid (SnB x w.heap.size sn0) := hide (T0.out.hp 0 _ _ rfl)
 have HS0 : Hid (SnB x (w.heap.size + 1) sn0) := hide (T0.out.hp 1 _ _ rfl)
 have HB0 := hide T0.out.b
 clear T0
 go_wp2_with fail
 go_loopw [10] (fun u wr => u = .int .i64 0 /\ Hid (Below w.heap.size w wr) /\ Hid (SnB wr w.heap.size sn0) /\ Hid (SnB wr (w.heap.size + 1) sn0)) (fun _ _ => 0)
 case atStart => exact ⟨rfl, HB0, HR0, HS0⟩
 case round =>
  clear HB0 HR0 HS0
  obtain ⟨rfl, HB, HR0, HS⟩ := hrel
  have hrs : w.heap.size + 2 <= wr.heap.size := by have := lt_heap HS.out; omega
  have HC := hide (fun v hv => HRD.out wr v HB.out hv)
  unfold hxV at HC
  have c0 : wr.cell? ⟨(w.heap.size + 1), 0, none⟩ = some (.int .i64 0) := cell_at HS.out 0
  have c8 : wr.cell? ⟨(w.heap.size + 1), 8, none⟩ = some (.bool false) := cell_at HS.out 8
  go_upto_region 5 with (go_at_call 17; refine (HC.out _ (Bs.zero _ _ _ _)).mono ?_; rintro e w1 ⟨h, u, rfl, y1, y3⟩; obtain ⟨ua, uc, rfl, -⟩ := y1.shape; have HF1 := hide y1; have HB1 := hide y3; clear y1 y3)
  have hw1 : wr.heap.size <= w1.heap.size := HB1.out.size
  have HS1 : Hid (SnB w1 (w.heap.size + 1) (snN 0)) := hide ((HB1.out.block (w.heap.size + 1) (by omega)).trans HS.out)
  have HR1 : Hid (SnB w1 w.heap.size sn0) := hide ((HB1.out.block w.heap.size (by omega)).trans HR0.out)
  have HBl1 := hide (HB.out.trans (HB1.out.mono HB.out.size))
  have b2 := (Below.refl w1.heap.size w1).alloc (Nat.le_refl _) (.cells #[.bool h.r, .string h.me, .string h.ta, .int .i64 (h.mi : Int), .int .i64 (h.st : Int), .string h.re, .slice ua h.fs.length uc] 27)
  have F2 := hide (hp_new w1 (.cells #[.bool h.r, .string h.me, .string h.ta, .int .i64 (h.mi : Int), .int .i64 (h.st : Int), .string h.re, .slice ua h.fs.length uc] 27))
  have HS2 : Hid (SnB _ (w.heap.size + 1) (snN 0)) := hide ((b2.block (w.heap.size + 1) (by omega)).trans HS1.out)
  have HR2 : Hid (SnB _ w.heap.size sn0) := hide ((b2.block w.heap.size (by omega)).trans HR1.out)
  have HBl2 := hide (HBl1.out.trans (b2.mono HBl1.out.size))
  have HF2 := hide (HF1.out.below b2)
  clear b2 HF1 HB1 HS1 HR1 HBl1 HC c0 c8 HS HR0 HB
  generalize w1.alloc _ = w2 at *
  have hw2 : w1.heap.size < w2.heap.size := lt_heap F2.out
  have c0 : w2.cell? ⟨(w.heap.size + 1), 0, none⟩ = some (.int .i64 0) := cell_at HS2.out 0
  have z0 : w2.frozen? ⟨(w.heap.size + 1), 0, none⟩ = false := by rw [frozen_at HS2.out]; simp
  have HS3 : Hid (SnB (w2.setCell ⟨w.heap.size + 1, 0, none⟩ (.int .i64 0)) (w.heap.size + 1) (snN 0)) := hide (hp_set HS2.out 0 _)
  have C3 := hide (CK.set w2 (w.heap.size + 1) 0 (.int .i64 0))
  have HR3 : Hid (SnB (w2.setCell ⟨w.heap.size + 1, 0, none⟩ (.int .i64 0)) w.heap.size sn0) := hide ((C3.out.block w.heap.size (lt_heap HR2.out) (by omega)).trans HR2.out)
  have HBl3 := hide (HBl2.out.trans (C3.out.low (by omega) HBl2.out.size))
  have HF3 := hide (HF2.out.frame (W' := (w2.setCell ⟨w.heap.size + 1, 0, none⟩ (.int .i64 0))) fun j e => C3.out.block j (HF2.out.lt e).2 (by have := (HF2.out.lt e).1; omega))
  have F3 := hide ((C3.out.block w1.heap.size (lt_heap F2.out) (by omega)).trans F2.out)
  go_upto_region 6 with fail
  clear c0 z0 HS2 HR2 HBl2 HF2 F2 C3
  generalize (w2.setCell ⟨w.heap.size + 1, 0, none⟩ (.int .i64 0)) = w3 at *
  have HS := HS3
  have HR0 := HR3
  have HB := HBl3
  clear HS3 HR3 HBl3 HF3 F3
  go_upto_region 12 with fail
  refine wp_region_lit ?_
  refine wpList_load_mid rfl 31 _ rfl (w.heap.size + 1) 0 rfl (snC sn0).toList _ (range_of HS.out) Tryz.underlying31 rfl (by kernel_rfl) ?_
  simp only [Act.put, sl_]
  refine wpList_store_row rfl 31 _ _ rfl w.heap.size (snC sn0) rfl rfl _ _ HR0.out (by kernel_rfl) rfl (snC_one _ rfl rfl) ?_
  simp only [Act.put]
  refine wpList_nil ?_
  have P : Hid (SnB (w3.setRow w.heap.size (snC sn0)) w.heap.size sn0) := hide (setRow_heap _ _ _ _ _ _ HR0.out)
  have BP := hide (HB.out.trans ((CK.setRow w3 w.heap.size (snC sn0)).low (Nat.le_refl _) HB.out.size))
  clear HS HR0 HB
  generalize w3.setRow w.heap.size (snC sn0) = y9 at P BP |-
  go_wp2_with fail
  exact bodyPost_ret (v := snV sn0) (seen_results P.out _ rfl) rfl (by exact ⟨rfl, BP.out⟩)
theorem uall_z1 (w : World) (me : ByteArray) (most : Nat) (ad : Addr)
  (hread : ∀ W v, Below w.heap.size w W -> Bs W w.heap.size v [] -> Calls Tryz.prog 17 #[.bool false, .int .i64 (most : Int), v] W fun e w' => ∃ (h : Hx) (u : Value), e = .returned (.tuple #[hxV h u, .int .i64 0, .bool false, .int .i64 0]) /\ FRow w' W.heap.size u h.fs /\ Below W.heap.size W w') :
  Calls Tryz.prog 7 #[.string me, .int .i64 (most : Int), .slice (some ad) 0 0, .bool false] w fun e w' => e = .returned (snV sn0) /\ Below w.heap.size w w' := by
 have HRD := hide hread
 clear hread
 have T0 := hide (Bl.two w #[.int .i64 0, .bool false, .string ⟨#[]⟩, .string ⟨#[]⟩, .int .i64 0, .int .i64 0, .string ⟨#[]⟩, (.slice none 0 0), .bool false, .int .i64 0, .int .i64 0, .bool false, (.slice none 0 0), .bool false, .int .i64 0] 31 #[.int .i64 0, .bool false, .string ⟨#[]⟩, .string ⟨#[]⟩, .int .i64 0, .int .i64 0, .string ⟨#[]⟩, (.slice none 0 0), .bool false, .int .i64 0, .int .i64 0, .bool false, (.slice none 0 0), .bool false, .int .i64 0] 31)
 go_enter Tryz.func7, Tryz.ntmps7
 go_upto_region 2 with fail
 generalize ((w.alloc (.cells #[.int .i64 0, .bool false, .string ⟨#[]⟩, .string ⟨#[]⟩, .int .i64 0, .int .i64 0, .string ⟨#[]⟩, (.slice none 0 0), .bool false, .int .i64 0, .int .i64 0, .bool false, (.slice none 0 0), .bool false, .int .i64 0] 31)).alloc (.cells #[.int .i64 0, .bool false, .string ⟨#[]⟩, .string ⟨#[]⟩, .int .i64 0, .int .i64 0, .string ⟨#[]⟩, (.slice none 0 0), .bool false, .int .i64 0, .int .i64 0, .bool false, (.slice none 0 0), .bool false, .int .i64 0] 31)) = x at T0 |-
 have HR0 : Hid (SnB x w.heap.size sn0) := hide (T0.out.hp 0 _ _ rfl)
 have HS0 : Hid (SnB x (w.heap.size + 1) sn0) := hide (T0.out.hp 1 _ _ rfl)
 have HB0 := hide T0.out.b
 clear T0
 go_wp2_with fail
 go_loopw [10] (fun u wr => u = .int .i64 0 /\ Hid (Below w.heap.size w wr) /\ Hid (SnB wr w.heap.size sn0) /\ Hid (SnB wr (w.heap.size + 1) sn0)) (fun _ _ => 0)
 case atStart => exact ⟨rfl, HB0, HR0, HS0⟩
 case round =>
  clear HB0 HR0 HS0
  obtain ⟨rfl, HB, HR0, HS⟩ := hrel
  have hrs : w.heap.size + 2 <= wr.heap.size := by have := lt_heap HS.out; omega
  have HC := hide (fun v hv => HRD.out wr v HB.out hv)
  unfold hxV at HC
  have c0 : wr.cell? ⟨(w.heap.size + 1), 0, none⟩ = some (.int .i64 0) := cell_at HS.out 0
  have c8 : wr.cell? ⟨(w.heap.size + 1), 8, none⟩ = some (.bool false) := cell_at HS.out 8
  go_upto_region 5 with (go_at_call 17; refine (HC.out _ (Bs.zero _ _ _ _)).mono ?_; rintro e w1 ⟨h, u, rfl, y1, y3⟩; obtain ⟨ua, uc, rfl, -⟩ := y1.shape; have HF1 := hide y1; have HB1 := hide y3; clear y1 y3)
  have hw1 : wr.heap.size <= w1.heap.size := HB1.out.size
  have HS1 : Hid (SnB w1 (w.heap.size + 1) (snN 0)) := hide ((HB1.out.block (w.heap.size + 1) (by omega)).trans HS.out)
  have HR1 : Hid (SnB w1 w.heap.size sn0) := hide ((HB1.out.block w.heap.size (by omega)).trans HR0.out)
  have HBl1 := hide (HB.out.trans (HB1.out.mono HB.out.size))
  have b2 := (Below.refl w1.heap.size w1).alloc (Nat.le_refl _) (.cells #[.bool h.r, .string h.me, .string h.ta, .int .i64 (h.mi : Int), .int .i64 (h.st : Int), .string h.re, .slice ua h.fs.length uc] 27)
  have F2 := hide (hp_new w1 (.cells #[.bool h.r, .string h.me, .string h.ta, .int .i64 (h.mi : Int), .int .i64 (h.st : Int), .string h.re, .slice ua h.fs.length uc] 27))
  have HS2 : Hid (SnB _ (w.heap.size + 1) (snN 0)) := hide ((b2.block (w.heap.size + 1) (by omega)).trans HS1.out)
  have HR2 : Hid (SnB _ w.heap.size sn0) := hide ((b2.block w.heap.size (by omega)).trans HR1.out)
  have HBl2 := hide (HBl1.out.trans (b2.mono HBl1.out.size))
  have HF2 := hide (HF1.out.below b2)
  clear b2 HF1 HB1 HS1 HR1 HBl1 HC c0 c8 HS HR0 HB
  generalize w1.alloc _ = w2 at *
  have hw2 : w1.heap.size < w2.heap.size := lt_heap F2.out
  have c0 : w2.cell? ⟨(w.heap.size + 1), 0, none⟩ = some (.int .i64 0) := cell_at HS2.out 0
  have z0 : w2.frozen? ⟨(w.heap.size + 1), 0, none⟩ = false := by rw [frozen_at HS2.out]; simp
  have HS3 : Hid (SnB (w2.setCell ⟨w.heap.size + 1, 0, none⟩ (.int .i64 0)) (w.heap.size + 1) (snN 0)) := hide (hp_set HS2.out 0 _)
  have C3 := hide (CK.set w2 (w.heap.size + 1) 0 (.int .i64 0))
  have HR3 : Hid (SnB (w2.setCell ⟨w.heap.size + 1, 0, none⟩ (.int .i64 0)) w.heap.size sn0) := hide ((C3.out.block w.heap.size (lt_heap HR2.out) (by omega)).trans HR2.out)
  have HBl3 := hide (HBl2.out.trans (C3.out.low (by omega) HBl2.out.size))
  have HF3 := hide (HF2.out.frame (W' := (w2.setCell ⟨w.heap.size + 1, 0, none⟩ (.int .i64 0))) fun j e => C3.out.block j (HF2.out.lt e).2 (by have := (HF2.out.lt e).1; omega))
  have F3 := hide ((C3.out.block w1.heap.size (lt_heap F2.out) (by omega)).trans F2.out)
  go_upto_region 6 with fail
  clear c0 z0 HS2 HR2 HBl2 HF2 F2 C3
  generalize (w2.setCell ⟨w.heap.size + 1, 0, none⟩ (.int .i64 0)) = w3 at *
  have HS := HS3
  have HR0 := HR3
  have HB := HBl3
  clear HS3 HR3 HBl3 HF3 F3
  go_upto_region 12 with fail
  refine wp_region_lit ?_
  refine wpList_load_mid rfl 31 _ rfl (w.heap.size + 1) 0 rfl (snC sn0).toList _ (range_of HS.out) Tryz.underlying31 rfl (by kernel_rfl) ?_
  simp only [Act.put, sl_]
  refine wpList_store_row rfl 31 _ _ rfl w.heap.size (snC sn0) rfl rfl _ _ HR0.out (by kernel_rfl) rfl (snC_one _ rfl rfl) ?_
  simp only [Act.put]
  refine wpList_nil ?_
  have P : Hid (SnB (w3.setRow w.heap.size (snC sn0)) w.heap.size sn0) := hide (setRow_heap _ _ _ _ _ _ HR0.out)
  have BP := hide (HB.out.trans ((CK.setRow w3 w.heap.size (snC sn0)).low (Nat.le_refl _) HB.out.size))
  clear HS HR0 HB
  generalize w3.setRow w.heap.size (snC sn0) = y9 at P BP |-
  go_wp2_with fail
  exact bodyPost_ret (v := snV sn0) (seen_results P.out _ rfl) rfl (by exact ⟨rfl, BP.out⟩)
theorem uall_z2 (w : World) (me : ByteArray) (most : Nat) (ad : Addr) (cp : Nat)
  (hread : ∀ W v, Below w.heap.size w W -> Bs W w.heap.size v [] -> Calls Tryz.prog 17 #[.bool false, .int .i64 (most : Int), v] W fun e w' => ∃ (h : Hx) (u : Value), e = .returned (.tuple #[hxV h u, .int .i64 0, .bool false, .int .i64 0]) /\ FRow w' W.heap.size u h.fs /\ Below W.heap.size W w') :
  Calls Tryz.prog 7 #[.string me, .int .i64 (most : Int), .slice (some ad) 0 (cp + 1), .bool false] w fun e w' => e = .returned (snV sn0) /\ Below w.heap.size w w' := by
 have HRD := hide hread
 clear hread
 have T0 := hide (Bl.two w #[.int .i64 0, .bool false, .string ⟨#[]⟩, .string ⟨#[]⟩, .int .i64 0, .int .i64 0, .string ⟨#[]⟩, (.slice none 0 0), .bool false, .int .i64 0, .int .i64 0, .bool false, (.slice none 0 0), .bool false, .int .i64 0] 31 #[.int .i64 0, .bool false, .string ⟨#[]⟩, .string ⟨#[]⟩, .int .i64 0, .int .i64 0, .string ⟨#[]⟩, (.slice none 0 0), .bool false, .int .i64 0, .int .i64 0, .bool false, (.slice none 0 0), .bool false, .int .i64 0] 31)
 go_enter Tryz.func7, Tryz.ntmps7
 go_upto_region 2 with fail
 generalize ((w.alloc (.cells #[.int .i64 0, .bool false, .string ⟨#[]⟩, .string ⟨#[]⟩, .int .i64 0, .int .i64 0, .string ⟨#[]⟩, (.slice none 0 0), .bool false, .int .i64 0, .int .i64 0, .bool false, (.slice none 0 0), .bool false, .int .i64 0] 31)).alloc (.cells #[.int .i64 0, .bool false, .string ⟨#[]⟩, .string ⟨#[]⟩, .int .i64 0, .int .i64 0, .string ⟨#[]⟩, (.slice none 0 0), .bool false, .int .i64 0, .int .i64 0, .bool false, (.slice none 0 0), .bool false, .int .i64 0] 31)) = x at T0 |-
 have HR0 : Hid (SnB x w.heap.size sn0) := hide (T0.out.hp 0 _ _ rfl)
 have HS0 : Hid (SnB x (w.heap.size + 1) sn0) := hide (T0.out.hp 1 _ _ rfl)
 have HB0 := hide T0.out.b
 clear T0
 go_wp2_with fail
 go_loopw [10] (fun u wr => u = .int .i64 0 /\ Hid (Below w.heap.size w wr) /\ Hid (SnB wr w.heap.size sn0) /\ Hid (SnB wr (w.heap.size + 1) sn0)) (fun _ _ => 0)
 case atStart => exact ⟨rfl, HB0, HR0, HS0⟩
 case round =>
  clear HB0 HR0 HS0
  obtain ⟨rfl, HB, HR0, HS⟩ := hrel
  have hrs : w.heap.size + 2 <= wr.heap.size := by have := lt_heap HS.out; omega
  have HC := hide (fun v hv => HRD.out wr v HB.out hv)
  unfold hxV at HC
  have c0 : wr.cell? ⟨(w.heap.size + 1), 0, none⟩ = some (.int .i64 0) := cell_at HS.out 0
  have c8 : wr.cell? ⟨(w.heap.size + 1), 8, none⟩ = some (.bool false) := cell_at HS.out 8
  go_upto_region 5 with (go_at_call 17; refine (HC.out _ (Bs.zero _ _ _ _)).mono ?_; rintro e w1 ⟨h, u, rfl, y1, y3⟩; obtain ⟨ua, uc, rfl, -⟩ := y1.shape; have HF1 := hide y1; have HB1 := hide y3; clear y1 y3)
  have hw1 : wr.heap.size <= w1.heap.size := HB1.out.size
  have HS1 : Hid (SnB w1 (w.heap.size + 1) (snN 0)) := hide ((HB1.out.block (w.heap.size + 1) (by omega)).trans HS.out)
  have HR1 : Hid (SnB w1 w.heap.size sn0) := hide ((HB1.out.block w.heap.size (by omega)).trans HR0.out)
  have HBl1 := hide (HB.out.trans (HB1.out.mono HB.out.size))
  have b2 := (Below.refl w1.heap.size w1).alloc (Nat.le_refl _) (.cells #[.bool h.r, .string h.me, .string h.ta, .int .i64 (h.mi : Int), .int .i64 (h.st : Int), .string h.re, .slice ua h.fs.length uc] 27)
  have F2 := hide (hp_new w1 (.cells #[.bool h.r, .string h.me, .string h.ta, .int .i64 (h.mi : Int), .int .i64 (h.st : Int), .string h.re, .slice ua h.fs.length uc] 27))
  have HS2 : Hid (SnB _ (w.heap.size + 1) (snN 0)) := hide ((b2.block (w.heap.size + 1) (by omega)).trans HS1.out)
  have HR2 : Hid (SnB _ w.heap.size sn0) := hide ((b2.block w.heap.size (by omega)).trans HR1.out)
  have HBl2 := hide (HBl1.out.trans (b2.mono HBl1.out.size))
  have HF2 := hide (HF1.out.below b2)
  clear b2 HF1 HB1 HS1 HR1 HBl1 HC c0 c8 HS HR0 HB
  generalize w1.alloc _ = w2 at *
  have hw2 : w1.heap.size < w2.heap.size := lt_heap F2.out
  have c0 : w2.cell? ⟨(w.heap.size + 1), 0, none⟩ = some (.int .i64 0) := cell_at HS2.out 0
  have z0 : w2.frozen? ⟨(w.heap.size + 1), 0, none⟩ = false := by rw [frozen_at HS2.out]; simp
  have HS3 : Hid (SnB (w2.setCell ⟨w.heap.size + 1, 0, none⟩ (.int .i64 0)) (w.heap.size + 1) (snN 0)) := hide (hp_set HS2.out 0 _)
  have C3 := hide (CK.set w2 (w.heap.size + 1) 0 (.int .i64 0))
  have HR3 : Hid (SnB (w2.setCell ⟨w.heap.size + 1, 0, none⟩ (.int .i64 0)) w.heap.size sn0) := hide ((C3.out.block w.heap.size (lt_heap HR2.out) (by omega)).trans HR2.out)
  have HBl3 := hide (HBl2.out.trans (C3.out.low (by omega) HBl2.out.size))
  have HF3 := hide (HF2.out.frame (W' := (w2.setCell ⟨w.heap.size + 1, 0, none⟩ (.int .i64 0))) fun j e => C3.out.block j (HF2.out.lt e).2 (by have := (HF2.out.lt e).1; omega))
  have F3 := hide ((C3.out.block w1.heap.size (lt_heap F2.out) (by omega)).trans F2.out)
  go_upto_region 6 with fail
  clear c0 z0 HS2 HR2 HBl2 HF2 F2 C3
  generalize (w2.setCell ⟨w.heap.size + 1, 0, none⟩ (.int .i64 0)) = w3 at *
  have HS := HS3
  have HR0 := HR3
  have HB := HBl3
  clear HS3 HR3 HBl3 HF3 F3
  go_upto_region 12 with fail
  refine wp_region_lit ?_
  refine wpList_load_mid rfl 31 _ rfl (w.heap.size + 1) 0 rfl (snC sn0).toList _ (range_of HS.out) Tryz.underlying31 rfl (by kernel_rfl) ?_
  simp only [Act.put, sl_]
  refine wpList_store_row rfl 31 _ _ rfl w.heap.size (snC sn0) rfl rfl _ _ HR0.out (by kernel_rfl) rfl (snC_one _ rfl rfl) ?_
  simp only [Act.put]
  refine wpList_nil ?_
  have P : Hid (SnB (w3.setRow w.heap.size (snC sn0)) w.heap.size sn0) := hide (setRow_heap _ _ _ _ _ _ HR0.out)
  have BP := hide (HB.out.trans ((CK.setRow w3 w.heap.size (snC sn0)).low (Nat.le_refl _) HB.out.size))
  clear HS HR0 HB
  generalize w3.setRow w.heap.size (snC sn0) = y9 at P BP |-
  go_wp2_with fail
  exact bodyPost_ret (v := snV sn0) (seen_results P.out _ rfl) rfl (by exact ⟨rfl, BP.out⟩)
end Go.Proofs.YtecjlcjaccijpaaGreatDoor
