/- Parse: the program's. -/
import Derived.Test.YtinmpmbicgokpaaGreatDoorHHead
namespace Go.Proofs.YtinmpmbicgokpaaGreatDoor
open Go.ChangeShapes Go.WideShapes Go.ChangeAt Go.RowKit

/-- A head, as plain data. -/
structure Hx where
  r : Bool
  me : ByteArray
  ta : ByteArray
  mi : Nat
  st : Nat
  re : ByteArray
  fs : List (ByteArray × ByteArray)
def Pz.hx (p : Pz) : Hx := ⟨p.req, p.me, p.ta, p.minor, p.status, p.re, p.fs⟩
def hx0 : Hx := ⟨false, ⟨#[]⟩, ⟨#[]⟩, 0, 0, ⟨#[]⟩, []⟩
def hxV (h : Hx) (l : Value) : Value := .agg #[.bool h.r, .string h.me, .string h.ta, .int .i64 (h.mi : Int), .int .i64 (h.st : Int), .string h.re, l]
def pParse (rq : Bool) (l : List UInt8) : Hx × Nat × Nat :=
  if (pFeed (pNew rq 65536) l).2.2.1 ≠ 0 then (hx0, 0, (pFeed (pNew rq 65536) l).2.2.1) else if (pFeed (pNew rq 65536) l).2.1 = false then (hx0, 0, 6) else ((pFeed (pNew rq 65536) l).2.2.2.hx, (pFeed (pNew rq 65536) l).1, 0)
theorem feed_wh (p : Pz) (l : List UInt8) : (pFeed p l).2.2.2.whole = (pFeed p l).2.1 := by
  unfold pFeed
  split
  · rfl
  · split
    · dsimp only
      split <;> rfl
    · rfl
theorem PK.below {w w' : World} {base g : Nat} {lv fv lv' fv' : Value} {p : Pz} (hP : Par w base g lv fv p) (k : PK w w' g lv fv lv' fv') (hb : base ≤ w.heap.size) : Below base w w' :=
  ⟨k.os, k.tape, k.output, k.size, fun i hi => k.block i (by omega) (by have := hP.gb; omega) (fun e => by have := (hP.line.lt e).1; omega) (fun e => by have := (hP.flds.lt e).1; omega)⟩
theorem Bs.below {w w' : World} {base base' : Nat} {v : Value} {l : List UInt8} (h : Bs w base v l) (hb : base ≤ base') (b : Below w.heap.size w w') : Bs w' base' v l := by
  obtain ⟨a, c, rfl, hc, h⟩ := h
  refine ⟨a, c, rfl, hc, fun j hj => ?_⟩
  obtain ⟨g, o, h1, h2, h3, h4⟩ := h j hj
  exact ⟨g, o, h1, by omega, Nat.lt_of_lt_of_le h3 b.size, (b.cell (p := ⟨g, o + j, none⟩) h3).trans h4⟩
theorem fit0 : Fit (pNew true 65536) ∧ Fit (pNew false 65536) := ⟨fit_new _ _ (Nat.le_refl _), fit_new _ _ (Nat.le_refl _)⟩
set_option maxHeartbeats 4000000 in
theorem parse_any (rq : Bool) (v : Value) (l : List UInt8) (w : World) (hv : Bs w w.heap.size v l) (hl : l.length ≤ 140737488355328) (hm : MX w) (he : ET w) :
    Calls Tryz.prog 9 #[.bool rq, v] w fun e w' => ∃ u, e = .returned (.tuple #[hxV (pParse rq l).1 u, .int .i64 ((pParse rq l).2.1 : Int), .int .i64 ((pParse rq l).2.2 : Int)]) ∧ FRow w' w.heap.size u (pParse rq l).1.fs ∧ Below w.heap.size w w' := by
  have HV := hide hv
  have HM := hide hm
  have HE := hide he
  obtain ⟨a, cp, rfl, _, _⟩ := hv
  clear hm he
  obtain ⟨H, rn, re, hR⟩ : ∃ H rn re, pParse rq l = (H, rn, re) := ⟨_, _, _, rfl⟩
  rw [hR]
  have HR := hide hR
  clear hR
  dsimp only
  go_enter Tryz.func9, Tryz.ntmps9
  go_wp2_with fail
  have T0 := hide (Bl.one w #[.bool false, .string ⟨#[]⟩, .string ⟨#[]⟩, .int .i64 0, .int .i64 0, .string ⟨#[]⟩, .slice none 0 0] 25)
  have HX1 : Hid (w.heap.size < (w.alloc (.cells #[.bool false, .string ⟨#[]⟩, .string ⟨#[]⟩, .int .i64 0, .int .i64 0, .string ⟨#[]⟩, .slice none 0 0] 25)).heap.size) := hide (by simp)
  generalize (w.alloc (.cells #[.bool false, .string ⟨#[]⟩, .string ⟨#[]⟩, .int .i64 0, .int .i64 0, .string ⟨#[]⟩, .slice none 0 0] 25)) = x at T0 HX1 ⊢
  refine (new_any rq 65536 x (by decide) (by decide)).mono ?_
  rintro e w1 ⟨rfl, P1, b1⟩
  have HP1 := hide P1
  have T1 := hide (T0.out.below b1)
  have B1 := hide b1
  clear P1 b1 T0
  go_wp2_with fail
  refine (feed_any HP1.out (fit_new rq 65536 (Nat.le_refl _)) (HM.out.below T1.out.b) (HE.out.below T1.out.b) (by have := HM.out.1; have := HX1.out; omega) _ l (HV.out.below (Nat.le_of_lt HX1.out) T1.out.b) hl).mono ?_
  rintro e w2 ⟨rfl, lv2, fv2, P2, k2⟩
  have HSZ := hide ((sz_new rq 65536).feed (fit_new rq 65536 (Nat.le_refl _)) l)
  have HFT := hide ((fit_new rq 65536 (Nat.le_refl _)).feed l)
  have HWH := hide (feed_wh (pNew rq 65536) l)
  have hbb : Below x.heap.size w1 w2 := PK.below HP1.out k2 B1.out.size
  have T2 : Hid (Bl w w2 [(#[.bool false, .string ⟨#[]⟩, .string ⟨#[]⟩, .int .i64 0, .int .i64 0, .string ⟨#[]⟩, .slice none 0 0], 25)]) := hide ⟨fun i c t hi => (hbb.block _ (by have := HX1.out; have := (List.getElem?_eq_some_iff.1 hi).1; simp at this; omega)).trans (T1.out.hp i c t hi), T1.out.b.trans (hbb.mono (Nat.le_of_lt HX1.out))⟩
  have HP2 := hide P2
  clear P2 k2 hbb T1 B1 HP1
  unfold fdV
  have HR2 := HR.out
  unfold pParse at HR2
  generalize pFeed (pNew rq 65536) l = R at HR2 HSZ HFT HWH HP2 ⊢
  obtain ⟨n, wh, er, q⟩ := R
  dsimp only at HR2 HSZ HFT HWH HP2 ⊢
  have HRR := hide HR2
  clear HR HR2
  obtain ⟨s0, s1, s2, s3, s4, s5, s6⟩ := T2.out.hd 0 w.heap.size rfl rfl
  have f0 : w2.frozen? ⟨w.heap.size, 0, none⟩ = false := T2.out.fr 0 rfl 0
  have f1 : w2.frozen? ⟨w.heap.size, 1, none⟩ = false := T2.out.fr 0 rfl 1
  have f2 : w2.frozen? ⟨w.heap.size, 2, none⟩ = false := T2.out.fr 0 rfl 2
  have f3 : w2.frozen? ⟨w.heap.size, 3, none⟩ = false := T2.out.fr 0 rfl 3
  have f4 : w2.frozen? ⟨w.heap.size, 4, none⟩ = false := T2.out.fr 0 rfl 4
  have f5 : w2.frozen? ⟨w.heap.size, 5, none⟩ = false := T2.out.fr 0 rfl 5
  have f6 : w2.frozen? ⟨w.heap.size, 6, none⟩ = false := T2.out.fr 0 rfl 6
  by_cases h0 : er = 0
  · subst h0
    cases wh with
    | false =>
      have hrr := HRR.out
      rw [if_neg (by simp), if_pos rfl] at hrr
      simp only [Prod.mk.injEq] at hrr
      obtain ⟨rfl, rfl, rfl⟩ := hrr
      clear HRR
      go_wp2
      have TF : Hid (Bl w (((((((w2.setCell ⟨w.heap.size, 0, none⟩ (.bool false)).setCell ⟨w.heap.size, 1, none⟩ (.string ⟨#[]⟩)).setCell ⟨w.heap.size, 2, none⟩ (.string ⟨#[]⟩)).setCell ⟨w.heap.size, 3, none⟩ (.int .i64 0)).setCell ⟨w.heap.size, 4, none⟩ (.int .i64 0)).setCell ⟨w.heap.size, 5, none⟩ (.string ⟨#[]⟩)).setCell ⟨w.heap.size, 6, none⟩ (.slice none 0 0)) [(#[.bool false, .string ⟨#[]⟩, .string ⟨#[]⟩, .int .i64 0, .int .i64 0, .string ⟨#[]⟩, .slice none 0 0], 25)]) := hide (((((((T2.out.set 0 rfl 0 (.bool false)).set 0 rfl 1 (.string ⟨#[]⟩)).set 0 rfl 2 (.string ⟨#[]⟩)).set 0 rfl 3 (.int .i64 0)).set 0 rfl 4 (.int .i64 0)).set 0 rfl 5 (.string ⟨#[]⟩)).set 0 rfl 6 (.slice none 0 0))
      generalize (((((((w2.setCell ⟨w.heap.size, 0, none⟩ (.bool false)).setCell ⟨w.heap.size, 1, none⟩ (.string ⟨#[]⟩)).setCell ⟨w.heap.size, 2, none⟩ (.string ⟨#[]⟩)).setCell ⟨w.heap.size, 3, none⟩ (.int .i64 0)).setCell ⟨w.heap.size, 4, none⟩ (.int .i64 0)).setCell ⟨w.heap.size, 5, none⟩ (.string ⟨#[]⟩)).setCell ⟨w.heap.size, 6, none⟩ (.slice none 0 0)) = w9 at TF ⊢
      clear s0 s1 s2 s3 s4 s5 s6 f0 f1 f2 f3 f4 f5 f6
      obtain ⟨k0, k1, k2, k3, k4, k5, k6⟩ := TF.out.hd 0 w.heap.size rfl rfl
      exact bodyPost_ret (v := .tuple #[.agg #[.bool false, .string ⟨#[]⟩, .string ⟨#[]⟩, .int .i64 0, .int .i64 0, .string ⟨#[]⟩, .slice none 0 0], .int .i64 0, .int .i64 (6 : Int)]) (by simp [results, Tryz.results9, go_sem, k0, k1, k2, k3, k4, k5, k6]) rfl ⟨.slice none 0 0, rfl, FRow.nil _ _, TF.out.b⟩
    | true =>
      have hrr := HRR.out
      rw [if_neg (by simp), if_neg (by simp)] at hrr
      simp only [Prod.mk.injEq] at hrr
      obtain ⟨rfl, rfl, rfl⟩ := hrr
      clear HRR s0 s1 s2 s3 s4 s5 s6 f0 f1 f2 f3 f4 f5 f6
      go_wp2_with fail
      refine (head_whole HP2.out HWH.out HSZ.out HFT.out).mono ?_
      rintro e w3 ⟨u, rfl, hu, b3⟩
      have T3 := hide (T2.out.below b3)
      have HU : Hid (FRow w3 (w.heap.size + 1) u q.hx.fs) := hide (hu.lower (blk_lt (T2.out.hp 0 _ _ rfl)))
      clear hu b3
      obtain ⟨ua, ul, uc, rfl⟩ : ∃ a n c, u = .slice a n c := by
        obtain ⟨a, c, h, _⟩ := HU.out.shape
        exact ⟨a, _, c, h⟩
      unfold hdV
      obtain ⟨_, _, _, _, _, _, r, me, ta, mi, st, re, A, _, _⟩ := q
      dsimp only [Pz.hx] at HU ⊢
      obtain ⟨s0, s1, s2, s3, s4, s5, s6⟩ := T3.out.hd 0 w.heap.size rfl rfl
      have f0 : w3.frozen? ⟨w.heap.size, 0, none⟩ = false := T3.out.fr 0 rfl 0
      have f1 : w3.frozen? ⟨w.heap.size, 1, none⟩ = false := T3.out.fr 0 rfl 1
      have f2 : w3.frozen? ⟨w.heap.size, 2, none⟩ = false := T3.out.fr 0 rfl 2
      have f3 : w3.frozen? ⟨w.heap.size, 3, none⟩ = false := T3.out.fr 0 rfl 3
      have f4 : w3.frozen? ⟨w.heap.size, 4, none⟩ = false := T3.out.fr 0 rfl 4
      have f5 : w3.frozen? ⟨w.heap.size, 5, none⟩ = false := T3.out.fr 0 rfl 5
      have f6 : w3.frozen? ⟨w.heap.size, 6, none⟩ = false := T3.out.fr 0 rfl 6
      go_wp2
      have TF : Hid (Bl w (((((((w3.setCell ⟨w.heap.size, 0, none⟩ (.bool r)).setCell ⟨w.heap.size, 1, none⟩ (.string me)).setCell ⟨w.heap.size, 2, none⟩ (.string ta)).setCell ⟨w.heap.size, 3, none⟩ (.int .i64 (mi : Int))).setCell ⟨w.heap.size, 4, none⟩ (.int .i64 (st : Int))).setCell ⟨w.heap.size, 5, none⟩ (.string re)).setCell ⟨w.heap.size, 6, none⟩ (.slice ua ul uc)) [(#[.bool r, .string me, .string ta, .int .i64 (mi : Int), .int .i64 (st : Int), .string re, .slice ua ul uc], 25)]) := hide (((((((T3.out.set 0 rfl 0 (.bool r)).set 0 rfl 1 (.string me)).set 0 rfl 2 (.string ta)).set 0 rfl 3 (.int .i64 (mi : Int))).set 0 rfl 4 (.int .i64 (st : Int))).set 0 rfl 5 (.string re)).set 0 rfl 6 (.slice ua ul uc))
      have RF := hide (((((((HU.out.setOld (g := w.heap.size) (by omega) 0 (.bool r)).setOld (g := w.heap.size) (by omega) 1 (.string me)).setOld (g := w.heap.size) (by omega) 2 (.string ta)).setOld (g := w.heap.size) (by omega) 3 (.int .i64 (mi : Int))).setOld (g := w.heap.size) (by omega) 4 (.int .i64 (st : Int))).setOld (g := w.heap.size) (by omega) 5 (.string re)).setOld (g := w.heap.size) (by omega) 6 (.slice ua ul uc))
      generalize (((((((w3.setCell ⟨w.heap.size, 0, none⟩ (.bool r)).setCell ⟨w.heap.size, 1, none⟩ (.string me)).setCell ⟨w.heap.size, 2, none⟩ (.string ta)).setCell ⟨w.heap.size, 3, none⟩ (.int .i64 (mi : Int))).setCell ⟨w.heap.size, 4, none⟩ (.int .i64 (st : Int))).setCell ⟨w.heap.size, 5, none⟩ (.string re)).setCell ⟨w.heap.size, 6, none⟩ (.slice ua ul uc)) = w9 at TF RF ⊢
      clear s0 s1 s2 s3 s4 s5 s6 f0 f1 f2 f3 f4 f5 f6
      obtain ⟨k0, k1, k2, k3, k4, k5, k6⟩ := TF.out.hd 0 w.heap.size rfl rfl
      exact bodyPost_ret (v := .tuple #[.agg #[.bool r, .string me, .string ta, .int .i64 (mi : Int), .int .i64 (st : Int), .string re, .slice ua ul uc], .int .i64 (n : Int), .int .i64 0]) (by simp [results, Tryz.results9, go_sem, k0, k1, k2, k3, k4, k5, k6]) rfl ⟨.slice ua ul uc, rfl, RF.out.lower (by omega), TF.out.b⟩
  · have t0 : ((er : Int) != 0) = true := bne_iff_ne.2 (by omega)
    have hrr := HRR.out
    rw [if_pos h0] at hrr
    simp only [Prod.mk.injEq] at hrr
    obtain ⟨rfl, rfl, rfl⟩ := hrr
    clear HRR h0
    go_wp2
    have TF : Hid (Bl w (((((((w2.setCell ⟨w.heap.size, 0, none⟩ (.bool false)).setCell ⟨w.heap.size, 1, none⟩ (.string ⟨#[]⟩)).setCell ⟨w.heap.size, 2, none⟩ (.string ⟨#[]⟩)).setCell ⟨w.heap.size, 3, none⟩ (.int .i64 0)).setCell ⟨w.heap.size, 4, none⟩ (.int .i64 0)).setCell ⟨w.heap.size, 5, none⟩ (.string ⟨#[]⟩)).setCell ⟨w.heap.size, 6, none⟩ (.slice none 0 0)) [(#[.bool false, .string ⟨#[]⟩, .string ⟨#[]⟩, .int .i64 0, .int .i64 0, .string ⟨#[]⟩, .slice none 0 0], 25)]) := hide (((((((T2.out.set 0 rfl 0 (.bool false)).set 0 rfl 1 (.string ⟨#[]⟩)).set 0 rfl 2 (.string ⟨#[]⟩)).set 0 rfl 3 (.int .i64 0)).set 0 rfl 4 (.int .i64 0)).set 0 rfl 5 (.string ⟨#[]⟩)).set 0 rfl 6 (.slice none 0 0))
    generalize (((((((w2.setCell ⟨w.heap.size, 0, none⟩ (.bool false)).setCell ⟨w.heap.size, 1, none⟩ (.string ⟨#[]⟩)).setCell ⟨w.heap.size, 2, none⟩ (.string ⟨#[]⟩)).setCell ⟨w.heap.size, 3, none⟩ (.int .i64 0)).setCell ⟨w.heap.size, 4, none⟩ (.int .i64 0)).setCell ⟨w.heap.size, 5, none⟩ (.string ⟨#[]⟩)).setCell ⟨w.heap.size, 6, none⟩ (.slice none 0 0)) = w9 at TF ⊢
    clear s0 s1 s2 s3 s4 s5 s6 f0 f1 f2 f3 f4 f5 f6
    obtain ⟨k0, k1, k2, k3, k4, k5, k6⟩ := TF.out.hd 0 w.heap.size rfl rfl
    exact bodyPost_ret (v := .tuple #[.agg #[.bool false, .string ⟨#[]⟩, .string ⟨#[]⟩, .int .i64 0, .int .i64 0, .string ⟨#[]⟩, .slice none 0 0], .int .i64 0, .int .i64 (er : Int)]) (by simp [results, Tryz.results9, go_sem, k0, k1, k2, k3, k4, k5, k6]) rfl ⟨.slice none 0 0, rfl, FRow.nil _ _, TF.out.b⟩
end Go.Proofs.YtinmpmbicgokpaaGreatDoor
