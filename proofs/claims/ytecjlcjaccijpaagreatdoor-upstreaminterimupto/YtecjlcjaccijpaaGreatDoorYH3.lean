/- YH3. -/
import Derived.Test.YtecjlcjaccijpaaGreatDoorYH2
namespace Go.Proofs.YtecjlcjaccijpaaGreatDoor
open Go.ChangeShapes Go.WideShapes Go.ChangeAt Go.RowKit
set_option linter.unusedVariables false
set_option maxHeartbeats 16000000
set_option maxRecDepth 100000
def rdW (R : Nat × Nat × Pz) : Bool := decide (R.1 = 0) && R.2.2.whole
def rdH (R : Nat × Nat × Pz) : Hx := if rdW R = true then R.2.2.hx else hx0
theorem rd_err {e n : Nat} {r : Pz} (h : e ≠ 0) : rdW (e, n, r) = false /\ rdH (e, n, r) = hx0 := by
 have h1 : rdW (e, n, r) = false := by unfold rdW; rw [decide_eq_false h]; rfl
 exact ⟨h1, by unfold rdH; rw [h1]; rfl⟩
theorem Bl.setHigh {w x : World} {L : List (Array Value × TypeId)} (h : Bl w x L) {g : Nat} (hg : w.heap.size + L.length <= g) (i : Nat) (v : Value) : Bl w (x.setCell ⟨g, i, none⟩ v) L :=
 h.keep ((Below.refl _ x).setCell (p := ⟨g, i, none⟩) hg v)
theorem Byt.set {W : World} {b o : Nat} {l : List UInt8} (h : Byt W b o l) {g : Nat} (hg : b + 1 <= g) (i : Nat) (v : Value) : Byt (W.setCell ⟨g, i, none⟩ v) b o l :=
 h.keep ((Below.refl (b + 1) W).setCell (p := ⟨g, i, none⟩) hg v) (Nat.lt_succ_self b)
theorem LnOk.keep {e : Nat} {X Y : Hx} {u : Value} {W W' : World} {base : Nat} (h : LnOk e X Y u W base) (hb : Below W.heap.size W W') : LnOk e X Y u W' base := fun he => ⟨(h he).1, (h he).2.below hb⟩
theorem LnOk.set {e : Nat} {X Y : Hx} {u : Value} {W : World} {base g : Nat} (h : LnOk e X Y u W base) (hu : u.ownBlock ≠ some g) (i : Nat) (v : Value) : LnOk e X Y u (W.setCell ⟨g, i, none⟩ v) base := fun he => ⟨(h he).1, (setAway ⟨(h he).2, hu⟩ i v).1⟩
theorem rread_any (w : World) (rq : Bool) (most : Nat) (hm : most <= 65536) (v : Value) (l : List UInt8) (hv : Bs w w.heap.size v l) (hl : l.length <= 140737488355328) :
  Calls Tryz.prog 17 #[.bool rq, .int .i64 (most : Int), v] w fun e w' => ∃ u, e = .returned (.tuple #[hxV (rdH (pBytes (pNew rq most) l)) u, .int .i64 ((pBytes (pNew rq most) l).2.1 : Int), .bool (rdW (pBytes (pNew rq most) l)), .int .i64 ((pBytes (pNew rq most) l).1 : Int)]) /\ FRow w' w.heap.size u (rdH (pBytes (pNew rq most) l)).fs /\ Below w.heap.size w w' := by
 obtain ⟨a, cp, rfl, hcp, hcells⟩ := hv
 have HC := hide hcells
 have HRD0 := hide (Rd.new rq most hm l)
 clear hcells
 generalize hR : pBytes (pNew rq most) l = R
 have HR := hide hR
 clear hR
 go_enter Tryz.func17, Tryz.ntmps17
 go_upto_region 2 with fail
 have T0 := hide (Bl.two w #[.bool false, .string ⟨#[]⟩, .string ⟨#[]⟩, .int .i64 0, .int .i64 0, .string ⟨#[]⟩, .slice none 0 0] 27 #[.bool rq, .string ⟨#[]⟩, .string ⟨#[]⟩, .int .i64 0, .int .i64 0, .string ⟨#[]⟩, .slice none 0 0] 27)
 generalize ((w.alloc (.cells #[.bool false, .string ⟨#[]⟩, .string ⟨#[]⟩, .int .i64 0, .int .i64 0, .string ⟨#[]⟩, .slice none 0 0] 27)).alloc (.cells #[.bool rq, .string ⟨#[]⟩, .string ⟨#[]⟩, .int .i64 0, .int .i64 0, .string ⟨#[]⟩, .slice none 0 0] 27)) = x at T0 |-
 go_wp2_with fail
 go_loopw [11, 12, 23] (fun fv lv i wr => ∃ (k fr lines : Nat) (q : Pz) (ha : Option Addr) (hn hc : Nat), k <= l.length /\ fv = .int .i64 fr /\ lv = .int .i64 lines /\ i = .int .i64 k /\ Hid (Rd most l k fr lines q) /\ Hid (FRow wr (w.heap.size + 2) (.slice ha hn hc) q.fs) /\ Hid (Bl w wr [(#[.bool false, .string ⟨#[]⟩, .string ⟨#[]⟩, .int .i64 0, .int .i64 0, .string ⟨#[]⟩, .slice none 0 0], 27), (#[.bool q.req, .string q.me, .string q.ta, .int .i64 (q.minor : Int), .int .i64 (q.status : Int), .string q.re, .slice ha hn hc], 27)]) /\ Hid (R = shh (pBytes q (l.drop k)) k)) (fun _ _ i _ => l.length - (intOf i).toNat)
 case atStart => exact ⟨0, 0, 0, pNew rq most, none, 0, 0, Nat.zero_le _, rfl, rfl, rfl, HRD0, hide (FRow.nil _ _), T0, hide (by rw [<- HR.out]; simp [shh])⟩
 case round =>
  obtain ⟨k, fr, lines, q, ha, hn, hc, hk, rfl, rfl, rfl, HRD, HRW, HT, HRk⟩ := hrel
  by_cases hlt : k < l.length
  ·obtain ⟨b, o, rfl, hb1, hb2, _⟩ := HC.out k hlt
   have BY0 : Hid (Byt w b o l) := hide (fun j hj => by obtain ⟨b', o', e, _, _, h⟩ := HC.out j hj; simp only [Option.some.injEq, Addr.mk.injEq] at e; obtain ⟨rfl, rfl, _⟩ := e; exact h)
   have BY := hide (BY0.out.keep HT.out.b hb1)
   have r1 : wr.cell? ⟨b, o + k, none⟩ = some (.int .u8 (l[k].toNat : Int)) := BY.out k hlt
   have hc1 : l[k]? = some l[k] := List.getElem?_eq_getElem hlt
   have HRk2 := hide (HR.out.trans HRk.out)
   have hfk : fr <= k := by have := HRD.out.len; omega
   clear BY0
   generalize hcc : l[k] = c at r1 hc1
   have HCK := hide hc1
   have HCC := hide hcc
   clear hc1 hcc
   have t10 : ((c.toNat : Int) == 10) = decide (c = 10) := byte_tenh c
   have t13 : ((c.toNat : Int) == 13) = decide (c = 13) := byte_crh c
   by_cases hf : fr < k
   ·have i1 : (fr : Int) < (k : Int) := by omega
    obtain ⟨m, hm1⟩ : ∃ m, k = m + 1 := ⟨k - 1, by omega⟩
    have x1 : (k : Int) - 1 = (m : Int) := by omega
    have hml : m < l.length := by omega
    have r2 : wr.cell? ⟨b, o + m, none⟩ = some (.int .u8 (l[m].toNat : Int)) := BY.out m hml
    have HAF := hide (HRD.out.after1 hf (c := l[m]) (by rw [hm1, Nat.add_sub_cancel]; exact List.getElem?_eq_getElem hml))
    generalize l[m] = d at r2 HAF
    have HM1 := hide hm1
    clear hm1
    have d13 : ((d.toNat : Int) == 13) = decide (d = 13) := byte_crh d
    cases he : q.ending with
    | false =>
     rw [HAF.out, he] at d13
     have HE := hide he
     clear he
     by_cases h10 : c = 10
     ·rw [decide_eq_true h10] at t10
      have HN := hide (HRD.out.bare (c := c) (by rw [HE.out, decide_eq_true h10]; simp))
      have ER := hide (by_err (e := 81) (r := q) hlt HRk2.out (by rw [HCC.out]; exact HN.out) (by decide))
      obtain ⟨s0, s1, s2, s3, s4, s5, s6⟩ := HT.out.hd 0 (w.heap.size) rfl rfl
      have f0 : wr.frozen? ⟨w.heap.size, 0, none⟩ = false := HT.out.fr 0 rfl 0
      have f1 : wr.frozen? ⟨w.heap.size, 1, none⟩ = false := HT.out.fr 0 rfl 1
      have f2 : wr.frozen? ⟨w.heap.size, 2, none⟩ = false := HT.out.fr 0 rfl 2
      have f3 : wr.frozen? ⟨w.heap.size, 3, none⟩ = false := HT.out.fr 0 rfl 3
      have f4 : wr.frozen? ⟨w.heap.size, 4, none⟩ = false := HT.out.fr 0 rfl 4
      have f5 : wr.frozen? ⟨w.heap.size, 5, none⟩ = false := HT.out.fr 0 rfl 5
      have f6 : wr.frozen? ⟨w.heap.size, 6, none⟩ = false := HT.out.fr 0 rfl 6
      go_wp2
      have TF : Hid (Bl w (((((((wr.setCell ⟨w.heap.size, 0, none⟩ (.bool false)).setCell ⟨w.heap.size, 1, none⟩ (.string ⟨#[]⟩)).setCell ⟨w.heap.size, 2, none⟩ (.string ⟨#[]⟩)).setCell ⟨w.heap.size, 3, none⟩ (.int .i64 0)).setCell ⟨w.heap.size, 4, none⟩ (.int .i64 0)).setCell ⟨w.heap.size, 5, none⟩ (.string ⟨#[]⟩)).setCell ⟨w.heap.size, 6, none⟩ (.slice none 0 0)) [(#[.bool false, .string ⟨#[]⟩, .string ⟨#[]⟩, .int .i64 0, .int .i64 0, .string ⟨#[]⟩, .slice none 0 0], 27), (#[.bool q.req, .string q.me, .string q.ta, .int .i64 (q.minor : Int), .int .i64 (q.status : Int), .string q.re, .slice ha hn hc], 27)]) := hide (((((((HT.out.set 0 rfl 0 (.bool false)).set 0 rfl 1 (.string ⟨#[]⟩)).set 0 rfl 2 (.string ⟨#[]⟩)).set 0 rfl 3 (.int .i64 0)).set 0 rfl 4 (.int .i64 0)).set 0 rfl 5 (.string ⟨#[]⟩)).set 0 rfl 6 (.slice none 0 0))
      generalize (((((((wr.setCell ⟨w.heap.size, 0, none⟩ (.bool false)).setCell ⟨w.heap.size, 1, none⟩ (.string ⟨#[]⟩)).setCell ⟨w.heap.size, 2, none⟩ (.string ⟨#[]⟩)).setCell ⟨w.heap.size, 3, none⟩ (.int .i64 0)).setCell ⟨w.heap.size, 4, none⟩ (.int .i64 0)).setCell ⟨w.heap.size, 5, none⟩ (.string ⟨#[]⟩)).setCell ⟨w.heap.size, 6, none⟩ (.slice none 0 0)) = w9 at TF |-
      clear s0 s1 s2 s3 s4 s5 s6 f0 f1 f2 f3 f4 f5 f6
      obtain ⟨k0, k1, k2, k3, k4, k5, k6⟩ := TF.out.hd 0 (w.heap.size) rfl rfl
      try simp only [Exit.inBlock, Exit.then]
      exact bodyPost_ret (v := .tuple #[.agg #[.bool false, .string ⟨#[]⟩, .string ⟨#[]⟩, .int .i64 0, .int .i64 0, .string ⟨#[]⟩, .slice none 0 0], .int .i64 ((k : Int) + 1), .bool false, .int .i64 81]) (by simp [results, Tryz.results17, go_sem, k0, k1, k2, k3, k4, k5, k6]) rfl ⟨.slice none 0 0, by rw [HR.out.symm.trans ER.out]; rfl, by rw [HR.out.symm.trans ER.out]; exact FRow.nil _ _, TF.out.b⟩
     ·rw [decide_eq_false h10] at t10
      by_cases hmk : most < k + 1
      ·have i2 : (most : Int) < (k : Int) + 1 := by omega
       have HN := hide (HRD.out.large (by rw [HE.out]; exact decide_eq_false h10) hmk)
       have ER := hide (by_err (e := 85) (r := q) hlt HRk2.out (by rw [HCC.out]; exact HN.out) (by decide))
       obtain ⟨s0, s1, s2, s3, s4, s5, s6⟩ := HT.out.hd 0 (w.heap.size) rfl rfl
       have f0 : wr.frozen? ⟨w.heap.size, 0, none⟩ = false := HT.out.fr 0 rfl 0
       have f1 : wr.frozen? ⟨w.heap.size, 1, none⟩ = false := HT.out.fr 0 rfl 1
       have f2 : wr.frozen? ⟨w.heap.size, 2, none⟩ = false := HT.out.fr 0 rfl 2
       have f3 : wr.frozen? ⟨w.heap.size, 3, none⟩ = false := HT.out.fr 0 rfl 3
       have f4 : wr.frozen? ⟨w.heap.size, 4, none⟩ = false := HT.out.fr 0 rfl 4
       have f5 : wr.frozen? ⟨w.heap.size, 5, none⟩ = false := HT.out.fr 0 rfl 5
       have f6 : wr.frozen? ⟨w.heap.size, 6, none⟩ = false := HT.out.fr 0 rfl 6
       go_wp2
       have TF : Hid (Bl w (((((((wr.setCell ⟨w.heap.size, 0, none⟩ (.bool false)).setCell ⟨w.heap.size, 1, none⟩ (.string ⟨#[]⟩)).setCell ⟨w.heap.size, 2, none⟩ (.string ⟨#[]⟩)).setCell ⟨w.heap.size, 3, none⟩ (.int .i64 0)).setCell ⟨w.heap.size, 4, none⟩ (.int .i64 0)).setCell ⟨w.heap.size, 5, none⟩ (.string ⟨#[]⟩)).setCell ⟨w.heap.size, 6, none⟩ (.slice none 0 0)) [(#[.bool false, .string ⟨#[]⟩, .string ⟨#[]⟩, .int .i64 0, .int .i64 0, .string ⟨#[]⟩, .slice none 0 0], 27), (#[.bool q.req, .string q.me, .string q.ta, .int .i64 (q.minor : Int), .int .i64 (q.status : Int), .string q.re, .slice ha hn hc], 27)]) := hide (((((((HT.out.set 0 rfl 0 (.bool false)).set 0 rfl 1 (.string ⟨#[]⟩)).set 0 rfl 2 (.string ⟨#[]⟩)).set 0 rfl 3 (.int .i64 0)).set 0 rfl 4 (.int .i64 0)).set 0 rfl 5 (.string ⟨#[]⟩)).set 0 rfl 6 (.slice none 0 0))
       generalize (((((((wr.setCell ⟨w.heap.size, 0, none⟩ (.bool false)).setCell ⟨w.heap.size, 1, none⟩ (.string ⟨#[]⟩)).setCell ⟨w.heap.size, 2, none⟩ (.string ⟨#[]⟩)).setCell ⟨w.heap.size, 3, none⟩ (.int .i64 0)).setCell ⟨w.heap.size, 4, none⟩ (.int .i64 0)).setCell ⟨w.heap.size, 5, none⟩ (.string ⟨#[]⟩)).setCell ⟨w.heap.size, 6, none⟩ (.slice none 0 0)) = w9 at TF |-
       clear s0 s1 s2 s3 s4 s5 s6 f0 f1 f2 f3 f4 f5 f6
       obtain ⟨k0, k1, k2, k3, k4, k5, k6⟩ := TF.out.hd 0 (w.heap.size) rfl rfl
       try simp only [Exit.inBlock, Exit.then]
       exact bodyPost_ret (v := .tuple #[.agg #[.bool false, .string ⟨#[]⟩, .string ⟨#[]⟩, .int .i64 0, .int .i64 0, .string ⟨#[]⟩, .slice none 0 0], .int .i64 ((k : Int) + 1), .bool false, .int .i64 85]) (by simp [results, Tryz.results17, go_sem, k0, k1, k2, k3, k4, k5, k6]) rfl ⟨.slice none 0 0, by rw [HR.out.symm.trans ER.out]; rfl, by rw [HR.out.symm.trans ER.out]; exact FRow.nil _ _, TF.out.b⟩
      ·have i2 : ¬ (most : Int) < (k : Int) + 1 := by omega
       by_cases h13 : c = 13
       ·rw [decide_eq_true h13] at t13
        subst h13
        obtain ⟨hN, hRD⟩ := HRD.out.ret HE.out hmk HCK.out
        have HN := hide hN
        have HRD2 := hide hRD
        have HX := hide (by_on hlt HRk2.out (by rw [HCC.out]; exact HN.out) HRD2.out.wh)
        clear hN hRD
        go_wp2_with fail
        exact ⟨⟨k + 1, fr, lines, _, ha, hn, hc, by omega, by go_num, by go_num, by go_num, HRD2, HRW, HT, hide (HR.out.symm.trans HX.out)⟩, by simp [intOf]; omega⟩
       ·rw [decide_eq_false h13] at t13
        have n10 : ((c.toNat : Int) != 10) = true := by rw [bne, t10]; rfl
        have n13 : ((c.toNat : Int) != 13) = true := by rw [bne, t13]; rfl
        have p10 : ¬ (c.toNat : Int) = 10 := by simpa using t10
        have p13 : ¬ (c.toNat : Int) = 13 := by simpa using t13
        by_cases hL : 8192 < k - fr + 1
        ·have i3 : (8192 : Int) < (k : Int) - (fr : Int) + 1 := by omega
         have HN := hide (HRD.out.long (by rw [HE.out]; exact decide_eq_false h10) hmk h10 h13 hL)
         obtain ⟨rp, hrp⟩ : ∃ rp, pNext q c = (85, rp) := ⟨(pNext q c).2, by rw [<- HN.out]⟩
         have HN2 := hide hrp
         clear hrp
         have ER := hide (by_err (e := 85) (r := rp) hlt HRk2.out (by rw [HCC.out]; exact HN2.out) (by decide))
         obtain ⟨s0, s1, s2, s3, s4, s5, s6⟩ := HT.out.hd 0 (w.heap.size) rfl rfl
         have f0 : wr.frozen? ⟨w.heap.size, 0, none⟩ = false := HT.out.fr 0 rfl 0
         have f1 : wr.frozen? ⟨w.heap.size, 1, none⟩ = false := HT.out.fr 0 rfl 1
         have f2 : wr.frozen? ⟨w.heap.size, 2, none⟩ = false := HT.out.fr 0 rfl 2
         have f3 : wr.frozen? ⟨w.heap.size, 3, none⟩ = false := HT.out.fr 0 rfl 3
         have f4 : wr.frozen? ⟨w.heap.size, 4, none⟩ = false := HT.out.fr 0 rfl 4
         have f5 : wr.frozen? ⟨w.heap.size, 5, none⟩ = false := HT.out.fr 0 rfl 5
         have f6 : wr.frozen? ⟨w.heap.size, 6, none⟩ = false := HT.out.fr 0 rfl 6
         go_wp2
         have TF : Hid (Bl w (((((((wr.setCell ⟨w.heap.size, 0, none⟩ (.bool false)).setCell ⟨w.heap.size, 1, none⟩ (.string ⟨#[]⟩)).setCell ⟨w.heap.size, 2, none⟩ (.string ⟨#[]⟩)).setCell ⟨w.heap.size, 3, none⟩ (.int .i64 0)).setCell ⟨w.heap.size, 4, none⟩ (.int .i64 0)).setCell ⟨w.heap.size, 5, none⟩ (.string ⟨#[]⟩)).setCell ⟨w.heap.size, 6, none⟩ (.slice none 0 0)) [(#[.bool false, .string ⟨#[]⟩, .string ⟨#[]⟩, .int .i64 0, .int .i64 0, .string ⟨#[]⟩, .slice none 0 0], 27), (#[.bool q.req, .string q.me, .string q.ta, .int .i64 (q.minor : Int), .int .i64 (q.status : Int), .string q.re, .slice ha hn hc], 27)]) := hide (((((((HT.out.set 0 rfl 0 (.bool false)).set 0 rfl 1 (.string ⟨#[]⟩)).set 0 rfl 2 (.string ⟨#[]⟩)).set 0 rfl 3 (.int .i64 0)).set 0 rfl 4 (.int .i64 0)).set 0 rfl 5 (.string ⟨#[]⟩)).set 0 rfl 6 (.slice none 0 0))
         generalize (((((((wr.setCell ⟨w.heap.size, 0, none⟩ (.bool false)).setCell ⟨w.heap.size, 1, none⟩ (.string ⟨#[]⟩)).setCell ⟨w.heap.size, 2, none⟩ (.string ⟨#[]⟩)).setCell ⟨w.heap.size, 3, none⟩ (.int .i64 0)).setCell ⟨w.heap.size, 4, none⟩ (.int .i64 0)).setCell ⟨w.heap.size, 5, none⟩ (.string ⟨#[]⟩)).setCell ⟨w.heap.size, 6, none⟩ (.slice none 0 0)) = w9 at TF |-
         clear s0 s1 s2 s3 s4 s5 s6 f0 f1 f2 f3 f4 f5 f6
         obtain ⟨k0, k1, k2, k3, k4, k5, k6⟩ := TF.out.hd 0 (w.heap.size) rfl rfl
         try simp only [Exit.inBlock, Exit.then]
         exact bodyPost_ret (v := .tuple #[.agg #[.bool false, .string ⟨#[]⟩, .string ⟨#[]⟩, .int .i64 0, .int .i64 0, .string ⟨#[]⟩, .slice none 0 0], .int .i64 ((k : Int) + 1), .bool false, .int .i64 85]) (by simp [results, Tryz.results17, go_sem, k0, k1, k2, k3, k4, k5, k6]) rfl ⟨.slice none 0 0, by rw [HR.out.symm.trans ER.out]; rfl, by rw [HR.out.symm.trans ER.out]; exact FRow.nil _ _, TF.out.b⟩
        ·have i3 : ¬ (8192 : Int) < (k : Int) - (fr : Int) + 1 := by omega
         obtain ⟨hN, hRD⟩ := HRD.out.char HE.out hmk HCK.out h10 h13 hL
         have HN := hide hN
         have HRD2 := hide hRD
         have HX := hide (by_on hlt HRk2.out (by rw [HCC.out]; exact HN.out) HRD2.out.wh)
         clear hN hRD
         go_wp2_with fail
         exact ⟨⟨k + 1, fr, lines, _, ha, hn, hc, by omega, by go_num, by go_num, by go_num, HRD2, HRW, HT, hide (HR.out.symm.trans HX.out)⟩, by simp [intOf]; omega⟩
    | true =>
     rw [HAF.out, he] at d13
     have HE := hide he
     clear he
     by_cases h10 : c = 10
     ·rw [decide_eq_true h10] at t10
      by_cases hmk : most < k + 1
      ·have i2 : (most : Int) < (k : Int) + 1 := by omega
       have HN := hide (HRD.out.large (by rw [HE.out]; exact decide_eq_true h10) hmk)
       have ER := hide (by_err (e := 85) (r := q) hlt HRk2.out (by rw [HCC.out]; exact HN.out) (by decide))
       obtain ⟨s0, s1, s2, s3, s4, s5, s6⟩ := HT.out.hd 0 (w.heap.size) rfl rfl
       have f0 : wr.frozen? ⟨w.heap.size, 0, none⟩ = false := HT.out.fr 0 rfl 0
       have f1 : wr.frozen? ⟨w.heap.size, 1, none⟩ = false := HT.out.fr 0 rfl 1
       have f2 : wr.frozen? ⟨w.heap.size, 2, none⟩ = false := HT.out.fr 0 rfl 2
       have f3 : wr.frozen? ⟨w.heap.size, 3, none⟩ = false := HT.out.fr 0 rfl 3
       have f4 : wr.frozen? ⟨w.heap.size, 4, none⟩ = false := HT.out.fr 0 rfl 4
       have f5 : wr.frozen? ⟨w.heap.size, 5, none⟩ = false := HT.out.fr 0 rfl 5
       have f6 : wr.frozen? ⟨w.heap.size, 6, none⟩ = false := HT.out.fr 0 rfl 6
       go_wp2
       have TF : Hid (Bl w (((((((wr.setCell ⟨w.heap.size, 0, none⟩ (.bool false)).setCell ⟨w.heap.size, 1, none⟩ (.string ⟨#[]⟩)).setCell ⟨w.heap.size, 2, none⟩ (.string ⟨#[]⟩)).setCell ⟨w.heap.size, 3, none⟩ (.int .i64 0)).setCell ⟨w.heap.size, 4, none⟩ (.int .i64 0)).setCell ⟨w.heap.size, 5, none⟩ (.string ⟨#[]⟩)).setCell ⟨w.heap.size, 6, none⟩ (.slice none 0 0)) [(#[.bool false, .string ⟨#[]⟩, .string ⟨#[]⟩, .int .i64 0, .int .i64 0, .string ⟨#[]⟩, .slice none 0 0], 27), (#[.bool q.req, .string q.me, .string q.ta, .int .i64 (q.minor : Int), .int .i64 (q.status : Int), .string q.re, .slice ha hn hc], 27)]) := hide (((((((HT.out.set 0 rfl 0 (.bool false)).set 0 rfl 1 (.string ⟨#[]⟩)).set 0 rfl 2 (.string ⟨#[]⟩)).set 0 rfl 3 (.int .i64 0)).set 0 rfl 4 (.int .i64 0)).set 0 rfl 5 (.string ⟨#[]⟩)).set 0 rfl 6 (.slice none 0 0))
       generalize (((((((wr.setCell ⟨w.heap.size, 0, none⟩ (.bool false)).setCell ⟨w.heap.size, 1, none⟩ (.string ⟨#[]⟩)).setCell ⟨w.heap.size, 2, none⟩ (.string ⟨#[]⟩)).setCell ⟨w.heap.size, 3, none⟩ (.int .i64 0)).setCell ⟨w.heap.size, 4, none⟩ (.int .i64 0)).setCell ⟨w.heap.size, 5, none⟩ (.string ⟨#[]⟩)).setCell ⟨w.heap.size, 6, none⟩ (.slice none 0 0)) = w9 at TF |-
       clear s0 s1 s2 s3 s4 s5 s6 f0 f1 f2 f3 f4 f5 f6
       obtain ⟨k0, k1, k2, k3, k4, k5, k6⟩ := TF.out.hd 0 (w.heap.size) rfl rfl
       try simp only [Exit.inBlock, Exit.then]
       exact bodyPost_ret (v := .tuple #[.agg #[.bool false, .string ⟨#[]⟩, .string ⟨#[]⟩, .int .i64 0, .int .i64 0, .string ⟨#[]⟩, .slice none 0 0], .int .i64 ((k : Int) + 1), .bool false, .int .i64 85]) (by simp [results, Tryz.results17, go_sem, k0, k1, k2, k3, k4, k5, k6]) rfl ⟨.slice none 0 0, by rw [HR.out.symm.trans ER.out]; rfl, by rw [HR.out.symm.trans ER.out]; exact FRow.nil _ _, TF.out.b⟩
      ·have i2 : ¬ (most : Int) < (k : Int) + 1 := by omega
       subst h10
       obtain ⟨hN, hFit, hWh, hLn⟩ := HRD.out.lfq HE.out hmk
       have hlines : lines <= 65536 := by have := HRD.out.lines; omega
       have hss : (sS q.line).size <= 8192 := by rw [sS_size]; exact HRD.out.fit.line
       have HLC : Hid (∀ W, FRow W (w.heap.size + 2) (.slice ha hn hc) q.fs -> w.heap.size + 2 <= W.heap.size -> Calls Tryz.prog 32 #[.agg #[.bool q.req, .string q.me, .string q.ta, .int .i64 (q.minor : Int), .int .i64 (q.status : Int), .string q.re, .slice ha hn hc], .int .i64 ((lines : Int) + 1), .string (sS q.line)] W fun e w' => ∃ X ua un uc, e = .returned (.tuple #[hxV X (.slice ua un uc), .bool (pLine q.lf (sS q.line)).2.whole, .int .i64 ((pLine q.lf (sS q.line)).1 : Int)]) /\ LnOk (pLine q.lf (sS q.line)).1 X (pLine q.lf (sS q.line)).2.hx (.slice ua un uc) w' (w.heap.size + 2) /\ Below (w.heap.size + 2) W w' /\ Kept W w' (.slice ha hn hc) (.slice ua un uc)) := hide (fun W hr hb => by have h := hrline_any hFit hWh hLn hlines (sS q.line) hss (.slice ha hn hc) W (w.heap.size + 2) hr hb; rw [show (((lines + 1 : Nat)) : Int) = (lines : Int) + 1 from by omega] at h; exact h)
       have HRDL := hide (fun h0 hw => HRD.out.line HE.out hmk h0 hw)
       have HTX : Hid (∀ W, Byt W b o l -> (convert 24 9 (.slice (some ⟨b, o + fr, none⟩) (m - fr) (cp - fr))).run Tryz.prog W = .ok (.string (sS q.line)) W) := hide (fun W hB => by have h := HRD.out.text HE.out W b o (cp - fr) hB; rw [show k - 1 - fr = m - fr by have := HM1.out; omega] at h; exact h)
       have HN := hide hN
       clear hN hFit hWh hLn hss
       generalize pLine q.lf (sS q.line) = PP at HN HLC HRDL
       obtain ⟨pe, pr⟩ := PP
       dsimp only at HN HLC HRDL
       generalize sS q.line = s at HLC HTX
       have i5 : (fr : Int) <= (m : Int) := by have := HM1.out; omega
       have i6 : (m : Int) <= (cp : Int) := by omega
       have i7 : fr <= m := by have := HM1.out; omega
       have wm : IntKind.i64.wrap (m : Int) = (m : Int) := IntWalk.i64_in _ (by omega)
       have icf : ¬ cp = fr := by omega
       have HSZ : Hid (w.heap.size + 2 <= wr.heap.size) := hide (blk_lt (HT.out.hp 1 _ _ rfl))
       have HBW : Hid (b + 1 <= wr.heap.size) := hide (by have := HSZ.out; omega)
       go_upto_region 14 with fail
       have T1 := hide HT.out.drew
       have BY1 := hide (BY.out.keep (Below.refl (b + 1) wr).drew (Nat.lt_succ_self b))
       have RW1 := hide (HRW.out.below (Below.refl _ wr).drew)
       have HSD : Hid (wr.drew.heap.size = wr.heap.size) := hide rfl
       have cS : wr.drew.cell? ⟨w.heap.size + 1, 0, none⟩ = some (.bool q.req) /\ wr.drew.cell? ⟨w.heap.size + 1, 1, none⟩ = some (.string q.me) /\ wr.drew.cell? ⟨w.heap.size + 1, 2, none⟩ = some (.string q.ta) /\ wr.drew.cell? ⟨w.heap.size + 1, 3, none⟩ = some (.int .i64 (q.minor : Int)) /\ wr.drew.cell? ⟨w.heap.size + 1, 4, none⟩ = some (.int .i64 (q.status : Int)) /\ wr.drew.cell? ⟨w.heap.size + 1, 5, none⟩ = some (.string q.re) /\ wr.drew.cell? ⟨w.heap.size + 1, 6, none⟩ = some (.slice ha hn hc) /\ Byt wr.drew b o l := ⟨T1.out.cell 1 rfl 0, T1.out.cell 1 rfl 1, T1.out.cell 1 rfl 2, T1.out.cell 1 rfl 3, T1.out.cell 1 rfl 4, T1.out.cell 1 rfl 5, T1.out.cell 1 rfl 6, BY1.out⟩
       refine wp_region_noPanic ?_
       refine wp_region_held_drew (S := fun W => W.cell? ⟨w.heap.size + 1, 0, none⟩ = some (.bool q.req) /\ W.cell? ⟨w.heap.size + 1, 1, none⟩ = some (.string q.me) /\ W.cell? ⟨w.heap.size + 1, 2, none⟩ = some (.string q.ta) /\ W.cell? ⟨w.heap.size + 1, 3, none⟩ = some (.int .i64 (q.minor : Int)) /\ W.cell? ⟨w.heap.size + 1, 4, none⟩ = some (.int .i64 (q.status : Int)) /\ W.cell? ⟨w.heap.size + 1, 5, none⟩ = some (.string q.re) /\ W.cell? ⟨w.heap.size + 1, 6, none⟩ = some (.slice ha hn hc) /\ Byt W b o l) (by kernel_rfl) cS (fun hHeld => ?_)
       refine wpAnyH_take (i := 0) (v := ?_) rfl (by kernel_rfl) (by kernel_rfl) (by kernel_rfl) (fun _ _ _ h => h) (Or.inl ⟨by rfl, ?_⟩) (by assumption) ?_
       rotate_left
       ·(intro W hSw; obtain ⟨c0, c1, c2, c3, c4, c5, c6, _⟩ := hSw; go_simp; try with_reducible rfl)
       simp only [ge_, Act.put, sl_]
       refine wpAnyH_take (i := 1) (v := ?_) rfl (by kernel_rfl) (by kernel_rfl) (by kernel_rfl) (fun _ _ _ h => h) (Or.inl ⟨by rfl, ?_⟩) (by assumption) ?_
       rotate_left
       ·(intro w hSw; (try dsimp only at hSw); go_simp; try with_reducible rfl)
       simp only [ge_, Act.put, sl_]
       refine wpAnyH_take (i := 2) (v := ?_) rfl (by kernel_rfl) (by kernel_rfl) (by kernel_rfl) (fun _ _ _ h => h) (Or.inl ⟨by rfl, ?_⟩) (by assumption) ?_
       rotate_left
       ·(intro w hSw; (try dsimp only at hSw); go_simp; try with_reducible rfl)
       simp only [ge_, Act.put, sl_]
       refine wpAnyH_take (i := 3) (v := ?_) rfl (by kernel_rfl) (by kernel_rfl) (by kernel_rfl) (fun _ _ _ h => h) (Or.inl ⟨by rfl, ?_⟩) (by assumption) ?_
       rotate_left
       ·(intro w hSw; (try dsimp only at hSw); go_simp; try with_reducible rfl)
       simp only [ge_, Act.put, sl_]
       refine wpAnyH_take (i := 4) (v := ?_) rfl (by kernel_rfl) (by kernel_rfl) (by kernel_rfl) (fun _ _ _ h => h) (Or.inl ⟨by rfl, ?_⟩) (by assumption) ?_
       rotate_left
       ·(intro w hSw; (try dsimp only at hSw); go_simp; try with_reducible rfl)
       simp only [ge_, Act.put, sl_]
       refine wpAnyH_take (i := 5) (v := ?_) rfl (by kernel_rfl) (by kernel_rfl) (by kernel_rfl) (fun _ _ _ h => h) (Or.inl ⟨by rfl, ?_⟩) (by assumption) ?_
       rotate_left
       ·(intro w hSw; (try dsimp only at hSw); go_simp; try with_reducible rfl)
       simp only [ge_, Act.put, sl_]
       refine wpAnyH_take (i := 6) (v := ?_) rfl (by kernel_rfl) (by kernel_rfl) (by kernel_rfl) (fun _ _ _ h => h) (Or.inl ⟨by rfl, ?_⟩) (by assumption) ?_
       rotate_left
       ·(intro w hSw; (try dsimp only at hSw); go_simp; try with_reducible rfl)
       simp only [ge_, Act.put, sl_]
       refine wpAnyH_take (i := 7) (v := ?_) rfl (by kernel_rfl) (by kernel_rfl) (by kernel_rfl) (fun _ _ _ h => h) (Or.inl ⟨by rfl, ?_⟩) (by assumption) ?_
       rotate_left
       ·(intro W hSw; have hcv := HTX.out W hSw.2.2.2.2.2.2.2; go_simp; try with_reducible rfl)
       simp only [ge_, Act.put, sl_]
       refine wpAnyH_ready (rs := [8, 13]) (by kernel_rfl) (by simp) ?_
       refine AllReadyH.cons rfl (fun K hK => ?_) (AllReadyH.cons rfl (fun K hK => ?_) AllReadyH.nil)
       ·go_simp
        refine (HLC.out wr.drew RW1.out HSZ.out).mono ?_
        rintro e y ⟨X, ua, un, uc, rfl, hok, bb, kk⟩
        have HOK := hide hok
        have KK := hide kk
        obtain ⟨xr, xme, xta, xmi, xst, xre, XA⟩ := X
        unfold hxV
        dsimp only
        clear hok kk
        have T2 := hide (T1.out.keep bb)
        have BY2 := hide (BY1.out.keep bb (by omega))
        have HBY : Hid (b + 1 <= y.heap.size) := hide (Nat.le_trans HBW.out bb.size)
        clear bb cS
        have cS : y.cell? ⟨w.heap.size + 1, 0, none⟩ = some (.bool q.req) /\ y.cell? ⟨w.heap.size + 1, 1, none⟩ = some (.string q.me) /\ y.cell? ⟨w.heap.size + 1, 2, none⟩ = some (.string q.ta) /\ y.cell? ⟨w.heap.size + 1, 3, none⟩ = some (.int .i64 (q.minor : Int)) /\ y.cell? ⟨w.heap.size + 1, 4, none⟩ = some (.int .i64 (q.status : Int)) /\ y.cell? ⟨w.heap.size + 1, 5, none⟩ = some (.string q.re) /\ y.cell? ⟨w.heap.size + 1, 6, none⟩ = some (.slice ha hn hc) /\ Byt y b o l := ⟨T2.out.cell 1 rfl 0, T2.out.cell 1 rfl 1, T2.out.cell 1 rfl 2, T2.out.cell 1 rfl 3, T2.out.cell 1 rfl 4, T2.out.cell 1 rfl 5, T2.out.cell 1 rfl 6, BY2.out⟩
        go_wp2_with fail
        refine hK.out _ _ cS (fun hHeld => ?_)
        clear hK K
        try simp only [ge_, Act.put, sl_]
        refine wpAnyH_take (i := 9) (v := ?_) rfl (by kernel_rfl) (by kernel_rfl) (by kernel_rfl) (fun _ _ _ h => h) (Or.inl ⟨by rfl, ?_⟩) (by assumption) ?_
        rotate_left
        ·(intro w hSw; (try dsimp only at hSw); go_simp; try with_reducible rfl)
        simp only [ge_, Act.put, sl_]
        refine wpAnyH_take (i := 10) (v := ?_) rfl (by kernel_rfl) (by kernel_rfl) (by kernel_rfl) (fun _ _ _ h => h) (Or.inl ⟨by rfl, ?_⟩) (by assumption) ?_
        rotate_left
        ·(intro w hSw; (try dsimp only at hSw); go_simp; try with_reducible rfl)
        simp only [ge_, Act.put, sl_]
        refine wpAnyH_take (i := 11) (v := ?_) rfl (by kernel_rfl) (by kernel_rfl) (by kernel_rfl) (fun _ _ _ h => h) (Or.inl ⟨by rfl, ?_⟩) (by assumption) ?_
        rotate_left
        ·(intro w hSw; (try dsimp only at hSw); go_simp; try with_reducible rfl)
        simp only [ge_, Act.put, sl_]
        refine wpAnyH_take (i := 12) (v := ?_) rfl (by kernel_rfl) (by kernel_rfl) (by kernel_rfl) (fun _ _ _ h => h) (Or.inl ⟨by rfl, ?_⟩) (by assumption) ?_
        rotate_left
        ·(intro w hSw; (try dsimp only at hSw); go_simp; try with_reducible rfl)
        simp only [ge_, Act.put, sl_]
        refine wpAnyH_ready (rs := [13]) (by kernel_rfl) (by simp) ?_
        refine AllReadyH.cons rfl (fun K hK => ?_) AllReadyH.nil
        go_simp
        have DA := hide ((Below.refl y.heap.size y).alloc (Nat.le_refl _) (.cells #[.bool false, .string ⟨#[]⟩, .string ⟨#[]⟩, .int .i64 0, .int .i64 0, .string ⟨#[]⟩, .slice none 0 0] 27))
        have T3 := hide (T2.out.below DA.out)
        have BY3 := hide (BY2.out.keep DA.out HBY.out)
        clear cS
        have cS : (y.alloc (.cells #[.bool false, .string ⟨#[]⟩, .string ⟨#[]⟩, .int .i64 0, .int .i64 0, .string ⟨#[]⟩, .slice none 0 0] 27)).cell? ⟨w.heap.size + 1, 0, none⟩ = some (.bool q.req) /\ (y.alloc (.cells #[.bool false, .string ⟨#[]⟩, .string ⟨#[]⟩, .int .i64 0, .int .i64 0, .string ⟨#[]⟩, .slice none 0 0] 27)).cell? ⟨w.heap.size + 1, 1, none⟩ = some (.string q.me) /\ (y.alloc (.cells #[.bool false, .string ⟨#[]⟩, .string ⟨#[]⟩, .int .i64 0, .int .i64 0, .string ⟨#[]⟩, .slice none 0 0] 27)).cell? ⟨w.heap.size + 1, 2, none⟩ = some (.string q.ta) /\ (y.alloc (.cells #[.bool false, .string ⟨#[]⟩, .string ⟨#[]⟩, .int .i64 0, .int .i64 0, .string ⟨#[]⟩, .slice none 0 0] 27)).cell? ⟨w.heap.size + 1, 3, none⟩ = some (.int .i64 (q.minor : Int)) /\ (y.alloc (.cells #[.bool false, .string ⟨#[]⟩, .string ⟨#[]⟩, .int .i64 0, .int .i64 0, .string ⟨#[]⟩, .slice none 0 0] 27)).cell? ⟨w.heap.size + 1, 4, none⟩ = some (.int .i64 (q.status : Int)) /\ (y.alloc (.cells #[.bool false, .string ⟨#[]⟩, .string ⟨#[]⟩, .int .i64 0, .int .i64 0, .string ⟨#[]⟩, .slice none 0 0] 27)).cell? ⟨w.heap.size + 1, 5, none⟩ = some (.string q.re) /\ (y.alloc (.cells #[.bool false, .string ⟨#[]⟩, .string ⟨#[]⟩, .int .i64 0, .int .i64 0, .string ⟨#[]⟩, .slice none 0 0] 27)).cell? ⟨w.heap.size + 1, 6, none⟩ = some (.slice ha hn hc) /\ Byt (y.alloc (.cells #[.bool false, .string ⟨#[]⟩, .string ⟨#[]⟩, .int .i64 0, .int .i64 0, .string ⟨#[]⟩, .slice none 0 0] 27)) b o l := ⟨T3.out.cell 1 rfl 0, T3.out.cell 1 rfl 1, T3.out.cell 1 rfl 2, T3.out.cell 1 rfl 3, T3.out.cell 1 rfl 4, T3.out.cell 1 rfl 5, T3.out.cell 1 rfl 6, BY3.out⟩
        refine hK.out _ _ cS (fun hHeld => ?_)
        clear hK K
        try simp only [ge_, Act.put, sl_]
        refine wpAnyH_ready (rs := [14]) (by kernel_rfl) (by simp) ?_
        refine AllReadyH.cons rfl (fun K hK => ?_) AllReadyH.nil
        go_simp
        have D3 := hide (Bl.one y #[.bool xr, .string xme, .string xta, .int .i64 (xmi : Int), .int .i64 (xst : Int), .string xre, .slice ua un uc] 27)
        have T4 := hide (T2.out.below D3.out.b)
        have BY4 := hide (BY2.out.keep D3.out.b HBY.out)
        have OK4 := hide (HOK.out.keep D3.out.b)
        generalize (y.alloc (.cells #[.bool xr, .string xme, .string xta, .int .i64 (xmi : Int), .int .i64 (xst : Int), .string xre, .slice ua un uc] 27)) = z at D3 T4 BY4 OK4 |-
        clear cS HOK T3 BY3
        have cS : z.cell? ⟨w.heap.size + 1, 0, none⟩ = some (.bool q.req) /\ z.cell? ⟨w.heap.size + 1, 1, none⟩ = some (.string q.me) /\ z.cell? ⟨w.heap.size + 1, 2, none⟩ = some (.string q.ta) /\ z.cell? ⟨w.heap.size + 1, 3, none⟩ = some (.int .i64 (q.minor : Int)) /\ z.cell? ⟨w.heap.size + 1, 4, none⟩ = some (.int .i64 (q.status : Int)) /\ z.cell? ⟨w.heap.size + 1, 5, none⟩ = some (.string q.re) /\ z.cell? ⟨w.heap.size + 1, 6, none⟩ = some (.slice ha hn hc) /\ Byt z b o l := ⟨T4.out.cell 1 rfl 0, T4.out.cell 1 rfl 1, T4.out.cell 1 rfl 2, T4.out.cell 1 rfl 3, T4.out.cell 1 rfl 4, T4.out.cell 1 rfl 5, T4.out.cell 1 rfl 6, BY4.out⟩
        have HOK := OK4
        clear OK4
        refine hK.out _ _ cS (fun hHeld => ?_)
        clear hK K
        try simp only [ge_, Act.put, sl_]
        refine wpAnyH_take (i := 15) (v := ?_) rfl (by kernel_rfl) (by kernel_rfl) (by kernel_rfl) (fun _ _ _ h => h) (Or.inl ⟨by rfl, ?_⟩) (by assumption) ?_
        rotate_left
        ·(intro w hSw; (try dsimp only at hSw); go_simp; try with_reducible rfl)
        simp only [ge_, Act.put, sl_]
        refine wpAnyH_take (i := 16) (v := ?_) rfl (by kernel_rfl) (by kernel_rfl) (by kernel_rfl) (fun _ _ _ h => h) (Or.inl ⟨by rfl, ?_⟩) (by assumption) ?_
        rotate_left
        ·(intro w hSw; (try dsimp only at hSw); go_simp; try with_reducible rfl)
        simp only [ge_, Act.put, sl_]
        obtain ⟨q0, q1, q2, q3, q4, q5, q6⟩ := D3.out.hd 0 y.heap.size rfl rfl
        generalize y.heap.size = g at q0 q1 q2 q3 q4 q5 q6 |-
        refine wpAnyH_done (by kernel_rfl) ?_ _
        clear hHeld cS
        refine NoPanic.normal ?_
        by_cases hpe : pe = 0
        ·subst hpe
         obtain ⟨hXe, hXr⟩ := HOK.out.out rfl
         simp only [Pz.hx, Hx.mk.injEq] at hXe
         obtain ⟨rfl, rfl, rfl, rfl, rfl, rfl, rfl⟩ := hXe
         have HXR := hide hXr
         clear hXr
         cases hw : pr.whole with
         | true =>
          have ER := hide (by_whole (r := pr) hlt HRk2.out (by rw [HCC.out]; exact HN.out) hw)
          have HWT := hide hw
          clear hw
          obtain ⟨s0, s1, s2, s3, s4, s5, s6⟩ := T4.out.hd 0 (w.heap.size) rfl rfl
          have f0 : z.frozen? ⟨w.heap.size, 0, none⟩ = false := T4.out.fr 0 rfl 0
          have f1 : z.frozen? ⟨w.heap.size, 1, none⟩ = false := T4.out.fr 0 rfl 1
          have f2 : z.frozen? ⟨w.heap.size, 2, none⟩ = false := T4.out.fr 0 rfl 2
          have f3 : z.frozen? ⟨w.heap.size, 3, none⟩ = false := T4.out.fr 0 rfl 3
          have f4 : z.frozen? ⟨w.heap.size, 4, none⟩ = false := T4.out.fr 0 rfl 4
          have f5 : z.frozen? ⟨w.heap.size, 5, none⟩ = false := T4.out.fr 0 rfl 5
          have f6 : z.frozen? ⟨w.heap.size, 6, none⟩ = false := T4.out.fr 0 rfl 6
          go_wp2
          have TF : Hid (Bl w (((((((z.setCell ⟨w.heap.size, 0, none⟩ (.bool pr.req)).setCell ⟨w.heap.size, 1, none⟩ (.string pr.me)).setCell ⟨w.heap.size, 2, none⟩ (.string pr.ta)).setCell ⟨w.heap.size, 3, none⟩ (.int .i64 (pr.minor : Int))).setCell ⟨w.heap.size, 4, none⟩ (.int .i64 (pr.status : Int))).setCell ⟨w.heap.size, 5, none⟩ (.string pr.re)).setCell ⟨w.heap.size, 6, none⟩ (.slice ua un uc)) [(#[.bool pr.req, .string pr.me, .string pr.ta, .int .i64 (pr.minor : Int), .int .i64 (pr.status : Int), .string pr.re, .slice ua un uc], 27), (#[.bool q.req, .string q.me, .string q.ta, .int .i64 (q.minor : Int), .int .i64 (q.status : Int), .string q.re, .slice ha hn hc], 27)]) := hide (((((((T4.out.set 0 rfl 0 (.bool pr.req)).set 0 rfl 1 (.string pr.me)).set 0 rfl 2 (.string pr.ta)).set 0 rfl 3 (.int .i64 (pr.minor : Int))).set 0 rfl 4 (.int .i64 (pr.status : Int))).set 0 rfl 5 (.string pr.re)).set 0 rfl 6 (.slice ua un uc))
          have RF := hide (FRow.setOld (FRow.setOld (FRow.setOld (FRow.setOld (FRow.setOld (FRow.setOld (FRow.setOld HXR.out (g := w.heap.size) (by omega) 0 (.bool pr.req)) (g := w.heap.size) (by omega) 1 (.string pr.me)) (g := w.heap.size) (by omega) 2 (.string pr.ta)) (g := w.heap.size) (by omega) 3 (.int .i64 (pr.minor : Int))) (g := w.heap.size) (by omega) 4 (.int .i64 (pr.status : Int))) (g := w.heap.size) (by omega) 5 (.string pr.re)) (g := w.heap.size) (by omega) 6 (.slice ua un uc))
          generalize (((((((z.setCell ⟨w.heap.size, 0, none⟩ (.bool pr.req)).setCell ⟨w.heap.size, 1, none⟩ (.string pr.me)).setCell ⟨w.heap.size, 2, none⟩ (.string pr.ta)).setCell ⟨w.heap.size, 3, none⟩ (.int .i64 (pr.minor : Int))).setCell ⟨w.heap.size, 4, none⟩ (.int .i64 (pr.status : Int))).setCell ⟨w.heap.size, 5, none⟩ (.string pr.re)).setCell ⟨w.heap.size, 6, none⟩ (.slice ua un uc)) = w9 at TF RF |-
          clear s0 s1 s2 s3 s4 s5 s6 f0 f1 f2 f3 f4 f5 f6
          obtain ⟨k0, k1, k2, k3, k4, k5, k6⟩ := TF.out.hd 0 (w.heap.size) rfl rfl
          try simp only [Exit.inBlock, Exit.then]
          exact bodyPost_ret (v := .tuple #[.agg #[.bool pr.req, .string pr.me, .string pr.ta, .int .i64 (pr.minor : Int), .int .i64 (pr.status : Int), .string pr.re, .slice ua un uc], .int .i64 ((k : Int) + 1), .bool true, .int .i64 0]) (by simp [results, Tryz.results17, go_sem, k0, k1, k2, k3, k4, k5, k6]) rfl ⟨.slice ua un uc, by rw [HR.out.symm.trans ER.out]; unfold rdH rdW; dsimp only; rw [HWT.out]; rfl, by rw [HR.out.symm.trans ER.out]; unfold rdH rdW; dsimp only; rw [HWT.out]; exact RF.out.lower (by omega), TF.out.b⟩
         | false =>
          have HX := hide (by_on (r := pr) hlt HRk2.out (by rw [HCC.out]; exact HN.out) hw)
          have HRD2 := hide (HRDL.out rfl hw)
          clear hw
          obtain ⟨s0, s1, s2, s3, s4, s5, s6⟩ := T4.out.hd 1 (w.heap.size + 1) rfl rfl
          have f0 : z.frozen? ⟨w.heap.size + 1, 0, none⟩ = false := T4.out.fr 1 rfl 0
          have f1 : z.frozen? ⟨w.heap.size + 1, 1, none⟩ = false := T4.out.fr 1 rfl 1
          have f2 : z.frozen? ⟨w.heap.size + 1, 2, none⟩ = false := T4.out.fr 1 rfl 2
          have f3 : z.frozen? ⟨w.heap.size + 1, 3, none⟩ = false := T4.out.fr 1 rfl 3
          have f4 : z.frozen? ⟨w.heap.size + 1, 4, none⟩ = false := T4.out.fr 1 rfl 4
          have f5 : z.frozen? ⟨w.heap.size + 1, 5, none⟩ = false := T4.out.fr 1 rfl 5
          have f6 : z.frozen? ⟨w.heap.size + 1, 6, none⟩ = false := T4.out.fr 1 rfl 6
          go_upto_region 20 with fail
          have TF : Hid (Bl w (((((((z.setCell ⟨w.heap.size + 1, 0, none⟩ (.bool pr.req)).setCell ⟨w.heap.size + 1, 1, none⟩ (.string pr.me)).setCell ⟨w.heap.size + 1, 2, none⟩ (.string pr.ta)).setCell ⟨w.heap.size + 1, 3, none⟩ (.int .i64 (pr.minor : Int))).setCell ⟨w.heap.size + 1, 4, none⟩ (.int .i64 (pr.status : Int))).setCell ⟨w.heap.size + 1, 5, none⟩ (.string pr.re)).setCell ⟨w.heap.size + 1, 6, none⟩ (.slice ua un uc)) [(#[.bool false, .string ⟨#[]⟩, .string ⟨#[]⟩, .int .i64 0, .int .i64 0, .string ⟨#[]⟩, .slice none 0 0], 27), (#[.bool pr.req, .string pr.me, .string pr.ta, .int .i64 (pr.minor : Int), .int .i64 (pr.status : Int), .string pr.re, .slice ua un uc], 27)]) := hide (((((((T4.out.set 1 rfl 0 (.bool pr.req)).set 1 rfl 1 (.string pr.me)).set 1 rfl 2 (.string pr.ta)).set 1 rfl 3 (.int .i64 (pr.minor : Int))).set 1 rfl 4 (.int .i64 (pr.status : Int))).set 1 rfl 5 (.string pr.re)).set 1 rfl 6 (.slice ua un uc))
          have RF := hide (FRow.setOld (FRow.setOld (FRow.setOld (FRow.setOld (FRow.setOld (FRow.setOld (FRow.setOld HXR.out (g := w.heap.size + 1) (by omega) 0 (.bool pr.req)) (g := w.heap.size + 1) (by omega) 1 (.string pr.me)) (g := w.heap.size + 1) (by omega) 2 (.string pr.ta)) (g := w.heap.size + 1) (by omega) 3 (.int .i64 (pr.minor : Int))) (g := w.heap.size + 1) (by omega) 4 (.int .i64 (pr.status : Int))) (g := w.heap.size + 1) (by omega) 5 (.string pr.re)) (g := w.heap.size + 1) (by omega) 6 (.slice ua un uc))
          generalize (((((((z.setCell ⟨w.heap.size + 1, 0, none⟩ (.bool pr.req)).setCell ⟨w.heap.size + 1, 1, none⟩ (.string pr.me)).setCell ⟨w.heap.size + 1, 2, none⟩ (.string pr.ta)).setCell ⟨w.heap.size + 1, 3, none⟩ (.int .i64 (pr.minor : Int))).setCell ⟨w.heap.size + 1, 4, none⟩ (.int .i64 (pr.status : Int))).setCell ⟨w.heap.size + 1, 5, none⟩ (.string pr.re)).setCell ⟨w.heap.size + 1, 6, none⟩ (.slice ua un uc)) = w9 at TF RF |-
          clear s0 s1 s2 s3 s4 s5 s6 f0 f1 f2 f3 f4 f5 f6 q0 q1 q2 q3 q4 q5 q6 r1 r2
          go_wp2_with fail
          exact ⟨⟨k + 1, k + 1, lines + 1, pr, ua, un, uc, by omega, by go_num, by go_num, by go_num, HRD2, RF, TF, hide (HR.out.symm.trans HX.out)⟩, by simp [intOf]; omega⟩
        ·have t5 : ((pe : Int) != 0) = true := bne_iff_ne.2 (by omega)
         have ER := hide (by_err (e := pe) (r := pr) hlt HRk2.out (by rw [HCC.out]; exact HN.out) hpe)
         have HNO := hide (rd_err (n := k + 1) (r := pr) hpe)
         clear hpe
         obtain ⟨s0, s1, s2, s3, s4, s5, s6⟩ := T4.out.hd 0 (w.heap.size) rfl rfl
         have f0 : z.frozen? ⟨w.heap.size, 0, none⟩ = false := T4.out.fr 0 rfl 0
         have f1 : z.frozen? ⟨w.heap.size, 1, none⟩ = false := T4.out.fr 0 rfl 1
         have f2 : z.frozen? ⟨w.heap.size, 2, none⟩ = false := T4.out.fr 0 rfl 2
         have f3 : z.frozen? ⟨w.heap.size, 3, none⟩ = false := T4.out.fr 0 rfl 3
         have f4 : z.frozen? ⟨w.heap.size, 4, none⟩ = false := T4.out.fr 0 rfl 4
         have f5 : z.frozen? ⟨w.heap.size, 5, none⟩ = false := T4.out.fr 0 rfl 5
         have f6 : z.frozen? ⟨w.heap.size, 6, none⟩ = false := T4.out.fr 0 rfl 6
         go_wp2
         have TF : Hid (Bl w (((((((z.setCell ⟨w.heap.size, 0, none⟩ (.bool false)).setCell ⟨w.heap.size, 1, none⟩ (.string ⟨#[]⟩)).setCell ⟨w.heap.size, 2, none⟩ (.string ⟨#[]⟩)).setCell ⟨w.heap.size, 3, none⟩ (.int .i64 0)).setCell ⟨w.heap.size, 4, none⟩ (.int .i64 0)).setCell ⟨w.heap.size, 5, none⟩ (.string ⟨#[]⟩)).setCell ⟨w.heap.size, 6, none⟩ (.slice none 0 0)) [(#[.bool false, .string ⟨#[]⟩, .string ⟨#[]⟩, .int .i64 0, .int .i64 0, .string ⟨#[]⟩, .slice none 0 0], 27), (#[.bool q.req, .string q.me, .string q.ta, .int .i64 (q.minor : Int), .int .i64 (q.status : Int), .string q.re, .slice ha hn hc], 27)]) := hide (((((((T4.out.set 0 rfl 0 (.bool false)).set 0 rfl 1 (.string ⟨#[]⟩)).set 0 rfl 2 (.string ⟨#[]⟩)).set 0 rfl 3 (.int .i64 0)).set 0 rfl 4 (.int .i64 0)).set 0 rfl 5 (.string ⟨#[]⟩)).set 0 rfl 6 (.slice none 0 0))
         generalize (((((((z.setCell ⟨w.heap.size, 0, none⟩ (.bool false)).setCell ⟨w.heap.size, 1, none⟩ (.string ⟨#[]⟩)).setCell ⟨w.heap.size, 2, none⟩ (.string ⟨#[]⟩)).setCell ⟨w.heap.size, 3, none⟩ (.int .i64 0)).setCell ⟨w.heap.size, 4, none⟩ (.int .i64 0)).setCell ⟨w.heap.size, 5, none⟩ (.string ⟨#[]⟩)).setCell ⟨w.heap.size, 6, none⟩ (.slice none 0 0)) = w9 at TF |-
         clear s0 s1 s2 s3 s4 s5 s6 f0 f1 f2 f3 f4 f5 f6
         obtain ⟨k0, k1, k2, k3, k4, k5, k6⟩ := TF.out.hd 0 (w.heap.size) rfl rfl
         try simp only [Exit.inBlock, Exit.then]
         exact bodyPost_ret (v := .tuple #[.agg #[.bool false, .string ⟨#[]⟩, .string ⟨#[]⟩, .int .i64 0, .int .i64 0, .string ⟨#[]⟩, .slice none 0 0], .int .i64 ((k : Int) + 1), .bool false, .int .i64 (pe : Int)]) (by simp [results, Tryz.results17, go_sem, k0, k1, k2, k3, k4, k5, k6]) rfl ⟨.slice none 0 0, by rw [HR.out.symm.trans ER.out, HNO.out.1, HNO.out.2]; rfl, by rw [HR.out.symm.trans ER.out, HNO.out.2]; exact FRow.nil _ _, TF.out.b⟩
       ·go_simp
        have DA : Hid (Below wr.drew.heap.size wr.drew (wr.alloc (.cells #[.bool false, .string ⟨#[]⟩, .string ⟨#[]⟩, .int .i64 0, .int .i64 0, .string ⟨#[]⟩, .slice none 0 0] 27)).drew) := hide ((Below.refl wr.drew.heap.size wr.drew).alloc (Nat.le_refl _) (.cells #[.bool false, .string ⟨#[]⟩, .string ⟨#[]⟩, .int .i64 0, .int .i64 0, .string ⟨#[]⟩, .slice none 0 0] 27))
        have T3 := hide (T1.out.below DA.out)
        have BY3 := hide (BY1.out.keep DA.out HBW.out)
        have RW3 := hide (RW1.out.below DA.out)
        have HG : Hid ((wr.alloc (.cells #[.bool false, .string ⟨#[]⟩, .string ⟨#[]⟩, .int .i64 0, .int .i64 0, .string ⟨#[]⟩, .slice none 0 0] 27)).drew.heap[wr.heap.size]? = some (.cells #[.bool false, .string ⟨#[]⟩, .string ⟨#[]⟩, .int .i64 0, .int .i64 0, .string ⟨#[]⟩, .slice none 0 0] 27)) := hide (hp_new wr.drew _)
        have HGL : Hid (wr.heap.size < (wr.alloc (.cells #[.bool false, .string ⟨#[]⟩, .string ⟨#[]⟩, .int .i64 0, .int .i64 0, .string ⟨#[]⟩, .slice none 0 0] 27)).drew.heap.size) := hide (by simp)
        have HGO : Hid ((Value.slice ha hn hc).ownBlock ≠ some wr.heap.size) := hide (fun h => by have := (HRW.out.lt h).2; omega)
        generalize (wr.alloc (.cells #[.bool false, .string ⟨#[]⟩, .string ⟨#[]⟩, .int .i64 0, .int .i64 0, .string ⟨#[]⟩, .slice none 0 0] 27)).drew = x1 at DA T3 BY3 RW3 HG HGL |-
        clear cS
        have cS : x1.cell? ⟨w.heap.size + 1, 0, none⟩ = some (.bool q.req) /\ x1.cell? ⟨w.heap.size + 1, 1, none⟩ = some (.string q.me) /\ x1.cell? ⟨w.heap.size + 1, 2, none⟩ = some (.string q.ta) /\ x1.cell? ⟨w.heap.size + 1, 3, none⟩ = some (.int .i64 (q.minor : Int)) /\ x1.cell? ⟨w.heap.size + 1, 4, none⟩ = some (.int .i64 (q.status : Int)) /\ x1.cell? ⟨w.heap.size + 1, 5, none⟩ = some (.string q.re) /\ x1.cell? ⟨w.heap.size + 1, 6, none⟩ = some (.slice ha hn hc) /\ Byt x1 b o l := ⟨T3.out.cell 1 rfl 0, T3.out.cell 1 rfl 1, T3.out.cell 1 rfl 2, T3.out.cell 1 rfl 3, T3.out.cell 1 rfl 4, T3.out.cell 1 rfl 5, T3.out.cell 1 rfl 6, BY3.out⟩
        refine hK.out _ _ cS (fun hHeld => ?_)
        clear hK K
        try simp only [ge_, Act.put, sl_]
        refine wpAnyH_ready (rs := [8]) (by kernel_rfl) (by simp) ?_
        refine AllReadyH.cons rfl (fun K hK => ?_) AllReadyH.nil
        go_simp
        refine (HLC.out x1 RW3.out (by have := HSZ.out; have := HGL.out; omega)).mono ?_
        rintro e y ⟨X, ua, un, uc, rfl, hok, bb, kk⟩
        have HOK := hide hok
        have KK := hide kk
        obtain ⟨xr, xme, xta, xmi, xst, xre, XA⟩ := X
        unfold hxV
        dsimp only
        clear hok kk
        have T2 := hide (T3.out.keep bb)
        have BY2 := hide (BY3.out.keep bb (by omega))
        have HG2 : Hid (y.heap[wr.heap.size]? = some (.cells #[.bool false, .string ⟨#[]⟩, .string ⟨#[]⟩, .int .i64 0, .int .i64 0, .string ⟨#[]⟩, .slice none 0 0] 27)) := hide ((KK.out.block _ HGL.out HGO.out).trans HG.out)
        have HU := hide (KK.out.apart _ HGL.out HGO.out)
        clear bb cS
        have cS : y.cell? ⟨w.heap.size + 1, 0, none⟩ = some (.bool q.req) /\ y.cell? ⟨w.heap.size + 1, 1, none⟩ = some (.string q.me) /\ y.cell? ⟨w.heap.size + 1, 2, none⟩ = some (.string q.ta) /\ y.cell? ⟨w.heap.size + 1, 3, none⟩ = some (.int .i64 (q.minor : Int)) /\ y.cell? ⟨w.heap.size + 1, 4, none⟩ = some (.int .i64 (q.status : Int)) /\ y.cell? ⟨w.heap.size + 1, 5, none⟩ = some (.string q.re) /\ y.cell? ⟨w.heap.size + 1, 6, none⟩ = some (.slice ha hn hc) /\ Byt y b o l := ⟨T2.out.cell 1 rfl 0, T2.out.cell 1 rfl 1, T2.out.cell 1 rfl 2, T2.out.cell 1 rfl 3, T2.out.cell 1 rfl 4, T2.out.cell 1 rfl 5, T2.out.cell 1 rfl 6, BY2.out⟩
        go_wp2_with fail
        refine hK.out _ _ cS (fun hHeld => ?_)
        clear hK K
        try simp only [ge_, Act.put, sl_]
        refine wpAnyH_take (i := 9) (v := ?_) rfl (by kernel_rfl) (by kernel_rfl) (by kernel_rfl) (fun _ _ _ h => h) (Or.inl ⟨by rfl, ?_⟩) (by assumption) ?_
        rotate_left
        ·(intro w hSw; (try dsimp only at hSw); go_simp; try with_reducible rfl)
        simp only [ge_, Act.put, sl_]
        refine wpAnyH_take (i := 10) (v := ?_) rfl (by kernel_rfl) (by kernel_rfl) (by kernel_rfl) (fun _ _ _ h => h) (Or.inl ⟨by rfl, ?_⟩) (by assumption) ?_
        rotate_left
        ·(intro w hSw; (try dsimp only at hSw); go_simp; try with_reducible rfl)
        simp only [ge_, Act.put, sl_]
        refine wpAnyH_take (i := 11) (v := ?_) rfl (by kernel_rfl) (by kernel_rfl) (by kernel_rfl) (fun _ _ _ h => h) (Or.inl ⟨by rfl, ?_⟩) (by assumption) ?_
        rotate_left
        ·(intro w hSw; (try dsimp only at hSw); go_simp; try with_reducible rfl)
        simp only [ge_, Act.put, sl_]
        refine wpAnyH_take (i := 12) (v := ?_) rfl (by kernel_rfl) (by kernel_rfl) (by kernel_rfl) (fun _ _ _ h => h) (Or.inl ⟨by rfl, ?_⟩) (by assumption) ?_
        rotate_left
        ·(intro w hSw; (try dsimp only at hSw); go_simp; try with_reducible rfl)
        simp only [ge_, Act.put, sl_]
        refine wpAnyH_ready (rs := [14]) (by kernel_rfl) (by simp) ?_
        refine AllReadyH.cons rfl (fun K hK => ?_) AllReadyH.nil
        have q0 : y.cell? ⟨wr.heap.size, 0, none⟩ = some (.bool false) := cell_at HG2.out 0
        have f0 : y.frozen? ⟨wr.heap.size, 0, none⟩ = false := by rw [frozen_at HG2.out]; simp
        have q1 : y.cell? ⟨wr.heap.size, 1, none⟩ = some (.string ⟨#[]⟩) := cell_at HG2.out 1
        have f1 : y.frozen? ⟨wr.heap.size, 1, none⟩ = false := by rw [frozen_at HG2.out]; simp
        have q2 : y.cell? ⟨wr.heap.size, 2, none⟩ = some (.string ⟨#[]⟩) := cell_at HG2.out 2
        have f2 : y.frozen? ⟨wr.heap.size, 2, none⟩ = false := by rw [frozen_at HG2.out]; simp
        have q3 : y.cell? ⟨wr.heap.size, 3, none⟩ = some (.int .i64 0) := cell_at HG2.out 3
        have f3 : y.frozen? ⟨wr.heap.size, 3, none⟩ = false := by rw [frozen_at HG2.out]; simp
        have q4 : y.cell? ⟨wr.heap.size, 4, none⟩ = some (.int .i64 0) := cell_at HG2.out 4
        have f4 : y.frozen? ⟨wr.heap.size, 4, none⟩ = false := by rw [frozen_at HG2.out]; simp
        have q5 : y.cell? ⟨wr.heap.size, 5, none⟩ = some (.string ⟨#[]⟩) := cell_at HG2.out 5
        have f5 : y.frozen? ⟨wr.heap.size, 5, none⟩ = false := by rw [frozen_at HG2.out]; simp
        have q6 : y.cell? ⟨wr.heap.size, 6, none⟩ = some (.slice none 0 0) := cell_at HG2.out 6
        have f6 : y.frozen? ⟨wr.heap.size, 6, none⟩ = false := by rw [frozen_at HG2.out]; simp
        go_simp
        have HG30 : Hid ((y.setCell ⟨wr.heap.size, 0, none⟩ (.bool xr)).heap[wr.heap.size]? = some (.cells #[.bool xr, .string ⟨#[]⟩, .string ⟨#[]⟩, .int .i64 0, .int .i64 0, .string ⟨#[]⟩, .slice none 0 0] 27)) := hide (hp_set HG2.out 0 (.bool xr))
        have HG31 : Hid (((y.setCell ⟨wr.heap.size, 0, none⟩ (.bool xr)).setCell ⟨wr.heap.size, 1, none⟩ (.string xme)).heap[wr.heap.size]? = some (.cells #[.bool xr, .string xme, .string ⟨#[]⟩, .int .i64 0, .int .i64 0, .string ⟨#[]⟩, .slice none 0 0] 27)) := hide (hp_set HG30.out 1 (.string xme))
        have HG32 : Hid ((((y.setCell ⟨wr.heap.size, 0, none⟩ (.bool xr)).setCell ⟨wr.heap.size, 1, none⟩ (.string xme)).setCell ⟨wr.heap.size, 2, none⟩ (.string xta)).heap[wr.heap.size]? = some (.cells #[.bool xr, .string xme, .string xta, .int .i64 0, .int .i64 0, .string ⟨#[]⟩, .slice none 0 0] 27)) := hide (hp_set HG31.out 2 (.string xta))
        have HG33 : Hid (((((y.setCell ⟨wr.heap.size, 0, none⟩ (.bool xr)).setCell ⟨wr.heap.size, 1, none⟩ (.string xme)).setCell ⟨wr.heap.size, 2, none⟩ (.string xta)).setCell ⟨wr.heap.size, 3, none⟩ (.int .i64 (xmi : Int))).heap[wr.heap.size]? = some (.cells #[.bool xr, .string xme, .string xta, .int .i64 (xmi : Int), .int .i64 0, .string ⟨#[]⟩, .slice none 0 0] 27)) := hide (hp_set HG32.out 3 (.int .i64 (xmi : Int)))
        have HG34 : Hid ((((((y.setCell ⟨wr.heap.size, 0, none⟩ (.bool xr)).setCell ⟨wr.heap.size, 1, none⟩ (.string xme)).setCell ⟨wr.heap.size, 2, none⟩ (.string xta)).setCell ⟨wr.heap.size, 3, none⟩ (.int .i64 (xmi : Int))).setCell ⟨wr.heap.size, 4, none⟩ (.int .i64 (xst : Int))).heap[wr.heap.size]? = some (.cells #[.bool xr, .string xme, .string xta, .int .i64 (xmi : Int), .int .i64 (xst : Int), .string ⟨#[]⟩, .slice none 0 0] 27)) := hide (hp_set HG33.out 4 (.int .i64 (xst : Int)))
        have HG35 : Hid (((((((y.setCell ⟨wr.heap.size, 0, none⟩ (.bool xr)).setCell ⟨wr.heap.size, 1, none⟩ (.string xme)).setCell ⟨wr.heap.size, 2, none⟩ (.string xta)).setCell ⟨wr.heap.size, 3, none⟩ (.int .i64 (xmi : Int))).setCell ⟨wr.heap.size, 4, none⟩ (.int .i64 (xst : Int))).setCell ⟨wr.heap.size, 5, none⟩ (.string xre)).heap[wr.heap.size]? = some (.cells #[.bool xr, .string xme, .string xta, .int .i64 (xmi : Int), .int .i64 (xst : Int), .string xre, .slice none 0 0] 27)) := hide (hp_set HG34.out 5 (.string xre))
        have HG3 : Hid ((((((((y.setCell ⟨wr.heap.size, 0, none⟩ (.bool xr)).setCell ⟨wr.heap.size, 1, none⟩ (.string xme)).setCell ⟨wr.heap.size, 2, none⟩ (.string xta)).setCell ⟨wr.heap.size, 3, none⟩ (.int .i64 (xmi : Int))).setCell ⟨wr.heap.size, 4, none⟩ (.int .i64 (xst : Int))).setCell ⟨wr.heap.size, 5, none⟩ (.string xre)).setCell ⟨wr.heap.size, 6, none⟩ (.slice ua un uc)).heap[wr.heap.size]? = some (.cells #[.bool xr, .string xme, .string xta, .int .i64 (xmi : Int), .int .i64 (xst : Int), .string xre, .slice ua un uc] 27)) := hide (hp_set HG35.out 6 (.slice ua un uc))
        clear HG30 HG31 HG32 HG33 HG34 HG35
        have T4 := hide (Bl.setHigh (Bl.setHigh (Bl.setHigh (Bl.setHigh (Bl.setHigh (Bl.setHigh (Bl.setHigh T2.out (g := wr.heap.size) (by have := HSZ.out; simp; omega) 0 (.bool xr)) (g := wr.heap.size) (by have := HSZ.out; simp; omega) 1 (.string xme)) (g := wr.heap.size) (by have := HSZ.out; simp; omega) 2 (.string xta)) (g := wr.heap.size) (by have := HSZ.out; simp; omega) 3 (.int .i64 (xmi : Int))) (g := wr.heap.size) (by have := HSZ.out; simp; omega) 4 (.int .i64 (xst : Int))) (g := wr.heap.size) (by have := HSZ.out; simp; omega) 5 (.string xre)) (g := wr.heap.size) (by have := HSZ.out; simp; omega) 6 (.slice ua un uc))
        have BY4 := hide (Byt.set (Byt.set (Byt.set (Byt.set (Byt.set (Byt.set (Byt.set BY2.out (g := wr.heap.size) (by have := HBW.out; omega) 0 (.bool xr)) (g := wr.heap.size) (by have := HBW.out; omega) 1 (.string xme)) (g := wr.heap.size) (by have := HBW.out; omega) 2 (.string xta)) (g := wr.heap.size) (by have := HBW.out; omega) 3 (.int .i64 (xmi : Int))) (g := wr.heap.size) (by have := HBW.out; omega) 4 (.int .i64 (xst : Int))) (g := wr.heap.size) (by have := HBW.out; omega) 5 (.string xre)) (g := wr.heap.size) (by have := HBW.out; omega) 6 (.slice ua un uc))
        have OK4 := hide (LnOk.set (LnOk.set (LnOk.set (LnOk.set (LnOk.set (LnOk.set (LnOk.set HOK.out HU.out 0 (.bool xr)) HU.out 1 (.string xme)) HU.out 2 (.string xta)) HU.out 3 (.int .i64 (xmi : Int))) HU.out 4 (.int .i64 (xst : Int))) HU.out 5 (.string xre)) HU.out 6 (.slice ua un uc))
        generalize (((((((y.setCell ⟨wr.heap.size, 0, none⟩ (.bool xr)).setCell ⟨wr.heap.size, 1, none⟩ (.string xme)).setCell ⟨wr.heap.size, 2, none⟩ (.string xta)).setCell ⟨wr.heap.size, 3, none⟩ (.int .i64 (xmi : Int))).setCell ⟨wr.heap.size, 4, none⟩ (.int .i64 (xst : Int))).setCell ⟨wr.heap.size, 5, none⟩ (.string xre)).setCell ⟨wr.heap.size, 6, none⟩ (.slice ua un uc)) = z at HG3 T4 BY4 OK4 |-
        clear cS HOK q0 q1 q2 q3 q4 q5 q6 f0 f1 f2 f3 f4 f5 f6
        have q0 : z.cell? ⟨wr.heap.size, 0, none⟩ = some (.bool xr) := cell_at HG3.out 0
        have q1 : z.cell? ⟨wr.heap.size, 1, none⟩ = some (.string xme) := cell_at HG3.out 1
        have q2 : z.cell? ⟨wr.heap.size, 2, none⟩ = some (.string xta) := cell_at HG3.out 2
        have q3 : z.cell? ⟨wr.heap.size, 3, none⟩ = some (.int .i64 (xmi : Int)) := cell_at HG3.out 3
        have q4 : z.cell? ⟨wr.heap.size, 4, none⟩ = some (.int .i64 (xst : Int)) := cell_at HG3.out 4
        have q5 : z.cell? ⟨wr.heap.size, 5, none⟩ = some (.string xre) := cell_at HG3.out 5
        have q6 : z.cell? ⟨wr.heap.size, 6, none⟩ = some (.slice ua un uc) := cell_at HG3.out 6
        clear HG HG2 HG3
        have cS : z.cell? ⟨w.heap.size + 1, 0, none⟩ = some (.bool q.req) /\ z.cell? ⟨w.heap.size + 1, 1, none⟩ = some (.string q.me) /\ z.cell? ⟨w.heap.size + 1, 2, none⟩ = some (.string q.ta) /\ z.cell? ⟨w.heap.size + 1, 3, none⟩ = some (.int .i64 (q.minor : Int)) /\ z.cell? ⟨w.heap.size + 1, 4, none⟩ = some (.int .i64 (q.status : Int)) /\ z.cell? ⟨w.heap.size + 1, 5, none⟩ = some (.string q.re) /\ z.cell? ⟨w.heap.size + 1, 6, none⟩ = some (.slice ha hn hc) /\ Byt z b o l := ⟨T4.out.cell 1 rfl 0, T4.out.cell 1 rfl 1, T4.out.cell 1 rfl 2, T4.out.cell 1 rfl 3, T4.out.cell 1 rfl 4, T4.out.cell 1 rfl 5, T4.out.cell 1 rfl 6, BY4.out⟩
        have HOK := OK4
        clear OK4
        refine hK.out _ _ cS (fun hHeld => ?_)
        clear hK K
        try simp only [ge_, Act.put, sl_]
        refine wpAnyH_take (i := 15) (v := ?_) rfl (by kernel_rfl) (by kernel_rfl) (by kernel_rfl) (fun _ _ _ h => h) (Or.inl ⟨by rfl, ?_⟩) (by assumption) ?_
        rotate_left
        ·(intro w hSw; (try dsimp only at hSw); go_simp; try with_reducible rfl)
        simp only [ge_, Act.put, sl_]
        refine wpAnyH_take (i := 16) (v := ?_) rfl (by kernel_rfl) (by kernel_rfl) (by kernel_rfl) (fun _ _ _ h => h) (Or.inl ⟨by rfl, ?_⟩) (by assumption) ?_
        rotate_left
        ·(intro w hSw; (try dsimp only at hSw); go_simp; try with_reducible rfl)
        simp only [ge_, Act.put, sl_]
        clear HGL HGO HU HSZ HBW DA RW3 BY3 T3 HSD
        generalize wr.heap.size = g at q0 q1 q2 q3 q4 q5 q6 |-
        refine wpAnyH_done (by kernel_rfl) ?_ _
        clear hHeld cS
        refine NoPanic.normal ?_
        by_cases hpe : pe = 0
        ·subst hpe
         obtain ⟨hXe, hXr⟩ := HOK.out.out rfl
         simp only [Pz.hx, Hx.mk.injEq] at hXe
         obtain ⟨rfl, rfl, rfl, rfl, rfl, rfl, rfl⟩ := hXe
         have HXR := hide hXr
         clear hXr
         cases hw : pr.whole with
         | true =>
          have ER := hide (by_whole (r := pr) hlt HRk2.out (by rw [HCC.out]; exact HN.out) hw)
          have HWT := hide hw
          clear hw
          obtain ⟨s0, s1, s2, s3, s4, s5, s6⟩ := T4.out.hd 0 (w.heap.size) rfl rfl
          have f0 : z.frozen? ⟨w.heap.size, 0, none⟩ = false := T4.out.fr 0 rfl 0
          have f1 : z.frozen? ⟨w.heap.size, 1, none⟩ = false := T4.out.fr 0 rfl 1
          have f2 : z.frozen? ⟨w.heap.size, 2, none⟩ = false := T4.out.fr 0 rfl 2
          have f3 : z.frozen? ⟨w.heap.size, 3, none⟩ = false := T4.out.fr 0 rfl 3
          have f4 : z.frozen? ⟨w.heap.size, 4, none⟩ = false := T4.out.fr 0 rfl 4
          have f5 : z.frozen? ⟨w.heap.size, 5, none⟩ = false := T4.out.fr 0 rfl 5
          have f6 : z.frozen? ⟨w.heap.size, 6, none⟩ = false := T4.out.fr 0 rfl 6
          go_wp2
          have TF : Hid (Bl w (((((((z.setCell ⟨w.heap.size, 0, none⟩ (.bool pr.req)).setCell ⟨w.heap.size, 1, none⟩ (.string pr.me)).setCell ⟨w.heap.size, 2, none⟩ (.string pr.ta)).setCell ⟨w.heap.size, 3, none⟩ (.int .i64 (pr.minor : Int))).setCell ⟨w.heap.size, 4, none⟩ (.int .i64 (pr.status : Int))).setCell ⟨w.heap.size, 5, none⟩ (.string pr.re)).setCell ⟨w.heap.size, 6, none⟩ (.slice ua un uc)) [(#[.bool pr.req, .string pr.me, .string pr.ta, .int .i64 (pr.minor : Int), .int .i64 (pr.status : Int), .string pr.re, .slice ua un uc], 27), (#[.bool q.req, .string q.me, .string q.ta, .int .i64 (q.minor : Int), .int .i64 (q.status : Int), .string q.re, .slice ha hn hc], 27)]) := hide (((((((T4.out.set 0 rfl 0 (.bool pr.req)).set 0 rfl 1 (.string pr.me)).set 0 rfl 2 (.string pr.ta)).set 0 rfl 3 (.int .i64 (pr.minor : Int))).set 0 rfl 4 (.int .i64 (pr.status : Int))).set 0 rfl 5 (.string pr.re)).set 0 rfl 6 (.slice ua un uc))
          have RF := hide (FRow.setOld (FRow.setOld (FRow.setOld (FRow.setOld (FRow.setOld (FRow.setOld (FRow.setOld HXR.out (g := w.heap.size) (by omega) 0 (.bool pr.req)) (g := w.heap.size) (by omega) 1 (.string pr.me)) (g := w.heap.size) (by omega) 2 (.string pr.ta)) (g := w.heap.size) (by omega) 3 (.int .i64 (pr.minor : Int))) (g := w.heap.size) (by omega) 4 (.int .i64 (pr.status : Int))) (g := w.heap.size) (by omega) 5 (.string pr.re)) (g := w.heap.size) (by omega) 6 (.slice ua un uc))
          generalize (((((((z.setCell ⟨w.heap.size, 0, none⟩ (.bool pr.req)).setCell ⟨w.heap.size, 1, none⟩ (.string pr.me)).setCell ⟨w.heap.size, 2, none⟩ (.string pr.ta)).setCell ⟨w.heap.size, 3, none⟩ (.int .i64 (pr.minor : Int))).setCell ⟨w.heap.size, 4, none⟩ (.int .i64 (pr.status : Int))).setCell ⟨w.heap.size, 5, none⟩ (.string pr.re)).setCell ⟨w.heap.size, 6, none⟩ (.slice ua un uc)) = w9 at TF RF |-
          clear s0 s1 s2 s3 s4 s5 s6 f0 f1 f2 f3 f4 f5 f6
          obtain ⟨k0, k1, k2, k3, k4, k5, k6⟩ := TF.out.hd 0 (w.heap.size) rfl rfl
          try simp only [Exit.inBlock, Exit.then]
          exact bodyPost_ret (v := .tuple #[.agg #[.bool pr.req, .string pr.me, .string pr.ta, .int .i64 (pr.minor : Int), .int .i64 (pr.status : Int), .string pr.re, .slice ua un uc], .int .i64 ((k : Int) + 1), .bool true, .int .i64 0]) (by simp [results, Tryz.results17, go_sem, k0, k1, k2, k3, k4, k5, k6]) rfl ⟨.slice ua un uc, by rw [HR.out.symm.trans ER.out]; unfold rdH rdW; dsimp only; rw [HWT.out]; rfl, by rw [HR.out.symm.trans ER.out]; unfold rdH rdW; dsimp only; rw [HWT.out]; exact RF.out.lower (by omega), TF.out.b⟩
         | false =>
          have HX := hide (by_on (r := pr) hlt HRk2.out (by rw [HCC.out]; exact HN.out) hw)
          have HRD2 := hide (HRDL.out rfl hw)
          clear hw
          obtain ⟨s0, s1, s2, s3, s4, s5, s6⟩ := T4.out.hd 1 (w.heap.size + 1) rfl rfl
          have f0 : z.frozen? ⟨w.heap.size + 1, 0, none⟩ = false := T4.out.fr 1 rfl 0
          have f1 : z.frozen? ⟨w.heap.size + 1, 1, none⟩ = false := T4.out.fr 1 rfl 1
          have f2 : z.frozen? ⟨w.heap.size + 1, 2, none⟩ = false := T4.out.fr 1 rfl 2
          have f3 : z.frozen? ⟨w.heap.size + 1, 3, none⟩ = false := T4.out.fr 1 rfl 3
          have f4 : z.frozen? ⟨w.heap.size + 1, 4, none⟩ = false := T4.out.fr 1 rfl 4
          have f5 : z.frozen? ⟨w.heap.size + 1, 5, none⟩ = false := T4.out.fr 1 rfl 5
          have f6 : z.frozen? ⟨w.heap.size + 1, 6, none⟩ = false := T4.out.fr 1 rfl 6
          go_upto_region 20 with fail
          have TF : Hid (Bl w (((((((z.setCell ⟨w.heap.size + 1, 0, none⟩ (.bool pr.req)).setCell ⟨w.heap.size + 1, 1, none⟩ (.string pr.me)).setCell ⟨w.heap.size + 1, 2, none⟩ (.string pr.ta)).setCell ⟨w.heap.size + 1, 3, none⟩ (.int .i64 (pr.minor : Int))).setCell ⟨w.heap.size + 1, 4, none⟩ (.int .i64 (pr.status : Int))).setCell ⟨w.heap.size + 1, 5, none⟩ (.string pr.re)).setCell ⟨w.heap.size + 1, 6, none⟩ (.slice ua un uc)) [(#[.bool false, .string ⟨#[]⟩, .string ⟨#[]⟩, .int .i64 0, .int .i64 0, .string ⟨#[]⟩, .slice none 0 0], 27), (#[.bool pr.req, .string pr.me, .string pr.ta, .int .i64 (pr.minor : Int), .int .i64 (pr.status : Int), .string pr.re, .slice ua un uc], 27)]) := hide (((((((T4.out.set 1 rfl 0 (.bool pr.req)).set 1 rfl 1 (.string pr.me)).set 1 rfl 2 (.string pr.ta)).set 1 rfl 3 (.int .i64 (pr.minor : Int))).set 1 rfl 4 (.int .i64 (pr.status : Int))).set 1 rfl 5 (.string pr.re)).set 1 rfl 6 (.slice ua un uc))
          have RF := hide (FRow.setOld (FRow.setOld (FRow.setOld (FRow.setOld (FRow.setOld (FRow.setOld (FRow.setOld HXR.out (g := w.heap.size + 1) (by omega) 0 (.bool pr.req)) (g := w.heap.size + 1) (by omega) 1 (.string pr.me)) (g := w.heap.size + 1) (by omega) 2 (.string pr.ta)) (g := w.heap.size + 1) (by omega) 3 (.int .i64 (pr.minor : Int))) (g := w.heap.size + 1) (by omega) 4 (.int .i64 (pr.status : Int))) (g := w.heap.size + 1) (by omega) 5 (.string pr.re)) (g := w.heap.size + 1) (by omega) 6 (.slice ua un uc))
          generalize (((((((z.setCell ⟨w.heap.size + 1, 0, none⟩ (.bool pr.req)).setCell ⟨w.heap.size + 1, 1, none⟩ (.string pr.me)).setCell ⟨w.heap.size + 1, 2, none⟩ (.string pr.ta)).setCell ⟨w.heap.size + 1, 3, none⟩ (.int .i64 (pr.minor : Int))).setCell ⟨w.heap.size + 1, 4, none⟩ (.int .i64 (pr.status : Int))).setCell ⟨w.heap.size + 1, 5, none⟩ (.string pr.re)).setCell ⟨w.heap.size + 1, 6, none⟩ (.slice ua un uc)) = w9 at TF RF |-
          clear s0 s1 s2 s3 s4 s5 s6 f0 f1 f2 f3 f4 f5 f6 q0 q1 q2 q3 q4 q5 q6 r1 r2
          go_wp2_with fail
          exact ⟨⟨k + 1, k + 1, lines + 1, pr, ua, un, uc, by omega, by go_num, by go_num, by go_num, HRD2, RF, TF, hide (HR.out.symm.trans HX.out)⟩, by simp [intOf]; omega⟩
        ·have t5 : ((pe : Int) != 0) = true := bne_iff_ne.2 (by omega)
         have ER := hide (by_err (e := pe) (r := pr) hlt HRk2.out (by rw [HCC.out]; exact HN.out) hpe)
         have HNO := hide (rd_err (n := k + 1) (r := pr) hpe)
         clear hpe
         obtain ⟨s0, s1, s2, s3, s4, s5, s6⟩ := T4.out.hd 0 (w.heap.size) rfl rfl
         have f0 : z.frozen? ⟨w.heap.size, 0, none⟩ = false := T4.out.fr 0 rfl 0
         have f1 : z.frozen? ⟨w.heap.size, 1, none⟩ = false := T4.out.fr 0 rfl 1
         have f2 : z.frozen? ⟨w.heap.size, 2, none⟩ = false := T4.out.fr 0 rfl 2
         have f3 : z.frozen? ⟨w.heap.size, 3, none⟩ = false := T4.out.fr 0 rfl 3
         have f4 : z.frozen? ⟨w.heap.size, 4, none⟩ = false := T4.out.fr 0 rfl 4
         have f5 : z.frozen? ⟨w.heap.size, 5, none⟩ = false := T4.out.fr 0 rfl 5
         have f6 : z.frozen? ⟨w.heap.size, 6, none⟩ = false := T4.out.fr 0 rfl 6
         go_wp2
         have TF : Hid (Bl w (((((((z.setCell ⟨w.heap.size, 0, none⟩ (.bool false)).setCell ⟨w.heap.size, 1, none⟩ (.string ⟨#[]⟩)).setCell ⟨w.heap.size, 2, none⟩ (.string ⟨#[]⟩)).setCell ⟨w.heap.size, 3, none⟩ (.int .i64 0)).setCell ⟨w.heap.size, 4, none⟩ (.int .i64 0)).setCell ⟨w.heap.size, 5, none⟩ (.string ⟨#[]⟩)).setCell ⟨w.heap.size, 6, none⟩ (.slice none 0 0)) [(#[.bool false, .string ⟨#[]⟩, .string ⟨#[]⟩, .int .i64 0, .int .i64 0, .string ⟨#[]⟩, .slice none 0 0], 27), (#[.bool q.req, .string q.me, .string q.ta, .int .i64 (q.minor : Int), .int .i64 (q.status : Int), .string q.re, .slice ha hn hc], 27)]) := hide (((((((T4.out.set 0 rfl 0 (.bool false)).set 0 rfl 1 (.string ⟨#[]⟩)).set 0 rfl 2 (.string ⟨#[]⟩)).set 0 rfl 3 (.int .i64 0)).set 0 rfl 4 (.int .i64 0)).set 0 rfl 5 (.string ⟨#[]⟩)).set 0 rfl 6 (.slice none 0 0))
         generalize (((((((z.setCell ⟨w.heap.size, 0, none⟩ (.bool false)).setCell ⟨w.heap.size, 1, none⟩ (.string ⟨#[]⟩)).setCell ⟨w.heap.size, 2, none⟩ (.string ⟨#[]⟩)).setCell ⟨w.heap.size, 3, none⟩ (.int .i64 0)).setCell ⟨w.heap.size, 4, none⟩ (.int .i64 0)).setCell ⟨w.heap.size, 5, none⟩ (.string ⟨#[]⟩)).setCell ⟨w.heap.size, 6, none⟩ (.slice none 0 0)) = w9 at TF |-
         clear s0 s1 s2 s3 s4 s5 s6 f0 f1 f2 f3 f4 f5 f6
         obtain ⟨k0, k1, k2, k3, k4, k5, k6⟩ := TF.out.hd 0 (w.heap.size) rfl rfl
         try simp only [Exit.inBlock, Exit.then]
         exact bodyPost_ret (v := .tuple #[.agg #[.bool false, .string ⟨#[]⟩, .string ⟨#[]⟩, .int .i64 0, .int .i64 0, .string ⟨#[]⟩, .slice none 0 0], .int .i64 ((k : Int) + 1), .bool false, .int .i64 (pe : Int)]) (by simp [results, Tryz.results17, go_sem, k0, k1, k2, k3, k4, k5, k6]) rfl ⟨.slice none 0 0, by rw [HR.out.symm.trans ER.out, HNO.out.1, HNO.out.2]; rfl, by rw [HR.out.symm.trans ER.out, HNO.out.2]; exact FRow.nil _ _, TF.out.b⟩
     ·rw [decide_eq_false h10] at t10
      have HN := hide (HRD.out.bare (c := c) (by rw [HE.out, decide_eq_false h10]; simp))
      have ER := hide (by_err (e := 81) (r := q) hlt HRk2.out (by rw [HCC.out]; exact HN.out) (by decide))
      obtain ⟨s0, s1, s2, s3, s4, s5, s6⟩ := HT.out.hd 0 (w.heap.size) rfl rfl
      have f0 : wr.frozen? ⟨w.heap.size, 0, none⟩ = false := HT.out.fr 0 rfl 0
      have f1 : wr.frozen? ⟨w.heap.size, 1, none⟩ = false := HT.out.fr 0 rfl 1
      have f2 : wr.frozen? ⟨w.heap.size, 2, none⟩ = false := HT.out.fr 0 rfl 2
      have f3 : wr.frozen? ⟨w.heap.size, 3, none⟩ = false := HT.out.fr 0 rfl 3
      have f4 : wr.frozen? ⟨w.heap.size, 4, none⟩ = false := HT.out.fr 0 rfl 4
      have f5 : wr.frozen? ⟨w.heap.size, 5, none⟩ = false := HT.out.fr 0 rfl 5
      have f6 : wr.frozen? ⟨w.heap.size, 6, none⟩ = false := HT.out.fr 0 rfl 6
      go_wp2
      have TF : Hid (Bl w (((((((wr.setCell ⟨w.heap.size, 0, none⟩ (.bool false)).setCell ⟨w.heap.size, 1, none⟩ (.string ⟨#[]⟩)).setCell ⟨w.heap.size, 2, none⟩ (.string ⟨#[]⟩)).setCell ⟨w.heap.size, 3, none⟩ (.int .i64 0)).setCell ⟨w.heap.size, 4, none⟩ (.int .i64 0)).setCell ⟨w.heap.size, 5, none⟩ (.string ⟨#[]⟩)).setCell ⟨w.heap.size, 6, none⟩ (.slice none 0 0)) [(#[.bool false, .string ⟨#[]⟩, .string ⟨#[]⟩, .int .i64 0, .int .i64 0, .string ⟨#[]⟩, .slice none 0 0], 27), (#[.bool q.req, .string q.me, .string q.ta, .int .i64 (q.minor : Int), .int .i64 (q.status : Int), .string q.re, .slice ha hn hc], 27)]) := hide (((((((HT.out.set 0 rfl 0 (.bool false)).set 0 rfl 1 (.string ⟨#[]⟩)).set 0 rfl 2 (.string ⟨#[]⟩)).set 0 rfl 3 (.int .i64 0)).set 0 rfl 4 (.int .i64 0)).set 0 rfl 5 (.string ⟨#[]⟩)).set 0 rfl 6 (.slice none 0 0))
      generalize (((((((wr.setCell ⟨w.heap.size, 0, none⟩ (.bool false)).setCell ⟨w.heap.size, 1, none⟩ (.string ⟨#[]⟩)).setCell ⟨w.heap.size, 2, none⟩ (.string ⟨#[]⟩)).setCell ⟨w.heap.size, 3, none⟩ (.int .i64 0)).setCell ⟨w.heap.size, 4, none⟩ (.int .i64 0)).setCell ⟨w.heap.size, 5, none⟩ (.string ⟨#[]⟩)).setCell ⟨w.heap.size, 6, none⟩ (.slice none 0 0)) = w9 at TF |-
      clear s0 s1 s2 s3 s4 s5 s6 f0 f1 f2 f3 f4 f5 f6
      obtain ⟨k0, k1, k2, k3, k4, k5, k6⟩ := TF.out.hd 0 (w.heap.size) rfl rfl
      try simp only [Exit.inBlock, Exit.then]
      exact bodyPost_ret (v := .tuple #[.agg #[.bool false, .string ⟨#[]⟩, .string ⟨#[]⟩, .int .i64 0, .int .i64 0, .string ⟨#[]⟩, .slice none 0 0], .int .i64 ((k : Int) + 1), .bool false, .int .i64 81]) (by simp [results, Tryz.results17, go_sem, k0, k1, k2, k3, k4, k5, k6]) rfl ⟨.slice none 0 0, by rw [HR.out.symm.trans ER.out]; rfl, by rw [HR.out.symm.trans ER.out]; exact FRow.nil _ _, TF.out.b⟩
   ·have HE := hide (HRD.out.after0 hf)
    have i1 : ¬ (fr : Int) < (k : Int) := by omega
    by_cases h10 : c = 10
    ·rw [decide_eq_true h10] at t10
     have HN := hide (HRD.out.bare (c := c) (by rw [HE.out, decide_eq_true h10]; simp))
     have ER := hide (by_err (e := 81) (r := q) hlt HRk2.out (by rw [HCC.out]; exact HN.out) (by decide))
     obtain ⟨s0, s1, s2, s3, s4, s5, s6⟩ := HT.out.hd 0 (w.heap.size) rfl rfl
     have f0 : wr.frozen? ⟨w.heap.size, 0, none⟩ = false := HT.out.fr 0 rfl 0
     have f1 : wr.frozen? ⟨w.heap.size, 1, none⟩ = false := HT.out.fr 0 rfl 1
     have f2 : wr.frozen? ⟨w.heap.size, 2, none⟩ = false := HT.out.fr 0 rfl 2
     have f3 : wr.frozen? ⟨w.heap.size, 3, none⟩ = false := HT.out.fr 0 rfl 3
     have f4 : wr.frozen? ⟨w.heap.size, 4, none⟩ = false := HT.out.fr 0 rfl 4
     have f5 : wr.frozen? ⟨w.heap.size, 5, none⟩ = false := HT.out.fr 0 rfl 5
     have f6 : wr.frozen? ⟨w.heap.size, 6, none⟩ = false := HT.out.fr 0 rfl 6
     go_wp2
     have TF : Hid (Bl w (((((((wr.setCell ⟨w.heap.size, 0, none⟩ (.bool false)).setCell ⟨w.heap.size, 1, none⟩ (.string ⟨#[]⟩)).setCell ⟨w.heap.size, 2, none⟩ (.string ⟨#[]⟩)).setCell ⟨w.heap.size, 3, none⟩ (.int .i64 0)).setCell ⟨w.heap.size, 4, none⟩ (.int .i64 0)).setCell ⟨w.heap.size, 5, none⟩ (.string ⟨#[]⟩)).setCell ⟨w.heap.size, 6, none⟩ (.slice none 0 0)) [(#[.bool false, .string ⟨#[]⟩, .string ⟨#[]⟩, .int .i64 0, .int .i64 0, .string ⟨#[]⟩, .slice none 0 0], 27), (#[.bool q.req, .string q.me, .string q.ta, .int .i64 (q.minor : Int), .int .i64 (q.status : Int), .string q.re, .slice ha hn hc], 27)]) := hide (((((((HT.out.set 0 rfl 0 (.bool false)).set 0 rfl 1 (.string ⟨#[]⟩)).set 0 rfl 2 (.string ⟨#[]⟩)).set 0 rfl 3 (.int .i64 0)).set 0 rfl 4 (.int .i64 0)).set 0 rfl 5 (.string ⟨#[]⟩)).set 0 rfl 6 (.slice none 0 0))
     generalize (((((((wr.setCell ⟨w.heap.size, 0, none⟩ (.bool false)).setCell ⟨w.heap.size, 1, none⟩ (.string ⟨#[]⟩)).setCell ⟨w.heap.size, 2, none⟩ (.string ⟨#[]⟩)).setCell ⟨w.heap.size, 3, none⟩ (.int .i64 0)).setCell ⟨w.heap.size, 4, none⟩ (.int .i64 0)).setCell ⟨w.heap.size, 5, none⟩ (.string ⟨#[]⟩)).setCell ⟨w.heap.size, 6, none⟩ (.slice none 0 0)) = w9 at TF |-
     clear s0 s1 s2 s3 s4 s5 s6 f0 f1 f2 f3 f4 f5 f6
     obtain ⟨k0, k1, k2, k3, k4, k5, k6⟩ := TF.out.hd 0 (w.heap.size) rfl rfl
     try simp only [Exit.inBlock, Exit.then]
     exact bodyPost_ret (v := .tuple #[.agg #[.bool false, .string ⟨#[]⟩, .string ⟨#[]⟩, .int .i64 0, .int .i64 0, .string ⟨#[]⟩, .slice none 0 0], .int .i64 ((k : Int) + 1), .bool false, .int .i64 81]) (by simp [results, Tryz.results17, go_sem, k0, k1, k2, k3, k4, k5, k6]) rfl ⟨.slice none 0 0, by rw [HR.out.symm.trans ER.out]; rfl, by rw [HR.out.symm.trans ER.out]; exact FRow.nil _ _, TF.out.b⟩
    ·rw [decide_eq_false h10] at t10
     by_cases hmk : most < k + 1
     ·have i2 : (most : Int) < (k : Int) + 1 := by omega
      have HN := hide (HRD.out.large (by rw [HE.out]; exact decide_eq_false h10) hmk)
      have ER := hide (by_err (e := 85) (r := q) hlt HRk2.out (by rw [HCC.out]; exact HN.out) (by decide))
      obtain ⟨s0, s1, s2, s3, s4, s5, s6⟩ := HT.out.hd 0 (w.heap.size) rfl rfl
      have f0 : wr.frozen? ⟨w.heap.size, 0, none⟩ = false := HT.out.fr 0 rfl 0
      have f1 : wr.frozen? ⟨w.heap.size, 1, none⟩ = false := HT.out.fr 0 rfl 1
      have f2 : wr.frozen? ⟨w.heap.size, 2, none⟩ = false := HT.out.fr 0 rfl 2
      have f3 : wr.frozen? ⟨w.heap.size, 3, none⟩ = false := HT.out.fr 0 rfl 3
      have f4 : wr.frozen? ⟨w.heap.size, 4, none⟩ = false := HT.out.fr 0 rfl 4
      have f5 : wr.frozen? ⟨w.heap.size, 5, none⟩ = false := HT.out.fr 0 rfl 5
      have f6 : wr.frozen? ⟨w.heap.size, 6, none⟩ = false := HT.out.fr 0 rfl 6
      go_wp2
      have TF : Hid (Bl w (((((((wr.setCell ⟨w.heap.size, 0, none⟩ (.bool false)).setCell ⟨w.heap.size, 1, none⟩ (.string ⟨#[]⟩)).setCell ⟨w.heap.size, 2, none⟩ (.string ⟨#[]⟩)).setCell ⟨w.heap.size, 3, none⟩ (.int .i64 0)).setCell ⟨w.heap.size, 4, none⟩ (.int .i64 0)).setCell ⟨w.heap.size, 5, none⟩ (.string ⟨#[]⟩)).setCell ⟨w.heap.size, 6, none⟩ (.slice none 0 0)) [(#[.bool false, .string ⟨#[]⟩, .string ⟨#[]⟩, .int .i64 0, .int .i64 0, .string ⟨#[]⟩, .slice none 0 0], 27), (#[.bool q.req, .string q.me, .string q.ta, .int .i64 (q.minor : Int), .int .i64 (q.status : Int), .string q.re, .slice ha hn hc], 27)]) := hide (((((((HT.out.set 0 rfl 0 (.bool false)).set 0 rfl 1 (.string ⟨#[]⟩)).set 0 rfl 2 (.string ⟨#[]⟩)).set 0 rfl 3 (.int .i64 0)).set 0 rfl 4 (.int .i64 0)).set 0 rfl 5 (.string ⟨#[]⟩)).set 0 rfl 6 (.slice none 0 0))
      generalize (((((((wr.setCell ⟨w.heap.size, 0, none⟩ (.bool false)).setCell ⟨w.heap.size, 1, none⟩ (.string ⟨#[]⟩)).setCell ⟨w.heap.size, 2, none⟩ (.string ⟨#[]⟩)).setCell ⟨w.heap.size, 3, none⟩ (.int .i64 0)).setCell ⟨w.heap.size, 4, none⟩ (.int .i64 0)).setCell ⟨w.heap.size, 5, none⟩ (.string ⟨#[]⟩)).setCell ⟨w.heap.size, 6, none⟩ (.slice none 0 0)) = w9 at TF |-
      clear s0 s1 s2 s3 s4 s5 s6 f0 f1 f2 f3 f4 f5 f6
      obtain ⟨k0, k1, k2, k3, k4, k5, k6⟩ := TF.out.hd 0 (w.heap.size) rfl rfl
      try simp only [Exit.inBlock, Exit.then]
      exact bodyPost_ret (v := .tuple #[.agg #[.bool false, .string ⟨#[]⟩, .string ⟨#[]⟩, .int .i64 0, .int .i64 0, .string ⟨#[]⟩, .slice none 0 0], .int .i64 ((k : Int) + 1), .bool false, .int .i64 85]) (by simp [results, Tryz.results17, go_sem, k0, k1, k2, k3, k4, k5, k6]) rfl ⟨.slice none 0 0, by rw [HR.out.symm.trans ER.out]; rfl, by rw [HR.out.symm.trans ER.out]; exact FRow.nil _ _, TF.out.b⟩
     ·have i2 : ¬ (most : Int) < (k : Int) + 1 := by omega
      by_cases h13 : c = 13
      ·rw [decide_eq_true h13] at t13
       subst h13
       obtain ⟨hN, hRD⟩ := HRD.out.ret HE.out hmk HCK.out
       have HN := hide hN
       have HRD2 := hide hRD
       have HX := hide (by_on hlt HRk2.out (by rw [HCC.out]; exact HN.out) HRD2.out.wh)
       clear hN hRD
       go_wp2_with fail
       exact ⟨⟨k + 1, fr, lines, _, ha, hn, hc, by omega, by go_num, by go_num, by go_num, HRD2, HRW, HT, hide (HR.out.symm.trans HX.out)⟩, by simp [intOf]; omega⟩
      ·rw [decide_eq_false h13] at t13
       have n10 : ((c.toNat : Int) != 10) = true := by rw [bne, t10]; rfl
       have n13 : ((c.toNat : Int) != 13) = true := by rw [bne, t13]; rfl
       have p10 : ¬ (c.toNat : Int) = 10 := by simpa using t10
       have p13 : ¬ (c.toNat : Int) = 13 := by simpa using t13
       by_cases hL : 8192 < k - fr + 1
       ·exfalso; omega
       ·have i3 : ¬ (8192 : Int) < (k : Int) - (fr : Int) + 1 := by omega
        obtain ⟨hN, hRD⟩ := HRD.out.char HE.out hmk HCK.out h10 h13 hL
        have HN := hide hN
        have HRD2 := hide hRD
        have HX := hide (by_on hlt HRk2.out (by rw [HCC.out]; exact HN.out) HRD2.out.wh)
        clear hN hRD
        go_wp2_with fail
        exact ⟨⟨k + 1, fr, lines, _, ha, hn, hc, by omega, by go_num, by go_num, by go_num, HRD2, HRW, HT, hide (HR.out.symm.trans HX.out)⟩, by simp [intOf]; omega⟩
  ·have ER := hide (by_end (by omega) (HR.out.trans HRk.out))
   have ek : k = l.length := by omega
   have WH := hide HRD.out.wh
   obtain ⟨s0, s1, s2, s3, s4, s5, s6⟩ := HT.out.hd 0 (w.heap.size) rfl rfl
   have f0 : wr.frozen? ⟨w.heap.size, 0, none⟩ = false := HT.out.fr 0 rfl 0
   have f1 : wr.frozen? ⟨w.heap.size, 1, none⟩ = false := HT.out.fr 0 rfl 1
   have f2 : wr.frozen? ⟨w.heap.size, 2, none⟩ = false := HT.out.fr 0 rfl 2
   have f3 : wr.frozen? ⟨w.heap.size, 3, none⟩ = false := HT.out.fr 0 rfl 3
   have f4 : wr.frozen? ⟨w.heap.size, 4, none⟩ = false := HT.out.fr 0 rfl 4
   have f5 : wr.frozen? ⟨w.heap.size, 5, none⟩ = false := HT.out.fr 0 rfl 5
   have f6 : wr.frozen? ⟨w.heap.size, 6, none⟩ = false := HT.out.fr 0 rfl 6
   go_wp2
   have TF : Hid (Bl w (((((((wr.setCell ⟨w.heap.size, 0, none⟩ (.bool false)).setCell ⟨w.heap.size, 1, none⟩ (.string ⟨#[]⟩)).setCell ⟨w.heap.size, 2, none⟩ (.string ⟨#[]⟩)).setCell ⟨w.heap.size, 3, none⟩ (.int .i64 0)).setCell ⟨w.heap.size, 4, none⟩ (.int .i64 0)).setCell ⟨w.heap.size, 5, none⟩ (.string ⟨#[]⟩)).setCell ⟨w.heap.size, 6, none⟩ (.slice none 0 0)) [(#[.bool false, .string ⟨#[]⟩, .string ⟨#[]⟩, .int .i64 0, .int .i64 0, .string ⟨#[]⟩, .slice none 0 0], 27), (#[.bool q.req, .string q.me, .string q.ta, .int .i64 (q.minor : Int), .int .i64 (q.status : Int), .string q.re, .slice ha hn hc], 27)]) := hide (((((((HT.out.set 0 rfl 0 (.bool false)).set 0 rfl 1 (.string ⟨#[]⟩)).set 0 rfl 2 (.string ⟨#[]⟩)).set 0 rfl 3 (.int .i64 0)).set 0 rfl 4 (.int .i64 0)).set 0 rfl 5 (.string ⟨#[]⟩)).set 0 rfl 6 (.slice none 0 0))
   generalize (((((((wr.setCell ⟨w.heap.size, 0, none⟩ (.bool false)).setCell ⟨w.heap.size, 1, none⟩ (.string ⟨#[]⟩)).setCell ⟨w.heap.size, 2, none⟩ (.string ⟨#[]⟩)).setCell ⟨w.heap.size, 3, none⟩ (.int .i64 0)).setCell ⟨w.heap.size, 4, none⟩ (.int .i64 0)).setCell ⟨w.heap.size, 5, none⟩ (.string ⟨#[]⟩)).setCell ⟨w.heap.size, 6, none⟩ (.slice none 0 0)) = w9 at TF |-
   clear s0 s1 s2 s3 s4 s5 s6 f0 f1 f2 f3 f4 f5 f6
   obtain ⟨k0, k1, k2, k3, k4, k5, k6⟩ := TF.out.hd 0 (w.heap.size) rfl rfl
   try simp only [Exit.inBlock, Exit.then]
   exact bodyPost_ret (v := .tuple #[.agg #[.bool false, .string ⟨#[]⟩, .string ⟨#[]⟩, .int .i64 0, .int .i64 0, .string ⟨#[]⟩, .slice none 0 0], .int .i64 (l.length : Int), .bool false, .int .i64 0]) (by simp [results, Tryz.results17, go_sem, k0, k1, k2, k3, k4, k5, k6]) rfl ⟨.slice none 0 0, by rw [HR.out.symm.trans ER.out, <- ek]; unfold rdH rdW; rw [WH.out]; rfl, by rw [HR.out.symm.trans ER.out]; unfold rdH rdW; rw [WH.out]; exact FRow.nil _ _, TF.out.b⟩
end Go.Proofs.YtecjlcjaccijpaaGreatDoor
