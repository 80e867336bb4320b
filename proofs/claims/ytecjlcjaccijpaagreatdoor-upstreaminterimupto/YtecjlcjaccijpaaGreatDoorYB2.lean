/- YB2. -/
import Derived.Test.YtecjlcjaccijpaaGreatDoorYB
import Derived.Deep.QuietTactic
import Derived.BigQuiet
namespace Go.Proofs.YtecjlcjaccijpaaGreatDoor
open Go.ChangeShapes Go.WideShapes Go.ChangeAt Go.RowKit
set_option linter.unusedVariables false
set_option maxHeartbeats 16000000
set_option maxRecDepth 100000
def FdP (w w' : World) (base gr g : Nat) (it ct : TypeId) (t : Tal) (X : List Value) : Prop :=
 (overT t = true -> ∃ g', w.heap.size <= g' /\ Rdr w' base gr g' 123 125 t []) /\ (overT t = false -> Rdr w' base gr g it ct t X) /\ RK w w' gr g
theorem FdP.of {w W1 W2 : World} {base gr g : Nat} {it ct : TypeId} {t : Tal} {X : List Value} (k : RK w W1 gr g) (s : SetP W1 W2 base gr g it ct t X) : FdP w W2 base gr g it ct t X :=
 ⟨fun h => (by obtain ⟨g', h1, h2⟩ := s.1 h; exact ⟨g', Nat.le_trans k.size h1, h2⟩), s.2.1, k.trans s.2.2.1 (.inl rfl)⟩
theorem FdP.drewN {w w' : World} {base gr g : Nat} {it ct : TypeId} {t : Tal} {X : List Value} (h : FdP w w' base gr g it ct t X) (n : Nat) : FdP w (w'.drewN n) base gr g it ct t X := by
 have b := below_drewN w' n
 exact ⟨fun ho => (by obtain ⟨g', h1, h2⟩ := h.1 ho; exact ⟨g', h1, h2.below b⟩), fun ho => (h.2.1 ho).below b, h.2.2.trans (RK.of_below gr g b) (.inl rfl)⟩
theorem Rdr.fr' {w : World} {base gr g : Nat} {it ct : TypeId} {t : Tal} {X : List Value} (h : Rdr w base gr g it ct t X) : Fr w g ct t X := ⟨h.fr⟩
theorem Rdr.turn {w W : World} {base gr g : Nat} {it ct : TypeId} {t t' : Tal} {X : List Value} (h : Rdr w base gr g it ct t X) (hf : Fr W g ct t' X) (k : RK w W g g) : Rdr W base gr g it ct t' X :=
 ⟨(k.block gr (lt_heap' h.rd) h.ne h.ne).trans h.rd, hf.fr, h.ne, h.rb, h.fb⟩
theorem RK.own {w W : World} {gr g : Nat} (k : RK w W g g) : RK w W gr g := ⟨k.os, k.tape, k.output, k.size, fun i hi _ h => k.block i hi h h⟩
theorem feed_meas {w : World} {base gr g L : Nat} {t : Tal} (h : Rdr w base gr g 188 190 t [.int .i64 (L : Int)]) (hb : base <= w.heap.size) (v : Value) (b : List UInt8) (hB : Bs w w.heap.size v b) (hS : Shp v) (hL : L <= 9007199254740992) (hg : t.got <= L) (hl : b.length <= 140737488355328) :
  Calls Tryz.prog 109 #[.pointer (some ⟨gr, 0, none⟩), v] w fun e w' => ∃ ua uc, e = .returned (.tuple #[.slice ua (tkN b L t.got) uc, .int .i64 ((tkN b L t.got : Nat) : Int), .bool (⟨t.got + tkN b L t.got, decide (t.got + tkN b L t.got = L), t.wrong⟩ : Tal).whole, .int .i64 (((⟨t.got + tkN b L t.got, decide (t.got + tkN b L t.got = L), t.wrong⟩ : Tal).wrong : Nat) : Int)]) /\ Row w' w.heap.size 5 (.slice ua (tkN b L t.got) uc) (bc (b.take (tkN b L t.got))) /\ FdP w w' base gr g 188 190 ⟨t.got + tkN b L t.got, decide (t.got + tkN b L t.got = L), t.wrong⟩ [.int .i64 (L : Int)] := by
 have HH := hide h
 have HN := hide (isNone_any h)
 have HRD := hide (read_meas h.fr' g v b hB hS hL hg hl)
 have c0 := h.c0
 have HB := hide hb
 obtain ⟨va, vc, rfl, _, _⟩ := hB
 clear h hS hb
 obtain ⟨k, hk⟩ : ∃ k, tkN b L t.got = k := ⟨_, rfl⟩
 rw [hk] at HRD |-
 obtain ⟨tt, htt⟩ : ∃ x : Tal, (⟨t.got + k, decide (t.got + k = L), t.wrong⟩ : Tal) = x := ⟨_, rfl⟩
 rw [htt] at HRD |-
 clear hk htt
 go_enter Tryz.func109, Tryz.ntmps109
 go_wp2_with fail
 refine HN.out.mono ?_
 rintro e w1 ⟨rfl, rfl⟩
 clear HN
 go_wp2_with fail
 refine HRD.out.mono ?_
 rintro e W1 ⟨ua, uc, rfl, q1, q2, q3⟩
 have HR1 := hide (HH.out.turn q2 q3)
 have hw1 := q3.size
 have R1 := hide q1
 have K1 := hide (RK.own (gr := gr) q3)
 clear q1 q2 q3 HRD c0
 go_wp2_with fail
 refine (settle_any HR1.out (.inl rfl) (Nat.le_trans HB.out hw1)).mono ?_
 rintro e W2 ⟨rfl, hs⟩
 have HS := hide hs
 have R2 : Hid (Row W2 w.heap.size 5 (.slice ua k uc) (bc (b.take k))) := hide (R1.out.frame fun j e => by
  rcases Nat.lt_or_ge j w.heap.size with h1 | h1
  ·have := (R1.out.lt e).1; omega
  ·exact hs.2.2.1.block j (R1.out.lt e).2 (by have := lt_heap' HH.out.rd; omega) (by have := lt_heap' HH.out.fr; omega))
 have FP := hide (FdP.of K1.out hs)
 clear hs R1 K1 HR1
 cases ho : overT tt with
 | true =>
  obtain ⟨g2, _, hr2⟩ := HS.out.1 ho
  have HT := hide (told_any g2 W2)
  have c := hr2.c0
  have c1 := hr2.t1
  have c2 := hr2.t2
  clear hr2 ho
  go_wp2_with fail
  refine HT.out.mono ?_
  rintro e w3 ⟨rfl, rfl⟩
  go_wp2_with fail
  go_quiet (fail)
  go_wp2
  exact bodyPost_ret (v := .tuple #[.slice ua k uc, .int .i64 (k : Int), .bool tt.whole, .int .i64 (tt.wrong : Int)]) (by simp [results, Tryz.results109, go_sem]) rfl ⟨_, _, rfl, R2.out.below (below_drewN _ _), FP.out.drewN _⟩
 | false =>
  have hr2 := HS.out.2.1 ho
  obtain ⟨g2, hg2⟩ : ∃ x, g = x := ⟨_, rfl⟩
  rw [hg2] at hr2
  have HT := hide (told_any g2 W2)
  have c := hr2.c0
  have c1 := hr2.t1
  have c2 := hr2.t2
  clear hr2 ho hg2
  go_wp2_with fail
  refine HT.out.mono ?_
  rintro e w3 ⟨rfl, rfl⟩
  go_wp2_with fail
  go_quiet (fail)
  go_wp2
  exact bodyPost_ret (v := .tuple #[.slice ua k uc, .int .i64 (k : Int), .bool tt.whole, .int .i64 (tt.wrong : Int)]) (by simp [results, Tryz.results109, go_sem]) rfl ⟨_, _, rfl, R2.out.below (below_drewN _ _), FP.out.drewN _⟩
theorem feed_clos {w : World} {base gr g L : Nat} {t : Tal} (h : Rdr w base gr g 197 199 t [.int .i64 (L : Int)]) (hb : base <= w.heap.size) (v : Value) (b : List UInt8) (hB : Bs w w.heap.size v b) (hS : Shp v) (hL : L <= 9007199254740992) (hg : t.got <= L) (hl : b.length <= 140737488355328) :
  Calls Tryz.prog 109 #[.pointer (some ⟨gr, 0, none⟩), v] w fun e w' => ∃ ua uc, e = .returned (.tuple #[.slice ua (tkN b L t.got) uc, .int .i64 (((if tkN b L t.got = b.length then tkN b L t.got else tkN b L t.got + 1) : Nat) : Int), .bool (⟨t.got + tkN b L t.got, t.whole, if tkN b L t.got = b.length then t.wrong else 2⟩ : Tal).whole, .int .i64 (((⟨t.got + tkN b L t.got, t.whole, if tkN b L t.got = b.length then t.wrong else 2⟩ : Tal).wrong : Nat) : Int)]) /\ Row w' w.heap.size 5 (.slice ua (tkN b L t.got) uc) (bc (b.take (tkN b L t.got))) /\ FdP w w' base gr g 197 199 ⟨t.got + tkN b L t.got, t.whole, if tkN b L t.got = b.length then t.wrong else 2⟩ [.int .i64 (L : Int)] := by
 have HH := hide h
 have HN := hide (isNone_any h)
 have HRD := hide (read_clos h.fr' g v b hB hS hL hg hl)
 have c0 := h.c0
 have HB := hide hb
 obtain ⟨va, vc, rfl, _, _⟩ := hB
 clear h hS hb
 obtain ⟨k, hk⟩ : ∃ k, tkN b L t.got = k := ⟨_, rfl⟩
 rw [hk] at HRD |-
 obtain ⟨n, hn⟩ : ∃ n, (if k = b.length then k else k + 1) = n := ⟨_, rfl⟩
 obtain ⟨tt, htt⟩ : ∃ x : Tal, (⟨t.got + k, t.whole, if k = b.length then t.wrong else 2⟩ : Tal) = x := ⟨_, rfl⟩
 rw [htt, hn] at HRD |-
 clear hk htt hn
 go_enter Tryz.func109, Tryz.ntmps109
 go_wp2_with fail
 refine HN.out.mono ?_
 rintro e w1 ⟨rfl, rfl⟩
 clear HN
 go_wp2_with fail
 refine HRD.out.mono ?_
 rintro e W1 ⟨ua, uc, rfl, q1, q2, q3⟩
 have HR1 := hide (HH.out.turn q2 q3)
 have hw1 := q3.size
 have R1 := hide q1
 have K1 := hide (RK.own (gr := gr) q3)
 clear q1 q2 q3 HRD c0
 go_wp2_with fail
 refine (settle_any HR1.out (.inr (.inr (.inl rfl))) (Nat.le_trans HB.out hw1)).mono ?_
 rintro e W2 ⟨rfl, hs⟩
 have HS := hide hs
 have R2 : Hid (Row W2 w.heap.size 5 (.slice ua k uc) (bc (b.take k))) := hide (R1.out.frame fun j e => by
  rcases Nat.lt_or_ge j w.heap.size with h1 | h1
  ·have := (R1.out.lt e).1; omega
  ·exact hs.2.2.1.block j (R1.out.lt e).2 (by have := lt_heap' HH.out.rd; omega) (by have := lt_heap' HH.out.fr; omega))
 have FP := hide (FdP.of K1.out hs)
 clear hs R1 K1 HR1
 cases ho : overT tt with
 | true =>
  obtain ⟨g2, _, hr2⟩ := HS.out.1 ho
  have HT := hide (told_any g2 W2)
  have c := hr2.c0
  have c1 := hr2.t1
  have c2 := hr2.t2
  clear hr2 ho
  go_wp2_with fail
  refine HT.out.mono ?_
  rintro e w3 ⟨rfl, rfl⟩
  go_wp2_with fail
  go_quiet (fail)
  go_wp2
  exact bodyPost_ret (v := .tuple #[.slice ua k uc, .int .i64 (n : Int), .bool tt.whole, .int .i64 (tt.wrong : Int)]) (by simp [results, Tryz.results109, go_sem]) rfl ⟨_, _, rfl, R2.out.below (below_drewN _ _), FP.out.drewN _⟩
 | false =>
  have hr2 := HS.out.2.1 ho
  obtain ⟨g2, hg2⟩ : ∃ x, g = x := ⟨_, rfl⟩
  rw [hg2] at hr2
  have HT := hide (told_any g2 W2)
  have c := hr2.c0
  have c1 := hr2.t1
  have c2 := hr2.t2
  clear hr2 ho hg2
  go_wp2_with fail
  refine HT.out.mono ?_
  rintro e w3 ⟨rfl, rfl⟩
  go_wp2_with fail
  go_quiet (fail)
  go_wp2
  exact bodyPost_ret (v := .tuple #[.slice ua k uc, .int .i64 (n : Int), .bool tt.whole, .int .i64 (tt.wrong : Int)]) (by simp [results, Tryz.results109, go_sem]) rfl ⟨_, _, rfl, R2.out.below (below_drewN _ _), FP.out.drewN _⟩
def frV (k len : Int) (x : Bool) : Value := .agg #[.int .i64 k, .int .i64 len, .bool x]
def isR (k len : Int) : Bool := if k = 2 then decide (0 <= len /\ len <= 9007199254740992) else if k = 1 ∨ k = 3 ∨ k = 4 then decide (len = 0) else false
theorem isRight_any (k len : Int) (x : Bool) (w : World) : Calls Tryz.prog 107 #[frV k len x] w fun e w' => e = .returned (.bool (isR k len)) /\ Below w.heap.size w w' := by
 have fin : ∀ W, W = w.alloc (.cells #[.int .i64 k, .int .i64 len, .bool x] 29) -> Below w.heap.size w W := by rintro W rfl; exact (Below.refl w.heap.size w).alloc (Nat.le_refl _) _
 have FIN := hide fin
 clear fin
 unfold frV
 obtain ⟨R, hR⟩ : ∃ R, isR k len = R := ⟨_, rfl⟩
 rw [hR]
 unfold isR at hR
 by_cases h2 : k = 2
 ·subst h2
  rw [if_pos rfl] at hR
  by_cases h3 : 0 <= len
  ·by_cases h4 : len <= 9007199254740992
   ·have HR := hide (hR.symm.trans (decide_eq_true (And.intro h3 h4)))
    clear hR
    go_enter Tryz.func107, Tryz.ntmps107
    go_wp2
    go_ret
    exact ⟨ret_bool (by first | (rw [HR.out]) | (rw [HR.out]; simp; omega)), FIN.out _ rfl⟩
   ·have HR := hide (hR.symm.trans (decide_eq_false (fun h => h4 h.2)))
    clear hR
    go_enter Tryz.func107, Tryz.ntmps107
    go_wp2
    go_ret
    exact ⟨ret_bool (by first | (rw [HR.out]) | (rw [HR.out]; simp; omega)), FIN.out _ rfl⟩
  ·have HR := hide (hR.symm.trans (decide_eq_false (fun h => h3 h.1)))
   clear hR
   go_enter Tryz.func107, Tryz.ntmps107
   go_wp2
   go_ret
   exact ⟨ret_bool (by first | (rw [HR.out]) | (rw [HR.out]; simp; omega)), FIN.out _ rfl⟩
 ·have t2 : (k == 2) = false := by rw [beq_eq_false_iff_ne]; exact h2
  rw [if_neg h2] at hR
  by_cases h134 : k = 1 ∨ k = 3 ∨ k = 4
  ·rw [if_pos h134] at hR
   have HR := hide hR
   have HL : Hid ((len == 0) = decide (len = 0)) := hide (by rw [Bool.eq_iff_iff]; simp)
   clear hR h2 t2
   rcases h134 with rfl | rfl | rfl
   all_goals (
    go_enter Tryz.func107, Tryz.ntmps107
    go_wp2
    go_ret
    exact ⟨ret_bool (by rw [<- HR.out]; exact HL.out), FIN.out _ rfl⟩)
  ·rw [if_neg h134] at hR
   rw [not_or, not_or] at h134
   have t1 : (k == 1) = false := by rw [beq_eq_false_iff_ne]; exact h134.1
   have t3 : (k == 3) = false := by rw [beq_eq_false_iff_ne]; exact h134.2.1
   have t4 : (k == 4) = false := by rw [beq_eq_false_iff_ne]; exact h134.2.2
   have HR := hide hR
   clear hR h2 h134
   go_enter Tryz.func107, Tryz.ntmps107
   go_wp2
   go_ret
   exact ⟨ret_bool HR.out, FIN.out _ rfl⟩
def FbP (w w' : World) (r : Value) (it ct : TypeId) (t : Tal) (X : List Value) : Prop := ∃ g, r = .iface it (.pointer (some ⟨g, 0, none⟩)) /\ w.heap.size <= g /\ w'.heap[g]? = some (.cells (talC t ++ X).toArray ct (0, 0)) /\ Below w.heap.size w w'
theorem fb_mk {w : World} (a : Array Value) (ta : TypeId) (it ct : TypeId) (t : Tal) (X : List Value) : FbP w ((w.alloc (.cells a ta)).alloc (.cells (talC t ++ X).toArray ct)) (.iface it (.pointer (some ⟨w.heap.size + 1, 0, none⟩))) it ct t X := by
 have h := hp_new (w.alloc (.cells a ta)) (.cells (talC t ++ X).toArray ct)
 have hs : (w.alloc (.cells a ta)).heap.size = w.heap.size + 1 := by simp
 rw [hs] at h
 exact ⟨w.heap.size + 1, rfl, by omega, h, ((Below.refl w.heap.size w).alloc (Nat.le_refl _) _).alloc (by omega) _⟩
theorem framed_len (len : Nat) (x : Bool) (most : Int) (w : World) : Calls Tryz.prog 108 #[frV 2 (len : Int) x, .int .i64 most] w fun e w' => ∃ r, e = .returned r /\ FbP w w' r 188 190 ⟨0, decide (len = 0), 0⟩ [.int .i64 (len : Int)] := by
 have HF := hide (fb_mk (w := w) #[.int .i64 2, .int .i64 (len : Int), .bool x] 29 188 190 ⟨0, decide (len = 0), 0⟩ [.int .i64 (len : Int)])
 have HL : ((len : Int) == 0) = decide (len = 0) := by rw [Bool.eq_iff_iff]; simp
 unfold frV
 go_enter Tryz.func108, Tryz.ntmps108
 go_wp2
 go_ret
 exact ⟨_, rfl, HF.out⟩
theorem framed_clos (len : Int) (x : Bool) (most : Nat) (w : World) : Calls Tryz.prog 108 #[frV 4 len x, .int .i64 (most : Int)] w fun e w' => ∃ r, e = .returned r /\ FbP w w' r 197 199 ⟨0, false, 0⟩ [.int .i64 (most : Int)] := by
 have HF := hide (fb_mk (w := w) #[.int .i64 4, .int .i64 len, .bool x] 29 197 199 ⟨0, false, 0⟩ [.int .i64 (most : Int)])
 unfold frV
 go_enter Tryz.func108, Tryz.ntmps108
 go_wp2
 go_ret
 exact ⟨_, rfl, HF.out⟩
theorem framed_none (len : Int) (x : Bool) (most : Int) (w : World) : Calls Tryz.prog 108 #[frV 1 len x, .int .i64 most] w fun e w' => ∃ r, e = .returned r /\ FbP w w' r 123 125 ⟨0, true, 0⟩ [] := by
 have HF := hide (fb_mk (w := w) #[.int .i64 1, .int .i64 len, .bool x] 29 123 125 ⟨0, true, 0⟩ [])
 unfold frV
 go_enter Tryz.func108, Tryz.ntmps108
 go_wp2
 go_ret
 exact ⟨_, rfl, HF.out⟩
def NwP (w w' : World) (e : Ending) (it ct : TypeId) (t : Tal) (X : List Value) : Prop := ∃ gr g, e = .returned (.tuple #[.pointer (some ⟨gr, 0, none⟩), .int .i64 0]) /\ w.heap.size <= gr /\ w.heap.size <= g /\ Below w.heap.size w w' /\ (overT t = true -> ∃ g', w.heap.size <= g' /\ Rdr w' w.heap.size gr g' 123 125 t []) /\ (overT t = false -> Rdr w' w.heap.size gr g it ct t X)
theorem new_of {k len : Int} {x : Bool} {most : Int} {w : World} {it ct : TypeId} {t : Tal} {X : List Value} (hk : KT it) (h0 : 0 <= most) (hm : most <= 9007199254740992) (hr : isR k len = true) (hl : len <= most)
  (hf : ∀ W, Calls Tryz.prog 108 #[frV k len x, .int .i64 most] W fun e w' => ∃ r, e = .returned r /\ FbP W w' r it ct t X) :
  Calls Tryz.prog 88 #[frV k len x, .int .i64 most] w fun e w' => NwP w w' e it ct t X := by
 have HF := hide hf
 have HI := hide (fun W => isRight_any k len x W)
 rw [hr] at HI
 have HK := hide hk
 have t1 : ¬ most < 0 := by omega
 have t2 : ¬ 9007199254740992 < most := by omega
 have t3 : ¬ most < len := by omega
 clear hf hk hr
 unfold frV at HF HI |-
 go_enter Tryz.func88, Tryz.ntmps88
 have BA := hide ((Below.refl w.heap.size w).alloc (Nat.le_refl _) (.cells #[.int .i64 k, .int .i64 len, .bool x] 29))
 have HB := hide (hp_new w (.cells #[.int .i64 k, .int .i64 len, .bool x] 29))
 have HLT := lt_heap' HB.out
 go_upto_region 1 with fail
 generalize w.alloc (.cells #[.int .i64 k, .int .i64 len, .bool x] 29) = W0 at BA HB HLT |-
 have c0 : W0.cell? ⟨w.heap.size, 0, none⟩ = some (.int .i64 k) := cell_at HB.out 0
 have c1 : W0.cell? ⟨w.heap.size, 1, none⟩ = some (.int .i64 len) := cell_at HB.out 1
 have c2 : W0.cell? ⟨w.heap.size, 2, none⟩ = some (.bool x) := cell_at HB.out 2
 go_wp2_with fail
 refine (HI.out W0).mono ?_
 rintro e W1 ⟨rfl, b1⟩
 have B1 := hide (BA.out.trans (b1.mono BA.out.size))
 have HB1 := hide ((b1.block w.heap.size HLT).trans HB.out)
 clear c0 c1 c2 b1 HI
 have c0 : W1.cell? ⟨w.heap.size, 0, none⟩ = some (.int .i64 k) := cell_at HB1.out 0
 have c1 : W1.cell? ⟨w.heap.size, 1, none⟩ = some (.int .i64 len) := cell_at HB1.out 1
 have c2 : W1.cell? ⟨w.heap.size, 2, none⟩ = some (.bool x) := cell_at HB1.out 2
 go_wp2_with fail
 refine (HF.out W1).mono ?_
 rintro e W2 ⟨r, rfl, g, rfl, hg, hfr, b2⟩
 have B2 := hide (B1.out.trans (b2.mono B1.out.size))
 have HG := hide hg
 have HFR := hide hfr
 have hgl := lt_heap' hfr
 clear c0 c1 c2 b2 hg hfr HF
 go_upto_region 6 with fail
 have BN := hide ((Below.refl W2.heap.size W2).alloc (Nat.le_refl _) (.cells #[.iface it (.pointer (some ⟨g, 0, none⟩))] 90))
 have HN := hide (hp_new W2 (.cells #[.iface it (.pointer (some ⟨g, 0, none⟩))] 90))
 have hww : w.heap.size <= W1.heap.size := B1.out.size
 have hw2 : w.heap.size <= W2.heap.size := B2.out.size
 have HRD : Hid (Rdr (W2.alloc (.cells #[.iface it (.pointer (some ⟨g, 0, none⟩))] 90)) w.heap.size W2.heap.size g it ct t X) := hide ⟨HN.out, (BN.out.block g hgl).trans HFR.out, by omega, hw2, by have := HG.out; omega⟩
 have B3 := hide (B2.out.trans (BN.out.mono B2.out.size))
 generalize W2.alloc (.cells #[.iface it (.pointer (some ⟨g, 0, none⟩))] 90) = W3 at BN HN HRD B3 |-
 go_wp2_with fail
 refine (settle_any HRD.out HK.out B3.out.size).mono ?_
 rintro e W4 ⟨rfl, hs⟩
 have HS := hide hs
 have B4 := hide (B3.out.trans (hs.2.2.1.low hw2 (by have := HG.out; omega) B3.out.size))
 clear hs
 go_wp2
 go_ret2
 exact ⟨W2.heap.size, g, rfl, hw2, by have := HG.out; omega, B4.out, fun h => (by obtain ⟨g', q1, q2⟩ := HS.out.1 h; exact ⟨g', Nat.le_trans B3.out.size q1, q2⟩), HS.out.2.1⟩
end Go.Proofs.YtecjlcjaccijpaaGreatDoor
