/- Feed and End. -/
import Derived.Test.YtggeihahbgeneaaDoorBRe
import Derived.Deep.QuietTactic
import Derived.BigQuiet
namespace Go.Proofs.YtggeihahbgeneaaDoor
open Go.ChangeShapes Go.WideShapes Go.ChangeAt Go.RowKit

/-- How a reader stands behind a call. -/
def FdP (w w' : World) (base gr g : Nat) (it ct : TypeId) (t : Tal) (X : List Value) : Prop :=
  (overT t = true → ∃ g', w.heap.size ≤ g' ∧ Rdr w' base gr g' 72 74 t []) ∧ (overT t = false → Rdr w' base gr g it ct t X) ∧ RK w w' gr g
theorem FdP.of {w W1 W2 : World} {base gr g : Nat} {it ct : TypeId} {t : Tal} {X : List Value} (k : RK w W1 gr g) (s : SetP W1 W2 base gr g it ct t X) : FdP w W2 base gr g it ct t X :=
  ⟨fun h => (by obtain ⟨g', h1, h2⟩ := s.1 h; exact ⟨g', Nat.le_trans k.size h1, h2⟩), s.2.1, k.trans s.2.2.1 (.inl rfl)⟩
theorem FdP.drewN {w w' : World} {base gr g : Nat} {it ct : TypeId} {t : Tal} {X : List Value} (h : FdP w w' base gr g it ct t X) (n : Nat) : FdP w (w'.drewN n) base gr g it ct t X := by
  have b := below_drewN w' n
  exact ⟨fun ho => (by obtain ⟨g', h1, h2⟩ := h.1 ho; exact ⟨g', h1, h2.below b⟩), fun ho => (h.2.1 ho).below b, h.2.2.trans (RK.of_below gr g b) (.inl rfl)⟩
theorem Rdr.fr' {w : World} {base gr g : Nat} {it ct : TypeId} {t : Tal} {X : List Value} (h : Rdr w base gr g it ct t X) : Fr w g ct t X := ⟨h.fr⟩
theorem Rdr.turn {w W : World} {base gr g : Nat} {it ct : TypeId} {t t' : Tal} {X : List Value} (h : Rdr w base gr g it ct t X) (hf : Fr W g ct t' X) (k : RK w W g g) : Rdr W base gr g it ct t' X :=
  ⟨(k.block gr (lt_heap' h.rd) h.ne h.ne).trans h.rd, hf.fr, h.ne, h.rb, h.fb⟩
theorem RK.own {w W : World} {gr g : Nat} (k : RK w W g g) : RK w W gr g := ⟨k.os, k.tape, k.output, k.size, fun i hi _ h => k.block i hi h h⟩
set_option maxHeartbeats 8000000 in
set_option maxRecDepth 100000 in
theorem feed_meas {w : World} {base gr g L : Nat} {t : Tal} (h : Rdr w base gr g 60 62 t [.int .i64 (L : Int)]) (hb : base ≤ w.heap.size) (v : Value) (b : List UInt8) (hB : Bs w w.heap.size v b) (hS : Shp v) (hL : L ≤ 9007199254740992) (hg : t.got ≤ L) (hl : b.length ≤ 140737488355328) :
    Calls Tryd.prog 12 #[.pointer (some ⟨gr, 0, none⟩), v] w fun e w' => ∃ ua uc, e = .returned (.tuple #[.slice ua (tkN b L t.got) uc, .int .i64 ((tkN b L t.got : Nat) : Int), .bool (⟨t.got + tkN b L t.got, decide (t.got + tkN b L t.got = L), t.wrong⟩ : Tal).whole, .int .i64 (((⟨t.got + tkN b L t.got, decide (t.got + tkN b L t.got = L), t.wrong⟩ : Tal).wrong : Nat) : Int)]) ∧ Row w' w.heap.size 5 (.slice ua (tkN b L t.got) uc) (bc (b.take (tkN b L t.got))) ∧ FdP w w' base gr g 60 62 ⟨t.got + tkN b L t.got, decide (t.got + tkN b L t.got = L), t.wrong⟩ [.int .i64 (L : Int)] := by
  have HH := hide h
  have HN := hide (isNone_any h)
  have HRD := hide (read_meas h.fr' g v b hB hS hL hg hl)
  have c0 := h.c0
  have HB := hide hb
  obtain ⟨va, vc, rfl, _, _⟩ := hB
  clear h hS hb
  obtain ⟨k, hk⟩ : ∃ k, tkN b L t.got = k := ⟨_, rfl⟩
  rw [hk] at HRD ⊢
  obtain ⟨tt, htt⟩ : ∃ x : Tal, (⟨t.got + k, decide (t.got + k = L), t.wrong⟩ : Tal) = x := ⟨_, rfl⟩
  rw [htt] at HRD ⊢
  clear hk htt
  go_enter Tryd.func12, Tryd.ntmps12
  go_wp2_with fail
  refine HN.out.mono ?_
  rintro e w1 ⟨rfl, rfl⟩
  clear HN
  go_wp2_with fail
  refine HRD.out.mono ?_
  rintro e W1 ⟨ua, uc, rfl, q1, q2, q3⟩
  have HR1 := hide (HH.out.turn q2 q3)
  have hw1 := q3.size
  have R1 := hide q1
  have K1 := hide (RK.own (gr := gr) q3)
  clear q1 q2 q3 HRD c0
  go_wp2_with fail
  refine (settle_any HR1.out (.inl rfl) (Nat.le_trans HB.out hw1)).mono ?_
  rintro e W2 ⟨rfl, hs⟩
  have HS := hide hs
  have R2 : Hid (Row W2 w.heap.size 5 (.slice ua k uc) (bc (b.take k))) := hide (R1.out.frame fun j e => by
    rcases Nat.lt_or_ge j w.heap.size with h1 | h1
    · have := (R1.out.lt e).1; omega
    · exact hs.2.2.1.block j (R1.out.lt e).2 (by have := lt_heap' HH.out.rd; omega) (by have := lt_heap' HH.out.fr; omega))
  have FP := hide (FdP.of K1.out hs)
  clear hs R1 K1 HR1
  cases ho : overT tt with
  | true =>
    obtain ⟨g2, _, hr2⟩ := HS.out.1 ho
    have HT := hide (told_any g2 W2)
    have c := hr2.c0
    have c1 := hr2.t1
    have c2 := hr2.t2
    clear hr2 ho
    go_wp2_with fail
    refine HT.out.mono ?_
    rintro e w3 ⟨rfl, rfl⟩
    go_wp2_with fail
    go_quiet (fail)
    go_wp2
    exact bodyPost_ret (v := .tuple #[.slice ua k uc, .int .i64 (k : Int), .bool tt.whole, .int .i64 (tt.wrong : Int)]) (by simp [results, Tryd.results12, go_sem]) rfl ⟨_, _, rfl, R2.out.below (below_drewN _ _), FP.out.drewN _⟩
  | false =>
    have hr2 := HS.out.2.1 ho
    obtain ⟨g2, hg2⟩ : ∃ x, g = x := ⟨_, rfl⟩
    rw [hg2] at hr2
    have HT := hide (told_any g2 W2)
    have c := hr2.c0
    have c1 := hr2.t1
    have c2 := hr2.t2
    clear hr2 ho hg2
    go_wp2_with fail
    refine HT.out.mono ?_
    rintro e w3 ⟨rfl, rfl⟩
    go_wp2_with fail
    go_quiet (fail)
    go_wp2
    exact bodyPost_ret (v := .tuple #[.slice ua k uc, .int .i64 (k : Int), .bool tt.whole, .int .i64 (tt.wrong : Int)]) (by simp [results, Tryd.results12, go_sem]) rfl ⟨_, _, rfl, R2.out.below (below_drewN _ _), FP.out.drewN _⟩
set_option maxHeartbeats 8000000 in
set_option maxRecDepth 100000 in
theorem feed_clos {w : World} {base gr g L : Nat} {t : Tal} (h : Rdr w base gr g 69 71 t [.int .i64 (L : Int)]) (hb : base ≤ w.heap.size) (v : Value) (b : List UInt8) (hB : Bs w w.heap.size v b) (hS : Shp v) (hL : L ≤ 9007199254740992) (hg : t.got ≤ L) (hl : b.length ≤ 140737488355328) :
    Calls Tryd.prog 12 #[.pointer (some ⟨gr, 0, none⟩), v] w fun e w' => ∃ ua uc, e = .returned (.tuple #[.slice ua (tkN b L t.got) uc, .int .i64 (((if tkN b L t.got = b.length then tkN b L t.got else tkN b L t.got + 1) : Nat) : Int), .bool (⟨t.got + tkN b L t.got, t.whole, if tkN b L t.got = b.length then t.wrong else 2⟩ : Tal).whole, .int .i64 (((⟨t.got + tkN b L t.got, t.whole, if tkN b L t.got = b.length then t.wrong else 2⟩ : Tal).wrong : Nat) : Int)]) ∧ Row w' w.heap.size 5 (.slice ua (tkN b L t.got) uc) (bc (b.take (tkN b L t.got))) ∧ FdP w w' base gr g 69 71 ⟨t.got + tkN b L t.got, t.whole, if tkN b L t.got = b.length then t.wrong else 2⟩ [.int .i64 (L : Int)] := by
  have HH := hide h
  have HN := hide (isNone_any h)
  have HRD := hide (read_clos h.fr' g v b hB hS hL hg hl)
  have c0 := h.c0
  have HB := hide hb
  obtain ⟨va, vc, rfl, _, _⟩ := hB
  clear h hS hb
  obtain ⟨k, hk⟩ : ∃ k, tkN b L t.got = k := ⟨_, rfl⟩
  rw [hk] at HRD ⊢
  obtain ⟨n, hn⟩ : ∃ n, (if k = b.length then k else k + 1) = n := ⟨_, rfl⟩
  obtain ⟨tt, htt⟩ : ∃ x : Tal, (⟨t.got + k, t.whole, if k = b.length then t.wrong else 2⟩ : Tal) = x := ⟨_, rfl⟩
  rw [htt, hn] at HRD ⊢
  clear hk htt hn
  go_enter Tryd.func12, Tryd.ntmps12
  go_wp2_with fail
  refine HN.out.mono ?_
  rintro e w1 ⟨rfl, rfl⟩
  clear HN
  go_wp2_with fail
  refine HRD.out.mono ?_
  rintro e W1 ⟨ua, uc, rfl, q1, q2, q3⟩
  have HR1 := hide (HH.out.turn q2 q3)
  have hw1 := q3.size
  have R1 := hide q1
  have K1 := hide (RK.own (gr := gr) q3)
  clear q1 q2 q3 HRD c0
  go_wp2_with fail
  refine (settle_any HR1.out (.inr (.inr (.inl rfl))) (Nat.le_trans HB.out hw1)).mono ?_
  rintro e W2 ⟨rfl, hs⟩
  have HS := hide hs
  have R2 : Hid (Row W2 w.heap.size 5 (.slice ua k uc) (bc (b.take k))) := hide (R1.out.frame fun j e => by
    rcases Nat.lt_or_ge j w.heap.size with h1 | h1
    · have := (R1.out.lt e).1; omega
    · exact hs.2.2.1.block j (R1.out.lt e).2 (by have := lt_heap' HH.out.rd; omega) (by have := lt_heap' HH.out.fr; omega))
  have FP := hide (FdP.of K1.out hs)
  clear hs R1 K1 HR1
  cases ho : overT tt with
  | true =>
    obtain ⟨g2, _, hr2⟩ := HS.out.1 ho
    have HT := hide (told_any g2 W2)
    have c := hr2.c0
    have c1 := hr2.t1
    have c2 := hr2.t2
    clear hr2 ho
    go_wp2_with fail
    refine HT.out.mono ?_
    rintro e w3 ⟨rfl, rfl⟩
    go_wp2_with fail
    go_quiet (fail)
    go_wp2
    exact bodyPost_ret (v := .tuple #[.slice ua k uc, .int .i64 (n : Int), .bool tt.whole, .int .i64 (tt.wrong : Int)]) (by simp [results, Tryd.results12, go_sem]) rfl ⟨_, _, rfl, R2.out.below (below_drewN _ _), FP.out.drewN _⟩
  | false =>
    have hr2 := HS.out.2.1 ho
    obtain ⟨g2, hg2⟩ : ∃ x, g = x := ⟨_, rfl⟩
    rw [hg2] at hr2
    have HT := hide (told_any g2 W2)
    have c := hr2.c0
    have c1 := hr2.t1
    have c2 := hr2.t2
    clear hr2 ho hg2
    go_wp2_with fail
    refine HT.out.mono ?_
    rintro e w3 ⟨rfl, rfl⟩
    go_wp2_with fail
    go_quiet (fail)
    go_wp2
    exact bodyPost_ret (v := .tuple #[.slice ua k uc, .int .i64 (n : Int), .bool tt.whole, .int .i64 (tt.wrong : Int)]) (by simp [results, Tryd.results12, go_sem]) rfl ⟨_, _, rfl, R2.out.below (below_drewN _ _), FP.out.drewN _⟩
set_option maxHeartbeats 8000000 in
set_option maxRecDepth 100000 in
theorem feed_over {w : World} {base gr g : Nat} {tt : Tal} (h : Rdr w base gr g 72 74 tt []) (hb : base ≤ w.heap.size) (va : Option Addr) (vn vc : Nat) :
    Calls Tryd.prog 12 #[.pointer (some ⟨gr, 0, none⟩), .slice va vn vc] w fun e w' => e = .returned (.tuple #[.slice none 0 0, .int .i64 0, .bool tt.whole, .int .i64 (tt.wrong : Int)]) ∧ FdP w w' base gr g 72 74 tt [] := by
  have HH := hide h
  have HN := hide (isNone_any h)
  have HRD := hide (read_over g (.slice va vn vc) w)
  have c0 := h.c0
  have HB := hide hb
  clear h hb
  go_enter Tryd.func12, Tryd.ntmps12
  go_wp2_with fail
  refine HN.out.mono ?_
  rintro e w1 ⟨rfl, rfl⟩
  clear HN
  go_wp2_with fail
  refine HRD.out.mono ?_
  rintro e w1 ⟨rfl, rfl⟩
  clear c0 HRD
  go_wp2_with fail
  refine (settle_any HH.out (.inr (.inr (.inr rfl))) HB.out).mono ?_
  rintro e W2 ⟨rfl, hs⟩
  have HS := hide hs
  have FP := hide (FdP.of (RK.refl w gr g) hs)
  clear hs
  cases ho : overT tt with
  | true =>
    obtain ⟨g2, _, hr2⟩ := HS.out.1 ho
    have HT := hide (told_any g2 W2)
    have c := hr2.c0
    have c1 := hr2.t1
    have c2 := hr2.t2
    clear hr2 ho
    go_wp2_with fail
    refine HT.out.mono ?_
    rintro e w3 ⟨rfl, rfl⟩
    go_wp2_with fail
    go_quiet (fail)
    go_wp2
    exact bodyPost_ret (v := .tuple #[.slice none 0 0, .int .i64 0, .bool tt.whole, .int .i64 (tt.wrong : Int)]) (by simp [results, Tryd.results12, go_sem]) rfl ⟨rfl, FP.out.drewN _⟩
  | false =>
    have hr2 := HS.out.2.1 ho
    obtain ⟨g2, hg2⟩ : ∃ x, g = x := ⟨_, rfl⟩
    rw [hg2] at hr2
    have HT := hide (told_any g2 W2)
    have c := hr2.c0
    have c1 := hr2.t1
    have c2 := hr2.t2
    clear hr2 ho hg2
    go_wp2_with fail
    refine HT.out.mono ?_
    rintro e w3 ⟨rfl, rfl⟩
    go_wp2_with fail
    go_quiet (fail)
    go_wp2
    exact bodyPost_ret (v := .tuple #[.slice none 0 0, .int .i64 0, .bool tt.whole, .int .i64 (tt.wrong : Int)]) (by simp [results, Tryd.results12, go_sem]) rfl ⟨rfl, FP.out.drewN _⟩
set_option maxHeartbeats 8000000 in
set_option maxRecDepth 100000 in
theorem end_meas {w : World} {base gr g L : Nat} {t : Tal} (h : Rdr w base gr g 60 62 t [.int .i64 (L : Int)]) (hb : base ≤ w.heap.size) :
    Calls Tryd.prog 16 #[.pointer (some ⟨gr, 0, none⟩)] w fun e w' => e = .returned (.tuple #[.bool ({ t with wrong := 110 } : Tal).whole, .int .i64 ((({ t with wrong := 110 } : Tal).wrong : Nat) : Int)]) ∧ FdP w w' base gr g 60 62 { t with wrong := 110 } [.int .i64 (L : Int)] := by
  have HH := hide h
  have HN := hide (isNone_any h)
  have HRD := hide (ended_tally h.fr' g)
  have c0 := h.c0
  have HB := hide hb
  clear h hb
  obtain ⟨tt, htt⟩ : ∃ x : Tal, ({ t with wrong := 110 } : Tal) = x := ⟨_, rfl⟩
  rw [htt] at HRD ⊢
  clear htt
  go_enter Tryd.func16, Tryd.ntmps16
  go_wp2_with fail
  refine HN.out.mono ?_
  rintro e w1 ⟨rfl, rfl⟩
  clear HN
  go_wp2_with fail
  refine HRD.out.mono ?_
  rintro e W1 ⟨rfl, q2, q3⟩
  have HR1 := hide (HH.out.turn q2 q3)
  have hw1 := q3.size
  have K1 := hide (RK.own (gr := gr) q3)
  clear q2 q3 HRD c0
  go_wp2_with fail
  refine (settle_any HR1.out (.inl rfl) (Nat.le_trans HB.out hw1)).mono ?_
  rintro e W2 ⟨rfl, hs⟩
  have HS := hide hs
  have FP := hide (FdP.of K1.out hs)
  clear hs K1 HR1
  cases ho : overT tt with
  | true =>
    obtain ⟨g2, _, hr2⟩ := HS.out.1 ho
    have HT := hide (told_any g2 W2)
    have c := hr2.c0
    have c1 := hr2.t1
    have c2 := hr2.t2
    clear hr2 ho
    go_wp2_with fail
    refine HT.out.mono ?_
    rintro e w3 ⟨rfl, rfl⟩
    go_wp2_with fail
    go_quiet (fail)
    go_wp2
    exact bodyPost_ret (v := .tuple #[.bool tt.whole, .int .i64 (tt.wrong : Int)]) (by simp [results, Tryd.results16, go_sem]) rfl ⟨rfl, FP.out.drewN _⟩
  | false =>
    have hr2 := HS.out.2.1 ho
    obtain ⟨g2, hg2⟩ : ∃ x, g = x := ⟨_, rfl⟩
    rw [hg2] at hr2
    have HT := hide (told_any g2 W2)
    have c := hr2.c0
    have c1 := hr2.t1
    have c2 := hr2.t2
    clear hr2 ho hg2
    go_wp2_with fail
    refine HT.out.mono ?_
    rintro e w3 ⟨rfl, rfl⟩
    go_wp2_with fail
    go_quiet (fail)
    go_wp2
    exact bodyPost_ret (v := .tuple #[.bool tt.whole, .int .i64 (tt.wrong : Int)]) (by simp [results, Tryd.results16, go_sem]) rfl ⟨rfl, FP.out.drewN _⟩
set_option maxHeartbeats 8000000 in
set_option maxRecDepth 100000 in
theorem end_clos {w : World} {base gr g L : Nat} {t : Tal} (h : Rdr w base gr g 69 71 t [.int .i64 (L : Int)]) (hb : base ≤ w.heap.size) :
    Calls Tryd.prog 16 #[.pointer (some ⟨gr, 0, none⟩)] w fun e w' => e = .returned (.tuple #[.bool ({ t with whole := true } : Tal).whole, .int .i64 ((({ t with whole := true } : Tal).wrong : Nat) : Int)]) ∧ FdP w w' base gr g 69 71 { t with whole := true } [.int .i64 (L : Int)] := by
  have HH := hide h
  have HN := hide (isNone_any h)
  have HRD := hide (ended_closed h.fr' g)
  have c0 := h.c0
  have HB := hide hb
  clear h hb
  obtain ⟨tt, htt⟩ : ∃ x : Tal, ({ t with whole := true } : Tal) = x := ⟨_, rfl⟩
  rw [htt] at HRD ⊢
  clear htt
  go_enter Tryd.func16, Tryd.ntmps16
  go_wp2_with fail
  refine HN.out.mono ?_
  rintro e w1 ⟨rfl, rfl⟩
  clear HN
  go_wp2_with fail
  refine HRD.out.mono ?_
  rintro e W1 ⟨rfl, q2, q3⟩
  have HR1 := hide (HH.out.turn q2 q3)
  have hw1 := q3.size
  have K1 := hide (RK.own (gr := gr) q3)
  clear q2 q3 HRD c0
  go_wp2_with fail
  refine (settle_any HR1.out (.inr (.inr (.inl rfl))) (Nat.le_trans HB.out hw1)).mono ?_
  rintro e W2 ⟨rfl, hs⟩
  have HS := hide hs
  have FP := hide (FdP.of K1.out hs)
  clear hs K1 HR1
  cases ho : overT tt with
  | true =>
    obtain ⟨g2, _, hr2⟩ := HS.out.1 ho
    have HT := hide (told_any g2 W2)
    have c := hr2.c0
    have c1 := hr2.t1
    have c2 := hr2.t2
    clear hr2 ho
    go_wp2_with fail
    refine HT.out.mono ?_
    rintro e w3 ⟨rfl, rfl⟩
    go_wp2_with fail
    go_quiet (fail)
    go_wp2
    exact bodyPost_ret (v := .tuple #[.bool tt.whole, .int .i64 (tt.wrong : Int)]) (by simp [results, Tryd.results16, go_sem]) rfl ⟨rfl, FP.out.drewN _⟩
  | false =>
    have hr2 := HS.out.2.1 ho
    obtain ⟨g2, hg2⟩ : ∃ x, g = x := ⟨_, rfl⟩
    rw [hg2] at hr2
    have HT := hide (told_any g2 W2)
    have c := hr2.c0
    have c1 := hr2.t1
    have c2 := hr2.t2
    clear hr2 ho hg2
    go_wp2_with fail
    refine HT.out.mono ?_
    rintro e w3 ⟨rfl, rfl⟩
    go_wp2_with fail
    go_quiet (fail)
    go_wp2
    exact bodyPost_ret (v := .tuple #[.bool tt.whole, .int .i64 (tt.wrong : Int)]) (by simp [results, Tryd.results16, go_sem]) rfl ⟨rfl, FP.out.drewN _⟩
set_option maxHeartbeats 8000000 in
set_option maxRecDepth 100000 in
theorem end_over {w : World} {base gr g : Nat} {t : Tal} (h : Rdr w base gr g 72 74 t []) (hb : base ≤ w.heap.size) :
    Calls Tryd.prog 16 #[.pointer (some ⟨gr, 0, none⟩)] w fun e w' => e = .returned (.tuple #[.bool (t : Tal).whole, .int .i64 (((t : Tal).wrong : Nat) : Int)]) ∧ FdP w w' base gr g 72 74 t [] := by
  have HH := hide h
  have HN := hide (isNone_any h)
  have HRD := hide (ended_over g w)
  have c0 := h.c0
  have HB := hide hb
  clear h hb
  obtain ⟨tt, htt⟩ : ∃ x : Tal, (t : Tal) = x := ⟨_, rfl⟩
  rw [htt]
  subst htt
  go_enter Tryd.func16, Tryd.ntmps16
  go_wp2_with fail
  refine HN.out.mono ?_
  rintro e w1 ⟨rfl, rfl⟩
  clear HN
  go_wp2_with fail
  refine HRD.out.mono ?_
  rintro e w1 ⟨rfl, rfl⟩
  clear c0 HRD
  have HR1 := HH
  have hw1 := Nat.le_refl w.heap.size
  have K1 := hide (RK.refl w gr g)
  go_wp2_with fail
  refine (settle_any HR1.out (.inr (.inr (.inr rfl))) (Nat.le_trans HB.out hw1)).mono ?_
  rintro e W2 ⟨rfl, hs⟩
  have HS := hide hs
  have FP := hide (FdP.of K1.out hs)
  clear hs K1 HR1
  cases ho : overT t with
  | true =>
    obtain ⟨g2, _, hr2⟩ := HS.out.1 ho
    have HT := hide (told_any g2 W2)
    have c := hr2.c0
    have c1 := hr2.t1
    have c2 := hr2.t2
    clear hr2 ho
    go_wp2_with fail
    refine HT.out.mono ?_
    rintro e w3 ⟨rfl, rfl⟩
    go_wp2_with fail
    go_quiet (fail)
    go_wp2
    exact bodyPost_ret (v := .tuple #[.bool t.whole, .int .i64 (t.wrong : Int)]) (by simp [results, Tryd.results16, go_sem]) rfl ⟨rfl, FP.out.drewN _⟩
  | false =>
    have hr2 := HS.out.2.1 ho
    obtain ⟨g2, hg2⟩ : ∃ x, g = x := ⟨_, rfl⟩
    rw [hg2] at hr2
    have HT := hide (told_any g2 W2)
    have c := hr2.c0
    have c1 := hr2.t1
    have c2 := hr2.t2
    clear hr2 ho hg2
    go_wp2_with fail
    refine HT.out.mono ?_
    rintro e w3 ⟨rfl, rfl⟩
    go_wp2_with fail
    go_quiet (fail)
    go_wp2
    exact bodyPost_ret (v := .tuple #[.bool t.whole, .int .i64 (t.wrong : Int)]) (by simp [results, Tryd.results16, go_sem]) rfl ⟨rfl, FP.out.drewN _⟩
end Go.Proofs.YtggeihahbgeneaaDoor
