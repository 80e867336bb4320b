/- Merged: BTk BRe BFd BNew BSay BEx. -/
import Derived.Test.YtggeihahbgeneaaDoorBRd
import Derived.Test.YtggeihahbgeneaaDoorCGrow
import Derived.Deep.QuietTactic
import Derived.BigQuiet
import Derived.Lib.SlBytesConst
import Derived.Deep.RegionHeld3
namespace Go.Proofs.YtggeihahbgeneaaDoor
open Go.ChangeShapes Go.WideShapes Go.ChangeAt Go.RowKit

def tkN (b : List UInt8) (most got : Nat) : Nat := min b.length (most - got)
/-- A framing's block. -/
structure Fr (w : World) (g : Nat) (ct : TypeId) (t : Tal) (X : List Value) : Prop where
  fr : w.heap[g]? = some (.cells (talC t ++ X).toArray ct (0, 0))
theorem Fr.c {w : World} {g : Nat} {ct : TypeId} {t : Tal} {X : List Value} (h : Fr w g ct t X) (i : Nat) : w.cell? ⟨g, i, none⟩ = (talC t ++ X).toArray[i]? := cell_at h.fr i
theorem Fr.f {w : World} {g : Nat} {ct : TypeId} {t : Tal} {X : List Value} (h : Fr w g ct t X) (i : Nat) : w.frozen? ⟨g, i, none⟩ = false := by rw [frozen_at h.fr]; simp
theorem Fr.below {w w' : World} {g : Nat} {ct : TypeId} {t : Tal} {X : List Value} (h : Fr w g ct t X) (b : Below w.heap.size w w') : Fr w' g ct t X := ⟨(b.block g (lt_heap' h.fr)).trans h.fr⟩
theorem Fr.lt {w : World} {g : Nat} {ct : TypeId} {t : Tal} {X : List Value} (h : Fr w g ct t X) : g < w.heap.size := lt_heap' h.fr
set_option maxHeartbeats 4000000 in
set_option maxRecDepth 100000 in
theorem take_t {w : World} {g : Nat} {ct : TypeId} {t : Tal} {X : List Value} (h : Fr w g ct t X) (gr : Nat) (v : Value) (b : List UInt8) (most : Nat) (hB : Bs w w.heap.size v b) (hS : Shp v) (hm : most ≤ 9007199254740992) (hg : t.got ≤ most) (hl : b.length ≤ 140737488355328) :
    Calls Tryd.prog 102 #[.pointer (some ⟨g, 0, none⟩), v, .int .i64 (most : Int)] w fun e w' => ∃ ua uc, e = .returned (.slice ua (tkN b most t.got) uc) ∧ Row w' w.heap.size 5 (.slice ua (tkN b most t.got) uc) (bc (b.take (tkN b most t.got))) ∧ Fr w' g ct { t with got := t.got + tkN b most t.got } X ∧ RK w w' gr g := by
  have HH := hide h
  have c0 : w.cell? ⟨g, 0, none⟩ = some (.int .i64 (t.got : Int)) := h.c 0
  have hgl := h.lt
  obtain ⟨va, vc, rfl, hvc, hvx⟩ := hB
  have HVX := hide hvx
  clear h hvx
  have hsub : (most : Int) - (t.got : Int) = ((most - t.got : Nat) : Int) := by omega
  rcases hS with h2 | ⟨a, n, c, h2⟩
  · simp only [Value.slice.injEq] at h2
    obtain ⟨rfl, hb0, rfl⟩ := h2
    have hbe : b = [] := List.eq_nil_of_length_eq_zero hb0
    subst hbe
    have hk : tkN [] most t.got = 0 := by unfold tkN; simp
    rw [hk]
    have hmin : min (0 : Int) ((most - t.got : Nat) : Int) = 0 := by omega
    have HF : Hid ({ t with got := t.got + 0 } = t) := hide rfl
    go_enter Tryd.func102, Tryd.ntmps102
    go_wp2_with (at_builtin; apply Hid.out)
    unfold Hid
    refine wpList_append_bs_k rfl _ _ rfl w w.heap.size w.heap.size (.slice none 0 0) (.slice none 0 0) [] [] rfl rfl (Row.nil _ _ _) ⟨none, 0, rfl, Nat.le_refl _, fun j hj => by simp at hj⟩ (.inl rfl) (by simp) (Nat.le_refl _) ?_
    intro u W1 O1 B1 _
    obtain ⟨ua, uc, rfl⟩ : ∃ a c, u = .slice a 0 c := by
      obtain ⟨a, c, h, _⟩ := O1.shape
      exact ⟨a, c, h⟩
    have R1 := hide O1
    have BB := hide B1
    have F1 := hide (HH.out.below B1)
    clear O1 B1 c0
    have c0 : W1.cell? ⟨g, 0, none⟩ = some (.int .i64 (t.got : Int)) := F1.out.c 0
    have f0 := F1.out.f 0
    have FRS : Hid ((W1.setCell ⟨g, 0, none⟩ (.int .i64 (t.got : Int))).heap[g]? = some (.cells (talC t ++ X).toArray ct (0, 0))) := hide (by have h := hp_set F1.out.fr 0 (.int .i64 (t.got : Int)); simpa [talC] using h)
    go_wp2_with fail
    go_ret
    exact ⟨_, _, rfl, R1.out.frame fun j e => Below.heap_setCell W1 ⟨g, 0, none⟩ _ j (fun e2 => by have := (R1.out.lt e).1; have e3 : j = g := e2; omega), ⟨FRS.out⟩, (RK.of_below gr g BB.out).trans (RK.set W1 gr g 0 _) (.inl rfl)⟩
  · simp only [Value.slice.injEq] at h2
    obtain ⟨rfl, h3, h4⟩ := h2
    clear h3 h4
    obtain ⟨k, hk⟩ : ∃ k, tkN b most t.got = k := ⟨_, rfl⟩
    rw [hk]
    have hmin : min (b.length : Int) ((most - t.got : Nat) : Int) = (k : Int) := by unfold tkN at hk; omega
    have hkl : k ≤ b.length := by unfold tkN at hk; omega
    have hkm : t.got + k ≤ most := by unfold tkN at hk; omega
    have hlk : (b.take k).length = k := by rw [List.length_take]; omega
    have HLK := hide hlk
    have HBK : Hid (Bs w w.heap.size (.slice (some a) k vc) (b.take k)) := hide ⟨some a, vc, by rw [hlk], by rw [hlk]; omega, fun j hj => by
      rw [hlk] at hj
      obtain ⟨g', o', q1, q2, q3, q4⟩ := HVX.out j (by omega)
      exact ⟨g', o', q1, q2, q3, by rw [q4]; simp⟩⟩
    have hkv : k ≤ vc := by omega
    obtain ⟨S, hS2⟩ : ∃ S, t.got + k = S := ⟨_, rfl⟩
    have hpl : (t.got : Int) + (k : Int) = (S : Int) := by omega
    have hSb : S ≤ 9007199254740992 := by omega
    have HS2 := hide hS2
    clear hk hlk hS2
    go_enter Tryd.func102, Tryd.ntmps102
    go_wp2_with (at_builtin; apply Hid.out)
    unfold Hid
    refine wpList_append_bs_k rfl _ _ rfl w w.heap.size w.heap.size (.slice none 0 0) (.slice (some a) k vc) [] (b.take k) rfl rfl (Row.nil _ _ _) HBK.out (.inr ⟨_, _, _, rfl⟩) (by rw [HLK.out]; simp; omega) (Nat.le_refl _) ?_
    intro u W1 O1 B1 _
    rw [List.nil_append] at O1
    obtain ⟨ua, uc, rfl⟩ : ∃ a c, u = .slice a k c := by
      obtain ⟨a, c, h, _⟩ := O1.shape
      rw [bc_len, HLK.out] at h
      exact ⟨a, c, h⟩
    have R1 := hide O1
    have BB := hide B1
    have F1 := hide (HH.out.below B1)
    clear O1 B1 c0
    have c0 : W1.cell? ⟨g, 0, none⟩ = some (.int .i64 (t.got : Int)) := F1.out.c 0
    have f0 := F1.out.f 0
    have FRS : Hid ((W1.setCell ⟨g, 0, none⟩ (.int .i64 (S : Int))).heap[g]? = some (.cells (talC { t with got := S } ++ X).toArray ct (0, 0))) := hide (by have h := hp_set F1.out.fr 0 (.int .i64 (S : Int)); simpa [talC] using h)
    go_wp2_with fail
    go_ret
    exact ⟨_, _, rfl, R1.out.frame fun j e => Below.heap_setCell W1 ⟨g, 0, none⟩ _ j (fun e2 => by have := (R1.out.lt e).1; have e3 : j = g := e2; omega), ⟨by rw [HS2.out]; exact FRS.out⟩, (RK.of_below gr g BB.out).trans (RK.set W1 gr g 0 _) (.inl rfl)⟩
end Go.Proofs.YtggeihahbgeneaaDoor
namespace Go.Proofs.YtggeihahbgeneaaDoor
open Go.ChangeShapes Go.WideShapes Go.ChangeAt Go.RowKit

theorem calls_exR {P : Program} {f : Nat} {args : Array Value} {w : World} {Q : Ending → World → Prop} {R : Value → World → Prop} (c : Calls P f args w Q) (h : ∀ e w', Q e w' → ∃ u, e = .returned u ∧ R u w') : Calls P f args w fun e w' => ∃ u, e = .returned u ∧ R u w' := c.mono h
/-- What a read tells. -/
def RdP (w w' : World) (gr g : Nat) (ct : TypeId) (body : List UInt8) (t' : Tal) (X : List Value) (ua : Option Addr) (k uc : Nat) : Prop :=
  Row w' w.heap.size 5 (.slice ua k uc) (bc body) ∧ Fr w' g ct t' X ∧ RK w w' gr g
theorem Fr.set {w : World} {g : Nat} {ct : TypeId} {t t' : Tal} {X : List Value} (h : Fr w g ct t X) (i : Nat) (v : Value) (hc : (talC t ++ X).toArray.setIfInBounds i v = (talC t' ++ X).toArray) : Fr (w.setCell ⟨g, i, none⟩ v) g ct t' X := ⟨by rw [← hc]; exact hp_set h.fr i v⟩
set_option maxHeartbeats 4000000 in
set_option maxRecDepth 100000 in
theorem read_meas {w : World} {g L : Nat} {t : Tal} (h : Fr w g 62 t [.int .i64 (L : Int)]) (gr : Nat) (v : Value) (b : List UInt8) (hB : Bs w w.heap.size v b) (hS : Shp v) (hL : L ≤ 9007199254740992) (hg : t.got ≤ L) (hl : b.length ≤ 140737488355328) :
    Calls Tryd.prog 101 #[.pointer (some ⟨g, 0, none⟩), v] w fun e w' => ∃ ua uc, e = .returned (.tuple #[.slice ua (tkN b L t.got) uc, .int .i64 ((tkN b L t.got : Nat) : Int)]) ∧ RdP w w' gr g 62 (b.take (tkN b L t.got)) ⟨t.got + tkN b L t.got, decide (t.got + tkN b L t.got = L), t.wrong⟩ [.int .i64 (L : Int)] ua (tkN b L t.got) uc := by
  have hgl := h.lt
  have BD := hide ((Below.refl w.heap.size w).drew)
  have HTK := hide (take_t (h.below BD.out) gr v b L (hB.below (Nat.le_refl _) BD.out) hS hL hg hl)
  have c3 : w.cell? ⟨g, 3, none⟩ = some (.int .i64 (L : Int)) := h.c 3
  have hS' : t.got + tkN b L t.got ≤ L := by unfold tkN; omega
  have hkl : tkN b L t.got ≤ b.length := by unfold tkN; omega
  obtain ⟨va, vc, rfl, _, _⟩ := hB
  clear h hS
  generalize tkN b L t.got = k at HTK hS' hkl ⊢
  obtain ⟨S, hS2⟩ : ∃ S, t.got + k = S := ⟨_, rfl⟩
  rw [hS2] at HTK hS' ⊢
  clear hS2
  go_enter Tryd.func101, Tryd.ntmps101
  go_upto_region 1 with fail
  go_region_law (refine step_call rfl 102 _ _ rfl (enters_of Tryd.func102 (by kernel_rfl) rfl) #[.pointer (some ⟨g, 0, none⟩), .slice va b.length vc, .int .i64 (L : Int)] (by simp [Act.eval]) (fun r w' => ∃ ua uc, r = .slice ua k uc ∧ Row w' w.drew.heap.size 5 (.slice ua k uc) (bc (b.take k)) ∧ Fr w' g 62 { t with got := S } [.int .i64 (L : Int)] ∧ RK w.drew w' gr g) (calls_exR HTK.out (by rintro e w' ⟨ua, uc, rfl, q1, q2, q3⟩; exact ⟨_, rfl, ua, uc, rfl, q1, q2, q3⟩)) ?_; rintro r W1 ⟨ua, uc, rfl, q1, q2, q3⟩)
  all_goals (
    have R1 : Hid (Row W1 w.heap.size 5 (.slice ua k uc) (bc (b.take k))) := hide q1
    have F1 := hide q2
    have K1 := hide ((RK.of_below gr g BD.out).trans q3 (.inl rfl))
    clear q1 q2 q3 c3 HTK
    have d0 : W1.cell? ⟨g, 0, none⟩ = some (.int .i64 (S : Int)) := F1.out.c 0
    have d1 : W1.cell? ⟨g, 1, none⟩ = some (.bool t.whole) := F1.out.c 1
    have d3 : W1.cell? ⟨g, 3, none⟩ = some (.int .i64 (L : Int)) := F1.out.c 3
    have f1 : W1.frozen? ⟨g, 1, none⟩ = false := F1.out.f 1
    have htb : ((S : Int) == (L : Int)) = decide (S = L) := by rw [Bool.eq_iff_iff]; simp only [beq_iff_eq, decide_eq_true_eq, Int.natCast_inj]
    go_upto_region 2 with fail
    go_region_law (fail)
    all_goals (
      have F2 := hide ((F1.out.set (t' := ⟨S, decide (S = L), t.wrong⟩) 1 (.bool (decide (S = L))) rfl).below ((Below.refl _ _).drew))
      have R2 := hide ((R1.out.frame (W' := W1.setCell ⟨g, 1, none⟩ (.bool (decide (S = L)))) fun j e => Below.heap_setCell W1 ⟨g, 1, none⟩ _ j (fun e2 => by have := (R1.out.lt e).1; have e3 : j = g := e2; omega)).below ((Below.refl _ _).drew))
      have K2 := hide ((K1.out.trans (RK.set W1 gr g 1 (.bool (decide (S = L)))) (.inl rfl)).trans (RK.of_below gr g ((Below.refl _ _).drew)) (.inl rfl))
      clear d0 d1 d3 f1
      generalize (W1.setCell ⟨g, 1, none⟩ (.bool (decide (S = L)))).drew = W2 at F2 R2 K2 ⊢
      go_wp2_with fail
      go_ret2
      exact ⟨_, _, rfl, R2.out, F2.out, K2.out⟩))
set_option maxHeartbeats 4000000 in
set_option maxRecDepth 100000 in
theorem read_clos {w : World} {g L : Nat} {t : Tal} (h : Fr w g 71 t [.int .i64 (L : Int)]) (gr : Nat) (v : Value) (b : List UInt8) (hB : Bs w w.heap.size v b) (hS : Shp v) (hL : L ≤ 9007199254740992) (hg : t.got ≤ L) (hl : b.length ≤ 140737488355328) :
    Calls Tryd.prog 108 #[.pointer (some ⟨g, 0, none⟩), v] w fun e w' => ∃ ua uc, e = .returned (.tuple #[.slice ua (tkN b L t.got) uc, .int .i64 (((if tkN b L t.got = b.length then tkN b L t.got else tkN b L t.got + 1) : Nat) : Int)]) ∧ RdP w w' gr g 71 (b.take (tkN b L t.got)) ⟨t.got + tkN b L t.got, t.whole, if tkN b L t.got = b.length then t.wrong else 2⟩ [.int .i64 (L : Int)] ua (tkN b L t.got) uc := by
  have hgl := h.lt
  have BD := hide ((Below.refl w.heap.size w).drew)
  have HTK := hide (take_t (h.below BD.out) gr v b L (hB.below (Nat.le_refl _) BD.out) hS hL hg hl)
  have c3 : w.cell? ⟨g, 3, none⟩ = some (.int .i64 (L : Int)) := h.c 3
  have hS' : t.got + tkN b L t.got ≤ L := by unfold tkN; omega
  have hkl : tkN b L t.got ≤ b.length := by unfold tkN; omega
  obtain ⟨va, vc, rfl, _, _⟩ := hB
  clear h hS
  generalize tkN b L t.got = k at HTK hS' hkl ⊢
  obtain ⟨S, hS2⟩ : ∃ S, t.got + k = S := ⟨_, rfl⟩
  rw [hS2] at HTK hS' ⊢
  clear hS2
  obtain ⟨n, hn⟩ : ∃ n, (if k = b.length then k else k + 1) = n := ⟨_, rfl⟩
  obtain ⟨e2, he2⟩ : ∃ e, (if k = b.length then t.wrong else 2) = e := ⟨_, rfl⟩
  rw [hn, he2]
  have HNE := hide (And.intro hn he2)
  clear hn he2
  go_enter Tryd.func108, Tryd.ntmps108
  go_upto_region 1 with fail
  go_region_law (refine step_call rfl 102 _ _ rfl (enters_of Tryd.func102 (by kernel_rfl) rfl) #[.pointer (some ⟨g, 0, none⟩), .slice va b.length vc, .int .i64 (L : Int)] (by simp [Act.eval]) (fun r w' => ∃ ua uc, r = .slice ua k uc ∧ Row w' w.drew.heap.size 5 (.slice ua k uc) (bc (b.take k)) ∧ Fr w' g 71 { t with got := S } [.int .i64 (L : Int)] ∧ RK w.drew w' gr g) (calls_exR HTK.out (by rintro e w' ⟨ua, uc, rfl, q1, q2, q3⟩; exact ⟨_, rfl, ua, uc, rfl, q1, q2, q3⟩)) ?_; rintro r W1 ⟨ua, uc, rfl, q1, q2, q3⟩)
  all_goals (
    have R1 : Hid (Row W1 w.heap.size 5 (.slice ua k uc) (bc (b.take k))) := hide q1
    have F1 := hide q2
    have K1 := hide ((RK.of_below gr g BD.out).trans q3 (.inl rfl))
    clear q1 q2 q3 c3 HTK
    have d2 : W1.cell? ⟨g, 2, none⟩ = some (.int .i64 (t.wrong : Int)) := F1.out.c 2
    have f2 : W1.frozen? ⟨g, 2, none⟩ = false := F1.out.f 2
    by_cases hkb : k = b.length
    · have tk : ((k : Int) == (b.length : Int)) = true := by rw [beq_iff_eq]; omega
      have hne := HNE.out
      rw [if_pos hkb, if_pos hkb] at hne
      obtain ⟨rfl, rfl⟩ := hne
      clear hkb HNE
      go_wp2_with fail
      go_ret2
      exact ⟨_, _, rfl, R1.out, F1.out, K1.out⟩
    · have tk : ((k : Int) == (b.length : Int)) = false := by rw [beq_eq_false_iff_ne]; omega
      have hne := HNE.out
      rw [if_neg hkb, if_neg hkb] at hne
      obtain ⟨rfl, rfl⟩ := hne
      clear hkb HNE
      have F2 := hide (F1.out.set (t' := ⟨S, t.whole, 2⟩) 2 (.int .i64 2) rfl)
      have R2 := hide (R1.out.frame (W' := W1.setCell ⟨g, 2, none⟩ (.int .i64 2)) fun j e => Below.heap_setCell W1 ⟨g, 2, none⟩ _ j (fun e2 => by have := (R1.out.lt e).1; have e3 : j = g := e2; omega))
      have K2 := hide (K1.out.trans (RK.set W1 gr g 2 (.int .i64 2)) (.inl rfl))
      go_wp2_with fail
      go_ret2
      exact ⟨_, _, rfl, R2.out, F2.out, K2.out⟩)
theorem read_over (g : Nat) (v : Value) (w : World) : Calls Tryd.prog 110 #[.pointer (some ⟨g, 0, none⟩), v] w fun e w' => e = .returned (.tuple #[.slice none 0 0, .int .i64 0]) ∧ w = w' := by
  go_enter Tryd.func110, Tryd.ntmps110
  go_wp2
  go_ret2
  exact ⟨rfl, rfl⟩
theorem ended_over (g : Nat) (w : World) : Calls Tryd.prog 109 #[.pointer (some ⟨g, 0, none⟩)] w fun e w' => e = .returned (.tuple #[]) ∧ w = w' := by
  go_enter Tryd.func109, Tryd.ntmps109
  go_wp2
  go_end0
  exact ⟨rfl, rfl⟩
theorem ended_tally {w : World} {g : Nat} {ct : TypeId} {t : Tal} {X : List Value} (h : Fr w g ct t X) (gr : Nat) : Calls Tryd.prog 99 #[.pointer (some ⟨g, 0, none⟩)] w fun e w' => e = .returned (.tuple #[]) ∧ Fr w' g ct { t with wrong := 110 } X ∧ RK w w' gr g := by
  have d2 : w.cell? ⟨g, 2, none⟩ = some (.int .i64 (t.wrong : Int)) := h.c 2
  have f2 := h.f 2
  have F2 := hide (h.set (t' := ⟨t.got, t.whole, 110⟩) 2 (.int .i64 110) (by simp [talC]))
  clear h
  go_enter Tryd.func99, Tryd.ntmps99
  go_wp2
  go_end0
  exact ⟨rfl, F2.out, RK.set w gr g 2 _⟩
theorem ended_closed {w : World} {g : Nat} {ct : TypeId} {t : Tal} {X : List Value} (h : Fr w g ct t X) (gr : Nat) : Calls Tryd.prog 107 #[.pointer (some ⟨g, 0, none⟩)] w fun e w' => e = .returned (.tuple #[]) ∧ Fr w' g ct { t with whole := true } X ∧ RK w w' gr g := by
  have d1 : w.cell? ⟨g, 1, none⟩ = some (.bool t.whole) := h.c 1
  have f1 := h.f 1
  have F2 := hide (h.set (t' := ⟨t.got, true, t.wrong⟩) 1 (.bool true) (by simp [talC]))
  clear h
  go_enter Tryd.func107, Tryd.ntmps107
  go_wp2
  go_end0
  exact ⟨rfl, F2.out, RK.set w gr g 1 _⟩
end Go.Proofs.YtggeihahbgeneaaDoor
namespace Go.Proofs.YtggeihahbgeneaaDoor
open Go.ChangeShapes Go.WideShapes Go.ChangeAt Go.RowKit

/-- How a reader stands behind a call. -/
def FdP (w w' : World) (base gr g : Nat) (it ct : TypeId) (t : Tal) (X : List Value) : Prop :=
  (overT t = true → ∃ g', w.heap.size ≤ g' ∧ Rdr w' base gr g' 72 74 t []) ∧ (overT t = false → Rdr w' base gr g it ct t X) ∧ RK w w' gr g
theorem FdP.of {w W1 W2 : World} {base gr g : Nat} {it ct : TypeId} {t : Tal} {X : List Value} (k : RK w W1 gr g) (s : SetP W1 W2 base gr g it ct t X) : FdP w W2 base gr g it ct t X :=
  ⟨fun h => (by obtain ⟨g', h1, h2⟩ := s.1 h; exact ⟨g', Nat.le_trans k.size h1, h2⟩), s.2.1, k.trans s.2.2.1 (.inl rfl)⟩
theorem FdP.drewN {w w' : World} {base gr g : Nat} {it ct : TypeId} {t : Tal} {X : List Value} (h : FdP w w' base gr g it ct t X) (n : Nat) : FdP w (w'.drewN n) base gr g it ct t X := by
  have b := below_drewN w' n
  exact ⟨fun ho => (by obtain ⟨g', h1, h2⟩ := h.1 ho; exact ⟨g', h1, h2.below b⟩), fun ho => (h.2.1 ho).below b, h.2.2.trans (RK.of_below gr g b) (.inl rfl)⟩
theorem Rdr.fr' {w : World} {base gr g : Nat} {it ct : TypeId} {t : Tal} {X : List Value} (h : Rdr w base gr g it ct t X) : Fr w g ct t X := ⟨h.fr⟩
theorem Rdr.turn {w W : World} {base gr g : Nat} {it ct : TypeId} {t t' : Tal} {X : List Value} (h : Rdr w base gr g it ct t X) (hf : Fr W g ct t' X) (k : RK w W g g) : Rdr W base gr g it ct t' X :=
  ⟨(k.block gr (lt_heap' h.rd) h.ne h.ne).trans h.rd, hf.fr, h.ne, h.rb, h.fb⟩
theorem RK.own {w W : World} {gr g : Nat} (k : RK w W g g) : RK w W gr g := ⟨k.os, k.tape, k.output, k.size, fun i hi _ h => k.block i hi h h⟩
set_option maxHeartbeats 8000000 in
set_option maxRecDepth 100000 in
theorem feed_meas {w : World} {base gr g L : Nat} {t : Tal} (h : Rdr w base gr g 60 62 t [.int .i64 (L : Int)]) (hb : base ≤ w.heap.size) (v : Value) (b : List UInt8) (hB : Bs w w.heap.size v b) (hS : Shp v) (hL : L ≤ 9007199254740992) (hg : t.got ≤ L) (hl : b.length ≤ 140737488355328) :
    Calls Tryd.prog 12 #[.pointer (some ⟨gr, 0, none⟩), v] w fun e w' => ∃ ua uc, e = .returned (.tuple #[.slice ua (tkN b L t.got) uc, .int .i64 ((tkN b L t.got : Nat) : Int), .bool (⟨t.got + tkN b L t.got, decide (t.got + tkN b L t.got = L), t.wrong⟩ : Tal).whole, .int .i64 (((⟨t.got + tkN b L t.got, decide (t.got + tkN b L t.got = L), t.wrong⟩ : Tal).wrong : Nat) : Int)]) ∧ Row w' w.heap.size 5 (.slice ua (tkN b L t.got) uc) (bc (b.take (tkN b L t.got))) ∧ FdP w w' base gr g 60 62 ⟨t.got + tkN b L t.got, decide (t.got + tkN b L t.got = L), t.wrong⟩ [.int .i64 (L : Int)] := by
  have HH := hide h
  have HN := hide (isNone_any h)
  have HRD := hide (read_meas h.fr' g v b hB hS hL hg hl)
  have c0 := h.c0
  have HB := hide hb
  obtain ⟨va, vc, rfl, _, _⟩ := hB
  clear h hS hb
  obtain ⟨k, hk⟩ : ∃ k, tkN b L t.got = k := ⟨_, rfl⟩
  rw [hk] at HRD ⊢
  obtain ⟨tt, htt⟩ : ∃ x : Tal, (⟨t.got + k, decide (t.got + k = L), t.wrong⟩ : Tal) = x := ⟨_, rfl⟩
  rw [htt] at HRD ⊢
  clear hk htt
  go_enter Tryd.func12, Tryd.ntmps12
  go_wp2_with fail
  refine HN.out.mono ?_
  rintro e w1 ⟨rfl, rfl⟩
  clear HN
  go_wp2_with fail
  refine HRD.out.mono ?_
  rintro e W1 ⟨ua, uc, rfl, q1, q2, q3⟩
  have HR1 := hide (HH.out.turn q2 q3)
  have hw1 := q3.size
  have R1 := hide q1
  have K1 := hide (RK.own (gr := gr) q3)
  clear q1 q2 q3 HRD c0
  go_wp2_with fail
  refine (settle_any HR1.out (.inl rfl) (Nat.le_trans HB.out hw1)).mono ?_
  rintro e W2 ⟨rfl, hs⟩
  have HS := hide hs
  have R2 : Hid (Row W2 w.heap.size 5 (.slice ua k uc) (bc (b.take k))) := hide (R1.out.frame fun j e => by
    rcases Nat.lt_or_ge j w.heap.size with h1 | h1
    · have := (R1.out.lt e).1; omega
    · exact hs.2.2.1.block j (R1.out.lt e).2 (by have := lt_heap' HH.out.rd; omega) (by have := lt_heap' HH.out.fr; omega))
  have FP := hide (FdP.of K1.out hs)
  clear hs R1 K1 HR1
  cases ho : overT tt with
  | true =>
    obtain ⟨g2, _, hr2⟩ := HS.out.1 ho
    have HT := hide (told_any g2 W2)
    have c := hr2.c0
    have c1 := hr2.t1
    have c2 := hr2.t2
    clear hr2 ho
    go_wp2_with fail
    refine HT.out.mono ?_
    rintro e w3 ⟨rfl, rfl⟩
    go_wp2_with fail
    go_quiet (fail)
    go_wp2
    exact bodyPost_ret (v := .tuple #[.slice ua k uc, .int .i64 (k : Int), .bool tt.whole, .int .i64 (tt.wrong : Int)]) (by simp [results, Tryd.results12, go_sem]) rfl ⟨_, _, rfl, R2.out.below (below_drewN _ _), FP.out.drewN _⟩
  | false =>
    have hr2 := HS.out.2.1 ho
    obtain ⟨g2, hg2⟩ : ∃ x, g = x := ⟨_, rfl⟩
    rw [hg2] at hr2
    have HT := hide (told_any g2 W2)
    have c := hr2.c0
    have c1 := hr2.t1
    have c2 := hr2.t2
    clear hr2 ho hg2
    go_wp2_with fail
    refine HT.out.mono ?_
    rintro e w3 ⟨rfl, rfl⟩
    go_wp2_with fail
    go_quiet (fail)
    go_wp2
    exact bodyPost_ret (v := .tuple #[.slice ua k uc, .int .i64 (k : Int), .bool tt.whole, .int .i64 (tt.wrong : Int)]) (by simp [results, Tryd.results12, go_sem]) rfl ⟨_, _, rfl, R2.out.below (below_drewN _ _), FP.out.drewN _⟩
set_option maxHeartbeats 8000000 in
set_option maxRecDepth 100000 in
theorem feed_clos {w : World} {base gr g L : Nat} {t : Tal} (h : Rdr w base gr g 69 71 t [.int .i64 (L : Int)]) (hb : base ≤ w.heap.size) (v : Value) (b : List UInt8) (hB : Bs w w.heap.size v b) (hS : Shp v) (hL : L ≤ 9007199254740992) (hg : t.got ≤ L) (hl : b.length ≤ 140737488355328) :
    Calls Tryd.prog 12 #[.pointer (some ⟨gr, 0, none⟩), v] w fun e w' => ∃ ua uc, e = .returned (.tuple #[.slice ua (tkN b L t.got) uc, .int .i64 (((if tkN b L t.got = b.length then tkN b L t.got else tkN b L t.got + 1) : Nat) : Int), .bool (⟨t.got + tkN b L t.got, t.whole, if tkN b L t.got = b.length then t.wrong else 2⟩ : Tal).whole, .int .i64 (((⟨t.got + tkN b L t.got, t.whole, if tkN b L t.got = b.length then t.wrong else 2⟩ : Tal).wrong : Nat) : Int)]) ∧ Row w' w.heap.size 5 (.slice ua (tkN b L t.got) uc) (bc (b.take (tkN b L t.got))) ∧ FdP w w' base gr g 69 71 ⟨t.got + tkN b L t.got, t.whole, if tkN b L t.got = b.length then t.wrong else 2⟩ [.int .i64 (L : Int)] := by
  have HH := hide h
  have HN := hide (isNone_any h)
  have HRD := hide (read_clos h.fr' g v b hB hS hL hg hl)
  have c0 := h.c0
  have HB := hide hb
  obtain ⟨va, vc, rfl, _, _⟩ := hB
  clear h hS hb
  obtain ⟨k, hk⟩ : ∃ k, tkN b L t.got = k := ⟨_, rfl⟩
  rw [hk] at HRD ⊢
  obtain ⟨n, hn⟩ : ∃ n, (if k = b.length then k else k + 1) = n := ⟨_, rfl⟩
  obtain ⟨tt, htt⟩ : ∃ x : Tal, (⟨t.got + k, t.whole, if k = b.length then t.wrong else 2⟩ : Tal) = x := ⟨_, rfl⟩
  rw [htt, hn] at HRD ⊢
  clear hk htt hn
  go_enter Tryd.func12, Tryd.ntmps12
  go_wp2_with fail
  refine HN.out.mono ?_
  rintro e w1 ⟨rfl, rfl⟩
  clear HN
  go_wp2_with fail
  refine HRD.out.mono ?_
  rintro e W1 ⟨ua, uc, rfl, q1, q2, q3⟩
  have HR1 := hide (HH.out.turn q2 q3)
  have hw1 := q3.size
  have R1 := hide q1
  have K1 := hide (RK.own (gr := gr) q3)
  clear q1 q2 q3 HRD c0
  go_wp2_with fail
  refine (settle_any HR1.out (.inr (.inr (.inl rfl))) (Nat.le_trans HB.out hw1)).mono ?_
  rintro e W2 ⟨rfl, hs⟩
  have HS := hide hs
  have R2 : Hid (Row W2 w.heap.size 5 (.slice ua k uc) (bc (b.take k))) := hide (R1.out.frame fun j e => by
    rcases Nat.lt_or_ge j w.heap.size with h1 | h1
    · have := (R1.out.lt e).1; omega
    · exact hs.2.2.1.block j (R1.out.lt e).2 (by have := lt_heap' HH.out.rd; omega) (by have := lt_heap' HH.out.fr; omega))
  have FP := hide (FdP.of K1.out hs)
  clear hs R1 K1 HR1
  cases ho : overT tt with
  | true =>
    obtain ⟨g2, _, hr2⟩ := HS.out.1 ho
    have HT := hide (told_any g2 W2)
    have c := hr2.c0
    have c1 := hr2.t1
    have c2 := hr2.t2
    clear hr2 ho
    go_wp2_with fail
    refine HT.out.mono ?_
    rintro e w3 ⟨rfl, rfl⟩
    go_wp2_with fail
    go_quiet (fail)
    go_wp2
    exact bodyPost_ret (v := .tuple #[.slice ua k uc, .int .i64 (n : Int), .bool tt.whole, .int .i64 (tt.wrong : Int)]) (by simp [results, Tryd.results12, go_sem]) rfl ⟨_, _, rfl, R2.out.below (below_drewN _ _), FP.out.drewN _⟩
  | false =>
    have hr2 := HS.out.2.1 ho
    obtain ⟨g2, hg2⟩ : ∃ x, g = x := ⟨_, rfl⟩
    rw [hg2] at hr2
    have HT := hide (told_any g2 W2)
    have c := hr2.c0
    have c1 := hr2.t1
    have c2 := hr2.t2
    clear hr2 ho hg2
    go_wp2_with fail
    refine HT.out.mono ?_
    rintro e w3 ⟨rfl, rfl⟩
    go_wp2_with fail
    go_quiet (fail)
    go_wp2
    exact bodyPost_ret (v := .tuple #[.slice ua k uc, .int .i64 (n : Int), .bool tt.whole, .int .i64 (tt.wrong : Int)]) (by simp [results, Tryd.results12, go_sem]) rfl ⟨_, _, rfl, R2.out.below (below_drewN _ _), FP.out.drewN _⟩
set_option maxHeartbeats 8000000 in
set_option maxRecDepth 100000 in
theorem feed_over {w : World} {base gr g : Nat} {tt : Tal} (h : Rdr w base gr g 72 74 tt []) (hb : base ≤ w.heap.size) (va : Option Addr) (vn vc : Nat) :
    Calls Tryd.prog 12 #[.pointer (some ⟨gr, 0, none⟩), .slice va vn vc] w fun e w' => e = .returned (.tuple #[.slice none 0 0, .int .i64 0, .bool tt.whole, .int .i64 (tt.wrong : Int)]) ∧ FdP w w' base gr g 72 74 tt [] := by
  have HH := hide h
  have HN := hide (isNone_any h)
  have HRD := hide (read_over g (.slice va vn vc) w)
  have c0 := h.c0
  have HB := hide hb
  clear h hb
  go_enter Tryd.func12, Tryd.ntmps12
  go_wp2_with fail
  refine HN.out.mono ?_
  rintro e w1 ⟨rfl, rfl⟩
  clear HN
  go_wp2_with fail
  refine HRD.out.mono ?_
  rintro e w1 ⟨rfl, rfl⟩
  clear c0 HRD
  go_wp2_with fail
  refine (settle_any HH.out (.inr (.inr (.inr rfl))) HB.out).mono ?_
  rintro e W2 ⟨rfl, hs⟩
  have HS := hide hs
  have FP := hide (FdP.of (RK.refl w gr g) hs)
  clear hs
  cases ho : overT tt with
  | true =>
    obtain ⟨g2, _, hr2⟩ := HS.out.1 ho
    have HT := hide (told_any g2 W2)
    have c := hr2.c0
    have c1 := hr2.t1
    have c2 := hr2.t2
    clear hr2 ho
    go_wp2_with fail
    refine HT.out.mono ?_
    rintro e w3 ⟨rfl, rfl⟩
    go_wp2_with fail
    go_quiet (fail)
    go_wp2
    exact bodyPost_ret (v := .tuple #[.slice none 0 0, .int .i64 0, .bool tt.whole, .int .i64 (tt.wrong : Int)]) (by simp [results, Tryd.results12, go_sem]) rfl ⟨rfl, FP.out.drewN _⟩
  | false =>
    have hr2 := HS.out.2.1 ho
    obtain ⟨g2, hg2⟩ : ∃ x, g = x := ⟨_, rfl⟩
    rw [hg2] at hr2
    have HT := hide (told_any g2 W2)
    have c := hr2.c0
    have c1 := hr2.t1
    have c2 := hr2.t2
    clear hr2 ho hg2
    go_wp2_with fail
    refine HT.out.mono ?_
    rintro e w3 ⟨rfl, rfl⟩
    go_wp2_with fail
    go_quiet (fail)
    go_wp2
    exact bodyPost_ret (v := .tuple #[.slice none 0 0, .int .i64 0, .bool tt.whole, .int .i64 (tt.wrong : Int)]) (by simp [results, Tryd.results12, go_sem]) rfl ⟨rfl, FP.out.drewN _⟩
set_option maxHeartbeats 8000000 in
set_option maxRecDepth 100000 in
theorem end_meas {w : World} {base gr g L : Nat} {t : Tal} (h : Rdr w base gr g 60 62 t [.int .i64 (L : Int)]) (hb : base ≤ w.heap.size) :
    Calls Tryd.prog 16 #[.pointer (some ⟨gr, 0, none⟩)] w fun e w' => e = .returned (.tuple #[.bool ({ t with wrong := 110 } : Tal).whole, .int .i64 ((({ t with wrong := 110 } : Tal).wrong : Nat) : Int)]) ∧ FdP w w' base gr g 60 62 { t with wrong := 110 } [.int .i64 (L : Int)] := by
  have HH := hide h
  have HN := hide (isNone_any h)
  have HRD := hide (ended_tally h.fr' g)
  have c0 := h.c0
  have HB := hide hb
  clear h hb
  obtain ⟨tt, htt⟩ : ∃ x : Tal, ({ t with wrong := 110 } : Tal) = x := ⟨_, rfl⟩
  rw [htt] at HRD ⊢
  clear htt
  go_enter Tryd.func16, Tryd.ntmps16
  go_wp2_with fail
  refine HN.out.mono ?_
  rintro e w1 ⟨rfl, rfl⟩
  clear HN
  go_wp2_with fail
  refine HRD.out.mono ?_
  rintro e W1 ⟨rfl, q2, q3⟩
  have HR1 := hide (HH.out.turn q2 q3)
  have hw1 := q3.size
  have K1 := hide (RK.own (gr := gr) q3)
  clear q2 q3 HRD c0
  go_wp2_with fail
  refine (settle_any HR1.out (.inl rfl) (Nat.le_trans HB.out hw1)).mono ?_
  rintro e W2 ⟨rfl, hs⟩
  have HS := hide hs
  have FP := hide (FdP.of K1.out hs)
  clear hs K1 HR1
  cases ho : overT tt with
  | true =>
    obtain ⟨g2, _, hr2⟩ := HS.out.1 ho
    have HT := hide (told_any g2 W2)
    have c := hr2.c0
    have c1 := hr2.t1
    have c2 := hr2.t2
    clear hr2 ho
    go_wp2_with fail
    refine HT.out.mono ?_
    rintro e w3 ⟨rfl, rfl⟩
    go_wp2_with fail
    go_quiet (fail)
    go_wp2
    exact bodyPost_ret (v := .tuple #[.bool tt.whole, .int .i64 (tt.wrong : Int)]) (by simp [results, Tryd.results16, go_sem]) rfl ⟨rfl, FP.out.drewN _⟩
  | false =>
    have hr2 := HS.out.2.1 ho
    obtain ⟨g2, hg2⟩ : ∃ x, g = x := ⟨_, rfl⟩
    rw [hg2] at hr2
    have HT := hide (told_any g2 W2)
    have c := hr2.c0
    have c1 := hr2.t1
    have c2 := hr2.t2
    clear hr2 ho hg2
    go_wp2_with fail
    refine HT.out.mono ?_
    rintro e w3 ⟨rfl, rfl⟩
    go_wp2_with fail
    go_quiet (fail)
    go_wp2
    exact bodyPost_ret (v := .tuple #[.bool tt.whole, .int .i64 (tt.wrong : Int)]) (by simp [results, Tryd.results16, go_sem]) rfl ⟨rfl, FP.out.drewN _⟩
set_option maxHeartbeats 8000000 in
set_option maxRecDepth 100000 in
theorem end_clos {w : World} {base gr g L : Nat} {t : Tal} (h : Rdr w base gr g 69 71 t [.int .i64 (L : Int)]) (hb : base ≤ w.heap.size) :
    Calls Tryd.prog 16 #[.pointer (some ⟨gr, 0, none⟩)] w fun e w' => e = .returned (.tuple #[.bool ({ t with whole := true } : Tal).whole, .int .i64 ((({ t with whole := true } : Tal).wrong : Nat) : Int)]) ∧ FdP w w' base gr g 69 71 { t with whole := true } [.int .i64 (L : Int)] := by
  have HH := hide h
  have HN := hide (isNone_any h)
  have HRD := hide (ended_closed h.fr' g)
  have c0 := h.c0
  have HB := hide hb
  clear h hb
  obtain ⟨tt, htt⟩ : ∃ x : Tal, ({ t with whole := true } : Tal) = x := ⟨_, rfl⟩
  rw [htt] at HRD ⊢
  clear htt
  go_enter Tryd.func16, Tryd.ntmps16
  go_wp2_with fail
  refine HN.out.mono ?_
  rintro e w1 ⟨rfl, rfl⟩
  clear HN
  go_wp2_with fail
  refine HRD.out.mono ?_
  rintro e W1 ⟨rfl, q2, q3⟩
  have HR1 := hide (HH.out.turn q2 q3)
  have hw1 := q3.size
  have K1 := hide (RK.own (gr := gr) q3)
  clear q2 q3 HRD c0
  go_wp2_with fail
  refine (settle_any HR1.out (.inr (.inr (.inl rfl))) (Nat.le_trans HB.out hw1)).mono ?_
  rintro e W2 ⟨rfl, hs⟩
  have HS := hide hs
  have FP := hide (FdP.of K1.out hs)
  clear hs K1 HR1
  cases ho : overT tt with
  | true =>
    obtain ⟨g2, _, hr2⟩ := HS.out.1 ho
    have HT := hide (told_any g2 W2)
    have c := hr2.c0
    have c1 := hr2.t1
    have c2 := hr2.t2
    clear hr2 ho
    go_wp2_with fail
    refine HT.out.mono ?_
    rintro e w3 ⟨rfl, rfl⟩
    go_wp2_with fail
    go_quiet (fail)
    go_wp2
    exact bodyPost_ret (v := .tuple #[.bool tt.whole, .int .i64 (tt.wrong : Int)]) (by simp [results, Tryd.results16, go_sem]) rfl ⟨rfl, FP.out.drewN _⟩
  | false =>
    have hr2 := HS.out.2.1 ho
    obtain ⟨g2, hg2⟩ : ∃ x, g = x := ⟨_, rfl⟩
    rw [hg2] at hr2
    have HT := hide (told_any g2 W2)
    have c := hr2.c0
    have c1 := hr2.t1
    have c2 := hr2.t2
    clear hr2 ho hg2
    go_wp2_with fail
    refine HT.out.mono ?_
    rintro e w3 ⟨rfl, rfl⟩
    go_wp2_with fail
    go_quiet (fail)
    go_wp2
    exact bodyPost_ret (v := .tuple #[.bool tt.whole, .int .i64 (tt.wrong : Int)]) (by simp [results, Tryd.results16, go_sem]) rfl ⟨rfl, FP.out.drewN _⟩
set_option maxHeartbeats 8000000 in
set_option maxRecDepth 100000 in
theorem end_over {w : World} {base gr g : Nat} {t : Tal} (h : Rdr w base gr g 72 74 t []) (hb : base ≤ w.heap.size) :
    Calls Tryd.prog 16 #[.pointer (some ⟨gr, 0, none⟩)] w fun e w' => e = .returned (.tuple #[.bool (t : Tal).whole, .int .i64 (((t : Tal).wrong : Nat) : Int)]) ∧ FdP w w' base gr g 72 74 t [] := by
  have HH := hide h
  have HN := hide (isNone_any h)
  have HRD := hide (ended_over g w)
  have c0 := h.c0
  have HB := hide hb
  clear h hb
  obtain ⟨tt, htt⟩ : ∃ x : Tal, (t : Tal) = x := ⟨_, rfl⟩
  rw [htt]
  subst htt
  go_enter Tryd.func16, Tryd.ntmps16
  go_wp2_with fail
  refine HN.out.mono ?_
  rintro e w1 ⟨rfl, rfl⟩
  clear HN
  go_wp2_with fail
  refine HRD.out.mono ?_
  rintro e w1 ⟨rfl, rfl⟩
  clear c0 HRD
  have HR1 := HH
  have hw1 := Nat.le_refl w.heap.size
  have K1 := hide (RK.refl w gr g)
  go_wp2_with fail
  refine (settle_any HR1.out (.inr (.inr (.inr rfl))) (Nat.le_trans HB.out hw1)).mono ?_
  rintro e W2 ⟨rfl, hs⟩
  have HS := hide hs
  have FP := hide (FdP.of K1.out hs)
  clear hs K1 HR1
  cases ho : overT t with
  | true =>
    obtain ⟨g2, _, hr2⟩ := HS.out.1 ho
    have HT := hide (told_any g2 W2)
    have c := hr2.c0
    have c1 := hr2.t1
    have c2 := hr2.t2
    clear hr2 ho
    go_wp2_with fail
    refine HT.out.mono ?_
    rintro e w3 ⟨rfl, rfl⟩
    go_wp2_with fail
    go_quiet (fail)
    go_wp2
    exact bodyPost_ret (v := .tuple #[.bool t.whole, .int .i64 (t.wrong : Int)]) (by simp [results, Tryd.results16, go_sem]) rfl ⟨rfl, FP.out.drewN _⟩
  | false =>
    have hr2 := HS.out.2.1 ho
    obtain ⟨g2, hg2⟩ : ∃ x, g = x := ⟨_, rfl⟩
    rw [hg2] at hr2
    have HT := hide (told_any g2 W2)
    have c := hr2.c0
    have c1 := hr2.t1
    have c2 := hr2.t2
    clear hr2 ho hg2
    go_wp2_with fail
    refine HT.out.mono ?_
    rintro e w3 ⟨rfl, rfl⟩
    go_wp2_with fail
    go_quiet (fail)
    go_wp2
    exact bodyPost_ret (v := .tuple #[.bool t.whole, .int .i64 (t.wrong : Int)]) (by simp [results, Tryd.results16, go_sem]) rfl ⟨rfl, FP.out.drewN _⟩
end Go.Proofs.YtggeihahbgeneaaDoor
namespace Go.Proofs.YtggeihahbgeneaaDoor
open Go.ChangeShapes Go.WideShapes Go.ChangeAt Go.RowKit

def frV (k len : Int) (x : Bool) : Value := .agg #[.int .i64 k, .int .i64 len, .bool x]
def isR (k len : Int) : Bool := if k = 2 then decide (0 ≤ len ∧ len ≤ 9007199254740992) else if k = 1 ∨ k = 3 ∨ k = 4 then decide (len = 0) else false
set_option maxHeartbeats 4000000 in
set_option maxRecDepth 100000 in
theorem isRight_any (k len : Int) (x : Bool) (w : World) : Calls Tryd.prog 17 #[frV k len x] w fun e w' => e = .returned (.bool (isR k len)) ∧ Below w.heap.size w w' := by
  have fin : ∀ W, W = w.alloc (.cells #[.int .i64 k, .int .i64 len, .bool x] 23) → Below w.heap.size w W := by rintro W rfl; exact (Below.refl w.heap.size w).alloc (Nat.le_refl _) _
  have FIN := hide fin
  clear fin
  unfold frV
  obtain ⟨R, hR⟩ : ∃ R, isR k len = R := ⟨_, rfl⟩
  rw [hR]
  unfold isR at hR
  by_cases h2 : k = 2
  · subst h2
    rw [if_pos rfl] at hR
    by_cases h3 : 0 ≤ len
    · by_cases h4 : len ≤ 9007199254740992
      · have HR := hide (hR.symm.trans (decide_eq_true (And.intro h3 h4)))
        clear hR
        go_enter Tryd.func17, Tryd.ntmps17
        go_wp2
        go_ret
        exact ⟨ret_bool (by first | (rw [HR.out]) | (rw [HR.out]; simp; omega)), FIN.out _ rfl⟩
      · have HR := hide (hR.symm.trans (decide_eq_false (fun h => h4 h.2)))
        clear hR
        go_enter Tryd.func17, Tryd.ntmps17
        go_wp2
        go_ret
        exact ⟨ret_bool (by first | (rw [HR.out]) | (rw [HR.out]; simp; omega)), FIN.out _ rfl⟩
    · have HR := hide (hR.symm.trans (decide_eq_false (fun h => h3 h.1)))
      clear hR
      go_enter Tryd.func17, Tryd.ntmps17
      go_wp2
      go_ret
      exact ⟨ret_bool (by first | (rw [HR.out]) | (rw [HR.out]; simp; omega)), FIN.out _ rfl⟩
  · have t2 : (k == 2) = false := by rw [beq_eq_false_iff_ne]; exact h2
    rw [if_neg h2] at hR
    by_cases h134 : k = 1 ∨ k = 3 ∨ k = 4
    · rw [if_pos h134] at hR
      have HR := hide hR
      have HL : Hid ((len == 0) = decide (len = 0)) := hide (by rw [Bool.eq_iff_iff]; simp)
      clear hR h2 t2
      rcases h134 with rfl | rfl | rfl
      all_goals (
        go_enter Tryd.func17, Tryd.ntmps17
        go_wp2
        go_ret
        exact ⟨ret_bool (by rw [← HR.out]; exact HL.out), FIN.out _ rfl⟩)
    · rw [if_neg h134] at hR
      rw [not_or, not_or] at h134
      have t1 : (k == 1) = false := by rw [beq_eq_false_iff_ne]; exact h134.1
      have t3 : (k == 3) = false := by rw [beq_eq_false_iff_ne]; exact h134.2.1
      have t4 : (k == 4) = false := by rw [beq_eq_false_iff_ne]; exact h134.2.2
      have HR := hide hR
      clear hR h2 h134
      go_enter Tryd.func17, Tryd.ntmps17
      go_wp2
      go_ret
      exact ⟨ret_bool HR.out, FIN.out _ rfl⟩
/-- What framedBy makes. -/
def FbP (w w' : World) (r : Value) (it ct : TypeId) (t : Tal) (X : List Value) : Prop := ∃ g, r = .iface it (.pointer (some ⟨g, 0, none⟩)) ∧ w.heap.size ≤ g ∧ w'.heap[g]? = some (.cells (talC t ++ X).toArray ct (0, 0)) ∧ Below w.heap.size w w'
theorem fb_mk {w : World} (a : Array Value) (ta : TypeId) (it ct : TypeId) (t : Tal) (X : List Value) : FbP w ((w.alloc (.cells a ta)).alloc (.cells (talC t ++ X).toArray ct)) (.iface it (.pointer (some ⟨w.heap.size + 1, 0, none⟩))) it ct t X := by
  have h := hp_new (w.alloc (.cells a ta)) (.cells (talC t ++ X).toArray ct)
  have hs : (w.alloc (.cells a ta)).heap.size = w.heap.size + 1 := by simp
  rw [hs] at h
  exact ⟨w.heap.size + 1, rfl, by omega, h, ((Below.refl w.heap.size w).alloc (Nat.le_refl _) _).alloc (by omega) _⟩
set_option maxHeartbeats 4000000 in
set_option maxRecDepth 100000 in
theorem framed_len (len : Nat) (x : Bool) (most : Int) (w : World) : Calls Tryd.prog 18 #[frV 2 (len : Int) x, .int .i64 most] w fun e w' => ∃ r, e = .returned r ∧ FbP w w' r 60 62 ⟨0, decide (len = 0), 0⟩ [.int .i64 (len : Int)] := by
  have HF := hide (fb_mk (w := w) #[.int .i64 2, .int .i64 (len : Int), .bool x] 23 60 62 ⟨0, decide (len = 0), 0⟩ [.int .i64 (len : Int)])
  have HL : ((len : Int) == 0) = decide (len = 0) := by rw [Bool.eq_iff_iff]; simp
  unfold frV
  go_enter Tryd.func18, Tryd.ntmps18
  go_wp2
  go_ret
  exact ⟨_, rfl, HF.out⟩
set_option maxHeartbeats 4000000 in
set_option maxRecDepth 100000 in
theorem framed_clos (len : Int) (x : Bool) (most : Nat) (w : World) : Calls Tryd.prog 18 #[frV 4 len x, .int .i64 (most : Int)] w fun e w' => ∃ r, e = .returned r ∧ FbP w w' r 69 71 ⟨0, false, 0⟩ [.int .i64 (most : Int)] := by
  have HF := hide (fb_mk (w := w) #[.int .i64 4, .int .i64 len, .bool x] 23 69 71 ⟨0, false, 0⟩ [.int .i64 (most : Int)])
  unfold frV
  go_enter Tryd.func18, Tryd.ntmps18
  go_wp2
  go_ret
  exact ⟨_, rfl, HF.out⟩
set_option maxHeartbeats 4000000 in
set_option maxRecDepth 100000 in
theorem framed_none (len : Int) (x : Bool) (most : Int) (w : World) : Calls Tryd.prog 18 #[frV 1 len x, .int .i64 most] w fun e w' => ∃ r, e = .returned r ∧ FbP w w' r 72 74 ⟨0, true, 0⟩ [] := by
  have HF := hide (fb_mk (w := w) #[.int .i64 1, .int .i64 len, .bool x] 23 72 74 ⟨0, true, 0⟩ [])
  unfold frV
  go_enter Tryd.func18, Tryd.ntmps18
  go_wp2
  go_ret
  exact ⟨_, rfl, HF.out⟩
/-- A reader that is new. -/
def NwP (w w' : World) (e : Ending) (it ct : TypeId) (t : Tal) (X : List Value) : Prop := ∃ gr g, e = .returned (.tuple #[.pointer (some ⟨gr, 0, none⟩), .int .i64 0]) ∧ w.heap.size ≤ gr ∧ w.heap.size ≤ g ∧ Below w.heap.size w w' ∧ (overT t = true → ∃ g', w.heap.size ≤ g' ∧ Rdr w' w.heap.size gr g' 72 74 t []) ∧ (overT t = false → Rdr w' w.heap.size gr g it ct t X)
set_option maxHeartbeats 4000000 in
set_option maxRecDepth 100000 in
theorem new_of {k len : Int} {x : Bool} {most : Int} {w : World} {it ct : TypeId} {t : Tal} {X : List Value} (hk : KT it) (h0 : 0 ≤ most) (hm : most ≤ 9007199254740992) (hr : isR k len = true) (hl : len ≤ most)
    (hf : ∀ W, Calls Tryd.prog 18 #[frV k len x, .int .i64 most] W fun e w' => ∃ r, e = .returned r ∧ FbP W w' r it ct t X) :
    Calls Tryd.prog 8 #[frV k len x, .int .i64 most] w fun e w' => NwP w w' e it ct t X := by
  have HF := hide hf
  have HI := hide (fun W => isRight_any k len x W)
  rw [hr] at HI
  have HK := hide hk
  have t1 : ¬ most < 0 := by omega
  have t2 : ¬ 9007199254740992 < most := by omega
  have t3 : ¬ most < len := by omega
  clear hf hk hr
  unfold frV at HF HI ⊢
  go_enter Tryd.func8, Tryd.ntmps8
  have BA := hide ((Below.refl w.heap.size w).alloc (Nat.le_refl _) (.cells #[.int .i64 k, .int .i64 len, .bool x] 23))
  have HB := hide (hp_new w (.cells #[.int .i64 k, .int .i64 len, .bool x] 23))
  have HLT := lt_heap' HB.out
  go_upto_region 1 with fail
  generalize w.alloc (.cells #[.int .i64 k, .int .i64 len, .bool x] 23) = W0 at BA HB HLT ⊢
  have c0 : W0.cell? ⟨w.heap.size, 0, none⟩ = some (.int .i64 k) := cell_at HB.out 0
  have c1 : W0.cell? ⟨w.heap.size, 1, none⟩ = some (.int .i64 len) := cell_at HB.out 1
  have c2 : W0.cell? ⟨w.heap.size, 2, none⟩ = some (.bool x) := cell_at HB.out 2
  go_wp2_with fail
  refine (HI.out W0).mono ?_
  rintro e W1 ⟨rfl, b1⟩
  have B1 := hide (BA.out.trans (b1.mono BA.out.size))
  have HB1 := hide ((b1.block w.heap.size HLT).trans HB.out)
  clear c0 c1 c2 b1 HI
  have c0 : W1.cell? ⟨w.heap.size, 0, none⟩ = some (.int .i64 k) := cell_at HB1.out 0
  have c1 : W1.cell? ⟨w.heap.size, 1, none⟩ = some (.int .i64 len) := cell_at HB1.out 1
  have c2 : W1.cell? ⟨w.heap.size, 2, none⟩ = some (.bool x) := cell_at HB1.out 2
  go_wp2_with fail
  refine (HF.out W1).mono ?_
  rintro e W2 ⟨r, rfl, g, rfl, hg, hfr, b2⟩
  have B2 := hide (B1.out.trans (b2.mono B1.out.size))
  have HG := hide hg
  have HFR := hide hfr
  have hgl := lt_heap' hfr
  clear c0 c1 c2 b2 hg hfr HF
  go_upto_region 6 with fail
  have BN := hide ((Below.refl W2.heap.size W2).alloc (Nat.le_refl _) (.cells #[.iface it (.pointer (some ⟨g, 0, none⟩))] 52))
  have HN := hide (hp_new W2 (.cells #[.iface it (.pointer (some ⟨g, 0, none⟩))] 52))
  have hww : w.heap.size ≤ W1.heap.size := B1.out.size
  have hw2 : w.heap.size ≤ W2.heap.size := B2.out.size
  have HRD : Hid (Rdr (W2.alloc (.cells #[.iface it (.pointer (some ⟨g, 0, none⟩))] 52)) w.heap.size W2.heap.size g it ct t X) := hide ⟨HN.out, (BN.out.block g hgl).trans HFR.out, by omega, hw2, by have := HG.out; omega⟩
  have B3 := hide (B2.out.trans (BN.out.mono B2.out.size))
  generalize W2.alloc (.cells #[.iface it (.pointer (some ⟨g, 0, none⟩))] 52) = W3 at BN HN HRD B3 ⊢
  go_wp2_with fail
  refine (settle_any HRD.out HK.out B3.out.size).mono ?_
  rintro e W4 ⟨rfl, hs⟩
  have HS := hide hs
  have B4 := hide (B3.out.trans (hs.2.2.1.low hw2 (by have := HG.out; omega) B3.out.size))
  clear hs
  go_wp2
  go_ret2
  exact ⟨W2.heap.size, g, rfl, hw2, by have := HG.out; omega, B4.out, fun h => (by obtain ⟨g', q1, q2⟩ := HS.out.1 h; exact ⟨g', Nat.le_trans B3.out.size q1, q2⟩), HS.out.2.1⟩
end Go.Proofs.YtggeihahbgeneaaDoor
namespace Go.Proofs.YtggeihahbgeneaaDoor
open Go.ChangeShapes Go.WideShapes Go.ChangeAt Go.RowKit

theorem bs_lit (w : World) (l : List UInt8) (c : Array Value) (fr : Nat × Nat) (hc : c.toList = l.map fun x => Value.int .u8 (x.toNat : Int)) : Bs (w.alloc (.cells c 5 fr)) (w.alloc (.cells c 5 fr)).heap.size (.slice (some ⟨w.heap.size, 0, none⟩) l.length l.length) l := by
  refine ⟨some ⟨w.heap.size, 0, none⟩, l.length, rfl, Nat.le_refl _, fun j hj => ?_⟩
  have hb := hp_new w (.cells c 5 fr)
  refine ⟨w.heap.size, 0, rfl, lt_heap hb, lt_heap hb, ?_⟩
  rw [cell_at hb, ← Array.getElem?_toList, hc, Nat.zero_add, List.getElem?_map, List.getElem?_eq_getElem hj]
  rfl
theorem Rdr.keep {w W : World} {base gr g gr2 g2 : Nat} {it ct : TypeId} {t : Tal} {X : List Value} (h : Rdr w base gr g it ct t X) (k : RK w W gr2 g2) (h1 : gr ≠ gr2) (h2 : gr ≠ g2) (h3 : g ≠ gr2) (h4 : g ≠ g2) : Rdr W base gr g it ct t X :=
  ⟨(k.block gr (lt_heap' h.rd) h1 h2).trans h.rd, (k.block g (lt_heap' h.fr) h3 h4).trans h.fr, h.ne, h.rb, h.fb⟩
set_option maxHeartbeats 8000000 in
set_option maxRecDepth 100000 in
theorem speaks_any (w : World) : Calls Tryd.prog 10 #[] w fun e w' => e = .returned (.bool true) ∧ Below w.heap.size w w' := by
  have HA := hide (new_of (w := w) (k := 2) (len := 3) (x := false) (most := 9) (.inl rfl) (by decide) (by decide) rfl (by decide) (fun W => framed_len 3 false 9 W))
  unfold frV at HA
  go_enter Tryd.func10, Tryd.ntmps10
  go_wp2_with fail
  refine HA.out.mono ?_
  rintro e w1 ⟨gr, g, rfl, hgr, hg, b1, _, hR1⟩
  have RA1 := hide (hR1 rfl)
  have B1 := hide b1
  have HBB := hide (new_of (w := w1) (k := 4) (len := 0) (x := false) (most := 9) (.inr (.inr (.inl rfl))) (by decide) (by decide) rfl (by decide) (fun W => framed_clos 0 false 9 W))
  unfold frV at HBB
  clear hR1 b1 HA
  go_wp2_with fail
  refine HBB.out.mono ?_
  rintro e w2 ⟨gr2, g2, rfl, hgr2, hg2, b2, _, hR2⟩
  have RB2 := hide (hR2 rfl)
  have RA2 := hide (RA1.out.below b2)
  have B2 := hide (B1.out.trans (b2.mono B1.out.size))
  have l1 := lt_heap' RA1.out.rd
  have l2 := lt_heap' RA1.out.fr
  have l3 := lt_heap' RB2.out.rd
  have l4 := lt_heap' RB2.out.fr
  have s1 := B1.out.size
  have s2 := b2.size
  clear hR2 b2 HBB RA1 B1
  have hcv : (convert 31 31 (.slice (some ⟨w2.heap.size, 0, none⟩) 2 2)).run Tryd.prog (w2.alloc (.cells #[.int .u8 97, .int .u8 98] 5)) = .ok (.slice (some ⟨w2.heap.size, 0, none⟩) 2 2) (w2.alloc (.cells #[.int .u8 97, .int .u8 98] 5 (2, 3))) := Lib.run_convert_bytes_const w2 31 5 #[.int .u8 97, .int .u8 98] 2 2 Tryd.underlying31 Tryd.underlying5
  have BX := hide ((Below.refl w2.heap.size w2).alloc (Nat.le_refl _) (.cells #[.int .u8 97, .int .u8 98] 5 (2, 3)))
  have HFA := hide (feed_meas (RA2.out.below BX.out) (by have := BX.out.size; omega) _ [97, 98] (bs_lit w2 [97, 98] #[.int .u8 97, .int .u8 98] (2, 3) rfl) (.inr ⟨_, _, _, rfl⟩) (L := 3) (by decide) (by decide) (by decide))
  change Hid (Calls _ _ _ _ fun e w' => ∃ ua uc, e = .returned (.tuple #[.slice ua 2 uc, .int .i64 2, .bool false, .int .i64 0]) ∧ Row w' _ 5 (.slice ua 2 uc) (bc [97, 98]) ∧ FdP _ w' _ gr g _ _ ⟨2, false, 0⟩ [.int .i64 3]) at HFA
  have RB3 := hide (RB2.out.below BX.out)
  have B3 := hide (B2.out.trans (BX.out.mono B2.out.size))
  have s3 := BX.out.size
  go_wp2_with fail
  clear hcv BX RA2 RB2 B2
  generalize w2.alloc (.cells #[.int .u8 97, .int .u8 98] 5 (2, 3)) = x at HFA RB3 B3 s3 ⊢
  refine HFA.out.mono ?_
  rintro e w3 ⟨ua, uc, rfl, hr3, hf3⟩
  have k3 := hf3.2.2
  have RA4 := hide (hf3.2.1 rfl)
  have RB4 := hide (RB3.out.keep k3 (by omega) (by omega) (by omega) (by omega))
  have R4 := hide hr3
  have B4 := hide (B3.out.trans (k3.low hgr hg B3.out.size))
  have s4 := k3.size
  clear hf3 hr3 k3 HFA RB3 B3
  go_wp2_with fail
  refine (end_meas RA4.out (by omega)).mono ?_
  rintro e w4 ⟨rfl, hf4⟩
  have k4 := hf4.2.2
  have RB5 := hide (RB4.out.keep k4 (by omega) (by omega) (by omega) (by omega))
  have R5 := hide (R4.out.frame (W' := w4) fun j e => k4.block j (R4.out.lt e).2 (by have := (R4.out.lt e).1; omega) (by have := (R4.out.lt e).1; omega))
  have B5 := hide (B4.out.trans (k4.low hgr hg B4.out.size))
  have s5 := k4.size
  clear hf4 k4 RB4 RA4 R4 B4
  have hcv : (convert 31 31 (.slice (some ⟨w4.heap.size, 0, none⟩) 2 2)).run Tryd.prog (w4.alloc (.cells #[.int .u8 99, .int .u8 100] 5)) = .ok (.slice (some ⟨w4.heap.size, 0, none⟩) 2 2) (w4.alloc (.cells #[.int .u8 99, .int .u8 100] 5 (2, 3))) := Lib.run_convert_bytes_const w4 31 5 #[.int .u8 99, .int .u8 100] 2 2 Tryd.underlying31 Tryd.underlying5
  have BX := hide ((Below.refl w4.heap.size w4).alloc (Nat.le_refl _) (.cells #[.int .u8 99, .int .u8 100] 5 (2, 3)))
  have HFB := hide (feed_clos (RB5.out.below BX.out) (by have := BX.out.size; omega) _ [99, 100] (bs_lit w4 [99, 100] #[.int .u8 99, .int .u8 100] (2, 3) rfl) (.inr ⟨_, _, _, rfl⟩) (L := 9) (by decide) (by decide) (by decide))
  change Hid (Calls _ _ _ _ fun e w' => ∃ ua uc, e = .returned (.tuple #[.slice ua 2 uc, .int .i64 2, .bool false, .int .i64 0]) ∧ Row w' _ 5 (.slice ua 2 uc) (bc [99, 100]) ∧ FdP _ w' _ gr2 g2 _ _ ⟨2, false, 0⟩ [.int .i64 9]) at HFB
  have R6 := hide (R5.out.below BX.out)
  have B6 := hide (B5.out.trans (BX.out.mono B5.out.size))
  have s6 := BX.out.size
  go_wp2_with fail
  clear hcv BX RB5 R5 B5
  generalize w4.alloc (.cells #[.int .u8 99, .int .u8 100] 5 (2, 3)) = y at HFB R6 B6 s6 ⊢
  refine HFB.out.mono ?_
  rintro e w5 ⟨va, vc, rfl, hr5, hf5⟩
  have k5 := hf5.2.2
  have RB7 := hide (hf5.2.1 rfl)
  have R7 := hide (R6.out.frame (W' := w5) fun j e => k5.block j (R6.out.lt e).2 (by have := (R6.out.lt e).1; omega) (by have := (R6.out.lt e).1; omega))
  have Y7 := hide hr5
  have B7 := hide (B6.out.trans (k5.low (base := w.heap.size) (by omega) (by omega) B6.out.size))
  have s7 := k5.size
  clear hf5 hr5 k5 HFB R6 B6
  go_wp2_with fail
  refine (end_clos RB7.out (by omega)).mono ?_
  rintro e w6 ⟨rfl, hf6⟩
  have k6 := hf6.2.2
  obtain ⟨g3, _, hr6⟩ := hf6.1 rfl
  have R8 := hide (R7.out.frame (W' := w6) fun j e => k6.block j (R7.out.lt e).2 (by have := (R7.out.lt e).1; omega) (by have := (R7.out.lt e).1; omega))
  have Y8 := hide (Y7.out.frame (W' := w6) fun j e => k6.block j (Y7.out.lt e).2 (by have := (Y7.out.lt e).1; omega) (by have := (Y7.out.lt e).1; omega))
  have B8 := hide (B7.out.trans (k6.low (base := w.heap.size) (by omega) (by omega) B7.out.size))
  have HW := hide (wholeR_any hr6 (.inr (.inr (.inr rfl))))
  have HG := hide (gotR_any hr6 (.inr (.inr (.inr rfl))))
  clear hf6 k6 RB7 R7 Y7 B7 hr6
  have x1 : (convert 31 9 (.slice ua 2 uc)).run Tryd.prog w6 = .ok (.string ⟨#[97, 98]⟩) w6 := R8.out.text
  have x2 : (convert 31 9 (.slice va 2 vc)).run Tryd.prog w6 = .ok (.string ⟨#[99, 100]⟩) w6 := Y8.out.text
  go_wp2_with fail
  refine HW.out.mono ?_
  rintro e w7 ⟨rfl, rfl⟩
  go_wp2_with fail
  refine HG.out.mono ?_
  rintro e w7 ⟨rfl, rfl⟩
  go_wp2
  go_ret
  exact ⟨rfl, B8.out⟩
theorem feedR_nil (a : Option Addr) (n c : Nat) (w : World) : Calls Tryd.prog 12 #[.pointer none, .slice a n c] w fun e w' => e = .returned (.tuple #[.slice none 0 0, .int .i64 0, .bool false, .int .i64 7]) ∧ w = w' := by
  go_enter Tryd.func12, Tryd.ntmps12
  go_wp2_with fail
  refine (isNone_nil w).mono ?_
  rintro e w1 ⟨rfl, rfl⟩
  go_wp2
  (try simp only [Exit.inBlock, Exit.then])
  exact bodyPost_ret (v := .tuple #[.slice none 0 0, .int .i64 0, .bool false, .int .i64 7]) (by simp [results, Tryd.results12, go_sem]) rfl ⟨rfl, rfl⟩
theorem endR_nil (w : World) : Calls Tryd.prog 16 #[.pointer none] w fun e w' => e = .returned (.tuple #[.bool false, .int .i64 7]) ∧ w = w' := by
  go_enter Tryd.func16, Tryd.ntmps16
  go_wp2_with fail
  refine (isNone_nil w).mono ?_
  rintro e w1 ⟨rfl, rfl⟩
  go_wp2
  go_ret2
  exact ⟨rfl, rfl⟩
theorem wholeR_nil (w : World) : Calls Tryd.prog 13 #[.pointer none] w fun e w' => e = .returned (.bool false) ∧ w = w' := by
  go_enter Tryd.func13, Tryd.ntmps13
  go_wp2_with fail
  refine (isNone_nil w).mono ?_
  rintro e w1 ⟨rfl, rfl⟩
  go_wp2
  go_ret
  exact ⟨rfl, rfl⟩
theorem gotR_nil (w : World) : Calls Tryd.prog 14 #[.pointer none] w fun e w' => e = .returned (.int .i64 0) ∧ w = w' := by
  go_enter Tryd.func14, Tryd.ntmps14
  go_wp2_with fail
  refine (isNone_nil w).mono ?_
  rintro e w1 ⟨rfl, rfl⟩
  go_wp2
  go_ret
  exact ⟨rfl, rfl⟩
set_option maxHeartbeats 2000000 in
set_option maxRecDepth 100000 in
theorem nil_walk (a : Option Addr) (n c : Nat) (w : World) : Calls Tryd.prog 6 #[.slice a n c] w fun e w' => e = .returned (.bool true) ∧ Below w.heap.size w w' := by
  go_enter Tryd.func6, Tryd.ntmps6
  go_wp2_with fail
  refine (feedR_nil a n c w).mono ?_
  rintro e w1 ⟨rfl, rfl⟩
  go_wp2_with fail
  refine (endR_nil w).mono ?_
  rintro e w1 ⟨rfl, rfl⟩
  go_wp2_with fail
  refine (wholeR_nil w).mono ?_
  rintro e w1 ⟨rfl, rfl⟩
  go_wp2_with fail
  refine (gotR_nil w).mono ?_
  rintro e w1 ⟨rfl, rfl⟩
  go_wp2_with fail
  refine (speaks_any w).mono ?_
  rintro e w3 ⟨rfl, b3⟩
  have B3 := hide b3
  clear b3
  go_wp2
  go_ret
  exact ⟨rfl, B3.out⟩
end Go.Proofs.YtggeihahbgeneaaDoor
namespace Go.Proofs.YtggeihahbgeneaaDoor
open Go.ChangeShapes Go.WideShapes Go.ChangeAt Go.RowKit

theorem new_bad1 (k len : Int) (x : Bool) (most : Int) (w : World) (h : isR k len = false) : Calls Tryd.prog 8 #[frV k len x, .int .i64 most] w fun e w' => e = .returned (.tuple #[.pointer none, .int .i64 1]) ∧ Below w.heap.size w w' := by
  have HI := hide (fun W => isRight_any k len x W)
  rw [h] at HI
  clear h
  unfold frV at HI ⊢
  go_enter Tryd.func8, Tryd.ntmps8
  have BA := hide ((Below.refl w.heap.size w).alloc (Nat.le_refl _) (.cells #[.int .i64 k, .int .i64 len, .bool x] 23))
  have HB := hide (hp_new w (.cells #[.int .i64 k, .int .i64 len, .bool x] 23))
  go_upto_region 1 with fail
  generalize w.alloc (.cells #[.int .i64 k, .int .i64 len, .bool x] 23) = W0 at BA HB ⊢
  have c0 : W0.cell? ⟨w.heap.size, 0, none⟩ = some (.int .i64 k) := cell_at HB.out 0
  have c1 : W0.cell? ⟨w.heap.size, 1, none⟩ = some (.int .i64 len) := cell_at HB.out 1
  have c2 : W0.cell? ⟨w.heap.size, 2, none⟩ = some (.bool x) := cell_at HB.out 2
  go_wp2_with fail
  refine (HI.out W0).mono ?_
  rintro e W1 ⟨rfl, b1⟩
  have B1 := hide (BA.out.trans (b1.mono BA.out.size))
  clear c0 c1 c2 b1 HI
  go_wp2
  go_ret2
  exact ⟨rfl, B1.out⟩
theorem new_long (k len : Int) (x : Bool) (most : Int) (w : World) (h : isR k len = true) (h0 : 0 ≤ most) (hm : most ≤ 9007199254740992) (hl : most < len) : Calls Tryd.prog 8 #[frV k len x, .int .i64 most] w fun e w' => e = .returned (.tuple #[.pointer none, .int .i64 2]) ∧ Below w.heap.size w w' := by
  have HI := hide (fun W => isRight_any k len x W)
  rw [h] at HI
  have t1 : ¬ most < 0 := by omega
  have t2 : ¬ 9007199254740992 < most := by omega
  clear h
  unfold frV at HI ⊢
  go_enter Tryd.func8, Tryd.ntmps8
  have BA := hide ((Below.refl w.heap.size w).alloc (Nat.le_refl _) (.cells #[.int .i64 k, .int .i64 len, .bool x] 23))
  have HB := hide (hp_new w (.cells #[.int .i64 k, .int .i64 len, .bool x] 23))
  have HLT := lt_heap' HB.out
  go_upto_region 1 with fail
  generalize w.alloc (.cells #[.int .i64 k, .int .i64 len, .bool x] 23) = W0 at BA HB HLT ⊢
  have c0 : W0.cell? ⟨w.heap.size, 0, none⟩ = some (.int .i64 k) := cell_at HB.out 0
  have c1 : W0.cell? ⟨w.heap.size, 1, none⟩ = some (.int .i64 len) := cell_at HB.out 1
  have c2 : W0.cell? ⟨w.heap.size, 2, none⟩ = some (.bool x) := cell_at HB.out 2
  go_wp2_with fail
  refine (HI.out W0).mono ?_
  rintro e W1 ⟨rfl, b1⟩
  have B1 := hide (BA.out.trans (b1.mono BA.out.size))
  have HB1 := hide ((b1.block w.heap.size HLT).trans HB.out)
  clear c0 c1 c2 b1 HI
  have c1 : W1.cell? ⟨w.heap.size, 1, none⟩ = some (.int .i64 len) := cell_at HB1.out 1
  go_wp2
  go_ret2
  exact ⟨rfl, B1.out⟩
theorem Bs.text {w : World} {base : Nat} {v : Value} {l : List UInt8} (h : Bs w base v l) : (convert 31 9 v).run Tryd.prog w = .ok (.string ⟨l.toArray⟩) w := by
  obtain ⟨a, c, rfl, _, hx⟩ := h
  cases l with
  | nil =>
    cases a with
    | none => exact run_convert_bytes_nil w 31 5 Tryd.underlying31 Tryd.underlying5 0 c 9 Tryd.underlying9
    | some ad => exact run_convert_bytes_back w 31 9 5 ad c [] Tryd.underlying31 Tryd.underlying5 Tryd.underlying9 (fun j hj => by simp at hj)
  | cons y r =>
    obtain ⟨g, o, rfl, _, _, _⟩ := hx 0 (by simp)
    refine run_convert_bytes_back w 31 9 5 ⟨g, o, none⟩ c (y :: r) Tryd.underlying31 Tryd.underlying5 Tryd.underlying9 (fun j hj => ?_)
    obtain ⟨g', o', h1, _, _, h4⟩ := hx j hj
    simp only [Option.some.injEq, Addr.mk.injEq] at h1
    obtain ⟨rfl, rfl, _⟩ := h1
    have e : (⟨g, o, none⟩ : Addr).add j = ⟨g, o + j, none⟩ := by unfold Addr.add; split <;> simp_all
    rw [e]
    exact h4
theorem Bs.takeB {w : World} {base : Nat} {a : Option Addr} {m c : Nat} {l : List UInt8} (h : Bs w base (.slice a m c) l) (k : Nat) (hk : k ≤ l.length) : Bs w base (.slice a k c) (l.take k) := by
  obtain ⟨a', c', he, hc, h⟩ := h
  simp only [Value.slice.injEq] at he
  obtain ⟨rfl, rfl, rfl⟩ := he
  have hkl : (l.take k).length = k := by rw [List.length_take]; omega
  refine ⟨a, c, by rw [hkl], by rw [hkl]; omega, fun j hj => ?_⟩
  rw [hkl] at hj
  obtain ⟨g, o, h1, h2, h3, h4⟩ := h j (by omega)
  exact ⟨g, o, h1, h2, h3, by rw [h4]; simp⟩
theorem exact_bad (len : Int) (a : Option Addr) (n c : Nat) (w : World) (h : len < 0 ∨ 100000 < len) :
    Calls Tryd.prog 4 #[.int .i64 len, .slice a n c] w fun e w' => e = .returned (.bool true) ∧ Below w.heap.size w w' := by
  have HN : Hid (∃ er : Int, er ≠ 0 ∧ Calls Tryd.prog 8 #[frV 2 len false, .int .i64 100000] w fun e w' => e = .returned (.tuple #[.pointer none, .int .i64 er]) ∧ Below w.heap.size w w') := hide (by
    by_cases h1 : 0 ≤ len ∧ len ≤ 9007199254740992
    · exact ⟨2, by decide, new_long 2 len false 100000 w (by unfold isR; rw [if_pos rfl]; exact decide_eq_true h1) (by decide) (by decide) (by omega)⟩
    · exact ⟨1, by decide, new_bad1 2 len false 100000 w (by unfold isR; rw [if_pos rfl]; exact decide_eq_false h1)⟩)
  obtain ⟨er, he, hn⟩ := HN.out
  have te : (er != 0) = true := bne_iff_ne.2 he
  have HN2 := hide hn
  unfold frV at HN2
  clear hn HN
  rcases h with h | h
  · have t1 : len < 0 := h
    clear h he
    go_enter Tryd.func4, Tryd.ntmps4
    go_wp2_with fail
    refine HN2.out.mono ?_
    rintro e w1 ⟨rfl, b1⟩
    have B1 := hide b1
    clear b1
    go_wp2_with fail
    refine (speaks_any w1).mono ?_
    rintro e w2 ⟨rfl, b2⟩
    have B2 := hide (B1.out.trans (b2.mono B1.out.size))
    clear b2
    go_wp2
    go_ret
    exact ⟨rfl, B2.out⟩
  · have t1 : ¬ len < 0 := by omega
    have t2 : 100000 < len := h
    clear h he
    go_enter Tryd.func4, Tryd.ntmps4
    go_wp2_with fail
    refine HN2.out.mono ?_
    rintro e w1 ⟨rfl, b1⟩
    have B1 := hide b1
    clear b1
    go_wp2_with fail
    refine (speaks_any w1).mono ?_
    rintro e w2 ⟨rfl, b2⟩
    have B2 := hide (B1.out.trans (b2.mono B1.out.size))
    clear b2
    go_wp2
    go_ret
    exact ⟨rfl, B2.out⟩
set_option maxHeartbeats 16000000 in
set_option maxRecDepth 100000 in
theorem exact_walk (len : Int) (v : Value) (b : List UInt8) (w : World) (hB : Bs w w.heap.size v b) (hS : Shp v) (hl : b.length ≤ 140737488355328) :
    Calls Tryd.prog 4 #[.int .i64 len, v] w fun e w' => e = .returned (.bool true) ∧ Below w.heap.size w w' := by
  have HB := hide hB
  have HSH := hide hS
  obtain ⟨va, vc, rfl, hvc, _⟩ := hB
  by_cases hbad : len < 0 ∨ 100000 < len
  · exact exact_bad len va b.length vc w hbad
  obtain ⟨L, rfl⟩ := Int.eq_ofNat_of_zero_le (show 0 ≤ len by omega)
  have hL : L ≤ 100000 := by omega
  clear hbad hS
  have HN := hide (new_of (w := w) (k := 2) (len := (L : Int)) (x := false) (most := 100000) (.inl rfl) (by decide) (by decide) (by unfold isR; rw [if_pos rfl]; exact decide_eq_true (by omega)) (by omega) (fun W => framed_len L false 100000 W))
  unfold frV at HN
  go_enter Tryd.func4, Tryd.ntmps4
  go_wp2_with fail
  refine HN.out.mono ?_
  rintro e w1 ⟨gr, g, rfl, hgr, hg, b1, hO1, hR1⟩
  have B1 := hide b1
  have HO1 := hide hO1
  have HR1 := hide hR1
  have HB1 := hide (HB.out.below b1.size b1)
  clear b1 hO1 hR1 HN
  obtain ⟨k, hk⟩ : ∃ k, min b.length L = k := ⟨_, rfl⟩
  by_cases hL0 : L = 0
  · subst hL0
    obtain ⟨g1, hg1, hr1⟩ := HO1.out rfl
    have HFD := hide (feed_over hr1 B1.out.size va b.length vc)
    have tbl : ¬ (b.length : Int) < 0 := by omega
    clear HO1 HR1 hk k
    go_wp2_with fail
    refine HFD.out.mono ?_
    rintro e w2 ⟨rfl, hf2⟩
    have k2 := hf2.2.2
    obtain ⟨g2, hg2, hr2⟩ := hf2.1 rfl
    have hz2 := k2.size
    have hz1 := B1.out.size
    have B2 := hide (B1.out.trans (k2.low (base := w.heap.size) hgr (by omega) B1.out.size))
    have HRD := hide hr2
    have HB2 := hide (HB.out.below B2.out.size B2.out)
    have CV1 : Hid (∀ W, Below w2.heap.size w2 W → (convert 31 9 (.slice none 0 0)).run Tryd.prog W = .ok (.string ⟨#[]⟩) W) := hide (fun W _ => (Bs.text (base := 0) (l := []) ⟨none, 0, rfl, Nat.le_refl _, fun j hj => by simp at hj⟩))
    have CV2 : Hid (∀ W, Below w2.heap.size w2 W → (convert 31 9 (.slice va 0 vc)).run Tryd.prog W = .ok (.string ⟨#[]⟩) W) := hide (fun W h => (Bs.text ((HB2.out.below h.size h).takeB 0 (Nat.zero_le _))))
    have HED := hide (end_over (HRD.out.below ((Below.refl _ _).drew)) (by show _ ≤ w2.heap.size; omega))
    clear hf2 k2 hr1 hr2 HFD HB1 HB2
    go_upto_region 5 with fail
    have cS : Below w2.heap.size w2 w2.drew := (Below.refl w2.heap.size w2).drew
    refine wp_region_noPanic ?_
    refine wp_region_held_drew (S := fun W => Below w2.heap.size w2 W) (by kernel_rfl) cS (fun hHeld => ?_)
    refine wpAnyH_take (i := 0) (v := ?_) rfl (by kernel_rfl) (by kernel_rfl) (by kernel_rfl) (fun _ _ _ h => h) (Or.inl ⟨by rfl, ?_⟩) (by assumption) ?_
    rotate_left
    · (intro W hSw; (try dsimp only at hSw); go_simp; try with_reducible rfl)
    simp only [List.getElem_toArray, List.getElem_cons_zero, Act.put, List.setIfInBounds_toArray, List.set_cons_zero, List.set_cons_succ]
    refine wpAnyH_take (i := 1) (v := .bool false) rfl (by kernel_rfl) (by kernel_rfl) (by kernel_rfl) (fun _ _ _ h => h) (Or.inl ⟨by rfl, ?_⟩) (by assumption) ?_
    · (intro W hSw; go_simp)
    simp only [List.getElem_toArray, List.getElem_cons_zero, List.getElem_cons_succ, Act.put, List.setIfInBounds_toArray, List.set_cons_zero, List.set_cons_succ]
    refine wpAnyH_take (i := 2) (v := ?_) rfl (by kernel_rfl) (by kernel_rfl) (by kernel_rfl) (fun _ _ _ h => h) (Or.inl ⟨by rfl, ?_⟩) (by assumption) ?_
    rotate_left
    · (intro W hSw; (try dsimp only at hSw); go_simp; try with_reducible rfl)
    simp only [List.getElem_toArray, List.getElem_cons_zero, List.getElem_cons_succ, Act.put, List.setIfInBounds_toArray, List.set_cons_zero, List.set_cons_succ]
    refine wpAnyH_take (i := 3) (v := ?_) rfl (by kernel_rfl) (by kernel_rfl) (by kernel_rfl) (fun _ _ _ h => h) (Or.inl ⟨by rfl, ?_⟩) (by assumption) ?_
    rotate_left
    · (intro W hSw; (try dsimp only at hSw); go_simp; try with_reducible rfl)
    simp only [List.getElem_toArray, List.getElem_cons_zero, List.getElem_cons_succ, Act.put, List.setIfInBounds_toArray, List.set_cons_zero, List.set_cons_succ]
    refine wpAnyH_take (i := 4) (v := ?_) rfl (by kernel_rfl) (by kernel_rfl) (by kernel_rfl) (fun _ _ _ h => h) (Or.inl ⟨by rfl, ?_⟩) (by assumption) ?_
    rotate_left
    · (intro W hSw; (try dsimp only at hSw); go_simp; try with_reducible rfl)
    simp only [List.getElem_toArray, List.getElem_cons_zero, List.getElem_cons_succ, Act.put, List.setIfInBounds_toArray, List.set_cons_zero, List.set_cons_succ]
    refine wpAnyH_take (i := 5) (v := ?_) rfl (by kernel_rfl) (by kernel_rfl) (by kernel_rfl) (fun _ _ _ h => h) (Or.inl ⟨by rfl, ?_⟩) (by assumption) ?_
    rotate_left
    · (intro W hSw; (try dsimp only at hSw); go_simp; try with_reducible rfl)
    simp only [List.getElem_toArray, List.getElem_cons_zero, List.getElem_cons_succ, Act.put, List.setIfInBounds_toArray, List.set_cons_zero, List.set_cons_succ]
    refine wpAnyH_take (i := 6) (v := .bool false) rfl (by kernel_rfl) (by kernel_rfl) (by kernel_rfl) (fun _ _ _ h => h) (Or.inl ⟨by rfl, ?_⟩) (by assumption) ?_
    · (intro W hSw; go_simp)
    simp only [List.getElem_toArray, List.getElem_cons_zero, List.getElem_cons_succ, Act.put, List.setIfInBounds_toArray, List.set_cons_zero, List.set_cons_succ]
    refine wpAnyH_take (i := 7) (v := ?_) rfl (by kernel_rfl) (by kernel_rfl) (by kernel_rfl) (fun _ _ _ h => h) (Or.inl ⟨by rfl, ?_⟩) (by assumption) ?_
    rotate_left
    · (intro W hSw; (try dsimp only at hSw); go_simp; try with_reducible rfl)
    simp only [List.getElem_toArray, List.getElem_cons_zero, List.getElem_cons_succ, Act.put, List.setIfInBounds_toArray, List.set_cons_zero, List.set_cons_succ]
    refine wpAnyH_take (i := 8) (v := ?_) rfl (by kernel_rfl) (by kernel_rfl) (by kernel_rfl) (fun _ _ _ h => h) (Or.inl ⟨by rfl, ?_⟩) (by assumption) ?_
    rotate_left
    · (intro W hSw; (try dsimp only at hSw); go_simp; try with_reducible rfl)
    simp only [List.getElem_toArray, List.getElem_cons_zero, List.getElem_cons_succ, Act.put, List.setIfInBounds_toArray, List.set_cons_zero, List.set_cons_succ]
    refine wpAnyH_take (i := 9) (v := ?_) rfl (by kernel_rfl) (by kernel_rfl) (by kernel_rfl) (fun _ _ _ h => h) (Or.inl ⟨by rfl, ?_⟩) (by assumption) ?_
    rotate_left
    · (intro W hSw; (try dsimp only at hSw); go_simp; try with_reducible rfl)
    simp only [List.getElem_toArray, List.getElem_cons_zero, List.getElem_cons_succ, Act.put, List.setIfInBounds_toArray, List.set_cons_zero, List.set_cons_succ]
    refine wpAnyH_take (i := 10) (v := ?_) rfl (by kernel_rfl) (by kernel_rfl) (by kernel_rfl) (fun _ _ _ h => h) (Or.inl ⟨by rfl, ?_⟩) (by assumption) ?_
    rotate_left
    · (intro W hSw; have hc := CV1.out W hSw; go_simp; try with_reducible rfl)
    simp only [List.getElem_toArray, List.getElem_cons_zero, List.getElem_cons_succ, Act.put, List.setIfInBounds_toArray, List.set_cons_zero, List.set_cons_succ]
    refine wpAnyH_take (i := 11) (v := ?_) rfl (by kernel_rfl) (by kernel_rfl) (by kernel_rfl) (fun _ _ _ h => h) (Or.inl ⟨by rfl, ?_⟩) (by assumption) ?_
    rotate_left
    · (intro W hSw; (try dsimp only at hSw); go_simp; try with_reducible rfl)
    simp only [List.getElem_toArray, List.getElem_cons_zero, List.getElem_cons_succ, Act.put, List.setIfInBounds_toArray, List.set_cons_zero, List.set_cons_succ]
    refine wpAnyH_take (i := 12) (v := ?_) rfl (by kernel_rfl) (by kernel_rfl) (by kernel_rfl) (fun _ _ _ h => h) (Or.inl ⟨by rfl, ?_⟩) (by assumption) ?_
    rotate_left
    · (intro W hSw; (try dsimp only at hSw); go_simp; try with_reducible rfl)
    simp only [List.getElem_toArray, List.getElem_cons_zero, List.getElem_cons_succ, Act.put, List.setIfInBounds_toArray, List.set_cons_zero, List.set_cons_succ]
    refine wpAnyH_take (i := 13) (v := ?_) rfl (by kernel_rfl) (by kernel_rfl) (by kernel_rfl) (fun _ _ _ h => h) (Or.inl ⟨by rfl, ?_⟩) (by assumption) ?_
    rotate_left
    · (intro W hSw; (try dsimp only at hSw); go_simp; try with_reducible rfl)
    simp only [List.getElem_toArray, List.getElem_cons_zero, List.getElem_cons_succ, Act.put, List.setIfInBounds_toArray, List.set_cons_zero, List.set_cons_succ]
    refine wpAnyH_take (i := 14) (v := ?_) rfl (by kernel_rfl) (by kernel_rfl) (by kernel_rfl) (fun _ _ _ h => h) (Or.inl ⟨by rfl, ?_⟩) (by assumption) ?_
    rotate_left
    · (intro W hSw; have hc := CV2.out W hSw; go_simp; try with_reducible rfl)
    simp only [List.getElem_toArray, List.getElem_cons_zero, List.getElem_cons_succ, Act.put, List.setIfInBounds_toArray, List.set_cons_zero, List.set_cons_succ]
    refine wpAnyH_take (i := 15) (v := .bool false) rfl (by kernel_rfl) (by kernel_rfl) (by kernel_rfl) (fun _ _ _ h => h) (Or.inl ⟨by rfl, ?_⟩) (by assumption) ?_
    · (intro W hSw; go_simp)
    simp only [List.getElem_toArray, List.getElem_cons_zero, List.getElem_cons_succ, Act.put, List.setIfInBounds_toArray, List.set_cons_zero, List.set_cons_succ]
    refine wpAnyH_take (i := 16) (v := ?_) rfl (by kernel_rfl) (by kernel_rfl) (by kernel_rfl) (fun _ _ _ h => h) (Or.inl ⟨by rfl, ?_⟩) (by assumption) ?_
    rotate_left
    · (intro W hSw; (try dsimp only at hSw); go_simp; try with_reducible rfl)
    simp only [List.getElem_toArray, List.getElem_cons_zero, List.getElem_cons_succ, Act.put, List.setIfInBounds_toArray, List.set_cons_zero, List.set_cons_succ]
    refine wpAnyH_done (by kernel_rfl) ?_ _
    clear hHeld cS
    refine NoPanic.normal ?_
    go_wp2_with fail
    refine HED.out.mono ?_
    rintro e w3 ⟨rfl, hf3⟩
    have B2 := hide (B2.out.trans (((Below.refl w2.heap.size w2).drew).mono B2.out.size))
    have k3 := hf3.2.2
    have B3 := hide (B2.out.trans (k3.low (base := w.heap.size) hgr (by omega) B2.out.size))
    clear hf3 k3
    go_wp2_with fail
    refine (speaks_any w3).mono ?_
    rintro e w4 ⟨rfl, b4⟩
    have B4 := hide (B3.out.trans (b4.mono B3.out.size))
    clear b4
    go_wp2
    go_ret
    exact ⟨rfl, B4.out⟩
  · by_cases hbl : b.length < L
    · have hr1 := HR1.out (by simp [overT, hL0])
      have HFD := hide (feed_meas (L := L) hr1 B1.out.size (.slice va b.length vc) b HB1.out HSH.out (by omega) (Nat.zero_le _) (by omega))
      have hkd : tkN b L 0 = k := by unfold tkN; omega
      have e0 : (0 : Nat) + k = k := Nat.zero_add k
      dsimp only at HFD
      rw [hkd, e0] at HFD
      have hkb : k = b.length := by omega
      have hov : overT ⟨k, decide (k = L), 0⟩ = false := by simp [overT]; omega
      have tbl : (b.length : Int) < (L : Int) := by omega
      have hnl : decide (k = L) = false := decide_eq_false (by omega)
      have hkl : k ≤ b.length := by omega
      have hkv : k ≤ vc := by omega
      rw [hnl] at HFD hov
      have HKB := hide hkb
      have HOV := hide hov
      clear HO1 HR1 hk hkd e0 hov hnl hkb hbl
      go_wp2_with fail
      refine HFD.out.mono ?_
      rintro e w2 ⟨ua, uc, rfl, hr5, hf2⟩
      have k2 := hf2.2.2
      have hz2 := k2.size
      have hz1 := B1.out.size
      have B2 := hide (B1.out.trans (k2.low (base := w.heap.size) hgr hg B1.out.size))
      have HB2 := hide (HB.out.below B2.out.size B2.out)
      have R2 := hide hr5
      have CV1 : Hid (∀ W, Below w2.heap.size w2 W → (convert 31 9 (.slice ua k uc)).run Tryd.prog W = .ok (.string ⟨(b.take k).toArray⟩) W) := hide (fun W h => (R2.out.below h).text)
      have CV2 : Hid (∀ W, Below w2.heap.size w2 W → (convert 31 9 (.slice va k vc)).run Tryd.prog W = .ok (.string ⟨(b.take k).toArray⟩) W) := hide (fun W h => (Bs.text ((HB2.out.below h.size h).takeB k hkl)))
      have HED := hide (end_meas ((hf2.2.1 HOV.out).below ((Below.refl _ _).drew)) (by show _ ≤ w2.heap.size; omega))
      have hgx := hg
      generalize (⟨(b.take k).toArray⟩ : ByteArray) = so at CV1 CV2
      clear hf2 k2 hr5 hr1 HFD HB1 HB2 R2
      go_upto_region 5 with fail
      have cS : Below w2.heap.size w2 w2.drew := (Below.refl w2.heap.size w2).drew
      refine wp_region_noPanic ?_
      refine wp_region_held_drew (S := fun W => Below w2.heap.size w2 W) (by kernel_rfl) cS (fun hHeld => ?_)
      refine wpAnyH_take (i := 0) (v := ?_) rfl (by kernel_rfl) (by kernel_rfl) (by kernel_rfl) (fun _ _ _ h => h) (Or.inl ⟨by rfl, ?_⟩) (by assumption) ?_
      rotate_left
      · (intro W hSw; (try dsimp only at hSw); go_simp; try with_reducible rfl)
      simp only [List.getElem_toArray, List.getElem_cons_zero, Act.put, List.setIfInBounds_toArray, List.set_cons_zero, List.set_cons_succ]
      refine wpAnyH_take (i := 1) (v := .bool false) rfl (by kernel_rfl) (by kernel_rfl) (by kernel_rfl) (fun _ _ _ h => h) (Or.inl ⟨by rfl, ?_⟩) (by assumption) ?_
      · (intro W hSw; go_simp)
      simp only [List.getElem_toArray, List.getElem_cons_zero, List.getElem_cons_succ, Act.put, List.setIfInBounds_toArray, List.set_cons_zero, List.set_cons_succ]
      refine wpAnyH_take (i := 2) (v := ?_) rfl (by kernel_rfl) (by kernel_rfl) (by kernel_rfl) (fun _ _ _ h => h) (Or.inl ⟨by rfl, ?_⟩) (by assumption) ?_
      rotate_left
      · (intro W hSw; (try dsimp only at hSw); go_simp; try with_reducible rfl)
      simp only [List.getElem_toArray, List.getElem_cons_zero, List.getElem_cons_succ, Act.put, List.setIfInBounds_toArray, List.set_cons_zero, List.set_cons_succ]
      refine wpAnyH_take (i := 3) (v := ?_) rfl (by kernel_rfl) (by kernel_rfl) (by kernel_rfl) (fun _ _ _ h => h) (Or.inl ⟨by rfl, ?_⟩) (by assumption) ?_
      rotate_left
      · (intro W hSw; (try dsimp only at hSw); go_simp; try with_reducible rfl)
      simp only [List.getElem_toArray, List.getElem_cons_zero, List.getElem_cons_succ, Act.put, List.setIfInBounds_toArray, List.set_cons_zero, List.set_cons_succ]
      refine wpAnyH_take (i := 4) (v := ?_) rfl (by kernel_rfl) (by kernel_rfl) (by kernel_rfl) (fun _ _ _ h => h) (Or.inl ⟨by rfl, ?_⟩) (by assumption) ?_
      rotate_left
      · (intro W hSw; (try dsimp only at hSw); go_simp; try with_reducible rfl)
      simp only [List.getElem_toArray, List.getElem_cons_zero, List.getElem_cons_succ, Act.put, List.setIfInBounds_toArray, List.set_cons_zero, List.set_cons_succ]
      refine wpAnyH_take (i := 5) (v := ?_) rfl (by kernel_rfl) (by kernel_rfl) (by kernel_rfl) (fun _ _ _ h => h) (Or.inl ⟨by rfl, ?_⟩) (by assumption) ?_
      rotate_left
      · (intro W hSw; (try dsimp only at hSw); go_simp; try with_reducible rfl)
      simp only [List.getElem_toArray, List.getElem_cons_zero, List.getElem_cons_succ, Act.put, List.setIfInBounds_toArray, List.set_cons_zero, List.set_cons_succ]
      refine wpAnyH_take (i := 6) (v := .bool false) rfl (by kernel_rfl) (by kernel_rfl) (by kernel_rfl) (fun _ _ _ h => h) (Or.inl ⟨by rfl, ?_⟩) (by assumption) ?_
      · (intro W hSw; go_simp)
      simp only [List.getElem_toArray, List.getElem_cons_zero, List.getElem_cons_succ, Act.put, List.setIfInBounds_toArray, List.set_cons_zero, List.set_cons_succ]
      refine wpAnyH_take (i := 7) (v := ?_) rfl (by kernel_rfl) (by kernel_rfl) (by kernel_rfl) (fun _ _ _ h => h) (Or.inl ⟨by rfl, ?_⟩) (by assumption) ?_
      rotate_left
      · (intro W hSw; (try dsimp only at hSw); go_simp; try with_reducible rfl)
      simp only [List.getElem_toArray, List.getElem_cons_zero, List.getElem_cons_succ, Act.put, List.setIfInBounds_toArray, List.set_cons_zero, List.set_cons_succ]
      refine wpAnyH_take (i := 8) (v := ?_) rfl (by kernel_rfl) (by kernel_rfl) (by kernel_rfl) (fun _ _ _ h => h) (Or.inl ⟨by rfl, ?_⟩) (by assumption) ?_
      rotate_left
      · (intro W hSw; (try dsimp only at hSw); go_simp; try with_reducible rfl)
      simp only [List.getElem_toArray, List.getElem_cons_zero, List.getElem_cons_succ, Act.put, List.setIfInBounds_toArray, List.set_cons_zero, List.set_cons_succ]
      refine wpAnyH_take (i := 9) (v := ?_) rfl (by kernel_rfl) (by kernel_rfl) (by kernel_rfl) (fun _ _ _ h => h) (Or.inl ⟨by rfl, ?_⟩) (by assumption) ?_
      rotate_left
      · (intro W hSw; (try dsimp only at hSw); go_simp; try with_reducible rfl)
      simp only [List.getElem_toArray, List.getElem_cons_zero, List.getElem_cons_succ, Act.put, List.setIfInBounds_toArray, List.set_cons_zero, List.set_cons_succ]
      refine wpAnyH_take (i := 10) (v := ?_) rfl (by kernel_rfl) (by kernel_rfl) (by kernel_rfl) (fun _ _ _ h => h) (Or.inl ⟨by rfl, ?_⟩) (by assumption) ?_
      rotate_left
      · (intro W hSw; have hc := CV1.out W hSw; go_simp; try with_reducible rfl)
      simp only [List.getElem_toArray, List.getElem_cons_zero, List.getElem_cons_succ, Act.put, List.setIfInBounds_toArray, List.set_cons_zero, List.set_cons_succ]
      refine wpAnyH_take (i := 11) (v := ?_) rfl (by kernel_rfl) (by kernel_rfl) (by kernel_rfl) (fun _ _ _ h => h) (Or.inl ⟨by rfl, ?_⟩) (by assumption) ?_
      rotate_left
      · (intro W hSw; (try dsimp only at hSw); go_simp; try with_reducible rfl)
      simp only [List.getElem_toArray, List.getElem_cons_zero, List.getElem_cons_succ, Act.put, List.setIfInBounds_toArray, List.set_cons_zero, List.set_cons_succ]
      refine wpAnyH_take (i := 12) (v := ?_) rfl (by kernel_rfl) (by kernel_rfl) (by kernel_rfl) (fun _ _ _ h => h) (Or.inl ⟨by rfl, ?_⟩) (by assumption) ?_
      rotate_left
      · (intro W hSw; (try dsimp only at hSw); go_simp; try with_reducible rfl)
      simp only [List.getElem_toArray, List.getElem_cons_zero, List.getElem_cons_succ, Act.put, List.setIfInBounds_toArray, List.set_cons_zero, List.set_cons_succ]
      refine wpAnyH_take (i := 13) (v := ?_) rfl (by kernel_rfl) (by kernel_rfl) (by kernel_rfl) (fun _ _ _ h => h) (Or.inl ⟨by rfl, ?_⟩) (by assumption) ?_
      rotate_left
      · (intro W hSw; (try dsimp only at hSw); go_simp; try with_reducible rfl)
      simp only [List.getElem_toArray, List.getElem_cons_zero, List.getElem_cons_succ, Act.put, List.setIfInBounds_toArray, List.set_cons_zero, List.set_cons_succ]
      refine wpAnyH_take (i := 14) (v := ?_) rfl (by kernel_rfl) (by kernel_rfl) (by kernel_rfl) (fun _ _ _ h => h) (Or.inl ⟨by rfl, ?_⟩) (by assumption) ?_
      rotate_left
      · (intro W hSw; have hc := CV2.out W hSw; go_simp; try with_reducible rfl)
      simp only [List.getElem_toArray, List.getElem_cons_zero, List.getElem_cons_succ, Act.put, List.setIfInBounds_toArray, List.set_cons_zero, List.set_cons_succ]
      refine wpAnyH_take (i := 15) (v := .bool false) rfl (by kernel_rfl) (by kernel_rfl) (by kernel_rfl) (fun _ _ _ h => h) (Or.inl ⟨by rfl, ?_⟩) (by assumption) ?_
      · (intro W hSw; go_simp)
      simp only [List.getElem_toArray, List.getElem_cons_zero, List.getElem_cons_succ, Act.put, List.setIfInBounds_toArray, List.set_cons_zero, List.set_cons_succ]
      refine wpAnyH_take (i := 16) (v := ?_) rfl (by kernel_rfl) (by kernel_rfl) (by kernel_rfl) (fun _ _ _ h => h) (Or.inl ⟨by rfl, ?_⟩) (by assumption) ?_
      rotate_left
      · (intro W hSw; (try dsimp only at hSw); go_simp; try with_reducible rfl)
      simp only [List.getElem_toArray, List.getElem_cons_zero, List.getElem_cons_succ, Act.put, List.setIfInBounds_toArray, List.set_cons_zero, List.set_cons_succ]
      refine wpAnyH_done (by kernel_rfl) ?_ _
      clear hHeld cS
      refine NoPanic.normal ?_
      have tn : ((k : Int) == (b.length : Int)) = true := by rw [beq_iff_eq]; have := HKB.out; omega
      go_wp2_with fail
      refine HED.out.mono ?_
      rintro e w3 ⟨rfl, hf3⟩
      have B2 := hide (B2.out.trans (((Below.refl w2.heap.size w2).drew).mono B2.out.size))
      have k3 := hf3.2.2
      have B3 := hide (B2.out.trans (k3.low (base := w.heap.size) hgr (by omega) B2.out.size))
      clear hf3 k3
      go_wp2_with fail
      refine (speaks_any w3).mono ?_
      rintro e w4 ⟨rfl, b4⟩
      have B4 := hide (B3.out.trans (b4.mono B3.out.size))
      clear b4
      go_wp2
      go_ret
      exact ⟨rfl, B4.out⟩
    · have hr1 := HR1.out (by simp [overT, hL0])
      have HFD := hide (feed_meas (L := L) hr1 B1.out.size (.slice va b.length vc) b HB1.out HSH.out (by omega) (Nat.zero_le _) (by omega))
      have hkd : tkN b L 0 = k := by unfold tkN; omega
      have e0 : (0 : Nat) + k = k := Nat.zero_add k
      dsimp only at HFD
      rw [hkd, e0] at HFD
      have hkb : k = L := by omega
      have hov : overT ⟨k, decide (k = L), 0⟩ = true := by simp [overT]; omega
      have tbl : ¬ (b.length : Int) < (L : Int) := by omega
      have hnl : decide (k = L) = true := decide_eq_true (by omega)
      have hkl : k ≤ b.length := by omega
      have hkv : k ≤ vc := by omega
      rw [hnl] at HFD hov
      have HKB := hide hkb
      have HOV := hide hov
      clear HO1 HR1 hk hkd e0 hov hnl hkb hbl
      go_wp2_with fail
      refine HFD.out.mono ?_
      rintro e w2 ⟨ua, uc, rfl, hr5, hf2⟩
      have k2 := hf2.2.2
      have hz2 := k2.size
      have hz1 := B1.out.size
      have B2 := hide (B1.out.trans (k2.low (base := w.heap.size) hgr hg B1.out.size))
      have HB2 := hide (HB.out.below B2.out.size B2.out)
      have R2 := hide hr5
      have CV1 : Hid (∀ W, Below w2.heap.size w2 W → (convert 31 9 (.slice ua k uc)).run Tryd.prog W = .ok (.string ⟨(b.take k).toArray⟩) W) := hide (fun W h => (R2.out.below h).text)
      have CV2 : Hid (∀ W, Below w2.heap.size w2 W → (convert 31 9 (.slice va k vc)).run Tryd.prog W = .ok (.string ⟨(b.take k).toArray⟩) W) := hide (fun W h => (Bs.text ((HB2.out.below h.size h).takeB k hkl)))
      obtain ⟨g2, hgx, hr2⟩ := hf2.1 HOV.out
      have HED := hide (end_over (hr2.below ((Below.refl _ _).drew)) (by show _ ≤ w2.heap.size; omega))
      clear hr2
      generalize (⟨(b.take k).toArray⟩ : ByteArray) = so at CV1 CV2
      clear hf2 k2 hr5 hr1 HFD HB1 HB2 R2
      go_upto_region 5 with fail
      have cS : Below w2.heap.size w2 w2.drew := (Below.refl w2.heap.size w2).drew
      refine wp_region_noPanic ?_
      refine wp_region_held_drew (S := fun W => Below w2.heap.size w2 W) (by kernel_rfl) cS (fun hHeld => ?_)
      refine wpAnyH_take (i := 0) (v := ?_) rfl (by kernel_rfl) (by kernel_rfl) (by kernel_rfl) (fun _ _ _ h => h) (Or.inl ⟨by rfl, ?_⟩) (by assumption) ?_
      rotate_left
      · (intro W hSw; (try dsimp only at hSw); go_simp; try with_reducible rfl)
      simp only [List.getElem_toArray, List.getElem_cons_zero, Act.put, List.setIfInBounds_toArray, List.set_cons_zero, List.set_cons_succ]
      refine wpAnyH_take (i := 1) (v := .bool false) rfl (by kernel_rfl) (by kernel_rfl) (by kernel_rfl) (fun _ _ _ h => h) (Or.inl ⟨by rfl, ?_⟩) (by assumption) ?_
      · (intro W hSw; go_simp)
      simp only [List.getElem_toArray, List.getElem_cons_zero, List.getElem_cons_succ, Act.put, List.setIfInBounds_toArray, List.set_cons_zero, List.set_cons_succ]
      refine wpAnyH_take (i := 2) (v := ?_) rfl (by kernel_rfl) (by kernel_rfl) (by kernel_rfl) (fun _ _ _ h => h) (Or.inl ⟨by rfl, ?_⟩) (by assumption) ?_
      rotate_left
      · (intro W hSw; (try dsimp only at hSw); go_simp; try with_reducible rfl)
      simp only [List.getElem_toArray, List.getElem_cons_zero, List.getElem_cons_succ, Act.put, List.setIfInBounds_toArray, List.set_cons_zero, List.set_cons_succ]
      refine wpAnyH_take (i := 3) (v := ?_) rfl (by kernel_rfl) (by kernel_rfl) (by kernel_rfl) (fun _ _ _ h => h) (Or.inl ⟨by rfl, ?_⟩) (by assumption) ?_
      rotate_left
      · (intro W hSw; (try dsimp only at hSw); go_simp; try with_reducible rfl)
      simp only [List.getElem_toArray, List.getElem_cons_zero, List.getElem_cons_succ, Act.put, List.setIfInBounds_toArray, List.set_cons_zero, List.set_cons_succ]
      refine wpAnyH_take (i := 4) (v := ?_) rfl (by kernel_rfl) (by kernel_rfl) (by kernel_rfl) (fun _ _ _ h => h) (Or.inl ⟨by rfl, ?_⟩) (by assumption) ?_
      rotate_left
      · (intro W hSw; (try dsimp only at hSw); go_simp; try with_reducible rfl)
      simp only [List.getElem_toArray, List.getElem_cons_zero, List.getElem_cons_succ, Act.put, List.setIfInBounds_toArray, List.set_cons_zero, List.set_cons_succ]
      refine wpAnyH_take (i := 5) (v := ?_) rfl (by kernel_rfl) (by kernel_rfl) (by kernel_rfl) (fun _ _ _ h => h) (Or.inl ⟨by rfl, ?_⟩) (by assumption) ?_
      rotate_left
      · (intro W hSw; (try dsimp only at hSw); go_simp; try with_reducible rfl)
      simp only [List.getElem_toArray, List.getElem_cons_zero, List.getElem_cons_succ, Act.put, List.setIfInBounds_toArray, List.set_cons_zero, List.set_cons_succ]
      refine wpAnyH_take (i := 6) (v := .bool false) rfl (by kernel_rfl) (by kernel_rfl) (by kernel_rfl) (fun _ _ _ h => h) (Or.inl ⟨by rfl, ?_⟩) (by assumption) ?_
      · (intro W hSw; go_simp)
      simp only [List.getElem_toArray, List.getElem_cons_zero, List.getElem_cons_succ, Act.put, List.setIfInBounds_toArray, List.set_cons_zero, List.set_cons_succ]
      refine wpAnyH_take (i := 7) (v := ?_) rfl (by kernel_rfl) (by kernel_rfl) (by kernel_rfl) (fun _ _ _ h => h) (Or.inl ⟨by rfl, ?_⟩) (by assumption) ?_
      rotate_left
      · (intro W hSw; (try dsimp only at hSw); go_simp; try with_reducible rfl)
      simp only [List.getElem_toArray, List.getElem_cons_zero, List.getElem_cons_succ, Act.put, List.setIfInBounds_toArray, List.set_cons_zero, List.set_cons_succ]
      refine wpAnyH_take (i := 8) (v := ?_) rfl (by kernel_rfl) (by kernel_rfl) (by kernel_rfl) (fun _ _ _ h => h) (Or.inl ⟨by rfl, ?_⟩) (by assumption) ?_
      rotate_left
      · (intro W hSw; (try dsimp only at hSw); go_simp; try with_reducible rfl)
      simp only [List.getElem_toArray, List.getElem_cons_zero, List.getElem_cons_succ, Act.put, List.setIfInBounds_toArray, List.set_cons_zero, List.set_cons_succ]
      refine wpAnyH_take (i := 9) (v := ?_) rfl (by kernel_rfl) (by kernel_rfl) (by kernel_rfl) (fun _ _ _ h => h) (Or.inl ⟨by rfl, ?_⟩) (by assumption) ?_
      rotate_left
      · (intro W hSw; (try dsimp only at hSw); go_simp; try with_reducible rfl)
      simp only [List.getElem_toArray, List.getElem_cons_zero, List.getElem_cons_succ, Act.put, List.setIfInBounds_toArray, List.set_cons_zero, List.set_cons_succ]
      refine wpAnyH_take (i := 10) (v := ?_) rfl (by kernel_rfl) (by kernel_rfl) (by kernel_rfl) (fun _ _ _ h => h) (Or.inl ⟨by rfl, ?_⟩) (by assumption) ?_
      rotate_left
      · (intro W hSw; have hc := CV1.out W hSw; go_simp; try with_reducible rfl)
      simp only [List.getElem_toArray, List.getElem_cons_zero, List.getElem_cons_succ, Act.put, List.setIfInBounds_toArray, List.set_cons_zero, List.set_cons_succ]
      refine wpAnyH_take (i := 11) (v := ?_) rfl (by kernel_rfl) (by kernel_rfl) (by kernel_rfl) (fun _ _ _ h => h) (Or.inl ⟨by rfl, ?_⟩) (by assumption) ?_
      rotate_left
      · (intro W hSw; (try dsimp only at hSw); go_simp; try with_reducible rfl)
      simp only [List.getElem_toArray, List.getElem_cons_zero, List.getElem_cons_succ, Act.put, List.setIfInBounds_toArray, List.set_cons_zero, List.set_cons_succ]
      refine wpAnyH_take (i := 12) (v := ?_) rfl (by kernel_rfl) (by kernel_rfl) (by kernel_rfl) (fun _ _ _ h => h) (Or.inl ⟨by rfl, ?_⟩) (by assumption) ?_
      rotate_left
      · (intro W hSw; (try dsimp only at hSw); go_simp; try with_reducible rfl)
      simp only [List.getElem_toArray, List.getElem_cons_zero, List.getElem_cons_succ, Act.put, List.setIfInBounds_toArray, List.set_cons_zero, List.set_cons_succ]
      refine wpAnyH_take (i := 13) (v := ?_) rfl (by kernel_rfl) (by kernel_rfl) (by kernel_rfl) (fun _ _ _ h => h) (Or.inl ⟨by rfl, ?_⟩) (by assumption) ?_
      rotate_left
      · (intro W hSw; (try dsimp only at hSw); go_simp; try with_reducible rfl)
      simp only [List.getElem_toArray, List.getElem_cons_zero, List.getElem_cons_succ, Act.put, List.setIfInBounds_toArray, List.set_cons_zero, List.set_cons_succ]
      refine wpAnyH_take (i := 14) (v := ?_) rfl (by kernel_rfl) (by kernel_rfl) (by kernel_rfl) (fun _ _ _ h => h) (Or.inl ⟨by rfl, ?_⟩) (by assumption) ?_
      rotate_left
      · (intro W hSw; have hc := CV2.out W hSw; go_simp; try with_reducible rfl)
      simp only [List.getElem_toArray, List.getElem_cons_zero, List.getElem_cons_succ, Act.put, List.setIfInBounds_toArray, List.set_cons_zero, List.set_cons_succ]
      refine wpAnyH_take (i := 15) (v := .bool false) rfl (by kernel_rfl) (by kernel_rfl) (by kernel_rfl) (fun _ _ _ h => h) (Or.inl ⟨by rfl, ?_⟩) (by assumption) ?_
      · (intro W hSw; go_simp)
      simp only [List.getElem_toArray, List.getElem_cons_zero, List.getElem_cons_succ, Act.put, List.setIfInBounds_toArray, List.set_cons_zero, List.set_cons_succ]
      refine wpAnyH_take (i := 16) (v := ?_) rfl (by kernel_rfl) (by kernel_rfl) (by kernel_rfl) (fun _ _ _ h => h) (Or.inl ⟨by rfl, ?_⟩) (by assumption) ?_
      rotate_left
      · (intro W hSw; (try dsimp only at hSw); go_simp; try with_reducible rfl)
      simp only [List.getElem_toArray, List.getElem_cons_zero, List.getElem_cons_succ, Act.put, List.setIfInBounds_toArray, List.set_cons_zero, List.set_cons_succ]
      refine wpAnyH_done (by kernel_rfl) ?_ _
      clear hHeld cS
      refine NoPanic.normal ?_
      have tn : ((k : Int) == (L : Int)) = true := by rw [beq_iff_eq]; have := HKB.out; omega
      go_wp2_with fail
      refine HED.out.mono ?_
      rintro e w3 ⟨rfl, hf3⟩
      have B2 := hide (B2.out.trans (((Below.refl w2.heap.size w2).drew).mono B2.out.size))
      have k3 := hf3.2.2
      have B3 := hide (B2.out.trans (k3.low (base := w.heap.size) hgr (by omega) B2.out.size))
      clear hf3 k3
      go_wp2_with fail
      refine (speaks_any w3).mono ?_
      rintro e w4 ⟨rfl, b4⟩
      have B4 := hide (B3.out.trans (b4.mono B3.out.size))
      clear b4
      go_wp2
      go_ret
      exact ⟨rfl, B4.out⟩
end Go.Proofs.YtggeihahbgeneaaDoor
