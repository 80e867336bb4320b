/- What a framing reads, and its end. -/
import Derived.Test.YtggeihahbgeneaaDoorBTk
namespace Go.Proofs.YtggeihahbgeneaaDoor
open Go.ChangeShapes Go.WideShapes Go.ChangeAt Go.RowKit

theorem calls_exR {P : Program} {f : Nat} {args : Array Value} {w : World} {Q : Ending → World → Prop} {R : Value → World → Prop} (c : Calls P f args w Q) (h : ∀ e w', Q e w' → ∃ u, e = .returned u ∧ R u w') : Calls P f args w fun e w' => ∃ u, e = .returned u ∧ R u w' := c.mono h
/-- What a read tells. -/
def RdP (w w' : World) (gr g : Nat) (ct : TypeId) (body : List UInt8) (t' : Tal) (X : List Value) (ua : Option Addr) (k uc : Nat) : Prop :=
  Row w' w.heap.size 5 (.slice ua k uc) (bc body) ∧ Fr w' g ct t' X ∧ RK w w' gr g
theorem Fr.set {w : World} {g : Nat} {ct : TypeId} {t t' : Tal} {X : List Value} (h : Fr w g ct t X) (i : Nat) (v : Value) (hc : (talC t ++ X).toArray.setIfInBounds i v = (talC t' ++ X).toArray) : Fr (w.setCell ⟨g, i, none⟩ v) g ct t' X := ⟨by rw [← hc]; exact hp_set h.fr i v⟩
set_option maxHeartbeats 4000000 in
set_option maxRecDepth 100000 in
theorem read_meas {w : World} {g L : Nat} {t : Tal} (h : Fr w g 62 t [.int .i64 (L : Int)]) (gr : Nat) (v : Value) (b : List UInt8) (hB : Bs w w.heap.size v b) (hS : Shp v) (hL : L ≤ 9007199254740992) (hg : t.got ≤ L) (hl : b.length ≤ 140737488355328) :
    Calls Tryd.prog 101 #[.pointer (some ⟨g, 0, none⟩), v] w fun e w' => ∃ ua uc, e = .returned (.tuple #[.slice ua (tkN b L t.got) uc, .int .i64 ((tkN b L t.got : Nat) : Int)]) ∧ RdP w w' gr g 62 (b.take (tkN b L t.got)) ⟨t.got + tkN b L t.got, decide (t.got + tkN b L t.got = L), t.wrong⟩ [.int .i64 (L : Int)] ua (tkN b L t.got) uc := by
  have hgl := h.lt
  have BD := hide ((Below.refl w.heap.size w).drew)
  have HTK := hide (take_t (h.below BD.out) gr v b L (hB.below (Nat.le_refl _) BD.out) hS hL hg hl)
  have c3 : w.cell? ⟨g, 3, none⟩ = some (.int .i64 (L : Int)) := h.c 3
  have hS' : t.got + tkN b L t.got ≤ L := by unfold tkN; omega
  have hkl : tkN b L t.got ≤ b.length := by unfold tkN; omega
  obtain ⟨va, vc, rfl, _, _⟩ := hB
  clear h hS
  generalize tkN b L t.got = k at HTK hS' hkl ⊢
  obtain ⟨S, hS2⟩ : ∃ S, t.got + k = S := ⟨_, rfl⟩
  rw [hS2] at HTK hS' ⊢
  clear hS2
  go_enter Tryd.func101, Tryd.ntmps101
  go_upto_region 1 with fail
  go_region_law (refine step_call rfl 102 _ _ rfl (enters_of Tryd.func102 (by kernel_rfl) rfl) #[.pointer (some ⟨g, 0, none⟩), .slice va b.length vc, .int .i64 (L : Int)] (by simp [Act.eval]) (fun r w' => ∃ ua uc, r = .slice ua k uc ∧ Row w' w.drew.heap.size 5 (.slice ua k uc) (bc (b.take k)) ∧ Fr w' g 62 { t with got := S } [.int .i64 (L : Int)] ∧ RK w.drew w' gr g) (calls_exR HTK.out (by rintro e w' ⟨ua, uc, rfl, q1, q2, q3⟩; exact ⟨_, rfl, ua, uc, rfl, q1, q2, q3⟩)) ?_; rintro r W1 ⟨ua, uc, rfl, q1, q2, q3⟩)
  all_goals (
    have R1 : Hid (Row W1 w.heap.size 5 (.slice ua k uc) (bc (b.take k))) := hide q1
    have F1 := hide q2
    have K1 := hide ((RK.of_below gr g BD.out).trans q3 (.inl rfl))
    clear q1 q2 q3 c3 HTK
    have d0 : W1.cell? ⟨g, 0, none⟩ = some (.int .i64 (S : Int)) := F1.out.c 0
    have d1 : W1.cell? ⟨g, 1, none⟩ = some (.bool t.whole) := F1.out.c 1
    have d3 : W1.cell? ⟨g, 3, none⟩ = some (.int .i64 (L : Int)) := F1.out.c 3
    have f1 : W1.frozen? ⟨g, 1, none⟩ = false := F1.out.f 1
    have htb : ((S : Int) == (L : Int)) = decide (S = L) := by rw [Bool.eq_iff_iff]; simp only [beq_iff_eq, decide_eq_true_eq, Int.natCast_inj]
    go_upto_region 2 with fail
    go_region_law (fail)
    all_goals (
      have F2 := hide ((F1.out.set (t' := ⟨S, decide (S = L), t.wrong⟩) 1 (.bool (decide (S = L))) rfl).below ((Below.refl _ _).drew))
      have R2 := hide ((R1.out.frame (W' := W1.setCell ⟨g, 1, none⟩ (.bool (decide (S = L)))) fun j e => Below.heap_setCell W1 ⟨g, 1, none⟩ _ j (fun e2 => by have := (R1.out.lt e).1; have e3 : j = g := e2; omega)).below ((Below.refl _ _).drew))
      have K2 := hide ((K1.out.trans (RK.set W1 gr g 1 (.bool (decide (S = L)))) (.inl rfl)).trans (RK.of_below gr g ((Below.refl _ _).drew)) (.inl rfl))
      clear d0 d1 d3 f1
      generalize (W1.setCell ⟨g, 1, none⟩ (.bool (decide (S = L)))).drew = W2 at F2 R2 K2 ⊢
      go_wp2_with fail
      go_ret2
      exact ⟨_, _, rfl, R2.out, F2.out, K2.out⟩))
set_option maxHeartbeats 4000000 in
set_option maxRecDepth 100000 in
theorem read_clos {w : World} {g L : Nat} {t : Tal} (h : Fr w g 71 t [.int .i64 (L : Int)]) (gr : Nat) (v : Value) (b : List UInt8) (hB : Bs w w.heap.size v b) (hS : Shp v) (hL : L ≤ 9007199254740992) (hg : t.got ≤ L) (hl : b.length ≤ 140737488355328) :
    Calls Tryd.prog 108 #[.pointer (some ⟨g, 0, none⟩), v] w fun e w' => ∃ ua uc, e = .returned (.tuple #[.slice ua (tkN b L t.got) uc, .int .i64 (((if tkN b L t.got = b.length then tkN b L t.got else tkN b L t.got + 1) : Nat) : Int)]) ∧ RdP w w' gr g 71 (b.take (tkN b L t.got)) ⟨t.got + tkN b L t.got, t.whole, if tkN b L t.got = b.length then t.wrong else 2⟩ [.int .i64 (L : Int)] ua (tkN b L t.got) uc := by
  have hgl := h.lt
  have BD := hide ((Below.refl w.heap.size w).drew)
  have HTK := hide (take_t (h.below BD.out) gr v b L (hB.below (Nat.le_refl _) BD.out) hS hL hg hl)
  have c3 : w.cell? ⟨g, 3, none⟩ = some (.int .i64 (L : Int)) := h.c 3
  have hS' : t.got + tkN b L t.got ≤ L := by unfold tkN; omega
  have hkl : tkN b L t.got ≤ b.length := by unfold tkN; omega
  obtain ⟨va, vc, rfl, _, _⟩ := hB
  clear h hS
  generalize tkN b L t.got = k at HTK hS' hkl ⊢
  obtain ⟨S, hS2⟩ : ∃ S, t.got + k = S := ⟨_, rfl⟩
  rw [hS2] at HTK hS' ⊢
  clear hS2
  obtain ⟨n, hn⟩ : ∃ n, (if k = b.length then k else k + 1) = n := ⟨_, rfl⟩
  obtain ⟨e2, he2⟩ : ∃ e, (if k = b.length then t.wrong else 2) = e := ⟨_, rfl⟩
  rw [hn, he2]
  have HNE := hide (And.intro hn he2)
  clear hn he2
  go_enter Tryd.func108, Tryd.ntmps108
  go_upto_region 1 with fail
  go_region_law (refine step_call rfl 102 _ _ rfl (enters_of Tryd.func102 (by kernel_rfl) rfl) #[.pointer (some ⟨g, 0, none⟩), .slice va b.length vc, .int .i64 (L : Int)] (by simp [Act.eval]) (fun r w' => ∃ ua uc, r = .slice ua k uc ∧ Row w' w.drew.heap.size 5 (.slice ua k uc) (bc (b.take k)) ∧ Fr w' g 71 { t with got := S } [.int .i64 (L : Int)] ∧ RK w.drew w' gr g) (calls_exR HTK.out (by rintro e w' ⟨ua, uc, rfl, q1, q2, q3⟩; exact ⟨_, rfl, ua, uc, rfl, q1, q2, q3⟩)) ?_; rintro r W1 ⟨ua, uc, rfl, q1, q2, q3⟩)
  all_goals (
    have R1 : Hid (Row W1 w.heap.size 5 (.slice ua k uc) (bc (b.take k))) := hide q1
    have F1 := hide q2
    have K1 := hide ((RK.of_below gr g BD.out).trans q3 (.inl rfl))
    clear q1 q2 q3 c3 HTK
    have d2 : W1.cell? ⟨g, 2, none⟩ = some (.int .i64 (t.wrong : Int)) := F1.out.c 2
    have f2 : W1.frozen? ⟨g, 2, none⟩ = false := F1.out.f 2
    by_cases hkb : k = b.length
    · have tk : ((k : Int) == (b.length : Int)) = true := by rw [beq_iff_eq]; omega
      have hne := HNE.out
      rw [if_pos hkb, if_pos hkb] at hne
      obtain ⟨rfl, rfl⟩ := hne
      clear hkb HNE
      go_wp2_with fail
      go_ret2
      exact ⟨_, _, rfl, R1.out, F1.out, K1.out⟩
    · have tk : ((k : Int) == (b.length : Int)) = false := by rw [beq_eq_false_iff_ne]; omega
      have hne := HNE.out
      rw [if_neg hkb, if_neg hkb] at hne
      obtain ⟨rfl, rfl⟩ := hne
      clear hkb HNE
      have F2 := hide (F1.out.set (t' := ⟨S, t.whole, 2⟩) 2 (.int .i64 2) rfl)
      have R2 := hide (R1.out.frame (W' := W1.setCell ⟨g, 2, none⟩ (.int .i64 2)) fun j e => Below.heap_setCell W1 ⟨g, 2, none⟩ _ j (fun e2 => by have := (R1.out.lt e).1; have e3 : j = g := e2; omega))
      have K2 := hide (K1.out.trans (RK.set W1 gr g 2 (.int .i64 2)) (.inl rfl))
      go_wp2_with fail
      go_ret2
      exact ⟨_, _, rfl, R2.out, F2.out, K2.out⟩)
theorem read_over (g : Nat) (v : Value) (w : World) : Calls Tryd.prog 110 #[.pointer (some ⟨g, 0, none⟩), v] w fun e w' => e = .returned (.tuple #[.slice none 0 0, .int .i64 0]) ∧ w = w' := by
  go_enter Tryd.func110, Tryd.ntmps110
  go_wp2
  go_ret2
  exact ⟨rfl, rfl⟩
theorem ended_over (g : Nat) (w : World) : Calls Tryd.prog 109 #[.pointer (some ⟨g, 0, none⟩)] w fun e w' => e = .returned (.tuple #[]) ∧ w = w' := by
  go_enter Tryd.func109, Tryd.ntmps109
  go_wp2
  go_end0
  exact ⟨rfl, rfl⟩
theorem ended_tally {w : World} {g : Nat} {ct : TypeId} {t : Tal} {X : List Value} (h : Fr w g ct t X) (gr : Nat) : Calls Tryd.prog 99 #[.pointer (some ⟨g, 0, none⟩)] w fun e w' => e = .returned (.tuple #[]) ∧ Fr w' g ct { t with wrong := 110 } X ∧ RK w w' gr g := by
  have d2 : w.cell? ⟨g, 2, none⟩ = some (.int .i64 (t.wrong : Int)) := h.c 2
  have f2 := h.f 2
  have F2 := hide (h.set (t' := ⟨t.got, t.whole, 110⟩) 2 (.int .i64 110) (by simp [talC]))
  clear h
  go_enter Tryd.func99, Tryd.ntmps99
  go_wp2
  go_end0
  exact ⟨rfl, F2.out, RK.set w gr g 2 _⟩
theorem ended_closed {w : World} {g : Nat} {ct : TypeId} {t : Tal} {X : List Value} (h : Fr w g ct t X) (gr : Nat) : Calls Tryd.prog 107 #[.pointer (some ⟨g, 0, none⟩)] w fun e w' => e = .returned (.tuple #[]) ∧ Fr w' g ct { t with whole := true } X ∧ RK w w' gr g := by
  have d1 : w.cell? ⟨g, 1, none⟩ = some (.bool t.whole) := h.c 1
  have f1 := h.f 1
  have F2 := hide (h.set (t' := ⟨t.got, true, t.wrong⟩) 1 (.bool true) (by simp [talC]))
  clear h
  go_enter Tryd.func107, Tryd.ntmps107
  go_wp2
  go_end0
  exact ⟨rfl, F2.out, RK.set w gr g 1 _⟩
end Go.Proofs.YtggeihahbgeneaaDoor
