/- Bytes that a framing takes. -/
import Derived.Test.YtggeihahbgeneaaDoorBRd
import Derived.Test.YtggeihahbgeneaaDoorCGrow
namespace Go.Proofs.YtggeihahbgeneaaDoor
open Go.ChangeShapes Go.WideShapes Go.ChangeAt Go.RowKit

def tkN (b : List UInt8) (most got : Nat) : Nat := min b.length (most - got)
/-- A framing's block. -/
structure Fr (w : World) (g : Nat) (ct : TypeId) (t : Tal) (X : List Value) : Prop where
  fr : w.heap[g]? = some (.cells (talC t ++ X).toArray ct (0, 0))
theorem Fr.c {w : World} {g : Nat} {ct : TypeId} {t : Tal} {X : List Value} (h : Fr w g ct t X) (i : Nat) : w.cell? ⟨g, i, none⟩ = (talC t ++ X).toArray[i]? := cell_at h.fr i
theorem Fr.f {w : World} {g : Nat} {ct : TypeId} {t : Tal} {X : List Value} (h : Fr w g ct t X) (i : Nat) : w.frozen? ⟨g, i, none⟩ = false := by rw [frozen_at h.fr]; simp
theorem Fr.below {w w' : World} {g : Nat} {ct : TypeId} {t : Tal} {X : List Value} (h : Fr w g ct t X) (b : Below w.heap.size w w') : Fr w' g ct t X := ⟨(b.block g (lt_heap' h.fr)).trans h.fr⟩
theorem Fr.lt {w : World} {g : Nat} {ct : TypeId} {t : Tal} {X : List Value} (h : Fr w g ct t X) : g < w.heap.size := lt_heap' h.fr
set_option maxHeartbeats 4000000 in
set_option maxRecDepth 100000 in
theorem take_t {w : World} {g : Nat} {ct : TypeId} {t : Tal} {X : List Value} (h : Fr w g ct t X) (gr : Nat) (v : Value) (b : List UInt8) (most : Nat) (hB : Bs w w.heap.size v b) (hS : Shp v) (hm : most ≤ 9007199254740992) (hg : t.got ≤ most) (hl : b.length ≤ 140737488355328) :
    Calls Tryd.prog 102 #[.pointer (some ⟨g, 0, none⟩), v, .int .i64 (most : Int)] w fun e w' => ∃ ua uc, e = .returned (.slice ua (tkN b most t.got) uc) ∧ Row w' w.heap.size 5 (.slice ua (tkN b most t.got) uc) (bc (b.take (tkN b most t.got))) ∧ Fr w' g ct { t with got := t.got + tkN b most t.got } X ∧ RK w w' gr g := by
  have HH := hide h
  have c0 : w.cell? ⟨g, 0, none⟩ = some (.int .i64 (t.got : Int)) := h.c 0
  have hgl := h.lt
  obtain ⟨va, vc, rfl, hvc, hvx⟩ := hB
  have HVX := hide hvx
  clear h hvx
  have hsub : (most : Int) - (t.got : Int) = ((most - t.got : Nat) : Int) := by omega
  rcases hS with h2 | ⟨a, n, c, h2⟩
  · simp only [Value.slice.injEq] at h2
    obtain ⟨rfl, hb0, rfl⟩ := h2
    have hbe : b = [] := List.eq_nil_of_length_eq_zero hb0
    subst hbe
    have hk : tkN [] most t.got = 0 := by unfold tkN; simp
    rw [hk]
    have hmin : min (0 : Int) ((most - t.got : Nat) : Int) = 0 := by omega
    have HF : Hid ({ t with got := t.got + 0 } = t) := hide rfl
    go_enter Tryd.func102, Tryd.ntmps102
    go_wp2_with (at_builtin; apply Hid.out)
    unfold Hid
    refine wpList_append_bs_k rfl _ _ rfl w w.heap.size w.heap.size (.slice none 0 0) (.slice none 0 0) [] [] rfl rfl (Row.nil _ _ _) ⟨none, 0, rfl, Nat.le_refl _, fun j hj => by simp at hj⟩ (.inl rfl) (by simp) (Nat.le_refl _) ?_
    intro u W1 O1 B1 _
    obtain ⟨ua, uc, rfl⟩ : ∃ a c, u = .slice a 0 c := by
      obtain ⟨a, c, h, _⟩ := O1.shape
      exact ⟨a, c, h⟩
    have R1 := hide O1
    have BB := hide B1
    have F1 := hide (HH.out.below B1)
    clear O1 B1 c0
    have c0 : W1.cell? ⟨g, 0, none⟩ = some (.int .i64 (t.got : Int)) := F1.out.c 0
    have f0 := F1.out.f 0
    have FRS : Hid ((W1.setCell ⟨g, 0, none⟩ (.int .i64 (t.got : Int))).heap[g]? = some (.cells (talC t ++ X).toArray ct (0, 0))) := hide (by have h := hp_set F1.out.fr 0 (.int .i64 (t.got : Int)); simpa [talC] using h)
    go_wp2_with fail
    go_ret
    exact ⟨_, _, rfl, R1.out.frame fun j e => Below.heap_setCell W1 ⟨g, 0, none⟩ _ j (fun e2 => by have := (R1.out.lt e).1; have e3 : j = g := e2; omega), ⟨FRS.out⟩, (RK.of_below gr g BB.out).trans (RK.set W1 gr g 0 _) (.inl rfl)⟩
  · simp only [Value.slice.injEq] at h2
    obtain ⟨rfl, h3, h4⟩ := h2
    clear h3 h4
    obtain ⟨k, hk⟩ : ∃ k, tkN b most t.got = k := ⟨_, rfl⟩
    rw [hk]
    have hmin : min (b.length : Int) ((most - t.got : Nat) : Int) = (k : Int) := by unfold tkN at hk; omega
    have hkl : k ≤ b.length := by unfold tkN at hk; omega
    have hkm : t.got + k ≤ most := by unfold tkN at hk; omega
    have hlk : (b.take k).length = k := by rw [List.length_take]; omega
    have HLK := hide hlk
    have HBK : Hid (Bs w w.heap.size (.slice (some a) k vc) (b.take k)) := hide ⟨some a, vc, by rw [hlk], by rw [hlk]; omega, fun j hj => by
      rw [hlk] at hj
      obtain ⟨g', o', q1, q2, q3, q4⟩ := HVX.out j (by omega)
      exact ⟨g', o', q1, q2, q3, by rw [q4]; simp⟩⟩
    have hkv : k ≤ vc := by omega
    obtain ⟨S, hS2⟩ : ∃ S, t.got + k = S := ⟨_, rfl⟩
    have hpl : (t.got : Int) + (k : Int) = (S : Int) := by omega
    have hSb : S ≤ 9007199254740992 := by omega
    have HS2 := hide hS2
    clear hk hlk hS2
    go_enter Tryd.func102, Tryd.ntmps102
    go_wp2_with (at_builtin; apply Hid.out)
    unfold Hid
    refine wpList_append_bs_k rfl _ _ rfl w w.heap.size w.heap.size (.slice none 0 0) (.slice (some a) k vc) [] (b.take k) rfl rfl (Row.nil _ _ _) HBK.out (.inr ⟨_, _, _, rfl⟩) (by rw [HLK.out]; simp; omega) (Nat.le_refl _) ?_
    intro u W1 O1 B1 _
    rw [List.nil_append] at O1
    obtain ⟨ua, uc, rfl⟩ : ∃ a c, u = .slice a k c := by
      obtain ⟨a, c, h, _⟩ := O1.shape
      rw [bc_len, HLK.out] at h
      exact ⟨a, c, h⟩
    have R1 := hide O1
    have BB := hide B1
    have F1 := hide (HH.out.below B1)
    clear O1 B1 c0
    have c0 : W1.cell? ⟨g, 0, none⟩ = some (.int .i64 (t.got : Int)) := F1.out.c 0
    have f0 := F1.out.f 0
    have FRS : Hid ((W1.setCell ⟨g, 0, none⟩ (.int .i64 (S : Int))).heap[g]? = some (.cells (talC { t with got := S } ++ X).toArray ct (0, 0))) := hide (by have h := hp_set F1.out.fr 0 (.int .i64 (S : Int)); simpa [talC] using h)
    go_wp2_with fail
    go_ret
    exact ⟨_, _, rfl, R1.out.frame fun j e => Below.heap_setCell W1 ⟨g, 0, none⟩ _ j (fun e2 => by have := (R1.out.lt e).1; have e3 : j = g := e2; omega), ⟨by rw [HS2.out]; exact FRS.out⟩, (RK.of_below gr g BB.out).trans (RK.set W1 gr g 0 _) (.inl rfl)⟩
end Go.Proofs.YtggeihahbgeneaaDoor
