/- Parts side by side, gathered; what stands apart from what. -/
import Derived.Test.YtjfpdenakgifgaaAAc
namespace Go.Proofs.Ytjfpdenakgifgaa
open Go.ChangeShapes Go.WideShapes Go.ChangeAt Go.RowKit
set_option linter.unusedVariables false

/-- A thing within another: what is done with it is done with the whole. -/
def Foc (T : Thing → Thing) (C : Thing) (w : World) (P P2 : Nat → Prop) : Prop := C w P2 ∧ (∀ k, P2 k → P k) ∧ ∀ (C' : Thing) (w2 : World), Does C' P2 w w2 → Does (T C') P w w2
theorem Foc.here {C : Thing} {w : World} {P : Nat → Prop} (h : C w P) : Foc (fun X => X) C w P P := ⟨h, fun _ x => x, fun _ _ d => d⟩
theorem Foc.right {A C : Thing} [Ob A] {T : Thing → Thing} {w : World} {P P2 : Nat → Prop} (h : Foc T (Two A C) w P P2) : ∃ P3, Foc (fun X => T (Two A X)) C w P P3 ∧ ∃ P1, A w P1 ∧ (∀ k, P1 k → P2 k) ∧ ∀ k, P1 k → ¬ P3 k := by
  obtain ⟨h1, h2, h3⟩ := h
  obtain ⟨P1, P3, a, c, d, e⟩ := h1
  obtain ⟨P4, c', k⟩ := Two.right (⟨P1, P3, a, c, d, e⟩ : Two A C w P2)
  refine ⟨P3, ⟨c, fun k hk => h2 k ((e k).2 (.inr hk)), fun C' w2 q => h3 _ _ ?_⟩, P1, a, fun k hk => (e k).2 (.inl hk), d⟩
  obtain ⟨P5, q1, q2, q3⟩ := q
  refine ⟨fun k => P1 k ∨ P5 k, ⟨P1, P5, Ob.fr _ _ _ _ a q2 (fun k hk x => d k hk x), q1, fun k hk x => ?_, fun _ => Iff.rfl⟩, q2.mono (fun k _ hk => (e k).2 (.inr hk)), fun k hk => ?_⟩
  · rcases q3 k x with y | y
    · exact d k hk y
    · have := Ob.lt _ _ _ a hk; omega
  · rcases hk with x | x
    · exact .inl ((e k).2 (.inl x))
    · exact (q3 k x).imp (fun y => (e k).2 (.inr y)) id
theorem Does.focD {A B : Thing} [Ob A] {P : Nat → Prop} {w w1 : World} (h : Does (Two A B) P w w1) : ∃ P1 P2, A w1 P1 ∧ B w1 P2 ∧ (∀ k, P1 k → ¬ P2 k) ∧ ∀ (B' : Thing) (w2 : World), Does B' P2 w1 w2 → Does (Two A B') P w w2 := by
  obtain ⟨P', hT, h2, h3⟩ := h
  obtain ⟨P3, ⟨f1, f2, f3⟩, P1, a, i, d⟩ := (Foc.here hT).right
  exact ⟨P1, P3, a, f1, d, fun B' w2 q => Does.more h2 h3 (f3 _ _ q)⟩
theorem Does.focD3 {A B C D : Thing} [Ob A] [Ob B] [Ob C] {P : Nat → Prop} {w w1 : World} (h : Does (Two A (Two B (Two C D))) P w w1) : ∃ P1 P2, A w1 P1 ∧ D w1 P2 ∧ (∀ k, P1 k → ¬ P2 k) ∧ ∀ (D' : Thing) (w2 : World), Does D' P2 w1 w2 → Does (Two A (Two B (Two C D'))) P w w2 := by
  obtain ⟨P', hT, h2, h3⟩ := h
  obtain ⟨Q1, f, P1, a, i, d⟩ := (Foc.here hT).right
  obtain ⟨Q2, f, -⟩ : ∃ Q2, (Foc (fun X => Two A (Two B X)) (Two C D) w1 P' Q2 ∧ ∀ k, Q2 k → Q1 k) ∧ True := by
    obtain ⟨f1, f2, f3⟩ := f
    obtain ⟨Q2, ⟨g1, g2, g3⟩, _⟩ := (Foc.here f1).right
    exact ⟨Q2, ⟨⟨g1, fun k hk => f2 k (g2 k hk), fun C' w2 q => f3 _ _ (g3 _ _ q)⟩, g2⟩, trivial⟩
  obtain ⟨f, s⟩ := f
  obtain ⟨Q3, ⟨g1, g2, g3⟩, s3⟩ : ∃ Q3, Foc (fun X => Two A (Two B (Two C X))) D w1 P' Q3 ∧ ∀ k, Q3 k → Q2 k := by
    obtain ⟨f1, f2, f3⟩ := f
    obtain ⟨Q3, ⟨g1, g2, g3⟩, _⟩ := (Foc.here f1).right
    exact ⟨Q3, ⟨g1, fun k hk => f2 k (g2 k hk), fun C' w2 q => f3 _ _ (g3 _ _ q)⟩, g2⟩
  exact ⟨P1, Q3, a, g1, fun k hk hx => d k hk (s k (s3 k hx)), fun D' w2 q => Does.more h2 h3 (g3 _ _ q)⟩
theorem Does.newI {X : Thing} [Ob X] {P : Nat → Prop} {w w1 : World} (h : Does X P w w1) (x : Int) : Does (Two (RI (.slice (some ⟨w1.heap.size, 0, none⟩) 1 1) [x]) X) P w (w1.alloc (.cells #[.int .i64 x] 3)) := h.put (RI.new w1 x)
section
variable {X : Thing} [Ob X] {P : Nat → Prop} {w w1 : World} {v1 v2 v3 : Value} {A1 A2 A3 : List Ac}
theorem gath2 (h : Does (Two (RA v1 A1) (Two (RA v2 A2) X)) P w w1) : Sls w1.heap.size [(v1, A1), (v2, A2)] (w1.alloc (.cells #[v1, v2] 28)) ∧ ∀ (v : Value) (w3 : World), Does (RA v ([(v1, A1), (v2, A2)].flatMap (·.2))) none' (w1.alloc (.cells #[v1, v2] 28)) w3 → Does (Two (RA v (A1 ++ A2)) X) P w w3 := by
  have F := Fr.alloc none' w1 (.cells #[v1, v2] 28)
  have r1 : Rw 53 3 w1 v1 A1.length (fl encA A1) := by obtain ⟨_, z⟩ := h.fst_of; exact z.1
  have r2 : Rw 53 3 w1 v2 A2.length (fl encA A2) := by obtain ⟨_, z⟩ := h.snd.fst_of; exact z.1
  refine ⟨⟨hp_new _ _, fun x hx => ?_⟩, fun v w3 d => ?_⟩
  · simp only [List.mem_cons, List.not_mem_nil, or_false] at hx
    rcases hx with rfl | rfl
    · exact r1.fr F (fun _ _ y => y)
    · exact r2.fr F (fun _ _ y => y)
  · rw [show [(v1, A1), (v2, A2)].flatMap (·.2) = A1 ++ A2 by simp] at d
    exact (h.snd.snd.e F).put d
theorem gath3 (h : Does (Two (RA v1 A1) (Two (RA v2 A2) (Two (RA v3 A3) X))) P w w1) : Sls w1.heap.size [(v1, A1), (v2, A2), (v3, A3)] (w1.alloc (.cells #[v1, v2, v3] 28)) ∧ ∀ (v : Value) (w3 : World), Does (RA v ([(v1, A1), (v2, A2), (v3, A3)].flatMap (·.2))) none' (w1.alloc (.cells #[v1, v2, v3] 28)) w3 → Does (Two (RA v (A1 ++ (A2 ++ A3))) X) P w w3 := by
  have F := Fr.alloc none' w1 (.cells #[v1, v2, v3] 28)
  have r1 : Rw 53 3 w1 v1 A1.length (fl encA A1) := by obtain ⟨_, z⟩ := h.fst_of; exact z.1
  have r2 : Rw 53 3 w1 v2 A2.length (fl encA A2) := by obtain ⟨_, z⟩ := h.snd.fst_of; exact z.1
  have r3 : Rw 53 3 w1 v3 A3.length (fl encA A3) := by obtain ⟨_, z⟩ := h.snd.snd.fst_of; exact z.1
  refine ⟨⟨hp_new _ _, fun x hx => ?_⟩, fun v w3 d => ?_⟩
  · simp only [List.mem_cons, List.not_mem_nil, or_false] at hx
    rcases hx with rfl | rfl | rfl
    · exact r1.fr F (fun _ _ y => y)
    · exact r2.fr F (fun _ _ y => y)
    · exact r3.fr F (fun _ _ y => y)
  · rw [show [(v1, A1), (v2, A2), (v3, A3)].flatMap (·.2) = A1 ++ (A2 ++ A3) by simp] at d
    exact (h.snd.snd.snd.e F).put d
end
theorem RA.sh {v : Value} {A : List Ac} {w : World} {P : Nat → Prop} (h : RA v A w P) : ∃ a cap, v = .slice a A.length cap := by
  obtain ⟨a, cap, e, -, -⟩ := h.1.shape
  exact ⟨a, cap, e⟩
theorem sum2 (v1 v2 : Value) (A1 A2 : List Ac) : sumL [(v1, A1), (v2, A2)] = A1.length + A2.length := by simp [sumL]
theorem sum3 (v1 v2 v3 : Value) (A1 A2 A3 : List Ac) : sumL [(v1, A1), (v2, A2), (v3, A3)] = A1.length + (A2.length + A3.length) := by simp [sumL]
theorem lgA_len (l : List Int) : (lgA l).length = l.length := by simp [lgA]
theorem flA_len (p : Rq) (id why : Int) (al : Bool) : (flA p id why al).length ≤ 1 := by
  unfold flA
  split
  · split <;> simp [bgA, anA]
  · simp
theorem ids_len (L : List Rn) : (ids L).length = L.length := by simp [ids]
theorem ltL_len (p : Rq) (now : Int) : (ltL p now).length ≤ p.R.length := by unfold ltL; rw [ids_len]; exact List.length_filter_le _ _
theorem ll_len (now : Int) (al : Bool) : ∀ (l : List Int) (s : Rq × List Ac), (l.foldl (llS now al) s).2.length ≤ s.2.length + 2 * l.length
  | [], s => by simp
  | i :: l, s => by
    have := ll_len now al l (llS now al s i)
    have h2 : (llS now al s i).2.length ≤ s.2.length + 2 := by
      show (s.2 ++ (lgA [i] ++ flA (fgP s.1 i) i 3 al)).length ≤ _
      rw [List.length_append, List.length_append, lgA_len]
      have := flA_len (fgP s.1 i) i 3 al
      simp
      omega
    rw [List.foldl_cons, List.length_cons]
    omega
end Go.Proofs.Ytjfpdenakgifgaa
