/- WF: RBet RMax RPl2 RSays. -/
import Derived.Test.YtacnnomkacfdbaaGreatDoorWD
import Derived.Test.YtacnnomkacfdbaaGreatDoorWE
import Derived.Deep.RegionHeld3
import Derived.Deep.MidRow
import Derived.Test.YtacnnomkacfdbaaGreatDoorWC
/- Which of two routes is the better one: the function that Find hands on. -/
namespace Go.Proofs.YtacnnomkacfdbaaGreatDoor
open Go.ChangeShapes Go.WideShapes Go.ChangeAt Go.RowKit
set_option linter.unusedVariables false

theorem range_below {w W : World} {g o : Nat} {cs : List Value} (h : w.rangeAt g o cs) (hb : Below w.heap.size w W) : W.rangeAt g o cs := fun j v hv =>
  (hb.cell (p := ⟨g, o + j, none⟩) (World.block_lt_of_cell? w _ (h j v hv))).trans (h j v hv)
/-- A route's cells. -/
def rtC (r : Rt) (m q : Value) : List Value := [.string r.ho, .string r.pf, m, .string r.hd, .string r.va, q, .int .i64 r.r0, .int .i64 r.r1, .int .i64 r.r2, .int .i64 r.r3, .int .i64 r.r4, .int .i64 r.r5, .int .i64 r.r6, .int .i64 r.r7, .int .i64 r.r8, .int .i64 r.r9, .int .i64 r.r10, .int .i64 r.r11, .int .i64 r.r12, .int .i64 r.r13, .int .i64 r.r14]
theorem rt_range {w : World} {v : Value} {L : List Rt} (h : RRow w v L) {k : Nat} (hk : k < L.length) : ∃ a c g o m q a1 n1 c1 a2 n2 c2, v = .slice a L.length c ∧ a = some ⟨g, o, none⟩ ∧ m = .slice a1 n1 c1 ∧ q = .slice a2 n2 c2 ∧ w.rangeAt g (o + k * 21) (rtC L[k] m q) := by
  obtain ⟨a, c, rfl, hc⟩ := h
  obtain ⟨g, o, m, q, rfl, hg, ⟨a1, c1, e1, -⟩, ⟨a2, c2, e2, -⟩, cq, k0, k1, k2, k3, k4, k5, k6, k7, k8, k9, k10, k11, k12, k13, k14, k15, k16, k17, k18, k19, k20⟩ := hc k hk
  refine ⟨_, c, g, o, m, q, a1, _, c1, a2, _, c2, rfl, rfl, e1, e2, fun j v hv => ?_⟩
  match j, hv with
  | 0, hv => simp [rtC] at hv; subst hv; exact k0
  | 1, hv => simp [rtC] at hv; subst hv; exact k1
  | 2, hv => simp [rtC] at hv; subst hv; exact k2
  | 3, hv => simp [rtC] at hv; subst hv; exact k3
  | 4, hv => simp [rtC] at hv; subst hv; exact k4
  | 5, hv => simp [rtC] at hv; subst hv; exact k5
  | 6, hv => simp [rtC] at hv; subst hv; exact k6
  | 7, hv => simp [rtC] at hv; subst hv; exact k7
  | 8, hv => simp [rtC] at hv; subst hv; exact k8
  | 9, hv => simp [rtC] at hv; subst hv; exact k9
  | 10, hv => simp [rtC] at hv; subst hv; exact k10
  | 11, hv => simp [rtC] at hv; subst hv; exact k11
  | 12, hv => simp [rtC] at hv; subst hv; exact k12
  | 13, hv => simp [rtC] at hv; subst hv; exact k13
  | 14, hv => simp [rtC] at hv; subst hv; exact k14
  | 15, hv => simp [rtC] at hv; subst hv; exact k15
  | 16, hv => simp [rtC] at hv; subst hv; exact k16
  | 17, hv => simp [rtC] at hv; subst hv; exact k17
  | 18, hv => simp [rtC] at hv; subst hv; exact k18
  | 19, hv => simp [rtC] at hv; subst hv; exact k19
  | 20, hv => simp [rtC] at hv; subst hv; exact k20
  | j + 21, hv => simp [rtC] at hv
theorem rtC_len (r : Rt) (m q : Value) : (rtC r m q).length = 21 := rfl
theorem rtC_one (r : Rt) (a1 : Option Addr) (n1 c1 : Nat) (a2 : Option Addr) (n2 c2 : Nat) : (rtC r (.slice a1 n1 c1) (.slice a2 n2 c2)).toArray.all (·.oneCell') = true := by simp [rtC, Value.oneCell']
/-- Which of two routes is the better one for a host: above 0: the first. -/
def betK (x y : Rt) (h : ByteArray) : Int := orK (cmpK (nearK x.ho h) (nearK y.ho h)) (cmpK x.pf.size y.pf.size)
/-- Two new blocks that hold two rows of cells. -/
structure Twin (w W : World) (b c : Nat) (X Y : List Value) : Prop where
  h : Below w.heap.size w W
  x : W.rangeAt b 0 X
  y : W.rangeAt c 0 Y
theorem there_new (w : World) (cs : Array Value) (t : TypeId) : (w.alloc (.cells cs t)).there w.heap.size 0 cs.size := fun j hj => by
  rw [Nat.zero_add]
  refine ⟨?_, ?_⟩
  · rw [cell_at (hp_new w (.cells cs t)) j, Array.getElem?_eq_getElem hj]; rfl
  · rw [frozen_at (hp_new w (.cells cs t))]; simp
theorem below_setCells {n : Nat} {w W : World} (h : Below n w W) {b : Nat} (hb : n ≤ b) : ∀ (vs : List Value) (o : Nat), Below n w (W.setCells b o vs) := by
  intro vs
  induction vs generalizing W with
  | nil => intro o; exact h
  | cons v r ih => intro o; rw [World.setCells]; exact ih (h.setCell hb _) (o + 1)
theorem size_setCells0 : ∀ (vs : List Value) (w : World) (b o : Nat), (w.setCells b o vs).heap.size = w.heap.size
  | [], _, _, _ => rfl
  | v :: r, w, b, o => by rw [World.setCells, size_setCells0 r]; simp [World.setCell]
theorem size_setCells (w : World) (b o : Nat) (vs : List Value) : (w.setCells b o vs).heap.size = w.heap.size := size_setCells0 vs w b o
set_option maxHeartbeats 4000000 in
set_option maxRecDepth 100000 in
theorem bet_any (w : World) (gc gh : Nat) (g o n k2 : Nat) (host : ByteArray) (x y : Rt) (i j : Nat) (a1 : Option Addr) (n1 c1 : Nat) (a2 : Option Addr) (n2 c2 : Nat) (a3 : Option Addr) (n3 c3 : Nat) (a4 : Option Addr) (n4 c4 : Nat)
    (hi : i < n) (hj : j < n) (hc : w.cell? ⟨gc, 1, none⟩ = some (.slice (some ⟨g, o, none⟩) n k2)) (hh : w.cell? ⟨gh, 0, none⟩ = some (.string host))
    (hx : w.rangeAt g (o + i * 21) (rtC x (.slice a1 n1 c1) (.slice a2 n2 c2))) (hy : w.rangeAt g (o + j * 21) (rtC y (.slice a3 n3 c3) (.slice a4 n4 c4)))
    (s1 : x.ho.size ≤ 1048576) (s2 : y.ho.size ≤ 1048576) (s3 : host.size ≤ 1048576) :
    Calls Tryz.prog 13 #[.int .i64 i, .int .i64 j, .pointer (some ⟨gc, 0, none⟩), .pointer (some ⟨gh, 0, none⟩)] w fun e w' => e = .returned (.int .i64 (betK x y host)) ∧ Below w.heap.size w w' := by
  have KC : Hid (∀ W, Below w.heap.size w W → W.cell? ⟨gc, 1, none⟩ = some (.slice (some ⟨g, o, none⟩) n k2)) := hide (fun W hW => (hW.cell (p := ⟨gc, 1, none⟩) (World.block_lt_of_cell? w _ hc)).trans hc)
  have KH : Hid (∀ W, Below w.heap.size w W → W.cell? ⟨gh, 0, none⟩ = some (.string host)) := hide (fun W hW => (hW.cell (p := ⟨gh, 0, none⟩) (World.block_lt_of_cell? w _ hh)).trans hh)
  have HX := hide hx
  have HY := hide hy
  have X1 := rtC_one x a1 n1 c1 a2 n2 c2
  have Y1 := rtC_one y a3 n3 c3 a4 n4 c4
  obtain ⟨R, HR⟩ : ∃ R, Hid (betK x y host = R) := ⟨_, hide rfl⟩
  rw [HR.out]
  have e0 : (rtC x (.slice a1 n1 c1) (.slice a2 n2 c2))[0]? = some (.string x.ho) := rfl
  have e1 : (rtC x (.slice a1 n1 c1) (.slice a2 n2 c2))[1]? = some (.string x.pf) := rfl
  have f0 : (rtC y (.slice a3 n3 c3) (.slice a4 n4 c4))[0]? = some (.string y.ho) := rfl
  have f1 : (rtC y (.slice a3 n3 c3) (.slice a4 n4 c4))[1]? = some (.string y.pf) := rfl
  have X21 : (rtC x (.slice a1 n1 c1) (.slice a2 n2 c2)).length = 21 := rfl
  have Y21 : (rtC y (.slice a3 n3 c3) (.slice a4 n4 c4)).length = 21 := rfl
  have HE0 := hide e0
  have HE1 := hide e1
  have HF0 := hide f0
  have HF1 := hide f1
  clear hc hh hx hy e0 e1 f0 f1
  generalize rtC x (.slice a1 n1 c1) (.slice a2 n2 c2) = X at *
  generalize rtC y (.slice a3 n3 c3) (.slice a4 n4 c4) = Y at *
  have hi0 : (0 : Int) ≤ (i : Int) := by omega
  have hj0 : (0 : Int) ≤ (j : Int) := by omega
  have hi1 : (i : Int) < (n : Int) := by omega
  have hj1 : (j : Int) < (n : Int) := by omega
  go_enter Tryz.func13, Tryz.ntmps13
  go_upto_region 1 with fail
  refine Code.wp_mono (Q := fun e a' W => e = .normal ∧ ∃ b c, Twin w W b c X Y ∧ w.heap.size ≤ b ∧ w.heap.size ≤ c ∧ a' = ⟨#[.int .i64 i, .int .i64 j, .pointer (some ⟨gc, 0, none⟩), .pointer (some ⟨gh, 0, none⟩), undef, undef, .int .i64 0, .pointer (some ⟨b, 0, none⟩), .pointer (some ⟨c, 0, none⟩), .pointer (some ⟨gc, 1, none⟩), .slice (some ⟨g, o, none⟩) n k2, .int .i64 i, .pointer (some ⟨g, o + i * 21, none⟩), .agg (List.toArray X), .pointer (some ⟨gc, 1, none⟩), .slice (some ⟨g, o, none⟩) n k2, .int .i64 j, .pointer (some ⟨g, o + j * 21, none⟩), .agg (List.toArray Y), undef, undef, undef, undef, undef, undef, undef, undef, undef, undef, undef, undef, undef, undef, undef, undef, undef, undef, undef, undef, undef, undef], []⟩) (fun e a' W h => ?_) ?_
  rotate_left
  · have cS : Below w.heap.size w w.drew := (Below.refl w.heap.size w).drew
    refine wp_region_noPanic ?_
    refine wp_region_held_drew (S := fun W => Below w.heap.size w W) (by kernel_rfl) cS (fun hHeld => ?_)
    generalize w.drew = w0 at *
    refine wpAnyH_take (i := 0) (v := ?_) rfl (by kernel_rfl) (by kernel_rfl) (by kernel_rfl) (fun _ _ _ h => h) (Or.inl ⟨by rfl, ?_⟩) (by assumption) ?_
    rotate_left
    · (intro W hSw; go_simp; try with_reducible rfl)
    simp only [List.getElem_toArray, List.getElem_cons_zero, Act.put, List.setIfInBounds_toArray, List.set_cons_zero, List.set_cons_succ]
    refine wpAnyH_take (i := 1) (v := ?_) rfl (by kernel_rfl) (by kernel_rfl) (by kernel_rfl) (fun _ _ _ h => h) (Or.inl ⟨by rfl, ?_⟩) (by assumption) ?_
    rotate_left
    · (intro W hSw; have hc := KC.out W hSw; go_simp; try with_reducible rfl)
    simp only [List.getElem_toArray, List.getElem_cons_zero, List.getElem_cons_succ, Act.put, List.setIfInBounds_toArray, List.set_cons_zero, List.set_cons_succ]
    refine wpAnyH_take (i := 2) (v := ?_) rfl (by kernel_rfl) (by kernel_rfl) (by kernel_rfl) (fun _ _ _ h => h) (Or.inl ⟨by rfl, ?_⟩) (by assumption) ?_
    rotate_left
    · (intro W hSw; go_simp; try with_reducible rfl)
    simp only [List.getElem_toArray, List.getElem_cons_zero, List.getElem_cons_succ, Act.put, List.setIfInBounds_toArray, List.set_cons_zero, List.set_cons_succ]
    refine wpAnyH_take (i := 3) (v := ?_) rfl (by kernel_rfl) (by kernel_rfl) (by kernel_rfl) (fun _ _ _ h => h) (Or.inl ⟨by rfl, ?_⟩) (by assumption) ?_
    rotate_left
    · (intro W hSw; go_simp; try with_reducible rfl)
    simp only [List.getElem_toArray, List.getElem_cons_zero, List.getElem_cons_succ, Act.put, List.setIfInBounds_toArray, List.set_cons_zero, List.set_cons_succ]
    refine wpAnyH_take (i := 4) (v := .agg (List.toArray X)) rfl (by kernel_rfl) (by kernel_rfl) (by kernel_rfl) (fun _ _ _ h => h) (yieldsIf_load_mid (by rfl) _ _ rfl g (o + i * 21) rfl _ _ (fun W hW => range_below HX.out hW) Tryz.underlying41 rfl (by kernel_rfl)) (by assumption) ?_
    simp only [List.getElem_toArray, List.getElem_cons_zero, List.getElem_cons_succ, Act.put, List.setIfInBounds_toArray, List.set_cons_zero, List.set_cons_succ]
    refine wpAnyH_take (i := 5) (v := ?_) rfl (by kernel_rfl) (by kernel_rfl) (by kernel_rfl) (fun _ _ _ h => h) (Or.inl ⟨by rfl, ?_⟩) (by assumption) ?_
    rotate_left
    · (intro W hSw; go_simp; try with_reducible rfl)
    simp only [List.getElem_toArray, List.getElem_cons_zero, List.getElem_cons_succ, Act.put, List.setIfInBounds_toArray, List.set_cons_zero, List.set_cons_succ]
    refine wpAnyH_take (i := 6) (v := ?_) rfl (by kernel_rfl) (by kernel_rfl) (by kernel_rfl) (fun _ _ _ h => h) (Or.inl ⟨by rfl, ?_⟩) (by assumption) ?_
    rotate_left
    · (intro W hSw; have hc := KC.out W hSw; go_simp; try with_reducible rfl)
    simp only [List.getElem_toArray, List.getElem_cons_zero, List.getElem_cons_succ, Act.put, List.setIfInBounds_toArray, List.set_cons_zero, List.set_cons_succ]
    refine wpAnyH_take (i := 7) (v := ?_) rfl (by kernel_rfl) (by kernel_rfl) (by kernel_rfl) (fun _ _ _ h => h) (Or.inl ⟨by rfl, ?_⟩) (by assumption) ?_
    rotate_left
    · (intro W hSw; go_simp; try with_reducible rfl)
    simp only [List.getElem_toArray, List.getElem_cons_zero, List.getElem_cons_succ, Act.put, List.setIfInBounds_toArray, List.set_cons_zero, List.set_cons_succ]
    refine wpAnyH_take (i := 8) (v := ?_) rfl (by kernel_rfl) (by kernel_rfl) (by kernel_rfl) (fun _ _ _ h => h) (Or.inl ⟨by rfl, ?_⟩) (by assumption) ?_
    rotate_left
    · (intro W hSw; go_simp; try with_reducible rfl)
    simp only [List.getElem_toArray, List.getElem_cons_zero, List.getElem_cons_succ, Act.put, List.setIfInBounds_toArray, List.set_cons_zero, List.set_cons_succ]
    refine wpAnyH_take (i := 9) (v := .agg (List.toArray Y)) rfl (by kernel_rfl) (by kernel_rfl) (by kernel_rfl) (fun _ _ _ h => h) (yieldsIf_load_mid (by rfl) _ _ rfl g (o + j * 21) rfl _ _ (fun W hW => range_below HY.out hW) Tryz.underlying41 rfl (by kernel_rfl)) (by assumption) ?_
    simp only [List.getElem_toArray, List.getElem_cons_zero, List.getElem_cons_succ, Act.put, List.setIfInBounds_toArray, List.set_cons_zero, List.set_cons_succ]
    refine wpAnyH_ready (rs := [10, 11]) (by kernel_rfl) (by simp) ?_
    refine AllReadyH.cons rfl (fun K hK => ?_) ?_
    · go_simp
      have c1 : Below w.heap.size w (w0.alloc (.cells #[.string ⟨#[]⟩, .string ⟨#[]⟩, .slice none 0 0, .string ⟨#[]⟩, .string ⟨#[]⟩, .slice none 0 0, .int .i64 0, .int .i64 0, .int .i64 0, .int .i64 0, .int .i64 0, .int .i64 0, .int .i64 0, .int .i64 0, .int .i64 0, .int .i64 0, .int .i64 0, .int .i64 0, .int .i64 0, .int .i64 0, .int .i64 0] 41)) := cS.alloc cS.size _
      have t7 : (w0.alloc (.cells #[.string ⟨#[]⟩, .string ⟨#[]⟩, .slice none 0 0, .string ⟨#[]⟩, .string ⟨#[]⟩, .slice none 0 0, .int .i64 0, .int .i64 0, .int .i64 0, .int .i64 0, .int .i64 0, .int .i64 0, .int .i64 0, .int .i64 0, .int .i64 0, .int .i64 0, .int .i64 0, .int .i64 0, .int .i64 0, .int .i64 0, .int .i64 0] 41)).there w0.heap.size 0 21 := there_new w0 #[.string ⟨#[]⟩, .string ⟨#[]⟩, .slice none 0 0, .string ⟨#[]⟩, .string ⟨#[]⟩, .slice none 0 0, .int .i64 0, .int .i64 0, .int .i64 0, .int .i64 0, .int .i64 0, .int .i64 0, .int .i64 0, .int .i64 0, .int .i64 0, .int .i64 0, .int .i64 0, .int .i64 0, .int .i64 0, .int .i64 0, .int .i64 0] 41
      have h7 : w.heap.size ≤ w0.heap.size := cS.size
      have s7 : w0.heap.size < (w0.alloc (.cells #[.string ⟨#[]⟩, .string ⟨#[]⟩, .slice none 0 0, .string ⟨#[]⟩, .string ⟨#[]⟩, .slice none 0 0, .int .i64 0, .int .i64 0, .int .i64 0, .int .i64 0, .int .i64 0, .int .i64 0, .int .i64 0, .int .i64 0, .int .i64 0, .int .i64 0, .int .i64 0, .int .i64 0, .int .i64 0, .int .i64 0, .int .i64 0] 41)).heap.size := lt_alloc _ _
      generalize (w0.alloc (.cells #[.string ⟨#[]⟩, .string ⟨#[]⟩, .slice none 0 0, .string ⟨#[]⟩, .string ⟨#[]⟩, .slice none 0 0, .int .i64 0, .int .i64 0, .int .i64 0, .int .i64 0, .int .i64 0, .int .i64 0, .int .i64 0, .int .i64 0, .int .i64 0, .int .i64 0, .int .i64 0, .int .i64 0, .int .i64 0, .int .i64 0, .int .i64 0] 41)) = w1 at *
      generalize w0.heap.size = b7 at *
      clear cS
      refine hK.out _ _ c1 (fun hHeld => ?_)
      clear hK K
      (try simp only [List.getElem_toArray, List.getElem_cons_zero, List.getElem_cons_succ, Act.put, List.setIfInBounds_toArray, List.set_cons_zero, List.set_cons_succ])
      have cS := c1
      clear c1
      refine wpAnyH_ready (rs := [11]) (by kernel_rfl) (by simp) ?_
      refine AllReadyH.cons rfl (fun K hK => ?_) AllReadyH.nil
      go_simp
      have c1 : Below w.heap.size w (w1.alloc (.cells #[.string ⟨#[]⟩, .string ⟨#[]⟩, .slice none 0 0, .string ⟨#[]⟩, .string ⟨#[]⟩, .slice none 0 0, .int .i64 0, .int .i64 0, .int .i64 0, .int .i64 0, .int .i64 0, .int .i64 0, .int .i64 0, .int .i64 0, .int .i64 0, .int .i64 0, .int .i64 0, .int .i64 0, .int .i64 0, .int .i64 0, .int .i64 0] 41)) := cS.alloc cS.size _
      have t8 : (w1.alloc (.cells #[.string ⟨#[]⟩, .string ⟨#[]⟩, .slice none 0 0, .string ⟨#[]⟩, .string ⟨#[]⟩, .slice none 0 0, .int .i64 0, .int .i64 0, .int .i64 0, .int .i64 0, .int .i64 0, .int .i64 0, .int .i64 0, .int .i64 0, .int .i64 0, .int .i64 0, .int .i64 0, .int .i64 0, .int .i64 0, .int .i64 0, .int .i64 0] 41)).there w1.heap.size 0 21 := there_new w1 #[.string ⟨#[]⟩, .string ⟨#[]⟩, .slice none 0 0, .string ⟨#[]⟩, .string ⟨#[]⟩, .slice none 0 0, .int .i64 0, .int .i64 0, .int .i64 0, .int .i64 0, .int .i64 0, .int .i64 0, .int .i64 0, .int .i64 0, .int .i64 0, .int .i64 0, .int .i64 0, .int .i64 0, .int .i64 0, .int .i64 0, .int .i64 0] 41
      have h8 : w.heap.size ≤ w1.heap.size := cS.size
      have s8 : w1.heap.size < (w1.alloc (.cells #[.string ⟨#[]⟩, .string ⟨#[]⟩, .slice none 0 0, .string ⟨#[]⟩, .string ⟨#[]⟩, .slice none 0 0, .int .i64 0, .int .i64 0, .int .i64 0, .int .i64 0, .int .i64 0, .int .i64 0, .int .i64 0, .int .i64 0, .int .i64 0, .int .i64 0, .int .i64 0, .int .i64 0, .int .i64 0, .int .i64 0, .int .i64 0] 41)).heap.size := lt_alloc _ _
      have hn : b7 ≠ w1.heap.size := by omega
      have t7 := World.there_alloc t7 (.cells #[.string ⟨#[]⟩, .string ⟨#[]⟩, .slice none 0 0, .string ⟨#[]⟩, .string ⟨#[]⟩, .slice none 0 0, .int .i64 0, .int .i64 0, .int .i64 0, .int .i64 0, .int .i64 0, .int .i64 0, .int .i64 0, .int .i64 0, .int .i64 0, .int .i64 0, .int .i64 0, .int .i64 0, .int .i64 0, .int .i64 0, .int .i64 0] 41)
      generalize (w1.alloc (.cells #[.string ⟨#[]⟩, .string ⟨#[]⟩, .slice none 0 0, .string ⟨#[]⟩, .string ⟨#[]⟩, .slice none 0 0, .int .i64 0, .int .i64 0, .int .i64 0, .int .i64 0, .int .i64 0, .int .i64 0, .int .i64 0, .int .i64 0, .int .i64 0, .int .i64 0, .int .i64 0, .int .i64 0, .int .i64 0, .int .i64 0, .int .i64 0] 41)) = w2 at *
      generalize w1.heap.size = b8 at *
      clear cS
      refine hK.out _ _ c1 (fun hHeld => ?_)
      clear hK K
      (try simp only [List.getElem_toArray, List.getElem_cons_zero, List.getElem_cons_succ, Act.put, List.setIfInBounds_toArray, List.set_cons_zero, List.set_cons_succ])
      have cS := c1
      clear c1
      refine wpAnyH_ready (rs := [12]) (by kernel_rfl) (by simp) ?_
      refine AllReadyH.cons rfl (fun K hK => ?_) AllReadyH.nil
      rw [if_pos (by rfl)]
      refine wp_store_mid 41 _ _ rfl b7 0 (List.toArray X) rfl rfl (by rw [List.size_toArray, X21]; exact t7) (by rw [List.size_toArray, X21]; kernel_rfl) X1 ?_
      simp only [Act.put]
      have c1 : Below w.heap.size w (w2.setCells b7 0 X) := below_setCells cS h7 _ _
      have r7 : (w2.setCells b7 0 X).rangeAt b7 0 X := World.rangeAt_setCells_same _ _ _ _ (by rw [X21]; exact t7)
      have t8 := World.there_setCells t8 b7 0 X
      generalize (w2.setCells b7 0 X) = w3 at *
      clear cS t7
      refine hK.out _ _ c1 (fun hHeld => ?_)
      clear hK K
      have cS := c1
      clear c1
      refine wpAnyH_ready (rs := [13]) (by kernel_rfl) (by simp) ?_
      refine AllReadyH.cons rfl (fun K hK => ?_) AllReadyH.nil
      rw [if_pos (by rfl)]
      refine wp_store_mid 41 _ _ rfl b8 0 (List.toArray Y) rfl rfl (by rw [List.size_toArray, Y21]; exact t8) (by rw [List.size_toArray, Y21]; kernel_rfl) Y1 ?_
      simp only [Act.put]
      have c1 : Below w.heap.size w (w3.setCells b8 0 Y) := below_setCells cS h8 _ _
      have r8 : (w3.setCells b8 0 Y).rangeAt b8 0 Y := World.rangeAt_setCells_same _ _ _ _ (by rw [Y21]; exact t8)
      have r7 := World.rangeAt_setCells_apart r7 b8 0 Y (Or.inl (by omega))
      generalize (w3.setCells b8 0 Y) = w4 at *
      clear cS t8
      refine hK.out _ _ c1 (fun hHeld => ?_)
      clear hK K
      have cS := c1
      clear c1
      refine wpAnyH_done (by kernel_rfl) ?_ _
      refine NoPanic.normal ?_
      exact ⟨rfl, b7, b8, ⟨cS, r7, r8⟩, h7, h8, rfl⟩
    refine AllReadyH.cons rfl (fun K hK => ?_) AllReadyH.nil
    · go_simp
      have c1 : Below w.heap.size w (w0.alloc (.cells #[.string ⟨#[]⟩, .string ⟨#[]⟩, .slice none 0 0, .string ⟨#[]⟩, .string ⟨#[]⟩, .slice none 0 0, .int .i64 0, .int .i64 0, .int .i64 0, .int .i64 0, .int .i64 0, .int .i64 0, .int .i64 0, .int .i64 0, .int .i64 0, .int .i64 0, .int .i64 0, .int .i64 0, .int .i64 0, .int .i64 0, .int .i64 0] 41)) := cS.alloc cS.size _
      have t8 : (w0.alloc (.cells #[.string ⟨#[]⟩, .string ⟨#[]⟩, .slice none 0 0, .string ⟨#[]⟩, .string ⟨#[]⟩, .slice none 0 0, .int .i64 0, .int .i64 0, .int .i64 0, .int .i64 0, .int .i64 0, .int .i64 0, .int .i64 0, .int .i64 0, .int .i64 0, .int .i64 0, .int .i64 0, .int .i64 0, .int .i64 0, .int .i64 0, .int .i64 0] 41)).there w0.heap.size 0 21 := there_new w0 #[.string ⟨#[]⟩, .string ⟨#[]⟩, .slice none 0 0, .string ⟨#[]⟩, .string ⟨#[]⟩, .slice none 0 0, .int .i64 0, .int .i64 0, .int .i64 0, .int .i64 0, .int .i64 0, .int .i64 0, .int .i64 0, .int .i64 0, .int .i64 0, .int .i64 0, .int .i64 0, .int .i64 0, .int .i64 0, .int .i64 0, .int .i64 0] 41
      have h8 : w.heap.size ≤ w0.heap.size := cS.size
      have s8 : w0.heap.size < (w0.alloc (.cells #[.string ⟨#[]⟩, .string ⟨#[]⟩, .slice none 0 0, .string ⟨#[]⟩, .string ⟨#[]⟩, .slice none 0 0, .int .i64 0, .int .i64 0, .int .i64 0, .int .i64 0, .int .i64 0, .int .i64 0, .int .i64 0, .int .i64 0, .int .i64 0, .int .i64 0, .int .i64 0, .int .i64 0, .int .i64 0, .int .i64 0, .int .i64 0] 41)).heap.size := lt_alloc _ _
      generalize (w0.alloc (.cells #[.string ⟨#[]⟩, .string ⟨#[]⟩, .slice none 0 0, .string ⟨#[]⟩, .string ⟨#[]⟩, .slice none 0 0, .int .i64 0, .int .i64 0, .int .i64 0, .int .i64 0, .int .i64 0, .int .i64 0, .int .i64 0, .int .i64 0, .int .i64 0, .int .i64 0, .int .i64 0, .int .i64 0, .int .i64 0, .int .i64 0, .int .i64 0] 41)) = w1 at *
      generalize w0.heap.size = b8 at *
      clear cS
      refine hK.out _ _ c1 (fun hHeld => ?_)
      clear hK K
      (try simp only [List.getElem_toArray, List.getElem_cons_zero, List.getElem_cons_succ, Act.put, List.setIfInBounds_toArray, List.set_cons_zero, List.set_cons_succ])
      have cS := c1
      clear c1
      refine wpAnyH_ready (rs := [10]) (by kernel_rfl) (by simp) ?_
      refine AllReadyH.cons rfl (fun K hK => ?_) AllReadyH.nil
      go_simp
      have c1 : Below w.heap.size w (w1.alloc (.cells #[.string ⟨#[]⟩, .string ⟨#[]⟩, .slice none 0 0, .string ⟨#[]⟩, .string ⟨#[]⟩, .slice none 0 0, .int .i64 0, .int .i64 0, .int .i64 0, .int .i64 0, .int .i64 0, .int .i64 0, .int .i64 0, .int .i64 0, .int .i64 0, .int .i64 0, .int .i64 0, .int .i64 0, .int .i64 0, .int .i64 0, .int .i64 0] 41)) := cS.alloc cS.size _
      have t7 : (w1.alloc (.cells #[.string ⟨#[]⟩, .string ⟨#[]⟩, .slice none 0 0, .string ⟨#[]⟩, .string ⟨#[]⟩, .slice none 0 0, .int .i64 0, .int .i64 0, .int .i64 0, .int .i64 0, .int .i64 0, .int .i64 0, .int .i64 0, .int .i64 0, .int .i64 0, .int .i64 0, .int .i64 0, .int .i64 0, .int .i64 0, .int .i64 0, .int .i64 0] 41)).there w1.heap.size 0 21 := there_new w1 #[.string ⟨#[]⟩, .string ⟨#[]⟩, .slice none 0 0, .string ⟨#[]⟩, .string ⟨#[]⟩, .slice none 0 0, .int .i64 0, .int .i64 0, .int .i64 0, .int .i64 0, .int .i64 0, .int .i64 0, .int .i64 0, .int .i64 0, .int .i64 0, .int .i64 0, .int .i64 0, .int .i64 0, .int .i64 0, .int .i64 0, .int .i64 0] 41
      have h7 : w.heap.size ≤ w1.heap.size := cS.size
      have s7 : w1.heap.size < (w1.alloc (.cells #[.string ⟨#[]⟩, .string ⟨#[]⟩, .slice none 0 0, .string ⟨#[]⟩, .string ⟨#[]⟩, .slice none 0 0, .int .i64 0, .int .i64 0, .int .i64 0, .int .i64 0, .int .i64 0, .int .i64 0, .int .i64 0, .int .i64 0, .int .i64 0, .int .i64 0, .int .i64 0, .int .i64 0, .int .i64 0, .int .i64 0, .int .i64 0] 41)).heap.size := lt_alloc _ _
      have hn : b8 ≠ w1.heap.size := by omega
      have t8 := World.there_alloc t8 (.cells #[.string ⟨#[]⟩, .string ⟨#[]⟩, .slice none 0 0, .string ⟨#[]⟩, .string ⟨#[]⟩, .slice none 0 0, .int .i64 0, .int .i64 0, .int .i64 0, .int .i64 0, .int .i64 0, .int .i64 0, .int .i64 0, .int .i64 0, .int .i64 0, .int .i64 0, .int .i64 0, .int .i64 0, .int .i64 0, .int .i64 0, .int .i64 0] 41)
      generalize (w1.alloc (.cells #[.string ⟨#[]⟩, .string ⟨#[]⟩, .slice none 0 0, .string ⟨#[]⟩, .string ⟨#[]⟩, .slice none 0 0, .int .i64 0, .int .i64 0, .int .i64 0, .int .i64 0, .int .i64 0, .int .i64 0, .int .i64 0, .int .i64 0, .int .i64 0, .int .i64 0, .int .i64 0, .int .i64 0, .int .i64 0, .int .i64 0, .int .i64 0] 41)) = w2 at *
      generalize w1.heap.size = b7 at *
      clear cS
      refine hK.out _ _ c1 (fun hHeld => ?_)
      clear hK K
      (try simp only [List.getElem_toArray, List.getElem_cons_zero, List.getElem_cons_succ, Act.put, List.setIfInBounds_toArray, List.set_cons_zero, List.set_cons_succ])
      have cS := c1
      clear c1
      refine wpAnyH_ready (rs := [12]) (by kernel_rfl) (by simp) ?_
      refine AllReadyH.cons rfl (fun K hK => ?_) AllReadyH.nil
      rw [if_pos (by rfl)]
      refine wp_store_mid 41 _ _ rfl b7 0 (List.toArray X) rfl rfl (by rw [List.size_toArray, X21]; exact t7) (by rw [List.size_toArray, X21]; kernel_rfl) X1 ?_
      simp only [Act.put]
      have c1 : Below w.heap.size w (w2.setCells b7 0 X) := below_setCells cS h7 _ _
      have r7 : (w2.setCells b7 0 X).rangeAt b7 0 X := World.rangeAt_setCells_same _ _ _ _ (by rw [X21]; exact t7)
      have t8 := World.there_setCells t8 b7 0 X
      generalize (w2.setCells b7 0 X) = w3 at *
      clear cS t7
      refine hK.out _ _ c1 (fun hHeld => ?_)
      clear hK K
      have cS := c1
      clear c1
      refine wpAnyH_ready (rs := [13]) (by kernel_rfl) (by simp) ?_
      refine AllReadyH.cons rfl (fun K hK => ?_) AllReadyH.nil
      rw [if_pos (by rfl)]
      refine wp_store_mid 41 _ _ rfl b8 0 (List.toArray Y) rfl rfl (by rw [List.size_toArray, Y21]; exact t8) (by rw [List.size_toArray, Y21]; kernel_rfl) Y1 ?_
      simp only [Act.put]
      have c1 : Below w.heap.size w (w3.setCells b8 0 Y) := below_setCells cS h8 _ _
      have r8 : (w3.setCells b8 0 Y).rangeAt b8 0 Y := World.rangeAt_setCells_same _ _ _ _ (by rw [Y21]; exact t8)
      have r7 := World.rangeAt_setCells_apart r7 b8 0 Y (Or.inl (by omega))
      generalize (w3.setCells b8 0 Y) = w4 at *
      clear cS t8
      refine hK.out _ _ c1 (fun hHeld => ?_)
      clear hK K
      have cS := c1
      clear c1
      refine wpAnyH_done (by kernel_rfl) ?_ _
      refine NoPanic.normal ?_
      exact ⟨rfl, b7, b8, ⟨cS, r7, r8⟩, h7, h8, rfl⟩
  obtain ⟨rfl, b, c, ⟨B, r7, r8⟩, h7, h8, rfl⟩ := h
  rename_i hKK
  refine hKK _ _ ?_
  clear hKK
  have k0 : W.cell? ⟨b, 0, none⟩ = some (.string x.ho) := by simpa using r7 0 _ HE0.out
  have k1 : W.cell? ⟨b, 1, none⟩ = some (.string x.pf) := by simpa using r7 1 _ HE1.out
  have l0 : W.cell? ⟨c, 0, none⟩ = some (.string y.ho) := by simpa using r8 0 _ HF0.out
  have l1 : W.cell? ⟨c, 1, none⟩ = some (.string y.pf) := by simpa using r8 1 _ HF1.out
  have hg := KH.out W B
  have KA0 : Hid (∀ V, Below W.heap.size W V → V.cell? ⟨b, 0, none⟩ = some (.string x.ho)) := hide (fun V hV => (hV.cell (p := ⟨b, 0, none⟩) (World.block_lt_of_cell? W _ k0)).trans k0)
  have KA1 : Hid (∀ V, Below W.heap.size W V → V.cell? ⟨b, 1, none⟩ = some (.string x.pf)) := hide (fun V hV => (hV.cell (p := ⟨b, 1, none⟩) (World.block_lt_of_cell? W _ k1)).trans k1)
  have KB0 : Hid (∀ V, Below W.heap.size W V → V.cell? ⟨c, 0, none⟩ = some (.string y.ho)) := hide (fun V hV => (hV.cell (p := ⟨c, 0, none⟩) (World.block_lt_of_cell? W _ l0)).trans l0)
  have KB1 : Hid (∀ V, Below W.heap.size W V → V.cell? ⟨c, 1, none⟩ = some (.string y.pf)) := hide (fun V hV => (hV.cell (p := ⟨c, 1, none⟩) (World.block_lt_of_cell? W _ l1)).trans l1)
  have KG : Hid (∀ V, Below W.heap.size W V → V.cell? ⟨gh, 0, none⟩ = some (.string host)) := hide (fun V hV => (hV.cell (p := ⟨gh, 0, none⟩) (World.block_lt_of_cell? W _ hg)).trans hg)
  have N1 := hide (fun V => near_any x.ho host V s1 s3)
  have N2 := hide (fun V => near_any y.ho host V s2 s3)
  have HB := hide B
  have hR := HR.out
  unfold betK at hR
  generalize x.ho = p1 at *
  generalize x.pf = p2 at *
  generalize y.ho = q1 at *
  generalize y.pf = q2 at *
  generalize nearK p1 host = v1 at *
  generalize nearK q1 host = v2 at *
  have C1 := hide (fun V => compare_any v1 v2 V)
  have C2 := hide (fun V => compare_any (p2.size : Int) (q2.size : Int) V)
  generalize cmpK v1 v2 = v3 at *
  generalize cmpK (p2.size : Int) (q2.size : Int) = v4 at *
  have HR2 := hide hR
  clear k0 k1 l0 l1 hg r7 r8 h7 h8 B hR HR KC KH HX HY X1 Y1 X21 Y21 HE0 HE1 HF0 HF1 hi hj hi0 hj0 hi1 hj1 s1 s2 s3
  go_upto_region 2 with fail
  have cS : Below W.heap.size W W.drew := (Below.refl W.heap.size W).drew
  refine wp_region_noPanic ?_
  refine wp_region_held_drew (S := fun V => Below W.heap.size W V) (by kernel_rfl) cS (fun hHeld => ?_)
  generalize W.drew = V at *
  refine wpAnyH_take (i := 0) (v := ?_) rfl (by kernel_rfl) (by kernel_rfl) (by kernel_rfl) (fun _ _ _ h => h) (Or.inl ⟨by rfl, ?_⟩) (by assumption) ?_
  rotate_left
  · (intro W hSw; go_simp; try with_reducible rfl)
  simp only [List.getElem_toArray, List.getElem_cons_zero, Act.put, List.setIfInBounds_toArray, List.set_cons_zero, List.set_cons_succ]
  refine wpAnyH_take (i := 1) (v := ?_) rfl (by kernel_rfl) (by kernel_rfl) (by kernel_rfl) (fun _ _ _ h => h) (Or.inl ⟨by rfl, ?_⟩) (by assumption) ?_
  rotate_left
  · (intro W hSw; go_simp; try with_reducible rfl)
  simp only [List.getElem_toArray, List.getElem_cons_zero, List.getElem_cons_succ, Act.put, List.setIfInBounds_toArray, List.set_cons_zero, List.set_cons_succ]
  refine wpAnyH_take (i := 2) (v := ?_) rfl (by kernel_rfl) (by kernel_rfl) (by kernel_rfl) (fun _ _ _ h => h) (Or.inl ⟨by rfl, ?_⟩) (by assumption) ?_
  rotate_left
  · (intro W hSw; have hc := KA0.out W hSw; go_simp; try with_reducible rfl)
  simp only [List.getElem_toArray, List.getElem_cons_zero, List.getElem_cons_succ, Act.put, List.setIfInBounds_toArray, List.set_cons_zero, List.set_cons_succ]
  refine wpAnyH_take (i := 3) (v := ?_) rfl (by kernel_rfl) (by kernel_rfl) (by kernel_rfl) (fun _ _ _ h => h) (Or.inl ⟨by rfl, ?_⟩) (by assumption) ?_
  rotate_left
  · (intro W hSw; have hc := KG.out W hSw; go_simp; try with_reducible rfl)
  simp only [List.getElem_toArray, List.getElem_cons_zero, List.getElem_cons_succ, Act.put, List.setIfInBounds_toArray, List.set_cons_zero, List.set_cons_succ]
  refine wpAnyH_take (i := 5) (v := ?_) rfl (by kernel_rfl) (by kernel_rfl) (by kernel_rfl) (fun _ _ _ h => h) (Or.inl ⟨by rfl, ?_⟩) (by assumption) ?_
  rotate_left
  · (intro W hSw; go_simp; try with_reducible rfl)
  simp only [List.getElem_toArray, List.getElem_cons_zero, List.getElem_cons_succ, Act.put, List.setIfInBounds_toArray, List.set_cons_zero, List.set_cons_succ]
  refine wpAnyH_take (i := 6) (v := ?_) rfl (by kernel_rfl) (by kernel_rfl) (by kernel_rfl) (fun _ _ _ h => h) (Or.inl ⟨by rfl, ?_⟩) (by assumption) ?_
  rotate_left
  · (intro W hSw; go_simp; try with_reducible rfl)
  simp only [List.getElem_toArray, List.getElem_cons_zero, List.getElem_cons_succ, Act.put, List.setIfInBounds_toArray, List.set_cons_zero, List.set_cons_succ]
  refine wpAnyH_take (i := 7) (v := ?_) rfl (by kernel_rfl) (by kernel_rfl) (by kernel_rfl) (fun _ _ _ h => h) (Or.inl ⟨by rfl, ?_⟩) (by assumption) ?_
  rotate_left
  · (intro W hSw; have hc := KB0.out W hSw; go_simp; try with_reducible rfl)
  simp only [List.getElem_toArray, List.getElem_cons_zero, List.getElem_cons_succ, Act.put, List.setIfInBounds_toArray, List.set_cons_zero, List.set_cons_succ]
  refine wpAnyH_take (i := 8) (v := ?_) rfl (by kernel_rfl) (by kernel_rfl) (by kernel_rfl) (fun _ _ _ h => h) (Or.inl ⟨by rfl, ?_⟩) (by assumption) ?_
  rotate_left
  · (intro W hSw; have hc := KG.out W hSw; go_simp; try with_reducible rfl)
  simp only [List.getElem_toArray, List.getElem_cons_zero, List.getElem_cons_succ, Act.put, List.setIfInBounds_toArray, List.set_cons_zero, List.set_cons_succ]
  refine wpAnyH_take (i := 11) (v := ?_) rfl (by kernel_rfl) (by kernel_rfl) (by kernel_rfl) (fun _ _ _ h => h) (Or.inl ⟨by rfl, ?_⟩) (by assumption) ?_
  rotate_left
  · (intro W hSw; go_simp; try with_reducible rfl)
  simp only [List.getElem_toArray, List.getElem_cons_zero, List.getElem_cons_succ, Act.put, List.setIfInBounds_toArray, List.set_cons_zero, List.set_cons_succ]
  refine wpAnyH_take (i := 12) (v := ?_) rfl (by kernel_rfl) (by kernel_rfl) (by kernel_rfl) (fun _ _ _ h => h) (Or.inl ⟨by rfl, ?_⟩) (by assumption) ?_
  rotate_left
  · (intro W hSw; go_simp; try with_reducible rfl)
  simp only [List.getElem_toArray, List.getElem_cons_zero, List.getElem_cons_succ, Act.put, List.setIfInBounds_toArray, List.set_cons_zero, List.set_cons_succ]
  refine wpAnyH_take (i := 13) (v := ?_) rfl (by kernel_rfl) (by kernel_rfl) (by kernel_rfl) (fun _ _ _ h => h) (Or.inl ⟨by rfl, ?_⟩) (by assumption) ?_
  rotate_left
  · (intro W hSw; have hc := KA1.out W hSw; go_simp; try with_reducible rfl)
  simp only [List.getElem_toArray, List.getElem_cons_zero, List.getElem_cons_succ, Act.put, List.setIfInBounds_toArray, List.set_cons_zero, List.set_cons_succ]
  refine wpAnyH_take (i := 14) (v := ?_) rfl (by kernel_rfl) (by kernel_rfl) (by kernel_rfl) (fun _ _ _ h => h) (Or.inl ⟨by rfl, ?_⟩) (by assumption) ?_
  rotate_left
  · (intro W hSw; go_simp; try with_reducible rfl)
  simp only [List.getElem_toArray, List.getElem_cons_zero, List.getElem_cons_succ, Act.put, List.setIfInBounds_toArray, List.set_cons_zero, List.set_cons_succ]
  refine wpAnyH_take (i := 15) (v := ?_) rfl (by kernel_rfl) (by kernel_rfl) (by kernel_rfl) (fun _ _ _ h => h) (Or.inl ⟨by rfl, ?_⟩) (by assumption) ?_
  rotate_left
  · (intro W hSw; go_simp; try with_reducible rfl)
  simp only [List.getElem_toArray, List.getElem_cons_zero, List.getElem_cons_succ, Act.put, List.setIfInBounds_toArray, List.set_cons_zero, List.set_cons_succ]
  refine wpAnyH_take (i := 16) (v := ?_) rfl (by kernel_rfl) (by kernel_rfl) (by kernel_rfl) (fun _ _ _ h => h) (Or.inl ⟨by rfl, ?_⟩) (by assumption) ?_
  rotate_left
  · (intro W hSw; go_simp; try with_reducible rfl)
  simp only [List.getElem_toArray, List.getElem_cons_zero, List.getElem_cons_succ, Act.put, List.setIfInBounds_toArray, List.set_cons_zero, List.set_cons_succ]
  refine wpAnyH_take (i := 17) (v := ?_) rfl (by kernel_rfl) (by kernel_rfl) (by kernel_rfl) (fun _ _ _ h => h) (Or.inl ⟨by rfl, ?_⟩) (by assumption) ?_
  rotate_left
  · (intro W hSw; have hc := KB1.out W hSw; go_simp; try with_reducible rfl)
  simp only [List.getElem_toArray, List.getElem_cons_zero, List.getElem_cons_succ, Act.put, List.setIfInBounds_toArray, List.set_cons_zero, List.set_cons_succ]
  refine wpAnyH_take (i := 18) (v := ?_) rfl (by kernel_rfl) (by kernel_rfl) (by kernel_rfl) (fun _ _ _ h => h) (Or.inl ⟨by rfl, ?_⟩) (by assumption) ?_
  rotate_left
  · (intro W hSw; go_simp; try with_reducible rfl)
  simp only [List.getElem_toArray, List.getElem_cons_zero, List.getElem_cons_succ, Act.put, List.setIfInBounds_toArray, List.set_cons_zero, List.set_cons_succ]
  refine wpAnyH_ready (rs := [4]) (by kernel_rfl) (by simp) ?_
  refine AllReadyH.cons rfl (fun K hK => ?_) AllReadyH.nil
  go_simp
  refine (N1.out _).mono ?_
  rintro e w3 ⟨rfl, rfl⟩
  (try go_wp2_with fail)
  refine hK.out _ _ cS (fun hHeld => ?_)
  clear hK K
  (try simp only [List.getElem_toArray, List.getElem_cons_zero, List.getElem_cons_succ, Act.put, List.setIfInBounds_toArray, List.set_cons_zero, List.set_cons_succ])
  refine wpAnyH_ready (rs := [9]) (by kernel_rfl) (by simp) ?_
  refine AllReadyH.cons rfl (fun K hK => ?_) AllReadyH.nil
  go_simp
  refine (N2.out _).mono ?_
  rintro e w3 ⟨rfl, rfl⟩
  (try go_wp2_with fail)
  refine hK.out _ _ cS (fun hHeld => ?_)
  clear hK K
  (try simp only [List.getElem_toArray, List.getElem_cons_zero, List.getElem_cons_succ, Act.put, List.setIfInBounds_toArray, List.set_cons_zero, List.set_cons_succ])
  refine wpAnyH_ready (rs := [10]) (by kernel_rfl) (by simp) ?_
  refine AllReadyH.cons rfl (fun K hK => ?_) AllReadyH.nil
  go_simp
  refine (C1.out _).mono ?_
  rintro e w3 ⟨rfl, rfl⟩
  (try go_wp2_with fail)
  refine hK.out _ _ cS (fun hHeld => ?_)
  clear hK K
  (try simp only [List.getElem_toArray, List.getElem_cons_zero, List.getElem_cons_succ, Act.put, List.setIfInBounds_toArray, List.set_cons_zero, List.set_cons_succ])
  refine wpAnyH_ready (rs := [19]) (by kernel_rfl) (by simp) ?_
  refine AllReadyH.cons rfl (fun K hK => ?_) AllReadyH.nil
  go_simp
  refine (C2.out _).mono ?_
  rintro e w3 ⟨rfl, rfl⟩
  (try go_wp2_with fail)
  refine hK.out _ _ cS (fun hHeld => ?_)
  clear hK K
  (try simp only [List.getElem_toArray, List.getElem_cons_zero, List.getElem_cons_succ, Act.put, List.setIfInBounds_toArray, List.set_cons_zero, List.set_cons_succ])
  refine wpAnyH_ready (rs := [20]) (by kernel_rfl) (by simp) ?_
  refine AllReadyH.cons rfl (fun K hK => ?_) AllReadyH.nil
  go_simp
  have c1 := cS.alloc cS.size (.cells #[.int .i64 v3, .int .i64 v4] 3)
  have z0 : (V.alloc (.cells #[.int .i64 v3, .int .i64 v4] 3)).cell? ⟨V.heap.size, 0, none⟩ = some (.int .i64 v3) := cell_at (hp_new V _) 0
  have z1 : (V.alloc (.cells #[.int .i64 v3, .int .i64 v4] 3)).cell? ⟨V.heap.size, 1, none⟩ = some (.int .i64 v4) := cell_at (hp_new V _) 1
  have O1 := hide (or_any v3 v4 V.heap.size _ z0 z1)
  clear z0 z1
  generalize (V.alloc (.cells #[.int .i64 v3, .int .i64 v4] 3)) = V1 at *
  generalize V.heap.size = bz at *
  refine hK.out _ _ c1 (fun hHeld => ?_)
  clear hK K cS
  (try simp only [List.getElem_toArray, List.getElem_cons_zero, List.getElem_cons_succ, Act.put, List.setIfInBounds_toArray, List.set_cons_zero, List.set_cons_succ])
  have cS := c1
  clear c1
  refine wpAnyH_ready (rs := [21]) (by kernel_rfl) (by simp) ?_
  refine AllReadyH.cons rfl (fun K hK => ?_) AllReadyH.nil
  go_simp
  refine O1.out.mono ?_
  rintro e w3 ⟨rfl, rfl⟩
  (try go_wp2_with fail)
  refine hK.out _ _ cS (fun hHeld => ?_)
  clear hK K
  (try simp only [List.getElem_toArray, List.getElem_cons_zero, List.getElem_cons_succ, Act.put, List.setIfInBounds_toArray, List.set_cons_zero, List.set_cons_succ])
  refine wpAnyH_take (i := 22) (v := ?_) rfl (by kernel_rfl) (by kernel_rfl) (by kernel_rfl) (fun _ _ _ h => h) (Or.inl ⟨by rfl, ?_⟩) (by assumption) ?_
  rotate_left
  · (intro W hSw; go_simp; try with_reducible rfl)
  simp only [List.getElem_toArray, List.getElem_cons_zero, List.getElem_cons_succ, Act.put, List.setIfInBounds_toArray, List.set_cons_zero, List.set_cons_succ]
  refine wpAnyH_done (by kernel_rfl) ?_ _
  refine NoPanic.normal ?_
  clear hHeld
  go_wp2
  go_ret
  exact ⟨by rw [HR2.out]; first | done | rfl, HB.out.trans (cS.mono HB.out.size)⟩
end Go.Proofs.YtacnnomkacfdbaaGreatDoor
/- The best of some routes: slices.MaxFunc with the function that Find hands on. -/
namespace Go.Proofs.YtacnnomkacfdbaaGreatDoor
open Go.ChangeShapes Go.WideShapes Go.ChangeAt Go.RowKit
set_option linter.unusedVariables false

theorem bet_at (w : World) (gc gh : Nat) (a2 : Option Addr) (k2 : Nat) (R : List Rt) (host : ByteArray) (i j : Nat) (hi : i < R.length) (hj : j < R.length)
    (hR : RRow w (.slice a2 R.length k2) R) (hc : w.cell? ⟨gc, 1, none⟩ = some (.slice a2 R.length k2)) (hh : w.cell? ⟨gh, 0, none⟩ = some (.string host)) (hs : ∀ x ∈ R, x.ho.size ≤ 1048576) (s3 : host.size ≤ 1048576) :
    Calls Tryz.prog 13 #[.int .i64 i, .int .i64 j, .pointer (some ⟨gc, 0, none⟩), .pointer (some ⟨gh, 0, none⟩)] w fun e w' => e = .returned (.int .i64 (betK R[i] R[j] host)) ∧ Below w.heap.size w w' := by
  obtain ⟨a, c, g, o, m, q, a1, n1, c1, a3, n3, c3, e1, rfl, rfl, rfl, r1⟩ := rt_range hR hi
  obtain ⟨a', c', g', o', m', q', b1, l1, d1, b3, l3, d3, e2, rfl, rfl, rfl, r2⟩ := rt_range hR hj
  simp only [Value.slice.injEq, true_and] at e1 e2
  obtain ⟨rfl, rfl⟩ := e1
  obtain ⟨e3, -⟩ := e2
  simp only [Option.some.injEq, Addr.mk.injEq, and_true] at e3
  obtain ⟨rfl, rfl⟩ := e3
  exact bet_any w gc gh g o R.length _ host R[i] R[j] i j _ _ _ _ _ _ _ _ _ _ _ _ hi hj hc hh r1 r2 (hs _ (List.getElem_mem hi)) (hs _ (List.getElem_mem hj)) s3
/-- The better one of two routes, by their numbers. -/
def stepM (R : List Rt) (h : ByteArray) (m k : Nat) : Nat :=
  match R[k]?, R[m]? with
  | some x, some y => if 0 < betK x y h then k else m
  | _, _ => m
def maxK (R : List Rt) (h : ByteArray) : List Nat → Nat
  | [] => 0
  | i :: r => r.foldl (stepM R h) i
theorem stepM_at {R : List Rt} {h : ByteArray} {m k : Nat} (hk : k < R.length) (hm : m < R.length) : stepM R h m k = if 0 < betK R[k] R[m] h then k else m := by
  unfold stepM
  rw [List.getElem?_eq_getElem hk, List.getElem?_eq_getElem hm]
theorem maxK_snoc {R : List Rt} {h : ByteArray} {I : List Nat} {k : Nat} (hk : k < I.length) (h0 : 0 < k) : maxK R h (I.take (k + 1)) = stepM R h (maxK R h (I.take k)) I[k] := by
  cases I with
  | nil => simp at hk
  | cons i r =>
    obtain ⟨j, rfl⟩ : ∃ j, k = j + 1 := ⟨k - 1, by omega⟩
    have hj : j < r.length := by simpa using hk
    simp only [List.take_succ_cons, maxK, List.getElem_cons_succ]
    rw [List.take_succ_eq_append_getElem hj, List.foldl_append]
    rfl
theorem stepM_or (R : List Rt) (h : ByteArray) (m k : Nat) : stepM R h m k = m ∨ stepM R h m k = k := by
  unfold stepM
  split
  · split
    · exact .inr rfl
    · exact .inl rfl
  · exact .inl rfl
theorem fold_mem (R : List Rt) (h : ByteArray) : ∀ (r : List Nat) (i : Nat), r.foldl (stepM R h) i = i ∨ r.foldl (stepM R h) i ∈ r
  | [], i => .inl rfl
  | k :: r, i => by
    rw [List.foldl_cons]
    rcases fold_mem R h r (stepM R h i k) with e | e
    · rw [e]
      rcases stepM_or R h i k with e2 | e2
      · exact .inl e2
      · rw [e2]; exact .inr (List.mem_cons_self ..)
    · exact .inr (List.mem_cons_of_mem _ e)
theorem maxK_mem {R : List Rt} {h : ByteArray} {I : List Nat} (h0 : I ≠ []) : maxK R h I ∈ I := by
  cases I with
  | nil => exact absurd rfl h0
  | cons i r =>
    rcases fold_mem R h r i with e | e
    · show r.foldl (stepM R h) i ∈ _
      rw [e]; exact List.mem_cons_self ..
    · exact List.mem_cons_of_mem _ e
def ofN (I : List Nat) : List Int := I.map fun (k : Nat) => (k : Int)
set_option maxHeartbeats 2000000 in
theorem max_any (w : World) (gc gh : Nat) (a2 : Option Addr) (k2 : Nat) (R : List Rt) (host : ByteArray) (v : Value) (I : List Nat) (hI : IRow w v (ofN I)) (hI0 : I ≠ []) (hI1 : ∀ k ∈ I, k < R.length) (hIl : I.length ≤ 1048576)
    (hR : RRow w (.slice a2 R.length k2) R) (hc : w.cell? ⟨gc, 1, none⟩ = some (.slice a2 R.length k2)) (hh : w.cell? ⟨gh, 0, none⟩ = some (.string host)) (hs : ∀ x ∈ R, x.ho.size ≤ 1048576) (s3 : host.size ≤ 1048576) :
    Calls Tryz.prog 12 #[v, .func (.func 13) #[] #[.pointer (some ⟨gc, 0, none⟩), .pointer (some ⟨gh, 0, none⟩)]] w fun e w' => e = .returned (.int .i64 (maxK R host I : Nat)) ∧ Below w.heap.size w w' := by
  obtain ⟨a, c, rfl, hcv⟩ := hI
  have hlen : (ofN I).length = I.length := by simp [ofN]
  have HCV : Hid (∀ (W : World), Below w.heap.size w W → ∀ k (hk : k < I.length), ∃ g o, a = some ⟨g, o, none⟩ ∧ W.cell? ⟨g, o + k, none⟩ = some (.int .i64 (I[k] : Nat))) := hide (fun W hW k hk => by
    obtain ⟨g, o, h1, h2, h3⟩ := hcv k (by rw [hlen]; exact hk)
    refine ⟨g, o, h1, (hW.cell (p := ⟨g, o + k, none⟩) h2).trans ?_⟩
    rw [h3]; simp [ofN])
  rw [hlen]
  have HBET : Hid (∀ (W : World), Below w.heap.size w W → ∀ i j (hi : i < R.length) (hj : j < R.length), Calls Tryz.prog 13 #[.int .i64 i, .int .i64 j, .pointer (some ⟨gc, 0, none⟩), .pointer (some ⟨gh, 0, none⟩)] W fun e w' => e = .returned (.int .i64 (betK R[i] R[j] host)) ∧ Below W.heap.size W w') := hide (fun W hW i j hi hj =>
    bet_at W gc gh a2 k2 R host i j hi hj (hR.below hW) ((hW.cell (p := ⟨gc, 1, none⟩) (World.block_lt_of_cell? w _ hc)).trans hc) ((hW.cell (p := ⟨gh, 0, none⟩) (World.block_lt_of_cell? w _ hh)).trans hh) hs s3)
  have hpos : 0 < I.length := List.length_pos_iff.2 hI0
  have HI1 := hide hI1
  have HMEM : Hid (∀ k, 0 < k → k ≤ I.length → maxK R host (I.take k) < R.length) := hide (fun k h0 hk => hI1 _ (List.mem_of_mem_take (maxK_mem (R := R) (h := host) (I := I.take k) (by
    intro e
    have := congrArg List.length e
    rw [List.length_take, List.length_nil] at this
    omega))))
  have HSN : Hid (∀ k (hk : k < I.length), 0 < k → maxK R host (I.take (k + 1)) = stepM R host (maxK R host (I.take k)) I[k]) := hide (fun k hk h0 => maxK_snoc hk h0)
  have HALL : Hid (maxK R host (I.take I.length) = maxK R host I) := hide (by rw [List.take_length])
  have HONE : Hid (maxK R host (I.take 1) = I[0]) := hide (by
    cases I with
    | nil => simp at hpos
    | cons i r => rfl)
  clear hI0 hI1 hcv hR hc hh hs s3 hlen
  obtain ⟨n, Hn⟩ : ∃ n, Hid (I.length = n) := ⟨_, hide rfl⟩
  obtain ⟨g, o, rfl, q0⟩ := HCV.out w (Below.refl _ _) 0 hpos
  rw [Hn.out] at hpos hIl ⊢
  rw [← HONE.out, Nat.add_zero] at q0
  go_enter Tryz.func12, Tryz.ntmps12
  go_wp2_with fail
  clear q0
  go_loopw [6, 5] (fun i m wr => ∃ k : Nat, 1 ≤ k ∧ k ≤ n ∧ i = .int .i64 k ∧ m = .int .i64 (maxK R host (I.take k) : Nat) ∧ Hid (Below w.heap.size w wr)) (fun i _ _ => n - (intOf i).toNat)
  case atStart => exact ⟨1, Nat.le_refl _, by omega, rfl, rfl, hide (Below.refl _ _)⟩
  case round =>
    obtain ⟨k, hk1, hk, rfl, rfl, HB⟩ := hrel
    by_cases hlt : k < n
    · have hkl : k < I.length := by rw [Hn.out]; exact hlt
      obtain ⟨g9, o9, e9, q1⟩ := HCV.out wr HB.out k hkl
      simp only [Option.some.injEq, Addr.mk.injEq, and_true] at e9
      obtain ⟨rfl, rfl⟩ := e9
      have hm := HMEM.out k (by omega) (by omega)
      have hi := HI1.out _ (List.getElem_mem hkl)
      have HS := hide (HSN.out k hkl (by omega))
      have HC := hide (HBET.out wr HB.out I[k] (maxK R host (I.take k)) hi hm)
      have HS2 := hide (stepM_at (R := R) (h := host) hi hm)
      generalize betK R[I[k]] R[maxK R host (I.take k)] host = bt at HC HS2
      generalize maxK R host (I.take k) = mm at HC HS HS2
      generalize I[k] = x at HC HS HS2 q1
      clear hm hi hkl
      go_wp2_with fail
      refine HC.out.mono ?_
      rintro e w2 ⟨rfl, bb⟩
      have HB2 := hide (HB.out.trans (bb.mono HB.out.size))
      have q2 : w2.cell? ⟨g, o + k, none⟩ = some (.int .i64 x) := (bb.cell (p := ⟨g, o + k, none⟩) (World.block_lt_of_cell? wr _ q1)).trans q1
      clear bb q1 HC
      by_cases hb : 0 < bt
      · have HX : Hid (x = maxK R host (I.take (k + 1))) := hide (by rw [HS.out, HS2.out, if_pos hb])
        go_wp2
        exact ⟨⟨k + 1, by omega, by omega, by go_num, by rw [HX.out], HB2⟩, by simp [intOf]; omega⟩
      · have HX : Hid (mm = maxK R host (I.take (k + 1))) := hide (by rw [HS.out, HS2.out, if_neg hb])
        go_wp2
        exact ⟨⟨k + 1, by omega, by omega, by go_num, by rw [HX.out], HB2⟩, by simp [intOf]; omega⟩
    · obtain rfl : k = n := by omega
      have HX := HALL.out
      rw [Hn.out] at HX
      go_wp2
      go_ret
      exact ⟨by rw [HX]; first | done | rfl, HB.out⟩
end Go.Proofs.YtacnnomkacfdbaaGreatDoor
/- Place, whole: whatever is asked. -/
namespace Go.Proofs.YtacnnomkacfdbaaGreatDoor
open Go.ChangeShapes Go.WideShapes Go.ChangeAt Go.RowKit
set_option linter.unusedVariables false

set_option maxHeartbeats 1000000 in
theorem place_ok (w : World) (f : Int) (ho : ByteArray) (po : Int) (pa qu : ByteArray) (ak : Bool) (me ta : ByteArray) (mi st : Int) (re : ByteArray) (l : Value) (A : List (ByteArray × ByteArray)) (hA : Flds w l A) (hs : Sm A) (hm : MX w)
    (hP : Parses me ta (tgV f ho po pa qu ak) 0) (s : ByteArray) (e0 : Int) (hh : hofS f ho mi (allS A hostN) = (s, e0)) :
    Calls Tryz.prog 7 #[.agg (hdC true me ta mi st re l)] w fun e w' => e = .returned (.tuple #[.string (if e0 = 0 then s else ⟨#[]⟩), .string (if e0 = 0 then pathK f pa else ⟨#[]⟩), .int .i64 e0]) ∧ Below w.heap.size w w' := by
  have HP := hide (fun W h => hP W h)
  have HH := hide (fun W h => hostOf_any W f ho po pa qu ak true me ta mi st re l A h hs)
  have HC := hide (fun W h => pathOf_any W f ho po pa qu ak h)
  rw [hh] at HH
  have HM := hide hm
  have F0 := hide hA
  obtain ⟨a0, c0, rfl, _, _⟩ := hA
  clear hs hm hP hh
  generalize pathK f pa = pt at HC ⊢
  obtain ⟨O1, HO1⟩ : ∃ O1, Hid ((if e0 = 0 then s else ⟨#[]⟩) = O1) := ⟨_, hide rfl⟩
  obtain ⟨O2, HO2⟩ : ∃ O2, Hid ((if e0 = 0 then pt else ⟨#[]⟩) = O2) := ⟨_, hide rfl⟩
  rw [HO1.out, HO2.out]
  unfold tgV at HP HH HC
  unfold hdC at HH ⊢
  go_enter Tryz.func7, Tryz.ntmps7
  go_wp2_with fail
  have T0 := hide (Bl.one w #[.bool true, .string me, .string ta, .int .i64 mi, .int .i64 st, .string re, .slice a0 A.length c0] 28)
  generalize (w.alloc (.cells #[.bool true, .string me, .string ta, .int .i64 mi, .int .i64 st, .string re, .slice a0 A.length c0] 28)) = x at T0 ⊢
  refine (HP.out _ (HM.out.below T0.out.b)).mono ?_
  rintro e w1 ⟨rfl, bb⟩
  have T1 := hide (T0.out.below bb)
  clear bb T0 HP
  go_upto_region 6 with fail
  have U2 := hide (Bl.one w1 #[.int .i64 f, .string ho, .int .i64 po, .string pa, .string qu, .bool ak] 53)
  have T2 := hide (T1.out.below U2.out.b)
  generalize (w1.alloc (.cells #[.int .i64 f, .string ho, .int .i64 po, .string pa, .string qu, .bool ak] 53)) = y2 at U2 T2 ⊢
  have q0 : y2.cell? ⟨w1.heap.size, 0, none⟩ = some (.int .i64 f) := U2.out.cell 0 rfl 0
  have q1 : y2.cell? ⟨w1.heap.size, 1, none⟩ = some (.string ho) := U2.out.cell 0 rfl 1
  have q2 : y2.cell? ⟨w1.heap.size, 2, none⟩ = some (.int .i64 po) := U2.out.cell 0 rfl 2
  have q3 : y2.cell? ⟨w1.heap.size, 3, none⟩ = some (.string pa) := U2.out.cell 0 rfl 3
  have q4 : y2.cell? ⟨w1.heap.size, 4, none⟩ = some (.string qu) := U2.out.cell 0 rfl 4
  have q5 : y2.cell? ⟨w1.heap.size, 5, none⟩ = some (.bool ak) := U2.out.cell 0 rfl 5
  have n0 : y2.cell? ⟨w.heap.size, 0, none⟩ = some (.bool true) := T2.out.cell 0 rfl 0
  have n1 : y2.cell? ⟨w.heap.size, 1, none⟩ = some (.string me) := T2.out.cell 0 rfl 1
  have n2 : y2.cell? ⟨w.heap.size, 2, none⟩ = some (.string ta) := T2.out.cell 0 rfl 2
  have n3 : y2.cell? ⟨w.heap.size, 3, none⟩ = some (.int .i64 mi) := T2.out.cell 0 rfl 3
  have n4 : y2.cell? ⟨w.heap.size, 4, none⟩ = some (.int .i64 st) := T2.out.cell 0 rfl 4
  have n5 : y2.cell? ⟨w.heap.size, 5, none⟩ = some (.string re) := T2.out.cell 0 rfl 5
  have n6 : y2.cell? ⟨w.heap.size, 6, none⟩ = some (.slice a0 A.length c0) := T2.out.cell 0 rfl 6
  clear T1
  go_wp2_with fail
  refine (HH.out _ (F0.out.below T2.out.b)).mono ?_
  rintro e w2 ⟨rfl, bb⟩
  have T3 := hide (T2.out.below bb)
  have U3 := hide (U2.out.below bb)
  clear bb q0 q1 q2 q3 q4 q5 n0 n1 n2 n3 n4 n5 n6 T2 U2
  by_cases he : e0 = 0
  · have HU1 := hide HO1.out
    have HU2 := hide HO2.out
    rw [if_pos he] at HU1 HU2
    subst he
    clear HO1 HO2
    have q0 : w2.cell? ⟨w1.heap.size, 0, none⟩ = some (.int .i64 f) := U3.out.cell 0 rfl 0
    have q1 : w2.cell? ⟨w1.heap.size, 1, none⟩ = some (.string ho) := U3.out.cell 0 rfl 1
    have q2 : w2.cell? ⟨w1.heap.size, 2, none⟩ = some (.int .i64 po) := U3.out.cell 0 rfl 2
    have q3 : w2.cell? ⟨w1.heap.size, 3, none⟩ = some (.string pa) := U3.out.cell 0 rfl 3
    have q4 : w2.cell? ⟨w1.heap.size, 4, none⟩ = some (.string qu) := U3.out.cell 0 rfl 4
    have q5 : w2.cell? ⟨w1.heap.size, 5, none⟩ = some (.bool ak) := U3.out.cell 0 rfl 5
    go_wp2_with fail
    refine (HC.out _ (HM.out.below T3.out.b)).mono ?_
    rintro e w3 ⟨rfl, bb⟩
    have T4 := hide (T3.out.below bb)
    clear bb q0 q1 q2 q3 q4 q5
    go_wp2
    go_ret3
    exact ⟨by rw [← HU1.out, ← HU2.out]; first | done | rfl, T4.out.b⟩
  · have t0 : (e0 == 0) = false := beq_eq_false_iff_ne.2 he
    have HU1 := hide HO1.out
    have HU2 := hide HO2.out
    rw [if_neg he] at HU1 HU2
    clear he HO1 HO2
    go_wp2
    go_ret3
    exact ⟨by rw [← HU1.out, ← HU2.out]; first | done | rfl, T3.out.b⟩
set_option maxHeartbeats 1000000 in
theorem place_bad (w : World) (t : Value) (e0 : Int) (h0 : e0 ≠ 0) (ht : t = tgZ) (me ta : ByteArray) (mi st : Int) (re : ByteArray) (l : Value) (A : List (ByteArray × ByteArray)) (hA : Flds w l A) (hm : MX w) (hP : Parses me ta t e0) :
    Calls Tryz.prog 7 #[.agg (hdC true me ta mi st re l)] w fun e w' => e = .returned (.tuple #[.string ⟨#[]⟩, .string ⟨#[]⟩, .int .i64 e0]) ∧ Below w.heap.size w w' := by
  subst ht
  have HP := hide (fun W h => hP W h)
  have HM := hide hm
  obtain ⟨a0, c0, rfl, _, _⟩ := hA
  clear hm hP
  have t0 : (e0 == 0) = false := beq_eq_false_iff_ne.2 h0
  clear h0
  unfold tgZ tgV at HP
  unfold hdC
  go_enter Tryz.func7, Tryz.ntmps7
  go_wp2_with fail
  have T0 := hide (Bl.one w #[.bool true, .string me, .string ta, .int .i64 mi, .int .i64 st, .string re, .slice a0 A.length c0] 28)
  generalize (w.alloc (.cells #[.bool true, .string me, .string ta, .int .i64 mi, .int .i64 st, .string re, .slice a0 A.length c0] 28)) = x at T0 ⊢
  refine (HP.out _ (HM.out.below T0.out.b)).mono ?_
  rintro e w1 ⟨rfl, bb⟩
  have T1 := hide (T0.out.below bb)
  clear bb T0 HP
  go_upto_region 5 with fail
  have U2 := hide (Bl.one w1 #[.int .i64 0, .string ⟨#[]⟩, .int .i64 0, .string ⟨#[]⟩, .string ⟨#[]⟩, .bool false] 53)
  have T2 := hide (T1.out.below U2.out.b)
  generalize (w1.alloc (.cells #[.int .i64 0, .string ⟨#[]⟩, .int .i64 0, .string ⟨#[]⟩, .string ⟨#[]⟩, .bool false] 53)) = y2 at U2 T2 ⊢
  go_wp2
  go_ret3
  exact ⟨rfl, T2.out.b⟩
theorem place_not (w : World) (me ta : ByteArray) (mi st : Int) (re : ByteArray) (l : Value) (A : List (ByteArray × ByteArray)) (hA : Flds w l A) :
    Calls Tryz.prog 7 #[.agg (hdC false me ta mi st re l)] w fun e w' => e = .returned (.tuple #[.string ⟨#[]⟩, .string ⟨#[]⟩, .int .i64 1]) ∧ Below w.heap.size w w' := by
  obtain ⟨a0, c0, rfl, _, _⟩ := hA
  unfold hdC
  go_enter Tryz.func7, Tryz.ntmps7
  go_wp2_with fail
  have T0 := hide (Bl.one w #[.bool false, .string me, .string ta, .int .i64 mi, .int .i64 st, .string re, .slice a0 A.length c0] 28)
  generalize (w.alloc (.cells #[.bool false, .string me, .string ta, .int .i64 mi, .int .i64 st, .string re, .slice a0 A.length c0] 28)) = x at T0 ⊢
  go_wp2
  go_ret3
  exact ⟨rfl, T0.out.b⟩
theorem taken_form {m s : ByteArray} {t : Value} (h : Taken m s t) (hs : s.size ≤ 8192) : ∃ (f : Int) (ho : ByteArray) (po : Int) (pa qu : ByteArray) (ak : Bool), t = tgV f ho po pa qu ak ∧ ho.size ≤ 1048576 := by
  cases h with
  | auth hf h0 h1 => exact ⟨_, _, _, _, _, _, rfl, Nat.le_trans (hostS_le s) (by omega)⟩
  | ast hf => exact ⟨_, _, _, _, _, _, rfl, Nat.zero_le _⟩
  | origin hf h0 => exact ⟨_, _, _, _, _, _, rfl, Nat.zero_le _⟩
  | abs hf h0 h1 =>
    refine ⟨_, _, _, _, _, _, rfl, Nat.le_trans (hostS_le _) ?_⟩
    unfold absH absT
    simp only [ext_size]
    omega
/-- What Place tells hangs on the request, its method, its target, its minor version and its Host fields alone. -/
def Places (r : Bool) (me ta : ByteArray) (mi : Int) (V : List ByteArray) (host path : ByteArray) (e0 : Int) : Prop :=
  ∀ (w : World) (st : Int) (re : ByteArray) (l : Value) (A : List (ByteArray × ByteArray)), allS A hostN = V → Flds w l A → Sm A → MX w →
    Calls Tryz.prog 7 #[.agg (hdC r me ta mi st re l)] w fun e w' => e = .returned (.tuple #[.string host, .string path, .int .i64 e0]) ∧ Below w.heap.size w w'
theorem place_total (r : Bool) (me ta : ByteArray) (mi : Int) (V : List ByteArray) (hV : ∀ x ∈ V, x.size ≤ 1048576) :
    ∃ (host path : ByteArray) (e0 : Int), host.size ≤ 1048576 ∧ Places r me ta mi V host path e0 := by
  cases r with
  | false => exact ⟨⟨#[]⟩, ⟨#[]⟩, 1, Nat.zero_le _, fun w st re l A _ hA _ _ => place_not w me ta mi st re l A hA⟩
  | true =>
    obtain ⟨t, e, hP, h1, h2, _⟩ := parse_total me ta
    by_cases he : e = 0
    · obtain ⟨ht, hs⟩ := h1 he
      obtain ⟨f, ho, po, pa, qu, ak, rfl, hho⟩ := taken_form ht hs
      subst he
      obtain ⟨s, e0, hso⟩ : ∃ s e0, hofS f ho mi V = (s, e0) := ⟨_, _, rfl⟩
      have hsz : s.size ≤ 1048576 := by
        have := hofS_le (f := f) (mi := mi) hho hV
        rw [hso] at this
        exact this
      refine ⟨if e0 = 0 then s else ⟨#[]⟩, if e0 = 0 then pathK f pa else ⟨#[]⟩, e0, by split <;> first | exact hsz | exact Nat.zero_le _, fun w st re l A hAV hA hs' hm => ?_⟩
      exact place_ok w f ho po pa qu ak me ta mi st re l A hA hs' hm hP s e0 (by rw [hAV]; exact hso)
    · exact ⟨⟨#[]⟩, ⟨#[]⟩, e, Nat.zero_le _, fun w st re l A _ hA _ hm => place_bad w t e he (h2 he) me ta mi st re l A hA hm hP⟩
end Go.Proofs.YtacnnomkacfdbaaGreatDoor
/- That the program speaks at all. -/
namespace Go.Proofs.YtacnnomkacfdbaaGreatDoor
open Go.ChangeShapes Go.WideShapes Go.ChangeAt Go.RowKit

def oneF : List (ByteArray × ByteArray) := [(hostN, ⟨#[72, 58, 49]⟩)]
theorem sp_place (w : World) (re : ByteArray) (l : Value) (hA : Flds w l oneF) (hm : MX w) :
    Calls Tryz.prog 7 #[.agg (hdC true ⟨#[71, 69, 84]⟩ ⟨#[47, 97, 47, 46, 46, 47, 98]⟩ 1 0 re l)] w fun e w' => e = .returned (.tuple #[.string ⟨#[104]⟩, .string ⟨#[47, 98]⟩, .int .i64 0]) ∧ Below w.heap.size w w' := by
  have h := place_one w ⟨#[71, 69, 84]⟩ ⟨#[47, 97, 47, 46, 46, 47, 98]⟩ 1 0 re l oneF hA ⟨by decide, by intro f hf; simp [oneF] at hf; subst hf; decide⟩ (by decide +kernel) ⟨#[72, 58, 49]⟩ (by decide +kernel) hm (by decide) (by decide) (by decide +kernel) (by decide +kernel)
  rw [show hostS ⟨#[72, 58, 49]⟩ = ⟨#[104]⟩ by decide +kernel, show cleanS (cutP ⟨#[47, 97, 47, 46, 46, 47, 98]⟩) = ⟨#[47, 98]⟩ by decide +kernel] at h
  exact h
theorem sp_cov1 (w : World) : Calls Tryz.prog 21 #[.string ⟨#[47, 97]⟩, .string ⟨#[47, 97, 47, 98]⟩] w fun e w' => e = .returned (.bool true) ∧ w' = w := by
  have h := cov_any ⟨#[47, 97]⟩ ⟨#[47, 97, 47, 98]⟩ w (by decide)
  rw [show covB ⟨#[47, 97]⟩ ⟨#[47, 97, 47, 98]⟩ = true by decide +kernel] at h
  exact h
theorem sp_cov2 (w : World) : Calls Tryz.prog 21 #[.string ⟨#[47, 97]⟩, .string ⟨#[47, 97, 98]⟩] w fun e w' => e = .returned (.bool false) ∧ w' = w := by
  have h := cov_any ⟨#[47, 97]⟩ ⟨#[47, 97, 98]⟩ w (by decide)
  rw [show covB ⟨#[47, 97]⟩ ⟨#[47, 97, 98]⟩ = false by decide +kernel] at h
  exact h
theorem sp_takes (w : World) : Calls Tryz.prog 10 #[.agg (mtC ⟨#[42, 46, 99, 111, 109]⟩ ⟨#[47]⟩ (.slice none 0 0) ⟨#[]⟩ ⟨#[]⟩), .agg (hdC false ⟨#[]⟩ ⟨#[]⟩ 0 0 ⟨#[]⟩ (.slice none 0 0)), .string ⟨#[120, 46, 99, 111, 109]⟩, .string ⟨#[47]⟩] w fun e w' => e = .returned (.bool true) ∧ Below w.heap.size w w' := by
  have h := takes_any w ⟨#[42, 46, 99, 111, 109]⟩ ⟨#[47]⟩ (.slice none 0 0) [] ⟨#[]⟩ ⟨#[]⟩ false ⟨#[]⟩ ⟨#[]⟩ 0 0 ⟨#[]⟩ (.slice none 0 0) [] ⟨#[120, 46, 99, 111, 109]⟩ ⟨#[47]⟩
    ⟨none, 0, rfl, fun j hj => absurd hj (Nat.not_lt_zero _)⟩ (by decide) ⟨none, 0, rfl, ⟨Nat.le_refl _, fun _ => rfl⟩, fun j hj => absurd hj (Nat.not_lt_zero _)⟩ ⟨by decide, fun f hf => by cases hf⟩ (by decide) (by decide) (by decide) (by decide)
  rw [show takB ⟨#[42, 46, 99, 111, 109]⟩ ⟨#[47]⟩ [] ⟨#[]⟩ ⟨#[]⟩ ⟨#[]⟩ [] ⟨#[120, 46, 99, 111, 109]⟩ ⟨#[47]⟩ = true by decide +kernel] at h
  exact h
set_option maxHeartbeats 1000000 in
theorem speaks_any (w : World) (hm : MX w) : Calls Tryz.prog 9 #[] w fun e w' => e = .returned (.bool true) ∧ Below w.heap.size w w' := by
  have HM := hide hm
  clear hm
  go_enter Tryz.func9, Tryz.ntmps9
  go_wp2_with fail
  have T0 := hide (Bl.one w #[.string ⟨#[72, 111, 115, 116]⟩, .string ⟨#[72, 58, 49]⟩] 45)
  generalize (w.alloc (.cells #[.string ⟨#[72, 111, 115, 116]⟩, .string ⟨#[72, 58, 49]⟩] 45)) = x at T0 ⊢
  have hF : Flds x (.slice (some ⟨w.heap.size, 0, none⟩) 1 1) oneF := by
    refine ⟨_, 1, rfl, ⟨Nat.le_refl _, fun h => by cases h⟩, fun j hj => ?_⟩
    obtain rfl : j = 0 := by
      have : oneF.length = 1 := rfl
      omega
    exact ⟨w.heap.size, 0, rfl, blk_lt (T0.out.hp 0 _ _ rfl), T0.out.cell 0 rfl 0, T0.out.cell 0 rfl 1⟩
  refine (sp_place x ⟨#[]⟩ _ hF (HM.out.below T0.out.b)).mono ?_
  rintro e w1 ⟨rfl, bb⟩
  have T1 := hide (T0.out.below bb)
  clear bb T0 hF
  go_wp2_with fail
  refine (sp_cov1 _).mono ?_
  rintro e w2 ⟨rfl, rfl⟩
  go_wp2_with fail
  refine (sp_cov2 _).mono ?_
  rintro e w2 ⟨rfl, rfl⟩
  go_wp2_with fail
  refine (sp_takes _).mono ?_
  rintro e w2 ⟨rfl, bb⟩
  have T2 := hide (T1.out.below bb)
  clear bb T1
  go_wp2
  go_ret
  exact ⟨rfl, T2.out.b⟩
end Go.Proofs.YtacnnomkacfdbaaGreatDoor
