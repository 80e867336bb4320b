/- The document's own timers in memory: a list of timers as they were set, and each slot's generation. -/
import Derived.Test.YtbmhhkpehilioaaSays
namespace Go.Proofs.Ytbmhhkpehilioaa
open Go.ChangeShapes Go.WideShapes Go.ChangeAt Go.RowKit

structure Tmr where
  when : Int
  key : Int
  handle : Int
def tc (t : Tmr) : List Value := [.int .i64 t.when, .int .i64 t.key, .int .i64 t.handle]
def tcs (L : List Tmr) : List Value := L.flatMap tc
abbrev tg (L : List Tmr) (i : Nat) : Tmr := L.getD i ⟨0, 0, 0⟩
theorem tcs_length (L : List Tmr) : (tcs L).length = L.length * 3 := by
  unfold tcs
  induction L with
  | nil => rfl
  | cons s S ih => simp only [List.flatMap_cons, List.length_append, ih, List.length_cons, tc, List.length_nil]; omega
theorem tcs_at (L : List Tmr) (i : Nat) (h : i < L.length) (j : Nat) (hj : j < 3) : (tcs L)[i * 3 + j]? = (tc (tg L i))[j]? := by
  unfold tcs
  induction L generalizing i with
  | nil => simp at h
  | cons s S ih =>
    cases i with
    | zero => rw [List.flatMap_cons, List.getElem?_append_left (by simp [tc]; omega)]; simp [tg]
    | succ i =>
      rw [List.flatMap_cons, List.getElem?_append_right (by simp [tc]; omega)]
      have := ih i (by simpa using h)
      have e : (i + 1) * 3 + j - (tc s).length = i * 3 + j := by simp [tc]; omega
      rw [e, this]
      simp [tg]
structure TRow (W : World) (base : Nat) (v : Value) (L : List Tmr) : Prop where
  own : W.ownsRow base 78 3 v L.length (tcs L)
theorem TRow.at {W : World} {base : Nat} {v : Value} {L : List Tmr} (h : TRow W base v L) (i : Nat) (hi : i < L.length) : ∃ g cap, v = .slice (some ⟨g, 0, none⟩) L.length cap ∧ L.length ≤ cap ∧ g < W.heap.size ∧ W.cell? ⟨g, i * 3, none⟩ = some (.int .i64 (tg L i).when) ∧ W.cell? ⟨g, i * 3 + 1, none⟩ = some (.int .i64 (tg L i).key) ∧ W.cell? ⟨g, i * 3 + 2, none⟩ = some (.int .i64 (tg L i).handle) := by
  rcases h.own.2 with ⟨_, h1⟩ | ⟨g, cap, cur, rfl, h1, h2, h3, h4, h5, h6⟩
  · omega
  · have key : ∀ j, j < 3 → W.cell? ⟨g, i * 3 + j, none⟩ = (tc (tg L i))[j]? := fun j hj => by
      rw [cell_of h2, ← tcs_at L i hi j hj, ← h6, List.getElem?_take, if_pos (by omega)]
      simp
    exact ⟨g, cap, rfl, h3, hp_lt h2, key 0 (by omega), key 1 (by omega), key 2 (by omega)⟩
theorem TRow.frame {W W' : World} {base : Nat} {v : Value} {L : List Tmr} {T : Nat → Prop} (h : TRow W base v L) (hF : Fr T W W') (hT : ∀ g, v.ownBlock = some g → ¬ T g) : TRow W' base v L := ⟨owns_frame h.own hF hT⟩
theorem TRow.shape {W : World} {base : Nat} {v : Value} {L : List Tmr} (h : TRow W base v L) : ∃ a cap, v = .slice a L.length cap ∧ L.length ≤ cap := owns_shape h.own
theorem TRow.block {W : World} {base : Nat} {v : Value} {L : List Tmr} (h : TRow W base v L) {g : Nat} (hg : v.ownBlock = some g) : base ≤ g ∧ g < W.heap.size := owns_block h.own hg

structure RObj (W : World) (base c : Nat) (most : Int) (L : List Tmr) (G : List Int) (vl vg : Value) : Prop where
  hd : W.heap[c]? = some (.cells #[.int .i64 most, vl, vg] 46 (0, 0))
  bb : base ≤ c
  l : TRow W base vl L
  g : W.ownsRow base 3 1 vg G.length (G.map fun x => Value.int .i64 x)
  l0 : vl.ownBlock ≠ some c
  g0 : vg.ownBlock ≠ some c
  lg : ∀ k, vl.ownBlock = some k → vg.ownBlock ≠ some k
section
variable {W W' : World} {base c : Nat} {most : Int} {L : List Tmr} {G : List Int} {vl vg : Value}
theorem RObj.lt (h : RObj W base c most L G vl vg) : c < W.heap.size := hp_lt h.hd
theorem RObj.cl (h : RObj W base c most L G vl vg) (hF : Cl W W') : RObj W' base c most L G vl vg :=
  ⟨hF.out.hd (fun x => x) h.hd, h.bb, h.l.frame hF.out (fun _ _ x => x), owns_frame h.g hF.out (fun _ _ x => x), h.l0, h.g0, h.lg⟩
theorem RObj.c0 (h : RObj W base c most L G vl vg) : W.cell? ⟨c, 0, none⟩ = some (.int .i64 most) := by rw [cell_of h.hd]; rfl
theorem RObj.c1 (h : RObj W base c most L G vl vg) : W.cell? ⟨c, 1, none⟩ = some vl := by rw [cell_of h.hd]; rfl
theorem RObj.c2 (h : RObj W base c most L G vl vg) : W.cell? ⟨c, 2, none⟩ = some vg := by rw [cell_of h.hd]; rfl

theorem rnew_yes (W : World) (m : Nat) (h1 : 1 ≤ m) (h2 : m ≤ 4096) : Calls Try.prog 10 #[.int .i64 (m : Int)] W fun e w' => e = .returned (.tuple #[.pointer (some ⟨W.heap.size, 0, none⟩), .int .i64 0]) ∧ RObj w' W.heap.size W.heap.size m [] [] (.slice none 0 0) (.slice none 0 0) ∧ Cl W w' := by
  have hm1 : (1 : Int) ≤ m := by omega
  have hm2 : (m : Int) ≤ 4096 := by omega
  go_enter Try.func10, Try.ntmps10
  go_wp2_with fail
  go_ret2
  exact ⟨rfl, ⟨hp_new W _, Nat.le_refl _, ⟨⟨rfl, .inl ⟨rfl, rfl⟩⟩⟩, ⟨rfl, .inl ⟨rfl, rfl⟩⟩, by simp [Value.ownBlock], by simp [Value.ownBlock], fun k hk => by simp [Value.ownBlock] at hk⟩, Fr.alloc _ _ _⟩
theorem rnew_no (W : World) (m : Int) (h : ¬ (1 ≤ m ∧ m ≤ 4096)) : Calls Try.prog 10 #[.int .i64 m] W fun e w' => e = .returned (.tuple #[.pointer none, .int .i64 1]) ∧ W = w' := by
  by_cases h1 : m < 1
  all_goals
    go_enter Try.func10, Try.ntmps10
    go_wp2
    go_ret2
    exact ⟨rfl, rfl⟩

set_option maxHeartbeats 1000000 in
theorem rhas_any (h : RObj W base c most L G vl vg) (hl : L.length ≤ 8192) (n : Int) :
    Calls Try.prog 15 #[.pointer (some ⟨c, 0, none⟩), .int .i64 n] W fun e w' => ∃ r : Bool, e = .returned (.bool r) ∧ Cl W w' ∧ (r = true ↔ ∃ t, t ∈ L ∧ t.handle = n) := by
  have c1 := h.c1
  obtain ⟨a, cap, hv, _⟩ := h.l.shape
  have HL := hide h.l
  subst hv
  clear h
  go_enter Try.func15, Try.ntmps15
  go_wp2_with fail
  go_loopw [12] (fun v wr => ∃ j : Nat, j ≤ L.length ∧ v = .int .i64 (j : Int) ∧ Hid (Cl W wr ∧ ∀ i, i < j → (tg L i).handle ≠ n)) (fun v _ => L.length - (intOf v).toNat)
  case atStart => exact ⟨0, Nat.zero_le _, rfl, hide ⟨Cl.refl _, fun i hi => by omega⟩⟩
  case round =>
    obtain ⟨j, hj, rfl, HJ⟩ := hrel
    by_cases hlt : j < L.length
    · obtain ⟨g, cap2, hv, -, hg, d0, d1, d2⟩ := (HL.out.frame HJ.out.1.out (fun _ _ x => x)).at j hlt
      simp only [Value.slice.injEq] at hv
      obtain ⟨rfl, -, rfl⟩ := hv
      obtain ⟨t, Ht⟩ : ∃ t, Hid (tg L j = t) := ⟨_, hide rfl⟩
      rw [Ht.out] at d0 d1 d2
      obtain ⟨tw, tk, th⟩ := t
      dsimp only at d0 d1 d2
      by_cases hx : th = n
      · subst hx
        go_wp2_with fail
        go_ret
        refine ⟨_, rfl, HJ.out.1.trans (Fr.alloc _ _ _), by simp; exact ⟨tg L j, by simp [tg, List.getD, hlt], by rw [Ht.out]⟩⟩
      · have hxb : (th == n) = false := beq_eq_false_iff_ne.2 hx
        go_wp2_with fail
        go_roundw
        case rel => exact ⟨j + 1, by omega, by go_num, hide ⟨HJ.out.1.trans (Fr.alloc _ _ _), fun i hi => by
          by_cases e : i = j
          · subst e; rw [Ht.out]; exact hx
          · exact HJ.out.2 i (by omega)⟩⟩
        case measure => simp [intOf]; omega
    · have ej : j = L.length := by omega
      subst ej
      go_wp2_with fail
      go_ret
      refine ⟨_, rfl, HJ.out.1, ?_⟩
      simp only [Bool.false_eq_true, false_iff]
      rintro ⟨t, ht, rfl⟩
      obtain ⟨i, hi, e⟩ := List.getElem_of_mem ht
      exact HJ.out.2 i hi (by simp [tg, List.getD, hi, e])
end
end Go.Proofs.Ytbmhhkpehilioaa
