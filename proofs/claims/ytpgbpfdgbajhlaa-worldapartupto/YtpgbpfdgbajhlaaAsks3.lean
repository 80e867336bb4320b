/- What one step of a script does, as a function, and that it does it at both worlds. -/
import Derived.Test.YtpgbpfdgbajhlaaAsks2
import Derived.Test.YtpgbpfdgbajhlaaArgs
namespace Go.Proofs.Ytpgbpfdgbajhlaa
open Go.ChangeShapes Go.WideShapes Go.ChangeAt Go.RowKit

theorem Fr.cellFrom {W0 W : World} (h : Fr (fun i => W0.heap.size ≤ i) W0 W) {a : Addr} {v : Value} (hc : W0.cell? a = some v) : W.cell? a = some v := by
  have hb : a.block < W0.heap.size := World.block_lt_of_cell? _ _ hc
  exact (World.cell?_of_block (h.block a.block hb (by omega))).trans hc

def sStep (S : List Cn) (dr : List Int) (kd k n : Int) (X : List Int) : List Cn × List Int :=
  if kd = 0 then ((sOpen S k).2, dr) else if kd = 1 then ((sClose S k).2, dr) else if kd = 2 then ((sArrive S k X).2, dr) else if kd = 3 then ((sEnd S k).2, dr)
  else if kd = 4 then ((sRead S k n).2, dr) else if kd = 5 then ((sRoom S k n).2, dr) else if kd = 6 then ((sWrite S k X).2, dr) else if kd = 7 then (S, (sGive dr n).2) else (S, (sDraw dr n).2)

/-- What a step may do to the connections. -/
def Chg (S : List Cn) (k : Int) (m : Nat) (S' : List Cn) : Prop :=
  S' = S ∨ S' = S ++ [fresh k] ∨ ∃ i x x', S[i]? = some x ∧ x.num = k ∧ x'.sent.length ≤ x.sent.length + m ∧ S' = S.set i x'
theorem Chg.len {S S' : List Cn} {k : Int} {m : Nat} (h : Chg S k m S') : S'.length ≤ S.length + 1 := by
  rcases h with rfl | rfl | ⟨i, x, x', _, _, _, rfl⟩ <;> simp
theorem Chg.sent {S S' : List Cn} {k : Int} {m a : Nat} (h : Chg S k m S') (hS : ∀ x ∈ S, x.sent.length ≤ a) : ∀ x ∈ S', x.sent.length ≤ a + m := by
  rcases h with rfl | rfl | ⟨i, x, x', hx, _, hl, rfl⟩
  · intro y hy; have := hS y hy; omega
  · intro y hy
    rcases List.mem_append.1 hy with hy | hy
    · have := hS y hy; omega
    · simp only [List.mem_singleton] at hy; subst hy; simp [fresh]
  · intro y hy
    rcases List.mem_or_eq_of_mem_set hy with hy | rfl
    · have := hS y hy; omega
    · have := hS x (List.mem_of_getElem? hx); omega
theorem Chg.head {S S' : List Cn} {k : Int} {m : Nat} (h : Chg S k m S') {y : Cn} (hy : S[0]? = some y) (hk : y.num ≠ k) : S'[0]? = some y := by
  rcases h with rfl | rfl | ⟨i, x, x', hx, hn, hl, rfl⟩
  · exact hy
  · rw [List.getElem?_append_left (List.getElem?_eq_some_iff.1 hy).1]; exact hy
  · rw [List.getElem?_set_ne (fun e => by subst e; rw [hy] at hx; cases hx; exact hk hn)]; exact hy
theorem chg_with {α : Type} (S : List Cn) (k : Int) (m : Nat) (no : α) (g : Nat → Cn → α × List Cn) (hg : ∀ i x, (g i x).2 = S ∨ ∃ x' : Cn, x'.sent.length ≤ x.sent.length + m ∧ (g i x).2 = S.set i x') : Chg S k m (withAt S k (no, S) g).2 := by
  rcases withAt_cases S k with ⟨i, x, hx, hn, _, hw⟩ | ⟨_, hw⟩
  · rw [hw]
    rcases hg i x with e | ⟨x', hl, e⟩
    · exact .inl e
    · exact .inr (.inr ⟨i, x, x', hx, hn, hl, e⟩)
  · rw [hw]; exact .inl rfl
theorem sStep_chg (S : List Cn) (dr : List Int) (kd k n : Int) (X : List Int) : Chg S k X.length (sStep S dr kd k n X).1 := by
  unfold sStep
  split
  · unfold sOpen
    split
    · exact .inl rfl
    · split
      · exact .inl rfl
      · split
        · exact .inl rfl
        · exact .inr (.inl rfl)
  split
  · exact chg_with S k _ _ _ (fun i x => .inr ⟨_, by simp, rfl⟩)
  split
  · refine chg_with S k _ _ _ (fun i x => ?_)
    split
    · exact .inl rfl
    · split
      · exact .inl rfl
      · exact .inr ⟨_, by simp, rfl⟩
  split
  · exact chg_with S k _ _ _ (fun i x => .inr ⟨_, by simp, rfl⟩)
  split
  · exact chg_with S k _ _ _ (fun i x => .inr ⟨_, by simp, rfl⟩)
  split
  · refine chg_with S k _ _ _ (fun i x => ?_)
    split
    · exact .inl rfl
    · exact .inr ⟨_, by simp, rfl⟩
  split
  · exact chg_with S k _ _ _ (fun i x => .inr ⟨_, by simp only [List.length_append, List.length_take]; omega, rfl⟩)
  split
  · exact .inl rfl
  · exact .inl rfl
theorem sStep_none (S : List Cn) (kd k n : Int) (X : List Int) (h : kd < 7) : (sStep S [] kd k n X).2 = [] := by
  unfold sStep
  repeat' split
  all_goals first
    | rfl
    | omega
    | (unfold sDraw; split <;> rfl)

section
variable {W0 : Bk} {W : World} {c d : Nat} {S S2 : List Cn} {dr dr2 : List Int} {ow ox : Nat → Option Tag}
theorem asks_any (T : Two W0 W c d S dr S2 dr2 ow ox) (hS2 : SOk S2 dr2) (kd k n : Int) (a : Option Addr) (cap : Nat) (X : List Int) (hk : (Lit.int .i64 k).wf = true) (hX : Sl W0.w .u8 (.slice a X.length cap) X) (hl : X.length ≤ 1048576)
    (hs : S.length ≤ 1048576) (hs2 : S2.length ≤ 1048576) (hls : ∀ x ∈ S, x.sent.length ≤ 1048576) (hls2 : ∀ x ∈ S2, x.sent.length ≤ 1048576) :
    Calls Try.prog 9 #[.pointer (some ⟨c, 0, none⟩), .pointer (some ⟨d, 0, none⟩), .agg #[.int .i64 kd, .int .i64 k, .int .i64 n, .slice a X.length cap]] W (AskPost W0 c d (sStep S dr kd k n X).1 (sStep S dr kd k n X).2 (sStep S2 dr2 kd k n X).1 (sStep S2 dr2 kd k n X).2 (S2 = S ∧ dr2 = dr)) := by
  by_cases h0 : kd = 0
  · subst h0; exact asks0 T hS2 k n a cap X (bounds_i64 hk).2 (by omega) hs2
  by_cases h1 : kd = 1
  · subst h1; exact asks1 T hS2 k n a cap X hk
  by_cases h2 : kd = 2
  · subst h2; exact asks2 T hS2 k n a cap X hk hX hl
  by_cases h3 : kd = 3
  · subst h3; exact asks3 T hS2 k n a cap X hk
  by_cases h4 : kd = 4
  · subst h4; exact asks4 T hS2 k n a cap X hk
  by_cases h5 : kd = 5
  · subst h5; exact asks5 T hS2 k n a cap X hk
  by_cases h6 : kd = 6
  · subst h6; exact asks6 T hS2 k n a cap X hk hX hl hls hls2
  by_cases h7 : kd = 7
  · subst h7; exact asks7 T k n a cap X
  have e : ∀ S dr, sStep S dr kd k n X = (S, (sDraw dr n).2) := fun S dr => by simp [sStep, h0, h1, h2, h3, h4, h5, h6, h7]
  rw [e, e]
  exact asks8 T hS2 kd k n a cap X h0 h1 h2 h3 h4 h5 h6 h7
/-- A fresh world of the document's, beside a world. -/
theorem Two.fresh (h : Wd W c S dr ow) (hf : Fr (fun i => W0.w.heap.size ≤ i) W0.w W) (hn : ∀ b, b < W0.w.heap.size → ow b = none) (hz : W.heap[W0.z]? = some W0.o) (ho : ow W0.z = none) :
    Two W0 (W.alloc (.cells #[.slice none 0 0, .slice none 0 0] 29)) c W.heap.size S dr [] [] ow (ownOne W.heap.size) := by
  have F := Fr.alloc (fun _ => False) W (.cells #[.slice none 0 0, .slice none 0 0] 29)
  refine ⟨h.frame F.size (fun b t e => F.block b (h.low b t e) (fun e => e)), Xd.begin W, fun b t e => ?_, hf.trans F (fun _ _ e => e.elim), hn, fun b hb => ?_, F.hd (fun e => e) hz, ho, ?_⟩
  · unfold ownOne at e
    split at e
    · rename_i hb; exact h.fresh (by omega)
    · cases e
  · have := hf.size
    unfold ownOne
    rw [if_neg (by omega)]
  · have := (Array.getElem?_eq_some_iff.1 hz).1
    unfold ownOne
    rw [if_neg (by omega)]
theorem sOk_nil (W : World) : SOk [] [] := (Wd.begin W).ok
end
end Go.Proofs.Ytpgbpfdgbajhlaa
