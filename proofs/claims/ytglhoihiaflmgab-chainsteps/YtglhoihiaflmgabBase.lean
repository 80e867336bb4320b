/- A chain in memory, and what its smallest calls return: how many bytes there are, how many there is room for, whether it is stopped. -/
import Derived.Test.YtglhoihiaflmgabRows
import Derived.WalkKit
import Derived.ProofKit
import Derived.OpenShut
import Derived.Below
import Derived.Outline
import Derived.Laws.CopyRow
import Derived.Laws.IdiomCopy
import Derived.RegionTactic
import Derived.Deep.QuietTactic
import Derived.BigQuiet
import Derived.WalkLawsBesides
namespace Go.Proofs.Ytglhoihiaflmgab
open Go.ChangeShapes Go.WideShapes Go.ChangeAt Go.RowKit

/-- Bytes as cells. -/
def bs (l : List Int) : Array Value := (l.map fun x => Value.int .u8 x).toArray
theorem bs_size (l : List Int) : (bs l).size = l.length := by simp [bs]
theorem bs_at (l : List Int) (i : Nat) (h : i < l.length) : (bs l)[i]? = some (.int .u8 (l.getD i 0)) := by
  simp [bs, List.getD, h]

theorem ret_int {a b : Int} (h : a = b) : Ending.returned (.int .i64 a) = .returned (.int .i64 b) := by rw [h]
theorem ret_bool {a b : Bool} (h : a = b) : Ending.returned (.bool a) = .returned (.bool b) := by rw [h]
/-- How many bytes there are of the n that are asked for. -/
def clipI (n size : Int) : Int := max (min n size) 0

/-- The chain's own block. -/
def Hd (w : World) (b : Nat) (bound high low : Int) (rv : Value) (start size : Int) (stop : Bool) : Prop :=
  w.heap[b]? = some (.cells #[.int .i64 bound, .int .i64 high, .int .i64 low, rv, .int .i64 start, .int .i64 size, .bool stop] 47 (0, 0))

theorem cell_of {w : World} {b : Nat} {c : Array Value} {t : TypeId} (h : w.heap[b]? = some (.cells c t (0, 0))) (i : Nat) : w.cell? ⟨b, i, none⟩ = c[i]? := by
  simp [World.cell?, h]
theorem frozen_of {w : World} {b : Nat} {c : Array Value} {t : TypeId} (h : w.heap[b]? = some (.cells c t (0, 0))) (i : Nat) : w.frozen? ⟨b, i, none⟩ = false := by
  simp [World.frozen?, h]

/-- All but the blocks of S is as it was; there may be new blocks. -/
structure Fr (S : Nat → Prop) (w w' : World) : Prop where
  os : w'.os = w.os
  tape : w'.tape = w.tape
  output : w'.output = w.output
  size : w.heap.size ≤ w'.heap.size
  block : ∀ k, k < w.heap.size → ¬ S k → w'.heap[k]? = w.heap[k]?

theorem Fr.refl (S : Nat → Prop) (w : World) : Fr S w w := ⟨rfl, rfl, rfl, Nat.le_refl _, fun _ _ _ => rfl⟩
theorem Fr.drewN (S : Nat → Prop) (w : World) (n : Nat) : Fr S w (w.drewN n) := ⟨rfl, rfl, rfl, Nat.le_refl _, fun _ _ _ => rfl⟩
theorem Fr.trans {S T : Nat → Prop} {a b c : World} (h : Fr S a b) (k : Fr T b c) (st : ∀ i, i < a.heap.size → T i → S i) : Fr S a c :=
  ⟨k.os.trans h.os, k.tape.trans h.tape, k.output.trans h.output, Nat.le_trans h.size k.size, fun i hi hs => (k.block i (Nat.lt_of_lt_of_le hi h.size) (fun t => hs (st i hi t))).trans (h.block i hi hs)⟩
theorem Fr.mono {S T : Nat → Prop} {a b : World} (h : Fr S a b) (st : ∀ i, i < a.heap.size → S i → T i) : Fr T a b :=
  ⟨h.os, h.tape, h.output, h.size, fun i hi hs => h.block i hi (fun s => hs (st i hi s))⟩
theorem Fr.setRow (w : World) (g : Nat) (c : Array Value) : Fr (fun k => k = g) w (w.setRow g c) :=
  ⟨rfl, rfl, rfl, by simp, fun k _ hk => setRow_other w g k c hk⟩
theorem Fr.alloc (S : Nat → Prop) (w : World) (o : Obj) : Fr S w (w.alloc o) :=
  ⟨rfl, rfl, rfl, by simp, fun k hk _ => Below.heap_alloc w o k hk⟩
theorem Fr.below {S : Nat → Prop} {w w' : World} {B : Nat} (h : Fr S w w') (hB : B ≤ w.heap.size) (hS : ∀ k, k < B → ¬ S k) : Below B w w' :=
  ⟨h.os, h.tape, h.output, h.size, fun k hk => h.block k (Nat.lt_of_lt_of_le hk hB) (hS k hk)⟩
theorem Fr.hd {S : Nat → Prop} {w w' : World} (h : Fr S w w') {b : Nat} (hs : ¬ S b) {o : Obj} (ho : w.heap[b]? = some o) : w'.heap[b]? = some o := by
  rw [h.block b (Array.getElem?_eq_some_iff.1 ho).1 hs]; exact ho

section
variable {w : World} {b : Nat} {bound high low start size : Int} {rv : Value} {stop : Bool}
theorem Hd.c0 (h : Hd w b bound high low rv start size stop) : w.cell? ⟨b, 0, none⟩ = some (.int .i64 bound) := by rw [cell_of h]; rfl
theorem Hd.c1 (h : Hd w b bound high low rv start size stop) : w.cell? ⟨b, 1, none⟩ = some (.int .i64 high) := by rw [cell_of h]; rfl
theorem Hd.c2 (h : Hd w b bound high low rv start size stop) : w.cell? ⟨b, 2, none⟩ = some (.int .i64 low) := by rw [cell_of h]; rfl
theorem Hd.c3 (h : Hd w b bound high low rv start size stop) : w.cell? ⟨b, 3, none⟩ = some rv := by rw [cell_of h]; rfl
theorem Hd.c4 (h : Hd w b bound high low rv start size stop) : w.cell? ⟨b, 4, none⟩ = some (.int .i64 start) := by rw [cell_of h]; rfl
theorem Hd.c5 (h : Hd w b bound high low rv start size stop) : w.cell? ⟨b, 5, none⟩ = some (.int .i64 size) := by rw [cell_of h]; rfl
theorem Hd.c6 (h : Hd w b bound high low rv start size stop) : w.cell? ⟨b, 6, none⟩ = some (.bool stop) := by rw [cell_of h]; rfl
theorem Hd.fz (h : Hd w b bound high low rv start size stop) (i : Nat) : w.frozen? ⟨b, i, none⟩ = false := frozen_of h i

theorem len_any (h : Hd w b bound high low rv start size stop) :
    Calls Try.prog 20 #[.pointer (some ⟨b, 0, none⟩)] w fun e w' => e = .returned (.int .i64 size) ∧ w = w' := by
  have c5 := h.c5
  clear h
  go_enter Try.func20, Try.ntmps20
  go_wp2
  go_ret
  exact ⟨rfl, rfl⟩
theorem len_nil (w : World) : Calls Try.prog 20 #[.pointer none] w fun e w' => e = .returned (.int .i64 0) ∧ w = w' := by
  go_enter Try.func20, Try.ntmps20
  go_wp2
  go_ret
  exact ⟨rfl, rfl⟩
theorem stopped_any (h : Hd w b bound high low rv start size stop) :
    Calls Try.prog 22 #[.pointer (some ⟨b, 0, none⟩)] w fun e w' => e = .returned (.bool stop) ∧ w = w' := by
  have c6 := h.c6
  clear h
  go_enter Try.func22, Try.ntmps22
  go_wp2
  go_ret
  exact ⟨rfl, rfl⟩
theorem stopped_nil (w : World) : Calls Try.prog 22 #[.pointer none] w fun e w' => e = .returned (.bool false) ∧ w = w' := by
  go_enter Try.func22, Try.ntmps22
  go_wp2
  go_ret
  exact ⟨rfl, rfl⟩
theorem room_nil (w : World) : Calls Try.prog 21 #[.pointer none] w fun e w' => e = .returned (.int .i64 0) ∧ w = w' := by
  go_enter Try.func21, Try.ntmps21
  go_wp2
  go_ret
  exact ⟨rfl, rfl⟩
theorem room_any (h : Hd w b bound high low rv start size stop) (h0 : 0 ≤ size) (h1 : size ≤ bound) (h2 : bound ≤ 1048576) :
    Calls Try.prog 21 #[.pointer (some ⟨b, 0, none⟩)] w fun e w' => e = .returned (.int .i64 (bound - size)) ∧ ∃ n, w.drewN n = w' := by
  have c5 := h.c5
  have c0 := h.c0
  clear h
  go_enter Try.func21, Try.ntmps21
  go_wp2
  go_quiet (fail)
  go_wp2
  go_ret
  exact ⟨rfl, _, rfl⟩
theorem clip_any (n : Int) (h : Hd w b bound high low rv start size stop) (h0 : 0 ≤ size) :
    Calls Try.prog 25 #[.pointer (some ⟨b, 0, none⟩), .int .i64 n] w fun e w' => e = .returned (.int .i64 (clipI n size)) ∧ w = w' := by
  go_enter Try.func25, Try.ntmps25
  go_wp2_with (go_at_call 20; refine (len_any h).mono ?_; rintro e w' ⟨rfl, rfl⟩)
  all_goals
    go_ret
    exact ⟨ret_int (by unfold clipI; omega), rfl⟩
theorem clip_nil (n : Int) (w : World) :
    Calls Try.prog 25 #[.pointer none, .int .i64 n] w fun e w' => e = .returned (.int .i64 0) ∧ w = w' := by
  go_enter Try.func25, Try.ntmps25
  go_wp2_with (go_at_call 20; refine (len_nil _).mono ?_; rintro e w' ⟨rfl, rfl⟩)
  all_goals
    go_ret
    exact ⟨ret_int (by omega), rfl⟩
end

end Go.Proofs.Ytglhoihiaflmgab
