/- A world's calls upon connections that are not open; what was sent; numbers that are drawn. -/
import Derived.Test.YtpgbpfdgbajhlaaCalls
namespace Go.Proofs.Ytpgbpfdgbajhlaa
open Go.ChangeShapes Go.WideShapes Go.ChangeAt Go.RowKit

theorem close_none (W : World) (p : Option Addr) (k : Int) (hf : Hid (Calls Try.prog 36 #[.pointer p, .int .i64 k] W fun e W' => e = .returned (.pointer none) ∧ W = W')) :
    Calls Try.prog 25 #[.pointer p, .int .i64 k] W fun e W' => e = .returned (.int .i64 6) ∧ W = W' := by
  go_enter Try.func25, Try.ntmps25
  go_wp2_with (go_at_call 36; refine hf.out.mono ?_; rintro e w' ⟨rfl, rfl⟩)
  go_ret
  exact ⟨rfl, rfl⟩
theorem arrive_none (W : World) (p : Option Addr) (k : Int) (src : Value) (hf : Hid (Calls Try.prog 36 #[.pointer p, .int .i64 k] W fun e W' => e = .returned (.pointer none) ∧ W = W')) :
    Calls Try.prog 19 #[.pointer p, .int .i64 k, src] W fun e W' => e = .returned (.int .i64 6) ∧ W = W' := by
  go_enter Try.func19, Try.ntmps19
  go_wp2_with (go_at_call 36; refine hf.out.mono ?_; rintro e w' ⟨rfl, rfl⟩)
  go_ret
  exact ⟨rfl, rfl⟩
theorem end_none (W : World) (p : Option Addr) (k : Int) (hf : Hid (Calls Try.prog 36 #[.pointer p, .int .i64 k] W fun e W' => e = .returned (.pointer none) ∧ W = W')) :
    Calls Try.prog 29 #[.pointer p, .int .i64 k] W fun e W' => e = .returned (.int .i64 6) ∧ W = W' := by
  go_enter Try.func29, Try.ntmps29
  go_wp2_with (go_at_call 36; refine hf.out.mono ?_; rintro e w' ⟨rfl, rfl⟩)
  go_ret
  exact ⟨rfl, rfl⟩
theorem read_none (W : World) (p : Option Addr) (k : Int) (n : Int) (hf : Hid (Calls Try.prog 36 #[.pointer p, .int .i64 k] W fun e W' => e = .returned (.pointer none) ∧ W = W')) :
    Calls Try.prog 20 #[.pointer p, .int .i64 k, .int .i64 n] W fun e W' => e = .returned (.tuple #[.slice none 0 0, .int .i64 6]) ∧ W = W' := by
  go_enter Try.func20, Try.ntmps20
  go_wp2_with (go_at_call 36; refine hf.out.mono ?_; rintro e w' ⟨rfl, rfl⟩)
  go_ret2
  exact ⟨rfl, rfl⟩
theorem room_none (W : World) (p : Option Addr) (k : Int) (n : Int) (hf : Hid (Calls Try.prog 36 #[.pointer p, .int .i64 k] W fun e W' => e = .returned (.pointer none) ∧ W = W')) :
    Calls Try.prog 21 #[.pointer p, .int .i64 k, .int .i64 n] W fun e W' => e = .returned (.int .i64 6) ∧ W = W' := by
  go_enter Try.func21, Try.ntmps21
  go_wp2_with (go_at_call 36; refine hf.out.mono ?_; rintro e w' ⟨rfl, rfl⟩)
  go_ret
  exact ⟨rfl, rfl⟩
theorem write_none (W : World) (p : Option Addr) (k : Int) (src : Value) (hf : Hid (Calls Try.prog 36 #[.pointer p, .int .i64 k] W fun e W' => e = .returned (.pointer none) ∧ W = W')) :
    Calls Try.prog 22 #[.pointer p, .int .i64 k, src] W fun e W' => e = .returned (.tuple #[.int .i64 0, .int .i64 6]) ∧ W = W' := by
  go_enter Try.func22, Try.ntmps22
  go_wp2_with (go_at_call 36; refine hf.out.mono ?_; rintro e w' ⟨rfl, rfl⟩)
  go_ret2
  exact ⟨rfl, rfl⟩
theorem waits_none (W : World) (p : Option Addr) (k : Int) (hf : Hid (Calls Try.prog 36 #[.pointer p, .int .i64 k] W fun e W' => e = .returned (.pointer none) ∧ W = W')) :
    Calls Try.prog 10 #[.pointer p, .int .i64 k] W fun e W' => e = .returned (.tuple #[.int .i64 0, .bool false]) ∧ W = W' := by
  go_enter Try.func10, Try.ntmps10
  go_wp2_with (go_at_call 36; refine hf.out.mono ?_; rintro e w' ⟨rfl, rfl⟩)
  go_ret2
  exact ⟨rfl, rfl⟩

def Told (W : World) (l : List Int) (e : Ending) (W' : World) : Prop :=
  ∃ v' go, e = .returned v' ∧ Row W' .u8 v' l go ∧ Fr (fun _ => False) W W' ∧ ∀ g, go = some g → W.heap.size ≤ g
theorem sent_nil (W : World) (k : Int) : Calls Try.prog 12 #[.pointer none, .int .i64 k] W fun e W' => e = .returned (.slice none 0 0) ∧ W = W' := by
  go_enter Try.func12, Try.ntmps12
  go_wp2_with (go_at_call 36; refine (find_nil _ _).mono ?_; rintro e w' ⟨rfl, rfl⟩)
  go_ret
  exact ⟨rfl, rfl⟩
theorem sent_x (W : World) (c b : Nat) (k : Int) (v : Value) (l : List Int) (hf : Hid (Calls Try.prog 36 #[.pointer (some ⟨c, 0, none⟩), .int .i64 k] W fun e W' => e = .returned (.pointer (some ⟨b, 0, none⟩)) ∧ W = W'))
    (c3 : W.cell? ⟨b, 3, none⟩ = some v) (hcl : Hid (Calls Try.prog 38 #[v] W (Told W l))) : Calls Try.prog 12 #[.pointer (some ⟨c, 0, none⟩), .int .i64 k] W (Told W l) := by
  go_enter Try.func12, Try.ntmps12
  go_wp2_with (first | (go_at_call 36; refine hf.out.mono ?_; rintro e w' ⟨rfl, rfl⟩) | (go_at_call 38; refine hcl.out.mono ?_; rintro e w' ⟨v', go, rfl, h1, h2, h3⟩; replace h1 := hide h1; replace h2 := hide h2; replace h3 := hide h3))
  go_ret
  exact ⟨_, _, rfl, h1.out, h2.out, h3.out⟩
theorem sent_shut (W : World) (c : Nat) (k : Int) (mc : Option Nat) (v : Value) (l : List Int) (hf : Hid (Calls Try.prog 36 #[.pointer (some ⟨c, 0, none⟩), .int .i64 k] W fun e W' => e = .returned (.pointer none) ∧ W = W'))
    (c1 : W.cell? ⟨c, 1, none⟩ = some (.map mc)) (hl : (Instr.lookup 59 (.map mc) (.int .i64 k) false).run Try.prog W = .ok v W) (hcl : Hid (Calls Try.prog 38 #[v] W (Told W l))) : Calls Try.prog 12 #[.pointer (some ⟨c, 0, none⟩), .int .i64 k] W (Told W l) := by
  go_enter Try.func12, Try.ntmps12
  go_wp2_with (first | (go_at_call 36; refine hf.out.mono ?_; rintro e w' ⟨rfl, rfl⟩) | (go_at_call 38; refine hcl.out.mono ?_; rintro e w' ⟨v', go, rfl, h1, h2, h3⟩; replace h1 := hide h1; replace h2 := hide h2; replace h3 := hide h3))
  go_ret
  exact ⟨_, _, rfl, h1.out, h2.out, h3.out⟩

theorem give_bad (W : World) (p : Option Addr) (v : Int) (h : v < 0 ∨ 4294967295 < v) : Calls Try.prog 24 #[.pointer p, .int .i64 v] W fun e W' => e = .returned (.int .i64 1) ∧ W = W' := by
  by_cases h0 : v < 0
  · clear h
    go_enter Try.func24, Try.ntmps24
    go_wp2
    go_ret
    exact ⟨rfl, rfl⟩
  · have h1 : 4294967295 < v := by omega
    have h2 : 0 ≤ v := by omega
    clear h h0
    go_enter Try.func24, Try.ntmps24
    go_wp2
    go_ret
    exact ⟨rfl, rfl⟩
theorem give_nil (W : World) (v : Int) (h0 : 0 ≤ v) (h1 : v ≤ 4294967295) : Calls Try.prog 24 #[.pointer none, .int .i64 v] W fun e W' => e = .returned (.int .i64 5) ∧ W = W' := by
  go_enter Try.func24, Try.ntmps24
  go_wp2
  go_ret
  exact ⟨rfl, rfl⟩
set_option maxRecDepth 20000 in
theorem give_full (W : World) (c : Nat) (v : Int) (a : Option Addr) (len cap : Nat) (h0 : 0 ≤ v) (h1 : v ≤ 4294967295) (c2 : W.cell? ⟨c, 2, none⟩ = some (.slice a len cap)) (hn : 4096 ≤ len) : Calls Try.prog 24 #[.pointer (some ⟨c, 0, none⟩), .int .i64 v] W fun e W' => e = .returned (.int .i64 5) ∧ W = W' := by
  go_enter Try.func24, Try.ntmps24
  go_wp2
  go_ret
  exact ⟨rfl, rfl⟩
set_option maxRecDepth 20000 in
theorem give_x (W : World) (c : Nat) (v : Int) (a : Option Addr) (l : List Int) (cap : Nat) (go : Option Nat) (h0 : 0 ≤ v) (h1 : v ≤ 4294967295) (c2 : W.cell? ⟨c, 2, none⟩ = some (.slice a l.length cap)) (hn : l.length < 4096) (hR : Hid (Row (W.alloc (.cells #[.int .i64 v] 3)) .i64 (.slice a l.length cap) l go))
    (hk : Hid (∀ W', (W.alloc (.cells #[.int .i64 v] 3)).grownBy W' go → (W'.cell? ⟨c, 2, none⟩).isSome = true ∧ W'.frozen? ⟨c, 2, none⟩ = false)) :
    Calls Try.prog 24 #[.pointer (some ⟨c, 0, none⟩), .int .i64 v] W fun e W' => e = .returned (.int .i64 0) ∧ ∃ v' W1 go', Row W1 .i64 v' (l ++ [v]) go' ∧ (W.alloc (.cells #[.int .i64 v] 3)).grownBy W1 go ∧ (go' = go ∨ ∃ g, go' = some g ∧ (W.alloc (.cells #[.int .i64 v] 3)).heap.size ≤ g) ∧ W' = W1.setCell ⟨c, 2, none⟩ v' := by
  have hX : Hid (Sl (W.alloc (.cells #[.int .i64 v] 3)) .i64 (.slice (some ⟨W.heap.size, 0, none⟩) 1 1) [v]) := hide (Row.ofNew W .i64 3 #[.int .i64 v] [v] 1 (Nat.le_refl _) (Nat.le_refl _) (fun i hi => by
    have : i = 0 := by simp at hi; omega
    subst this; rfl)).sl
  go_enter Try.func24, Try.ntmps24
  go_wp2_with (first
    | (at_builtin; refine wpList_append_ints rfl _ _ rfl _ (.slice a l.length cap) (.slice (some ⟨W.heap.size, 0, none⟩) 1 1) l [v] go rfl rfl hR.out hX.out (by simp; omega) ?_
       intro v' W1 go' h1 h2 h3
       obtain ⟨k1, k2⟩ := hk.out W1 h2
       obtain ⟨a1, n1, d1, rfl⟩ := h1.shape
       obtain ⟨u, k1⟩ := Option.isSome_iff_exists.1 k1
       replace h1 := hide h1
       replace h2 := hide h2
       replace h3 := hide h3)
    | go_in)
  go_ret
  exact ⟨rfl, _, _, _, h1.out, h2.out, h3.out, rfl⟩

theorem draw_bad (W : World) (p : Option Addr) (n : Int) (h : n < 1) : Calls Try.prog 23 #[.pointer p, .int .i64 n] W fun e W' => e = .returned (.tuple #[.int .i64 0, .int .i64 1]) ∧ W = W' := by
  go_enter Try.func23, Try.ntmps23
  go_wp2
  go_ret2
  exact ⟨rfl, rfl⟩
theorem draw_nil (W : World) (n : Int) (h : 1 ≤ n) : Calls Try.prog 23 #[.pointer none, .int .i64 n] W fun e W' => e = .returned (.tuple #[.int .i64 0, .int .i64 0]) ∧ W = W' := by
  go_enter Try.func23, Try.ntmps23
  go_wp2
  go_ret2
  exact ⟨rfl, rfl⟩
theorem draw_none (W : World) (c : Nat) (n : Int) (h : 1 ≤ n) (a : Option Addr) (cap : Nat) (c2 : W.cell? ⟨c, 2, none⟩ = some (.slice a 0 cap)) : Calls Try.prog 23 #[.pointer (some ⟨c, 0, none⟩), .int .i64 n] W fun e W' => e = .returned (.tuple #[.int .i64 0, .int .i64 0]) ∧ W = W' := by
  go_enter Try.func23, Try.ntmps23
  go_wp2
  go_ret2
  exact ⟨rfl, rfl⟩
theorem draw_x (W : World) (c g off len cap : Nat) (n v : Int) (h : 1 ≤ n) (hv : 0 ≤ v) (hv2 : v ≤ 4294967295) (hl : 0 < len) (c2 : W.cell? ⟨c, 2, none⟩ = some (.slice (some ⟨g, off, none⟩) len cap)) (f2 : W.frozen? ⟨c, 2, none⟩ = false) (cv : W.cell? ⟨g, off, none⟩ = some (.int .i64 v)) :
    Calls Try.prog 23 #[.pointer (some ⟨c, 0, none⟩), .int .i64 n] W fun e W' => e = .returned (.tuple #[.int .i64 (v % n), .int .i64 0]) ∧ W' = W.setCell ⟨c, 2, none⟩ (.slice (if cap = 1 then some ⟨g, off, none⟩ else some ⟨g, off + 1, none⟩) (len - 1) (cap - 1)) := by
  have h1 : 1 ≤ len := hl
  have h2 : len ≠ 0 := by omega
  go_enter Try.func23, Try.ntmps23
  go_wp2
  all_goals
    go_ret2
    exact ⟨rfl, rfl⟩
end Go.Proofs.Ytpgbpfdgbajhlaa
