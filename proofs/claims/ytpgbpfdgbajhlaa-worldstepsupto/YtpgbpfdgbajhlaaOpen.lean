/- A world's calls that open a connection. -/
import Derived.Test.YtpgbpfdgbajhlaaWalk
namespace Go.Proofs.Ytpgbpfdgbajhlaa
open Go.ChangeShapes Go.WideShapes Go.ChangeAt Go.RowKit

theorem wpList_put {ops : Array Oper} {rest : List Oper} {o : Oper} {a : Act} {Q : Exit → Act → World → Prop} (hgd : o.guard = none) (m x y : Operand) (t e : TypeId) (ho : o.op = .mapUpdate t m x y) (W : World) (b n : Nat) (f : Int → Option Value) (k : Int) (v : Value)
    (hm : a.eval m = .map (some b)) (hx : a.eval x = .int .i64 k) (hy : a.eval y = v) (ht : Try.prog.underlying t = some (.map 3 e)) (hk : (Lit.int .i64 k).wf = true) (hP : PM W b f n) (hn : n < maxLen)
    (h : ∀ W', PM W' b (upd f k (some v)) (n + 1) → W.mapTurned W' b → wpList Try.prog ops Q rest (a.put o.dst undef) W') : wpList Try.prog ops Q (o :: rest) a W := by
  refine wpList_plain hgd fun K hK => ?_
  obtain ⟨W', hr, h1, h2⟩ := hP.store ht hn hk v
  unfold Oper.wp
  simp only [execOp, ho, hm, hx, hy, hr, Sem.run_bind, Sem.run_pure, Result.andThen_ok]
  exact hK _ _ (h W' h1 h2)

def Fresh : Array Value := #[.slice none 0 0, .bool false, .int .i64 0, .slice none 0 0]

theorem was_shut (W : World) (c : Nat) (k : Int) (mc : Option Nat) (v : Value) (c1 : W.cell? ⟨c, 1, none⟩ = some (.map mc)) (hc : (Instr.lookup 59 (.map mc) (.int .i64 k) true).run Try.prog W = .ok (.tuple #[v, .bool true]) W) :
    Calls Try.prog 41 #[.pointer (some ⟨c, 0, none⟩), .int .i64 k] W fun e W' => e = .returned (.bool true) ∧ W = W' := by
  go_enter Try.func41, Try.ntmps41
  go_wp2
  go_ret
  exact ⟨rfl, rfl⟩
theorem was_open (W : World) (c b : Nat) (k : Int) (mo mc : Option Nat) (v : Value) (c1 : W.cell? ⟨c, 1, none⟩ = some (.map mc)) (c0 : W.cell? ⟨c, 0, none⟩ = some (.map mo)) (hc : (Instr.lookup 59 (.map mc) (.int .i64 k) true).run Try.prog W = .ok (.tuple #[v, .bool false]) W)
    (ho : (Instr.lookup 58 (.map mo) (.int .i64 k) false).run Try.prog W = .ok (.pointer (some ⟨b, 0, none⟩)) W) :
    Calls Try.prog 41 #[.pointer (some ⟨c, 0, none⟩), .int .i64 k] W fun e W' => e = .returned (.bool true) ∧ W = W' := by
  go_enter Try.func41, Try.ntmps41
  go_wp2
  go_ret
  exact ⟨rfl, rfl⟩
theorem was_none (W : World) (c : Nat) (k : Int) (mo mc : Option Nat) (v : Value) (c1 : W.cell? ⟨c, 1, none⟩ = some (.map mc)) (c0 : W.cell? ⟨c, 0, none⟩ = some (.map mo)) (hc : (Instr.lookup 59 (.map mc) (.int .i64 k) true).run Try.prog W = .ok (.tuple #[v, .bool false]) W)
    (ho : (Instr.lookup 58 (.map mo) (.int .i64 k) false).run Try.prog W = .ok (.pointer none) W) :
    Calls Try.prog 41 #[.pointer (some ⟨c, 0, none⟩), .int .i64 k] W fun e W' => e = .returned (.bool false) ∧ W = W' := by
  go_enter Try.func41, Try.ntmps41
  go_wp2
  go_ret
  exact ⟨rfl, rfl⟩
theorem was_nil (W : World) (k : Int) : Calls Try.prog 41 #[.pointer none, .int .i64 k] W fun e W' => e = .returned (.bool false) ∧ W = W' := by
  go_enter Try.func41, Try.ntmps41
  go_wp2
  go_ret
  exact ⟨rfl, rfl⟩

theorem open_low (W : World) (p : Option Addr) (k : Int) (hk : k < 0) : Calls Try.prog 18 #[.pointer p, .int .i64 k] W fun e W' => e = .returned (.int .i64 1) ∧ W = W' := by
  go_enter Try.func18, Try.ntmps18
  go_wp2
  go_ret
  exact ⟨rfl, rfl⟩
theorem open_was (W : World) (p : Option Addr) (k : Int) (hk : 0 ≤ k) (hw : Hid (Calls Try.prog 41 #[.pointer p, .int .i64 k] W fun e W' => e = .returned (.bool true) ∧ W = W')) : Calls Try.prog 18 #[.pointer p, .int .i64 k] W fun e W' => e = .returned (.int .i64 7) ∧ W = W' := by
  go_enter Try.func18, Try.ntmps18
  go_wp2_with (go_at_call 41; refine hw.out.mono ?_; rintro e w' ⟨rfl, rfl⟩)
  go_ret
  exact ⟨rfl, rfl⟩
theorem open_nil (W : World) (k : Int) (hk : 0 ≤ k) : Calls Try.prog 18 #[.pointer none, .int .i64 k] W fun e W' => e = .returned (.int .i64 5) ∧ W = W' := by
  go_enter Try.func18, Try.ntmps18
  go_wp2_with (go_at_call 41; refine (was_nil _ _).mono ?_; rintro e w' ⟨rfl, rfl⟩)
  go_ret
  exact ⟨rfl, rfl⟩
set_option maxRecDepth 20000 in
theorem open_full (W : World) (c n : Nat) (k : Int) (mo : Option Nat) (hk : 0 ≤ k) (hw : Hid (Calls Try.prog 41 #[.pointer (some ⟨c, 0, none⟩), .int .i64 k] W fun e W' => e = .returned (.bool false) ∧ W = W')) (c0 : W.cell? ⟨c, 0, none⟩ = some (.map mo))
    (hl : (Builtin.len_ #[58] 3 #[.map mo]).run Try.prog W = .ok (.int .i64 n) W) (hn : 1024 ≤ n) : Calls Try.prog 18 #[.pointer (some ⟨c, 0, none⟩), .int .i64 k] W fun e W' => e = .returned (.int .i64 5) ∧ W = W' := by
  go_enter Try.func18, Try.ntmps18
  go_wp2_with (go_at_call 41; refine hw.out.mono ?_; rintro e w' ⟨rfl, rfl⟩)
  go_ret
  exact ⟨rfl, rfl⟩
theorem eql_nil58 (W : World) (m : Option Nat) : (binOp .eql 58 (.map m) (.map none)).run Try.prog W = .ok (.bool m.isNone) W := by
  have h := run_equal_map_nil (P := Try.prog) W 58 3 69 m Try.underlying58
  simp only [binOp, Sem.run_bind, h, Result.andThen_ok, Sem.run_pure]
set_option maxRecDepth 20000 in
theorem open_x (W : World) (c n bo : Nat) (k : Int) (f : Int → Option Value) (hk : 0 ≤ k) (hkw : (Lit.int .i64 k).wf = true) (hw : Hid (Calls Try.prog 41 #[.pointer (some ⟨c, 0, none⟩), .int .i64 k] W fun e W' => e = .returned (.bool false) ∧ W = W')) (c0 : W.cell? ⟨c, 0, none⟩ = some (.map (some bo)))
    (hl : (Builtin.len_ #[58] 3 #[.map (some bo)]).run Try.prog W = .ok (.int .i64 n) W) (hn : n < 1024) (hP : Hid (PM W bo f n)) : Calls Try.prog 18 #[.pointer (some ⟨c, 0, none⟩), .int .i64 k] W fun e W' => e = .returned (.int .i64 0) ∧ PM W' bo (upd f k (some (ptr W.heap.size))) (n + 1) ∧ (W.alloc (.cells Fresh 72)).mapTurned W' bo := by
  have hq := eql_nil58 W (some bo)
  simp only [Option.isNone_some] at hq
  go_enter Try.func18, Try.ntmps18
  go_wp2_with (first
    | (go_at_call 41; refine hw.out.mono ?_; rintro e w' ⟨rfl, rfl⟩)
    | (at_mapUpdate; refine wpList_put rfl _ _ _ 58 69 rfl _ bo n f k (ptr W.heap.size) rfl rfl rfl Try.underlying58 hkw (hP.out.frame (Below.heap_alloc W _ bo hP.out.lt)) (by unfold maxLen; omega) ?_
       intro W' h1 h2
       replace h1 := hide h1
       replace h2 := hide h2)
    | go_in)
  go_ret
  exact ⟨rfl, h1.out, h2.out⟩
/-- The world as its first connection is laid. -/
def First (W : World) (c : Nat) : World :=
  ((((W.setCell ⟨c, 0, none⟩ (.map (some W.heap.size))).setCell ⟨c, 1, none⟩ (.map (some (W.heap.size + 1)))).alloc (.map #[] 0)).alloc (.map #[] 0)).alloc (.cells Fresh 72)
theorem First.size (W : World) (c : Nat) : (First W c).heap.size = W.heap.size + 3 := by simp [First]
theorem First.pm (W : World) (c : Nat) : PM (First W c) W.heap.size (fun _ => none) 0 := by
  have h := PM.made ((W.setCell ⟨c, 0, none⟩ (.map (some W.heap.size))).setCell ⟨c, 1, none⟩ (.map (some (W.heap.size + 1))))
  have e : ((W.setCell ⟨c, 0, none⟩ (.map (some W.heap.size))).setCell ⟨c, 1, none⟩ (.map (some (W.heap.size + 1)))).heap.size = W.heap.size := by simp
  rw [e] at h
  unfold First
  refine h.frame ?_
  rw [Below.heap_alloc _ _ _ (by simp; omega), Below.heap_alloc _ _ _ (by simp)]
theorem First.pm2 (W : World) (c : Nat) : PM (First W c) (W.heap.size + 1) (fun _ => none) 0 := by
  have h := PM.made (((W.setCell ⟨c, 0, none⟩ (.map (some W.heap.size))).setCell ⟨c, 1, none⟩ (.map (some (W.heap.size + 1)))).alloc (.map #[] 0))
  have e : (((W.setCell ⟨c, 0, none⟩ (.map (some W.heap.size))).setCell ⟨c, 1, none⟩ (.map (some (W.heap.size + 1)))).alloc (.map #[] 0)).heap.size = W.heap.size + 1 := by simp
  rw [e] at h
  unfold First
  refine h.frame ?_
  rw [Below.heap_alloc _ _ _ (by simp)]
theorem First.new (W : World) (c : Nat) : (First W c).heap[W.heap.size + 2]? = some (.cells Fresh 72 (0, 0)) := by
  have h := (MapKept.heap_alloc ((((W.setCell ⟨c, 0, none⟩ (.map (some W.heap.size))).setCell ⟨c, 1, none⟩ (.map (some (W.heap.size + 1)))).alloc (.map #[] 0)).alloc (.map #[] 0)) (.cells Fresh 72)).1
  simpa [First] using h
theorem First.old (W : World) (c b : Nat) (hb : b < W.heap.size) (hne : b ≠ c) : (First W c).heap[b]? = W.heap[b]? := by
  unfold First
  rw [Below.heap_alloc _ _ _ (by simp; omega), Below.heap_alloc _ _ _ (by simp; omega), Below.heap_alloc _ _ _ (by simpa using hb), hp_set_other _ _ _ _ _ hne, hp_set_other _ _ _ _ _ hne]
theorem First.ob (W : World) (c : Nat) (m1 m2 dv : Value) (h : W.heap[c]? = some (.cells #[m1, m2, dv] 61 (0, 0))) : (First W c).heap[c]? = some (.cells #[.map (some W.heap.size), .map (some (W.heap.size + 1)), dv] 61 (0, 0)) := by
  have hb := lt_of h
  unfold First
  rw [Below.heap_alloc _ _ _ (by simp; omega), Below.heap_alloc _ _ _ (by simp; omega), Below.heap_alloc _ _ _ (by simpa using hb), hp_set (hp_set h 0 _) 1]
  rfl
theorem First.os (W : World) (c : Nat) : (First W c).os = W.os ∧ (First W c).tape = W.tape ∧ (First W c).output = W.output := ⟨rfl, rfl, rfl⟩

set_option maxRecDepth 20000 in
theorem open_first (W : World) (c : Nat) (k : Int) (hk : 0 ≤ k) (hkw : (Lit.int .i64 k).wf = true) (hw : Hid (Calls Try.prog 41 #[.pointer (some ⟨c, 0, none⟩), .int .i64 k] W fun e W' => e = .returned (.bool false) ∧ W = W')) (c0 : W.cell? ⟨c, 0, none⟩ = some (.map none)) (c1 : W.cell? ⟨c, 1, none⟩ = some (.map none)) (f0 : W.frozen? ⟨c, 0, none⟩ = false) (f1 : W.frozen? ⟨c, 1, none⟩ = false)
    (hl : (Builtin.len_ #[58] 3 #[.map none]).run Try.prog W = .ok (.int .i64 0) W) (hlt : c < W.heap.size) : Calls Try.prog 18 #[.pointer (some ⟨c, 0, none⟩), .int .i64 k] W fun e W' => e = .returned (.int .i64 0) ∧ PM W' W.heap.size (upd (fun _ => none) k (some (ptr (W.heap.size + 2)))) 1 ∧ (First W c).mapTurned W' W.heap.size := by
  have hq := eql_nil58 W none
  simp only [Option.isNone_none] at hq
  have hmm := @run_makeMap Try.prog
  go_enter Try.func18, Try.ntmps18
  go_wp2_with (first
    | (go_at_call 41; refine hw.out.mono ?_; rintro e w' ⟨rfl, rfl⟩)
    | (at_mapUpdate; refine wpList_put rfl _ _ _ 58 69 rfl _ W.heap.size 0 (fun _ => none) k (ptr (W.heap.size + 2)) rfl rfl rfl Try.underlying58 hkw (First.pm W c) (by decide) ?_
       intro W' h1 h2
       replace h1 := hide h1
       replace h2 := hide h2)
    | go_in)
  go_ret
  exact ⟨rfl, h1.out, h2.out⟩
end Go.Proofs.Ytpgbpfdgbajhlaa
