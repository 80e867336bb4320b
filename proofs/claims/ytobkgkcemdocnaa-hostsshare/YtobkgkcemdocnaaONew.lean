/- A set of hosts that is made. -/
import Derived.Test.YtobkgkcemdocnaaOHst
import Derived.Laws.MakeOwn
namespace Go.Proofs.Ytobkgkcemdocnaa
open Go.ChangeShapes Go.WideShapes Go.ChangeAt Go.RowKit

def okN (n fl bs lo sh : Int) : Prop := (1 ≤ n ∧ n ≤ 16) ∧ (0 ≤ fl ∧ fl ≤ 1000) ∧ (1 ≤ bs ∧ bs ≤ 1000000) ∧ (bs ≤ lo ∧ lo ≤ 1000000) ∧ (0 ≤ sh ∧ sh ≤ 100)
def z0 (b : Bool) : HR := ⟨b, false, 0, 0, 0⟩
def mk (n i : Nat) : List HR := List.replicate i (z0 true) ++ List.replicate (n - i) (z0 false)
theorem infoRow (R : TypeId) (z : Value) (h : (Try.prog.info? R).map (fun i => (i.zero, i.size, i.bytes)) = some (some z, 5, 32)) : ∃ i, Try.prog.info? R = some i ∧ i.zero = some z ∧ i.size = 5 ∧ i.bytes = 32 := by
  obtain ⟨i, hi, hz⟩ := Option.map_eq_some_iff.1 h
  simp only [Prod.mk.injEq] at hz
  exact ⟨i, hi, hz.1, hz.2.1, hz.2.2⟩
set_option maxRecDepth 100000 in
theorem made_flat (b : Bool) : ∀ n, n ≤ 16 → madeCells #[.bool (b ^^ false), .bool false, .int .i64 0, .int .i64 0, .int .i64 0] (n * 5) = (flat b (List.replicate n (z0 false))).toArray := fun n hn => match n, hn with
  | 0, _ => by cases b <;> kernel_rfl
  | 1, _ => by cases b <;> kernel_rfl
  | 2, _ => by cases b <;> kernel_rfl
  | 3, _ => by cases b <;> kernel_rfl
  | 4, _ => by cases b <;> kernel_rfl
  | 5, _ => by cases b <;> kernel_rfl
  | 6, _ => by cases b <;> kernel_rfl
  | 7, _ => by cases b <;> kernel_rfl
  | 8, _ => by cases b <;> kernel_rfl
  | 9, _ => by cases b <;> kernel_rfl
  | 10, _ => by cases b <;> kernel_rfl
  | 11, _ => by cases b <;> kernel_rfl
  | 12, _ => by cases b <;> kernel_rfl
  | 13, _ => by cases b <;> kernel_rfl
  | 14, _ => by cases b <;> kernel_rfl
  | 15, _ => by cases b <;> kernel_rfl
  | 16, _ => by cases b <;> kernel_rfl
  | k + 17, h => absurd h (by omega)
theorem make_rows (w : World) (n : Nat) (hn : n ≤ 16) : (Instr.makeSlice 50 (.int .i64 (n : Int)) (.int .i64 (n : Int))).run Try.prog w = .ok (.slice (some ⟨w.heap.size, 0, none⟩) n n) (w.alloc (.cells (flat false (List.replicate n (z0 false))).toArray 54)) := by
  obtain ⟨i, hi, hz, hs, hb⟩ := infoRow 54 (.agg #[.bool false, .bool false, .int .i64 0, .int .i64 0, .int .i64 0]) (by kernel_rfl)
  have hr := run_makeSlice w 50 54 i _ Try.underlying50 hi hz .i64 .i64 (n : Int) (n : Int) (by omega) (by omega) (by rw [hs]; simp; omega) (by rw [hb]; omega) (by omega)
  rw [hr, hs]
  simp only [Int.toNat_natCast]
  rw [← made_flat false n hn]
  rfl
theorem mk_at {n i : Nat} (h : i < n) : (mk n i)[i]? = some (z0 false) := by
  unfold mk
  rw [List.getElem?_append_right (by simp), List.length_replicate, Nat.sub_self, List.getElem?_replicate, if_pos (by omega)]
theorem mk_set {n i : Nat} (h : i < n) : (mk n i).set i (z0 true) = mk n (i + 1) := by
  unfold mk
  rw [List.set_append_right _ _ (by simp), List.length_replicate, Nat.sub_self, show n - i = (n - (i + 1)) + 1 by omega, List.replicate_succ, List.set_cons_zero, List.replicate_succ', List.append_assoc]
  rfl
theorem mk_len {n i : Nat} (h : i ≤ n) : (mk n i).length = n := by unfold mk; simp; omega
theorem mk_zero (n : Nat) : mk n 0 = List.replicate n (z0 false) := by unfold mk; simp
theorem mk_all (n : Nat) : mk n n = List.replicate n (z0 true) := by unfold mk; simp
set_option maxHeartbeats 1000000 in
set_option maxRecDepth 100000 in
theorem new_any (w : World) (n : Nat) (fl bs lo sh : Int) (h : okN n fl bs lo sh) :
    Calls Try.prog 8 #[.int .i64 (n : Int), .int .i64 fl, .int .i64 bs, .int .i64 lo, .int .i64 sh] w fun e w' => e = .returned (.tuple #[.pointer (some ⟨w.heap.size + 1, 0, none⟩), .int .i64 0]) ∧ Does (HsT 52 54 false fl bs lo sh 0 (List.replicate n (z0 true)) (w.heap.size + 1) w.heap.size) none' w w' := by
  obtain ⟨⟨n0, n1⟩, ⟨a0, a1⟩, ⟨b0, b1⟩, ⟨c0, c1⟩, d0, d1⟩ := h
  have n2 : n ≤ 16 := by omega
  have n3 : n < 4611686018427387904 := by omega
  go_enter Try.func8, Try.ntmps8
  have hmk := make_rows w n n2
  go_wp2_with fail
  have T1 : Hid (Does (HsT 52 54 false fl bs lo sh 0 (mk n 0) (w.heap.size + 1) w.heap.size) none' w ((w.alloc (.cells (flat false (List.replicate n (z0 false))).toArray 54)).alloc (.cells #[.int .i64 fl, .int .i64 bs, .int .i64 lo, .int .i64 sh, .int .i64 0, .slice (some ⟨w.heap.size, 0, none⟩) n n] 52))) := hide (by
    have e : w.heap.size + 1 = (w.alloc (.cells (flat false (List.replicate n (z0 false))).toArray 54)).heap.size := by simp
    refine ⟨fun k => k = w.heap.size + 1 ∨ k = w.heap.size, ⟨⟨?_, ?_, by omega⟩, fun _ => Iff.rfl⟩, (Fr.alloc _ _ _).trans (Fr.alloc none' _ _) (fun _ _ x => x), fun k hk => .inr (by omega)⟩
    · rw [mk_len (Nat.zero_le _), e]; exact hp_new _ _
    · rw [mk_zero]; exact (Fr.alloc none' _ _).hd id (hp_new _ _))
  generalize (w.alloc (.cells (flat false (List.replicate n (z0 false))).toArray 54)).alloc (.cells #[.int .i64 fl, .int .i64 bs, .int .i64 lo, .int .i64 sh, .int .i64 0, .slice (some ⟨w.heap.size, 0, none⟩) n n] 52) = W1 at T1 ⊢
  obtain ⟨g, Hg⟩ : ∃ g, Hid (w.heap.size = g) := ⟨_, hide rfl⟩
  rw [Hg.out] at T1 ⊢
  clear hmk
  go_loopw [60] (fun v wr => ∃ (i : Nat), i ≤ n ∧ v = .int .i64 (i : Int) ∧ Hid (Does (HsT 52 54 false fl bs lo sh 0 (mk n i) (g + 1) g) none' w wr)) (fun v _ => n - (intOf v).toNat)
  case atStart => exact ⟨0, Nat.zero_le _, rfl, T1⟩
  case round =>
    clear T1
    obtain ⟨i, hi, rfl, HI⟩ := hrel
    by_cases hlt : i < n
    · obtain ⟨P, x1, x2, x3⟩ := HI.out
      obtain ⟨k0, k1, k2, k3, k4, k5, -⟩ := x1.1.cB
      obtain ⟨g0, -, -, -, -⟩ := x1.1.cG (mk_at hlt)
      have f0 := x1.1.fz (i * 5)
      rw [mk_len hi] at k5
      have HS : Hid (Does (HsT 52 54 false fl bs lo sh 0 (mk n (i + 1)) (g + 1) g) none' w (wr.setCell ⟨g, i * 5, none⟩ (.bool true))) := hide (by
        have y := x1.1.setG (j := 0) (r' := z0 true) (v := .bool true) (mk_at hlt) (by omega) rfl
        rw [mk_set hlt] at y
        refine ⟨P, ⟨y, x1.2⟩, x2.trans (Fr.set _ _ _ _) (fun k hk e => ?_), x3⟩
        have := (x3 k ((x1.2 k).2 (.inr e))).resolve_left id
        omega)
      clear x1 x2 x3 HI
      go_wp2_with fail
      go_roundw
      case rel => exact ⟨i + 1, by omega, by go_num, HS⟩
      case measure => simp [intOf]; omega
    · obtain rfl : i = n := by omega
      go_wp2_with fail
      go_ret2
      rw [mk_all] at HI
      have hg := Hg.out
      subst hg
      exact ⟨rfl, HI.out⟩
theorem new_bad (w : World) (n fl bs lo sh : Int) (h : ¬ okN n fl bs lo sh) :
    Calls Try.prog 8 #[.int .i64 n, .int .i64 fl, .int .i64 bs, .int .i64 lo, .int .i64 sh] w fun e w' => e = .returned (.tuple #[.pointer none, .int .i64 1]) ∧ w = w' := by
  by_cases q0 : n < 1
  · clear h; go_enter Try.func8, Try.ntmps8
    go_wp2
    go_ret2
    exact ⟨rfl, rfl⟩
  by_cases q1 : 16 < n
  · clear h; go_enter Try.func8, Try.ntmps8
    go_wp2
    go_ret2
    exact ⟨rfl, rfl⟩
  by_cases q2 : fl < 0
  · clear h; go_enter Try.func8, Try.ntmps8
    go_wp2
    go_ret2
    exact ⟨rfl, rfl⟩
  by_cases q3 : 1000 < fl
  · clear h; go_enter Try.func8, Try.ntmps8
    go_wp2
    go_ret2
    exact ⟨rfl, rfl⟩
  by_cases q4 : bs < 1
  · clear h; go_enter Try.func8, Try.ntmps8
    go_wp2
    go_ret2
    exact ⟨rfl, rfl⟩
  by_cases q5 : 1000000 < bs
  · clear h; go_enter Try.func8, Try.ntmps8
    go_wp2
    go_ret2
    exact ⟨rfl, rfl⟩
  by_cases q6 : lo < bs
  · clear h; go_enter Try.func8, Try.ntmps8
    go_wp2
    go_ret2
    exact ⟨rfl, rfl⟩
  by_cases q7 : 1000000 < lo
  · clear h; go_enter Try.func8, Try.ntmps8
    go_wp2
    go_ret2
    exact ⟨rfl, rfl⟩
  by_cases q8 : sh < 0
  · clear h; go_enter Try.func8, Try.ntmps8
    go_wp2
    go_ret2
    exact ⟨rfl, rfl⟩
  have q9 : 100 < sh := by
    have : ¬ sh ≤ 100 := fun x => h ⟨⟨by omega, by omega⟩, ⟨by omega, by omega⟩, ⟨by omega, by omega⟩, ⟨by omega, by omega⟩, by omega, x⟩
    omega
  clear h
  go_enter Try.func8, Try.ntmps8
  go_wp2
  go_ret2
  exact ⟨rfl, rfl⟩
end Go.Proofs.Ytobkgkcemdocnaa
