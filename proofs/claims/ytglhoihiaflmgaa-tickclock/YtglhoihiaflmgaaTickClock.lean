/- For every number t and every list of numbers: TickClock returns true, and changes nothing that it was handed. -/
import Derived.Test.YtglhoihiaflmgaaRows
import Derived.Test.YtglhoihiaflmgaaRefFirst
import Derived.WalkKit
import Derived.ProofKit
import Derived.OpenShut
import Derived.ShutString
import Derived.ChangeOld
import Derived.Below
import Derived.Lib.SliceRun
namespace Go.Proofs.Ytglhoihiaflmgaa.tickClock
open Go.ChangeShapes Go.WideShapes Go.ChangeAt Go.RowKit
open Go.ChangeMaps (open_string shut_string)
set_option linter.unusedVariables false

theorem own : ownKnob Try.prog.godebug = none := by kernel_rfl
theorem laidOut : laidOutB Try.prog = true := by kernel_rfl

def IsRow (k : IntKind) (w : World) (a : Option Addr) (len cap : Nat) (zs : List Int) : Prop :=
  (a = none ∧ len = 0 ∧ cap = 0 ∧ zs = []) ∨
  ∃ x, a = some x ∧ len ≤ cap ∧ cap ≤ maxLen ∧ zs.length = cap ∧ (∀ i, i < zs.length → w.cell? (x.add i) = some (.int k (zs.getD i 0))) ∧ ∀ n ∈ zs, (Lit.int k n).wf = true

theorem addr_add (b off i : Nat) : (⟨b, off, none⟩ : Addr).add i = ⟨b, off + i, none⟩ := by
  unfold Addr.add
  by_cases h : i = 0
  · subst h; rfl
  · simp [h]
theorem take_at (zs : List Int) (n i : Nat) (h : i < n) : (zs.take n).getD i 0 = zs.getD i 0 := by simp [List.getD, h]
theorem cells_of {w : World} {b off len : Nat} {zs : List Int} (hl : len ≤ zs.length) (h : ∀ i, i < zs.length → w.cell? ((⟨b, off, none⟩ : Addr).add i) = some (.int .i64 (zs.getD i 0))) :
    ∀ i, i < len → w.cell? ⟨b, off + i, none⟩ = some (.int .i64 ((zs.take len).getD i 0)) := by
  intro i hi
  rw [take_at zs len i hi, ← addr_add]
  exact h i (by omega)
theorem old_cell {w : World} {a : Addr} {v : Value} (h : w.cell? a = some v) (o : Obj) : (w.alloc o).cell? a = some v := by
  exact Lib.cell?_alloc_some o h

set_option maxRecDepth 100000 in
set_option maxHeartbeats 1000000 in
theorem clock_row (a0 : Int) (a1 : Option Addr) (len cap : Nat) (zs : List Int) (w : World) (h0 : 0 ≤ a0) (h1 : a0 ≤ 4611686018427387904) (hl : len ≤ 9223372036854775807)
    (hbd : ∀ i, i < len → zs.getD i 0 ≤ 9223372036854775807)
    (hcell : ∀ i, i < len → ∃ b off, a1 = some ⟨b, off, none⟩ ∧ w.cell? ⟨b, off + i, none⟩ = some (.int .i64 (zs.getD i 0))) :
    Calls Try.prog 5 #[.int .i64 a0, .slice a1 len cap] w fun e w' => e = .returned (.bool true) ∧ Below w.heap.size w w' := by
  have hm := mom_yes h0 h1
  have HC : Hid (∀ i, i < len → ∃ b off, a1 = some ⟨b, off, none⟩ ∧ w.cell? ⟨b, off + i, none⟩ = some (.int .i64 (zs.getD i 0))) := hcell
  have HB : Hid (∀ i, i < len → zs.getD i 0 ≤ 9223372036854775807) := hbd
  clear hcell hbd
  go_enter Try.func5, Try.ntmps5
  go_wp2_with (first | (go_at_call 16; refine (new_yes _ _ h0 h1).mono ?_; rintro e w' ⟨rfl, rfl⟩) | (go_at_call 17; refine (moment_any _ _).mono ?_; rintro e w' ⟨rfl, rfl⟩))
  go_loopw [7, 45] (fun n i wr => ∃ (k : Nat) (m : Int), k ≤ len ∧ i = .int .i64 k ∧ n = .int .i64 m ∧ 0 ≤ m ∧ m ≤ 4611686018427387904 ∧ wr = w.alloc (.cells #[.int .i64 m] 43)) (fun _ i _ => len - (intOf i).toNat)
  case atStart => exact ⟨0, a0, Nat.zero_le _, rfl, rfl, h0, h1, rfl⟩
  case round =>
    obtain ⟨k, m, hk, rfl, rfl, m0, m1, rfl⟩ := hrel
    by_cases hlt : k < len
    · obtain ⟨b, off, rfl, hc0⟩ := HC.out k hlt
      have hd := HB.out k hlt
      generalize zs.getD k 0 = d at hc0 hd
      have hc := old_cell hc0 (.cells #[.int .i64 m] 43)
      clear hc0
      by_cases hneg : 0 ≤ d
      · have k1 : addE m d = 0 := by unfold addE; omega
        have k2 : ¬ addR m d < m := by unfold addR later; omega
        have k3 : 0 ≤ addR m d := by unfold addR later; omega
        have k4 : addR m d ≤ 4611686018427387904 := by unfold addR later; omega
        go_wp2_with (first | (go_at_call 18; refine (advance_yes _ m d _ (by simp [go_sem]) (by simp [go_sem]) hd k1).mono ?_; rintro e w' ⟨rfl, rfl⟩) | (go_at_call 10; refine (radd_any _ _ _ hd).mono ?_; rintro e w' ⟨rfl, rfl⟩) | (go_at_call 19; refine (since_at _ (addR m d) _ _ (by simp [go_sem])).mono ?_; rintro e w' ⟨rfl, rfl⟩) | (go_at_call 12; refine (runtil_any _ _ _).mono ?_; rintro e w' ⟨rfl, rfl⟩) | (go_at_call 20; refine (now_at _ (addR m d) _ (by simp [go_sem])).mono ?_; rintro e w' ⟨rfl, rfl⟩))
        go_roundw
        case rel => exact ⟨k + 1, addR m d, by omega, by go_num, rfl, k3, k4, rfl⟩
        case measure => simp [intOf]; omega
      · have k1 : addE m d = 1 := by unfold addE; omega
        go_wp2_with (first | (go_at_call 18; refine (advance_no _ m d _ (by simp [go_sem]) hd k1).mono ?_; rintro e w' ⟨rfl, rfl⟩) | (go_at_call 10; refine (radd_any _ _ _ hd).mono ?_; rintro e w' ⟨rfl, rfl⟩) | (go_at_call 19; refine (since_at _ m _ _ (by simp [go_sem])).mono ?_; rintro e w' ⟨rfl, rfl⟩) | (go_at_call 12; refine (runtil_any _ _ _).mono ?_; rintro e w' ⟨rfl, rfl⟩) | (go_at_call 20; refine (now_at _ m _ (by simp [go_sem])).mono ?_; rintro e w' ⟨rfl, rfl⟩))
        go_roundw
        case rel => exact ⟨k + 1, m, by omega, by go_num, rfl, m0, m1, rfl⟩
        case measure => simp [intOf]; omega
    · have ek : k = len := by omega
      subst ek
      go_wp2_with (first | (go_at_call 20; refine (now_at _ m _ (by simp [go_sem])).mono ?_; rintro e w' ⟨rfl, rfl⟩) | (go_at_call 13; refine (speaks_any _).mono ?_; rintro e w' ⟨rfl, -, hg⟩))
      go_ret
      exact ⟨rfl, ((Below.refl _ _).alloc (Nat.le_refl _) _).trans (hg.mono (by simp))⟩

theorem walk (a0 : Int) (a1 : Option Addr) (len1 cap1 : Nat) (z1 : List Int) (w : World) (w0 : (Lit.int .i64 a0).wf = true) (w1 : IsRow .i64 w a1 len1 cap1 z1) :
    Calls Try.prog 5 #[.int .i64 a0, .slice a1 len1 cap1] w fun e w' => e = .returned (.bool true) ∧ Below w.heap.size w w' := by
  by_cases hm : 0 ≤ a0 ∧ a0 ≤ 4611686018427387904
  · rcases w1 with ⟨rfl, rfl, rfl, rfl⟩ | ⟨x, rfl, hl, hmx, hz, hcell, hwz⟩
    · exact clock_row a0 none 0 0 [] w hm.1 hm.2 (by omega) (fun i hi => by omega) (fun i hi => by omega)
    · refine clock_row a0 (some x) len1 cap1 z1 w hm.1 hm.2 (by unfold maxLen at hmx; omega) (fun i hi => ?_) (fun i hi => ?_)
      · refine (bd (hwz _ ?_)).2
        rw [List.getD_eq_getElem?_getD, List.getElem?_eq_getElem (by omega)]
        exact List.getElem_mem _
      · obtain ⟨b, off, spot⟩ := x
        have hc := hcell 0 (by omega)
        have hspot : spot = none := by simpa [Addr.add] using World.cell?_spot hc
        subst hspot
        exact ⟨b, off, rfl, by rw [← addr_add]; exact hcell i (by omega)⟩
  · have hn := mom_no hm
    clear w1
    go_enter Try.func5, Try.ntmps5
    go_wp2_with (first | (go_at_call 16; refine (new_no _ _ hm).mono ?_; rintro e w' ⟨rfl, rfl⟩) | (go_at_call 17; refine (moment_any _ _).mono ?_; rintro e w' ⟨rfl, rfl⟩) | (go_at_call 13; refine (speaks_any _).mono ?_; rintro e w' ⟨rfl, -, hg⟩))
    go_ret
    exact ⟨rfl, hg⟩

set_option maxRecDepth 100000 in
theorem lifted (os : Os) (started : os.Started) (H : Type) (enc : TypeId × Value → H) :
    ReturnsInHanded {} Try.checked os 5 .any (Rows.tickClockSpec.pre6 enc Try.prog Try.f5 Rows.tickClockRow.domain false) (Rows.tickClockSpec.post enc Try.prog Try.f5 false true false false) := by
  refine returnsInHanded_of_change (C := Try.checked) own started (by kernel_rfl) Try.func5
    (ChangeSpec.witness6 (enc := enc) (C := Try.checked) false ⟨#[], #[.int .i64 0, .slice none 0 0], []⟩ 8 (by kernel_rfl) (by kernel_rfl) (by kernel_rfl) (by kernel_rfl)) ?_
  intro W base args ds gs before hval0 hW hcnd _
  have hval : ∀ (j : Nat) t v, Try.f5.params[j]? = some t → args[j]? = some v → Value.okWide Try.prog W .any base t v := hval0
  have hW' := hW
  obtain ⟨p, q, hA0, hV, rfl, hfz, hnd⟩ := hW
  have hA : DataW.TrodAll enc Try.prog W 0 (fun _ => true) true Try.f5.params.toList args.toList ds p := hA0
  rw [Try.params5] at hA hval
  obtain ⟨v0, vs0, d0, ds0, p0, q0, hargs, rfl, rfl, h0, r0⟩ := trodAll_cons hA
  obtain ⟨v1, vs1, d1, ds1, p1, q1, rfl, rfl, rfl, h1, r1⟩ := trodAll_cons r0
  obtain ⟨rfl, rfl, rfl⟩ := trodAll_nil r1
  obtain rfl : args = #[v0, v1] := by cases args; simp_all
  obtain ⟨rfl, rfl⟩ := trodVars_none hV
  obtain ⟨a0, rfl, rfl, rfl, w0⟩ := open_int Try.underlying3 (hval 0 3 v0 rfl rfl) h0
  obtain ⟨a1, len1, cap1, rfl⟩ := okWide_slice Try.underlying29 (hval 1 29 v1 rfl rfl)
  have k1 := h1
  have lt1 : ∀ x ∈ p1, x.block < W.heap.size := by obtain ⟨m, hm⟩ := k1; exact DataW.trod_lt m _ _ _ hm
  obtain ⟨z1, w1⟩ : ∃ zs, IsRow .i64 W a1 len1 cap1 zs := by
    obtain ⟨fuel, hf⟩ := h1
    rcases open_ints Try.underlying29 Try.underlying3 (by kernel_rfl) hf with ⟨hcs, _⟩ | ⟨x, l, c, zs, hcs, _, hl, hm, hz, _, hcell, hwz⟩
    · simp [Value.cells] at hcs
      obtain ⟨rfl, rfl, rfl⟩ := hcs
      exact ⟨[], .inl ⟨rfl, rfl, rfl, rfl⟩⟩
    · simp [Value.cells] at hcs
      obtain ⟨rfl, rfl, rfl⟩ := hcs
      exact ⟨zs, .inr ⟨_, rfl, hl, hm, by simpa using hz, hcell, hwz⟩⟩
  clear hA0 hval0
  refine (walk a0 a1 len1 cap1 z1 W w0 w1).mono fun e W' ⟨he, bel⟩ => ?_
  subst he
  exact ⟨_, rfl, _, _, _, [], _, [], hW', trodAll_mk1 (shut_bool Try.underlying4 _), (trodAll_cons_mk (shut_int Try.underlying3 w0) (trodAll_cons_mk (Below.trod laidOut (by kernel_rfl) (of_decide_eq_true (by kernel_rfl)) k1 bel lt1) trodAll_mk0)), rfl, bel.frame _, fun h => by cases h⟩

theorem over : Rows.tickClockRow.holds Try.pinned (OpenSpec.ofChange Rows.tickClockSpec) :=
  OpenClaim.holds_of_wide 5 Try.f5 rfl rfl rfl rfl rfl rfl rfl ⟨rfl, rfl, rfl, rfl, rfl⟩ rfl rfl rfl rfl rfl (by kernel_rfl) Try.func5 (by kernel_rfl)
    (of_decide_eq_true (by kernel_rfl)) (by unfold Func.isWrapper; first | (rw [if_pos (by decide +kernel)]; kernel_rfl) | (rw [if_neg (by decide +kernel)]; exact ⟨rfl, rfl⟩))
    (fun os started H enc _ => lifted os started H enc)

theorem proved : Rows.TickClockSaid := over
end Go.Proofs.Ytglhoihiaflmgaa.tickClock
namespace Go.Proofs.Ytglhoihiaflmgaa
theorem tickClock_holds : Rows.TickClockSaid := tickClock.proved
#print axioms tickClock_holds
end Go.Proofs.Ytglhoihiaflmgaa
