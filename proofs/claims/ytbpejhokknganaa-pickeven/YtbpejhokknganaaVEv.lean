/- PickEven, walked. -/
import Derived.Test.YtbpejhokknganaaVLw
import Derived.Deep.Cut
import Derived.Deep.CutRange
namespace Go.Proofs.Ytbpejhokknganaa
open Go.ChangeShapes Go.WideShapes Go.ChangeAt Go.RowKit
set_option linter.unusedVariables false

/-- The table of what was drawn. -/
def tblO (S : List Int) : Obj := .cells (S.map fun x => Value.int .i64 x).toArray 34 (0, 0)
theorem tbl_cell {w : World} {b : Nat} {S : List Int} (h : w.heap[b]? = some (tblO S)) {i : Nat} (hi : i < S.length) : w.cell? ⟨b, i, none⟩ = some (.int .i64 (S.getD i 0)) := by
  unfold tblO at h
  rw [cell_of h i]
  simp [List.getD, hi]
theorem tbl_set {w : World} {b : Nat} {S : List Int} (h : w.heap[b]? = some (tblO S)) (i : Nat) (x : Int) : (w.setCell ⟨b, i, none⟩ (.int .i64 x)).heap[b]? = some (tblO (S.set i x)) := by
  have := hp_set h i (.int .i64 x)
  rw [this]
  unfold tblO
  simp [List.map_set]
/-- What was drawn ahead of the draws a and b. -/
def Jv (n : Nat) (a b : Nat) (S : List Int) : Prop := S.length = 256 ∧ ∀ i j : Nat, i < 16 → j < 16 → 0 < S.getD (16 * i + j) 0 → i < a ∨ (i = a ∧ ∃ c : Nat, c < b ∧ (j : Int) = (if (a : Int) ≤ c then (c : Int) + 1 else c))
set_option maxRecDepth 100000 in
theorem Jv.zero (n : Nat) : Jv n 0 0 (List.replicate 256 0) := ⟨List.length_replicate, fun i j hi hj h => by
  have : (List.replicate 256 (0 : Int)).getD (16 * i + j) 0 = 0 := by rw [List.getD_eq_getElem?_getD, List.getElem?_replicate, if_pos (by omega)]; rfl
  omega⟩
theorem Jv.next {n a b : Nat} {S : List Int} (h : Jv n a b S) : Jv n (a + 1) 0 S := ⟨h.1, fun i j hi hj hp => by
  rcases h.2 i j hi hj hp with x | ⟨x, _⟩ <;> left <;> omega⟩
theorem Jv.put {n a b j : Nat} {S : List Int} (h : Jv n a b S) (ha : a < 16) (hj : j < 16) (e : (j : Int) = if (a : Int) ≤ b then (b : Int) + 1 else b) : Jv n a (b + 1) (S.set (16 * a + j) 1) := ⟨by rw [List.length_set]; exact h.1, fun i k hi hk hp => by
  by_cases q : 16 * i + k = 16 * a + j
  · obtain rfl : i = a := by omega
    obtain rfl : k = j := by omega
    exact .inr ⟨rfl, b, by omega, e⟩
  · have : (S.set (16 * a + j) 1).getD (16 * i + k) 0 = S.getD (16 * i + k) 0 := by
      simp [List.getD, List.getElem?_set_ne (Ne.symm q)]
    rw [this] at hp
    rcases h.2 i k hi hk hp with x | ⟨x, c, hc, y⟩
    · exact .inl x
    · exact .inr ⟨x, c, by omega, y⟩⟩
theorem Jv.no {n a b j : Nat} {S : List Int} (h : Jv n a b S) (ha : a < 16) (hj : j < 16) (e : (j : Int) = if (a : Int) ≤ b then (b : Int) + 1 else b) : S.getD (16 * a + j) 0 ≤ 0 := Int.not_lt.1 fun hp => by
  rcases h.2 a j ha hj hp with x | ⟨_, c, hc, y⟩
  · omega
  · split at e <;> split at y <;> omega
theorem even_two {n a b : Nat} (hn : n ≤ 16) (ha : a < n) (hb : b < n - 1) : ∃ j : Nat, okT n a b ∧ (a : Int) % (n : Int) = a ∧ tJ n a b = (j : Int) ∧ j < n ∧ a ≠ j ∧ (j : Int) = if (a : Int) ≤ b then (b : Int) + 1 else b := by
  have e1 : (a : Int) % (n : Int) = a := Int.emod_eq_of_lt (by omega) (by omega)
  have e2 : (b : Int) % ((n : Int) - 1) = b := Int.emod_eq_of_lt (by omega) (by omega)
  have e3 : tJ n a b = if (a : Int) ≤ b then (b : Int) + 1 else b := by unfold tJ; rw [e1, e2]
  refine ⟨if a ≤ b then b + 1 else b, ⟨⟨by omega, by omega⟩, ⟨by omega, by omega⟩, by omega, by omega⟩, e1, ?_, ?_, ?_, ?_⟩
  · rw [e3]; split <;> split <;> omega
  · split <;> omega
  · split <;> omega
  · split <;> split <;> omega
set_option maxRecDepth 100000 in
theorem zero34 (w : World) : Sem.run Try.prog (zeroValue 34) w = Result.ok (Value.agg ((List.replicate 256 (0 : Int)).map fun x => Value.int .i64 x).toArray) w := by
  kernel_rfl
set_option maxHeartbeats 4000000 in
set_option maxRecDepth 100000 in
theorem even_walk (n : Int) (W : World) : Calls Try.prog 4 #[.int .i64 n] W fun e w' => e = .returned (.bool true) ∧ Below W.heap.size W w' := by
  by_cases hr : 2 ≤ n ∧ n ≤ 16
  · obtain ⟨m, rfl⟩ := Int.eq_ofNat_of_zero_le (show 0 ≤ n by omega)
    have h2 : 2 ≤ m := by omega
    have h16 : m ≤ 16 := by omega
    have h2i : ¬ (m : Int) < 2 := by omega
    have h16i : ¬ (16 : Int) < (m : Int) := by omega
    clear hr
    have hz := zero34 W
    obtain ⟨A, HA⟩ : ∃ A, Hid (((List.replicate 256 (0 : Int)).map fun x => Value.int .i64 x).toArray = A) := ⟨_, hide rfl⟩
    rw [HA.out] at hz
    go_enter Try.func4, Try.ntmps4
    go_upto_region 5 with fail
    have T1 : Hid ((W.alloc (Obj.cells A 34)).heap[W.heap.size]? = some (tblO (List.replicate 256 0)) ∧ Fr none' W (W.alloc (Obj.cells A 34))) := hide (by
      refine ⟨?_, Fr.alloc _ _ _⟩
      rw [hp_new, ← HA.out]; rfl)
    clear hz HA
    generalize W.alloc (Obj.cells A 34) = w1 at *
    obtain ⟨o, Ho⟩ : ∃ o, Hid (W.heap.size = o) := ⟨_, hide rfl⟩
    rw [Ho.out] at T1 ⊢
    go_wp2_with fail
    go_loopw [7] (fun v wr => ∃ (a : Nat) (S : List Int), a ≤ m ∧ v = .int .i64 (a : Int) ∧ Hid (Jv m a 0 S) ∧ Hid (wr.heap[o]? = some (tblO S) ∧ Fr none' W wr)) (fun v _ => m - (intOf v).toNat)
    case atStart => exact ⟨0, _, Nat.zero_le _, rfl, hide (Jv.zero m), T1⟩
    case round =>
      clear T1
      obtain ⟨a, S, ha, rfl, HJ, HT⟩ := hrel
      by_cases hlt : a < m
      · have hlti : (a : Int) < (m : Int) := by omega
        go_wp2_with fail
        obtain ⟨wf, ewf⟩ : ∃ wf, wf = wr := ⟨_, rfl⟩
        subst ewf
        go_loopw [8] (fun v wr => ∃ (b : Nat) (S : List Int), b ≤ m - 1 ∧ v = .int .i64 (b : Int) ∧ Hid (Jv m a b S) ∧ Hid (wr.heap[o]? = some (tblO S) ∧ Fr none' W wr)) (fun v _ => m - (intOf v).toNat)
        case atStart => exact ⟨0, S, Nat.zero_le _, rfl, HJ, HT⟩
        case round =>
          clear HJ HT
          obtain ⟨b, S, hb, rfl, HJ, HT⟩ := hrel
          by_cases hltb : b < m - 1
          · have hltbi : (b : Int) < (m : Int) - 1 := by omega
            obtain ⟨j, hok, e1, e2, jm, aj, e3⟩ := even_two h16 hlt hltb
            have H1 := hide (two_any wr m a b hok)
            rw [e1, e2] at H1
            have HN := hide (HJ.out.no (by omega) (by omega) e3)
            have HP := hide (HJ.out.put (by omega) (by omega) e3)
            have HL := hide HJ.out.1
            clear hok e1 e2 e3 HJ
            have jmi : (j : Int) < (m : Int) := by omega
            have aji : ¬ (a : Int) = (j : Int) := by omega
            have aj2 : ((a : Int) == (j : Int)) = false := by simpa using aji
            have ma : ¬ m ≤ a := by omega
            have mj : ¬ m ≤ j := by omega
            go_wp2_with fail
            refine H1.out.mono ?_
            rintro e w3 ⟨rfl, q, rfl⟩
            have T3 : Hid ((wr.drewN q).heap[o]? = some (tblO S) ∧ Fr none' W (wr.drewN q)) := hide ⟨HT.out.1, HT.out.2.d q⟩
            clear H1 HT
            generalize wr.drewN q = w3 at *
            have c0 : w3.cell? ⟨o, 16 * a + j, none⟩ = some (.int .i64 (S.getD (16 * a + j) 0)) := tbl_cell T3.out.1 (by rw [HL.out]; omega)
            have f0 : w3.frozen? ⟨o, 16 * a + j, none⟩ = false := frozen_of T3.out.1 _
            have hx : S.getD (16 * a + j) 0 ≤ 0 := HN.out
            have T4 : Hid ((w3.setCell ⟨o, 16 * a + j, none⟩ (.int .i64 1)).heap[o]? = some (tblO (S.set (16 * a + j) 1)) ∧ Fr none' W (w3.setCell ⟨o, 16 * a + j, none⟩ (.int .i64 1))) := hide ⟨tbl_set T3.out.1 _ _, by
              have := T3.out.2.trans (Fr.set w3 o (16 * a + j) (.int .i64 1)) (S := none') (fun i hi e => by have := Ho.out; omega)
              exact this⟩
            generalize S.getD (16 * a + j) 0 = sv at *
            clear HN T3
            have hxd : decide (0 < sv) = false := decide_eq_false (by omega)
            have ki : (16 * (a : Int) + (j : Int)) < 256 := by omega
            go_wp2_with fail
            go_roundw
            case rel => exact ⟨b + 1, _, by omega, by go_num, HP, T4⟩
            case measure => simp [intOf]; omega
          · have hltbi : ¬ (b : Int) < (m : Int) - 1 := by omega
            have HJ2 := hide HJ.out.next
            clear HJ
            go_wp2_with fail
            go_roundw
            case rel => exact ⟨a + 1, S, by omega, by go_num, HJ2, HT⟩
            case measure => simp [intOf]; omega
      · obtain rfl : a = m := by omega
        go_wp2_with (go_at_call 11; refine (speaks_any _).mono ?_; rintro e w9 ⟨rfl, HG⟩)
        go_ret
        have ho := Ho.out
        subst ho
        exact ⟨rfl, (HT.out.2.trans HG (fun _ _ x => x)).below (Nat.le_refl _) (fun _ _ x => x)⟩
  · have H1 := hide (two_bad W n 0 0 (fun h => hr h.1))
    have hc : n < 2 ∨ 16 < n := by omega
    rcases hc with c | c
    · clear hr
      go_enter Try.func4, Try.ntmps4
      go_wp2_with (first | (go_at_call 7; refine H1.out.mono ?_; rintro e w' ⟨rfl, rfl⟩) | (go_at_call 11; refine (speaks_any _).mono ?_; rintro e w9 ⟨rfl, HG⟩))
      go_ret
      exact ⟨rfl, HG.below (Nat.le_refl _) (fun _ _ x => x)⟩
    · clear hr
      go_enter Try.func4, Try.ntmps4
      go_wp2_with (first | (go_at_call 7; refine H1.out.mono ?_; rintro e w' ⟨rfl, rfl⟩) | (go_at_call 11; refine (speaks_any _).mono ?_; rintro e w9 ⟨rfl, HG⟩))
      go_ret
      exact ⟨rfl, HG.below (Nat.le_refl _) (fun _ _ x => x)⟩
end Go.Proofs.Ytbpejhokknganaa
