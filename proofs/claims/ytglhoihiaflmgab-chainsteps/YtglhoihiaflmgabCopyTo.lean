/- copyTo lays the chain's first bytes into a row, in their order, and changes nothing else. -/
import Derived.Test.YtglhoihiaflmgabParts
namespace Go.Proofs.Ytglhoihiaflmgab
open Go.ChangeShapes Go.WideShapes Go.ChangeAt Go.RowKit
section
variable {w : World} {b r N start m d o c : Nat} {bound high low size : Int} {stop : Bool}

theorem ring_cells {W : World} {r f k : Nat} {R : List Int} (h : W.heap[r]? = some (.cells (bs R) 5 (0, 0))) (hk : f + k ≤ R.length) :
    ∀ j, j < ((R.drop f).take k).length → W.cell? ⟨r, f + j, none⟩ = some (.int .u8 (((R.drop f).take k).getD j 0)) := by
  intro j hj
  simp at hj
  rw [cell_of h, bs_at _ _ (by omega)]
  have hx : f + j < R.length := by omega
  simp [List.getD, hj, hx]

set_option maxHeartbeats 400000 in
theorem copyTo_any (h : Hd w b bound high low (.slice (some ⟨r, 0, none⟩) N N) (start : Int) size stop) (R D : List Int) (hR : w.heap[r]? = some (.cells (bs R) 5 (0, 0))) (hRl : R.length = N)
    (hD : w.heap[d]? = some (.cells (bs D) 5 (0, 0))) (hdr : d ≠ r) (hN : 0 < N) (hM : N ≤ 1048576) (hs : start < N) (hm : m ≤ N) (ho : o + m ≤ D.length) :
    Calls Try.prog 27 #[.pointer (some ⟨b, 0, none⟩), .slice (some ⟨d, o, none⟩) m (m + c)] w fun e w' => e = .returned (.tuple #[]) ∧ ∃ n, (w.drewN n).setRow d (bs (splice D o (ringL R start m))) = w' := by
  have hst : start = (start + 0) % N := by rw [Nat.add_zero, Nat.mod_eq_of_lt hs]
  obtain ⟨s, hsd⟩ : ∃ s, s = min m (N - start) := ⟨_, rfl⟩
  have hp := parts_any (i := 0) (n := m) h hN hM hs (Nat.zero_le _) hm start s hst hsd
  have l1 : ((R.drop start).take s).length = s := by simp; omega
  have l2 : (R.take (m - s)).length = m - s := by simp; omega
  have s1 : s ≤ m := by omega
  have s2 : start + s ≤ N := by omega
  have k1 : ∀ n, (Builtin.copy_ #[33, 33] 3 #[.slice (some ⟨d, o, none⟩) m (m + c), .slice (some ⟨r, start, none⟩) s (N - start)]).run Try.prog (w.drewN n) = .ok (goInt s) ((w.drewN n).setRow d (bs (splice D o ((R.drop start).take s)))) := by
    intro n
    have := copy_bytes (w.drewN n) d r o start D ((R.drop start).take s) m (m + c) s (N - start) 3 hD (by rw [l1]; omega) (by rw [l1]; omega) (ring_cells (W := w.drewN n) hR (by omega))
    rw [l1] at this
    exact this
  have k2 : ∀ n, (Builtin.copy_ #[33, 33] 3 #[.slice (some ⟨d, o + s, none⟩) (m - s) (m + c - s), .slice (some ⟨r, 0, none⟩) (m - s) N]).run Try.prog ((w.drewN n).setRow d (bs (splice D o ((R.drop start).take s)))) = .ok (goInt ((m - s : Nat))) ((w.drewN n).setRow d (bs (splice D o (ringL R start m)))) := by
    intro n
    have hD2 : ((w.drewN n).setRow d (bs (splice D o ((R.drop start).take s)))).heap[d]? = some (.cells (bs (splice D o ((R.drop start).take s))) 5 (0, 0)) := setRow_heap (w.drewN n) d _ _ _ _ hD
    have hR2 : ((w.drewN n).setRow d (bs (splice D o ((R.drop start).take s)))).heap[r]? = some (.cells (bs R) 5 (0, 0)) := by rw [setRow_other _ _ _ _ (Ne.symm hdr)]; exact hR
    have hl : (splice D o ((R.drop start).take s)).length = D.length := splice_length _ _ _ (by rw [l1]; omega)
    have := copy_bytes _ d r (o + s) 0 _ (R.take (m - s)) (m - s) (m + c - s) (m - s) N 3 hD2 (by rw [l2]; omega) (by rw [l2, hl]; omega) (by
      have q := ring_cells (f := 0) (k := m - s) hR2 (by omega)
      simpa using q)
    rw [l2] at this
    rw [this, setRow_setRow]
    have e := splice_splice D ((R.drop start).take s) (R.take (m - s)) o (by rw [l1]; omega)
    rw [l1] at e
    rw [e, ringL_parts R start m (by omega) (by omega), hRl, ← hsd]
  by_cases hcs : m + c = s
  · have e1 : s = m := by omega
    have e2 : c = 0 := by omega
    subst e1 e2
    simp only [Nat.add_zero] at k1
    have k3 : ∀ n, (Builtin.copy_ #[33, 33] 3 #[.slice (some ⟨d, o, none⟩) 0 0, .slice (some ⟨r, 0, none⟩) 0 N]).run Try.prog ((w.drewN n).setRow d (bs (splice D o ((R.drop start).take s)))) = .ok (goInt 0) ((w.drewN n).setRow d (bs (splice D o ((R.drop start).take s)))) := by
      intro n
      exact run_copy_none _ 33 33 3 5 _ _ _ _ _ _ Try.underlying33 (by kernel_rfl) (by simp)
    have e3 : ringL R start s = (R.drop start).take s := by
      rw [ringL_parts R start s (by omega) (by omega), hRl, ← hsd]; simp
    rw [e3]
    clear h hsd hst hR hD hRl k2 e3
    go_enter Try.func27, Try.ntmps27
    go_wp2_with (go_at_call 24; refine hp.mono ?_; rintro e w' ⟨rfl, n1, rfl⟩)
    go_end0
    exact ⟨rfl, n1, rfl⟩
  · clear h hsd hst hR hD hRl
    go_enter Try.func27, Try.ntmps27
    go_wp2_with (go_at_call 24; refine hp.mono ?_; rintro e w' ⟨rfl, n1, rfl⟩)
    go_end0
    exact ⟨rfl, n1, rfl⟩
end
end Go.Proofs.Ytglhoihiaflmgab
