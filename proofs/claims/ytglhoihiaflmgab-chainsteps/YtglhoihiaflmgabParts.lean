/- Where in the ring a byte lies, and which two parts of the ring hold a row of places. -/
import Derived.Test.YtglhoihiaflmgabBase
namespace Go.Proofs.Ytglhoihiaflmgab
open Go.ChangeShapes Go.WideShapes Go.ChangeAt Go.RowKit
section
variable {w : World} {b r N start i n : Nat} {bound high low size : Int} {stop : Bool}

theorem place_any (h : Hd w b bound high low (.slice (some ⟨r, 0, none⟩) N N) (start : Int) size stop) (hN : 0 < N) (hM : N ≤ 1048576) (hs : start < N) (hi : i ≤ N) :
    Calls Try.prog 26 #[.pointer (some ⟨b, 0, none⟩), .int .i64 (i : Int)] w fun e w' => e = .returned (.int .i64 (((start + i) % N : Nat) : Int)) ∧ ∃ n, w.drewN n = w' := by
  have c3 := h.c3
  have c4 := h.c4
  have hz : ((N : Int) == 0) = false := by simp; omega
  clear h
  go_enter Try.func26, Try.ntmps26
  go_wp2
  go_quiet (fail)
  go_wp2
  go_ret
  exact ⟨ret_int (by simp), _, rfl⟩

theorem parts_any (h : Hd w b bound high low (.slice (some ⟨r, 0, none⟩) N N) (start : Int) size stop) (hN : 0 < N) (hM : N ≤ 1048576) (hs : start < N) (hi : i ≤ N) (hn : n ≤ N) (f s : Nat) (hf : f = (start + i) % N) (hst : s = min n (N - f)) :
    Calls Try.prog 24 #[.pointer (some ⟨b, 0, none⟩), .int .i64 (i : Int), .int .i64 (n : Int)] w fun e w' => e = .returned (.tuple #[.slice (some ⟨r, f, none⟩) s (N - f), .slice (some ⟨r, 0, none⟩) (n - s) N]) ∧ ∃ n, w.drewN n = w' := by
  have fl : f < N := by rw [hf]; exact Nat.mod_lt _ hN
  have hp := place_any h hN hM hs hi
  rw [← hf] at hp
  have c3 := h.c3
  have s1 : s ≤ n := by omega
  have s2 : f + s ≤ N := by omega
  by_cases hc : n ≤ N - f
  · have e : s = n := by omega
    subst e
    have hmin : ¬ ((N : Int) - f < s) := by omega
    clear hf hst h
    go_enter Try.func24, Try.ntmps24
    go_wp2_with (go_at_call 26; refine hp.mono ?_; rintro e w' ⟨rfl, n1, rfl⟩)
    go_quiet (fail)
    go_wp2
    go_ret2
    exact ⟨by simp, n1 + nq, by simp⟩
  · have hmin : (N : Int) - f < n := by omega
    have hsub : (N : Int) - f = s := by omega
    have hsum : (f : Int) + s = N := by omega
    clear hf hst h
    go_enter Try.func24, Try.ntmps24
    go_wp2_with (go_at_call 26; refine hp.mono ?_; rintro e w' ⟨rfl, n1, rfl⟩)
    go_quiet (fail)
    go_wp2
    go_ret2
    exact ⟨by simp; omega, n1 + nq, by simp⟩
end

/-- The ring's bytes, from a place on and round its end. -/
def ringL (R : List Int) (st n : Nat) : List Int := (R.drop st ++ R.take st).take n
theorem ringL_length (R : List Int) (st n : Nat) (h : st ≤ R.length) (hn : n ≤ R.length) : (ringL R st n).length = n := by
  simp [ringL]; omega
theorem ringL_take (R : List Int) (st n m : Nat) (h : m ≤ n) : (ringL R st n).take m = ringL R st m := by
  simp [ringL, List.take_take, Nat.min_eq_left h]
theorem ringL_parts (R : List Int) (st n : Nat) (hs : st ≤ R.length) (hn : n ≤ R.length) : ringL R st n = (R.drop st).take (min n (R.length - st)) ++ R.take (n - min n (R.length - st)) := by
  unfold ringL
  rw [List.take_append]
  congr 1
  · rw [List.take_eq_take_iff]; simp
  · rw [List.take_take, List.length_drop]
    congr 1
    omega

/-- What a copy leaves: k of the source's bytes lie in the row from o on. -/
def splice (D : List Int) (o : Nat) (A : List Int) : List Int := D.take o ++ A ++ D.drop (o + A.length)
theorem splice_length (D : List Int) (o : Nat) (A : List Int) (h : o + A.length ≤ D.length) : (splice D o A).length = D.length := by
  simp [splice]; omega
theorem splice_splice (D A C : List Int) (o : Nat) (h : o + A.length ≤ D.length) : splice (splice D o A) (o + A.length) C = splice D o (A ++ C) := by
  have e1 : (D.take o ++ A).length = o + A.length := by simp; omega
  unfold splice
  rw [show (D.take o ++ A ++ D.drop (o + A.length)).take (o + A.length) = D.take o ++ A by rw [← e1, List.take_left]]
  rw [show (D.take o ++ A ++ D.drop (o + A.length)).drop (o + A.length + C.length) = (D.drop (o + A.length)).drop C.length by
    rw [← List.drop_drop, ← e1, List.drop_left]]
  simp [List.drop_drop, Nat.add_assoc]

theorem copy_bytes (W : World) (d r o f : Nat) (D S : List Int) (dLen dCap sLen sCap : Nat) (ty : TypeId) (hd : W.heap[d]? = some (.cells (bs D) 5 (0, 0))) (hk : S.length = min sLen dLen) (ho : o + S.length ≤ D.length)
    (hs : ∀ j, j < S.length → W.cell? ⟨r, f + j, none⟩ = some (.int .u8 (S.getD j 0))) :
    (Builtin.copy_ #[33, 33] ty #[.slice (some ⟨d, o, none⟩) dLen dCap, .slice (some ⟨r, f, none⟩) sLen sCap]).run Try.prog W = .ok (goInt S.length) (W.setRow d (bs (splice D o S))) := by
  have h := run_copy_row Try.prog W 33 33 ty 5 d o dLen dCap ⟨r, f, none⟩ sLen sCap (bs D) 5 (S.map fun x => Value.int .u8 x) Try.underlying33 (by kernel_rfl) hd (by simpa using hk)
    (by
      intro j v hj
      obtain ⟨hj1, hj2⟩ := List.getElem?_eq_some_iff.1 hj
      have e : (⟨r, f, none⟩ : Addr).add j = ⟨r, f + j, none⟩ := by unfold Addr.add; split <;> simp_all
      have hjl : j < S.length := by simpa using hj1
      rw [e, hs j hjl, ← hj2]
      simp [List.getD, hjl])
    (by simpa [bs_size] using ho) (by intro v hv; obtain ⟨x, _, rfl⟩ := List.mem_map.1 hv; rfl)
  rw [h]
  simp only [List.length_map]
  congr 2
  simp [bs, splice]
end Go.Proofs.Ytglhoihiaflmgab
