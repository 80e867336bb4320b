/- Put: as many of the first bytes as there is room for lie behind the others. -/
import Derived.Test.YtglhoihiaflmgabChain
namespace Go.Proofs.Ytglhoihiaflmgab
open Go.ChangeShapes Go.WideShapes Go.ChangeAt Go.RowKit

theorem put_zero {w : World} {b r bound high low : Nat} {L : List Int} {stop : Bool} (h : Chain w b r bound high low L stop) (a : Option Addr) (sc : Nat) :
    Calls Try.prog 11 #[.pointer (some ⟨b, 0, none⟩), .slice a 0 sc] w fun e w' => e = .returned (.int .i64 0) ∧ ∃ n, w.drewN n = w' := by
  obtain ⟨rv, st, hd⟩ := h.hd
  have hl := h.fits
  have hm := h.marks.h3
  have hp := hide (room_any hd (by omega) (by omega) (by omega))
  clear hd h
  go_enter Try.func11, Try.ntmps11
  go_wp2_with (go_at_call 21; refine hp.out.mono ?_; rintro e w' ⟨rfl, n1, rfl⟩)
  go_ret
  exact ⟨rfl, n1, rfl⟩

theorem put_full {w : World} {b r bound high low : Nat} {L : List Int} {stop : Bool} (h : Chain w b r bound high low L stop) (a : Option Addr) (sl sc : Nat) (hf : L.length = bound) :
    Calls Try.prog 11 #[.pointer (some ⟨b, 0, none⟩), .slice a sl sc] w fun e w' => e = .returned (.int .i64 0) ∧ ∃ n, w.drewN n = w' := by
  obtain ⟨rv, st, hd⟩ := h.hd
  have hm := h.marks.h3
  have hp := room_any hd (by omega) (by omega) (by omega)
  rw [hf, Int.sub_self] at hp
  have HP := hide hp
  clear hd h hp hf
  go_enter Try.func11, Try.ntmps11
  go_wp2_with (go_at_call 21; refine HP.out.mono ?_; rintro e w' ⟨rfl, n1, rfl⟩)
  all_goals
    go_ret
    exact ⟨ret_int (by omega), n1, rfl⟩

theorem put_copies {w : World} {b r bound high low : Nat} {L : List Int} {stop : Bool} {R : List Int} {st : Nat} (f : Full w b r bound high low L stop R st) {sb : Nat} (sr : sb ≠ r) (X : List Int) (sc s k fp so : Nat)
    (hsX : s ≤ X.length) (hXc : X.length ≤ sc) (hsk : s ≤ k) (hkX : k ≤ X.length) (hfs : fp + s ≤ R.length) (hks : k - s ≤ R.length)
    (hcell : ∀ j, j < X.length → w.cell? ⟨sb, so + j, none⟩ = some (.int .u8 (X.getD j 0))) :
    (∀ n, (Builtin.copy_ #[33, 33] 3 #[.slice (some ⟨r, fp, none⟩) s (R.length - fp), .slice (some ⟨sb, so, none⟩) X.length sc]).run Try.prog (w.drewN n) = .ok (goInt s) ((w.drewN n).setRow r (bs (splice R fp (X.take s))))) ∧
    (∀ n, (Builtin.copy_ #[33, 33] 3 #[.slice (some ⟨r, 0, none⟩) (k - s) R.length, .slice (some ⟨sb, so + s, none⟩) (X.length - s) (sc - s)]).run Try.prog ((w.drewN n).setRow r (bs (splice R fp (X.take s)))) = .ok (goInt ((k - s : Nat))) ((w.drewN n).setRow r (bs (splice (splice R fp (X.take s)) 0 ((X.drop s).take (k - s)))))) ∧
    (sc = s → ∀ n a c, (Builtin.copy_ #[33, 33] 3 #[.slice (some ⟨r, 0, none⟩) (k - s) R.length, .slice a 0 c]).run Try.prog ((w.drewN n).setRow r (bs (splice R fp (X.take s)))) = .ok (goInt 0) ((w.drewN n).setRow r (bs (splice (splice R fp (X.take s)) 0 ((X.drop s).take (k - s)))))) := by
  have l1 : (X.take s).length = s := by simp; omega
  have l2 : ((X.drop s).take (k - s)).length = k - s := by simp; omega
  have hR : ∀ n, ((w.drewN n).setRow r (bs (splice R fp (X.take s)))).heap[r]? = some (.cells (bs (splice R fp (X.take s))) 5 (0, 0)) := fun n => setRow_heap (w.drewN n) r _ _ _ _ f.ring
  have hl : (splice R fp (X.take s)).length = R.length := splice_length _ _ _ (by rw [l1]; omega)
  refine ⟨fun n => ?_, fun n => ?_, fun e n a c => ?_⟩
  · have := copy_bytes (w.drewN n) r sb fp so R (X.take s) s (R.length - fp) X.length sc 3 f.ring (by rw [l1]; omega) (by rw [l1]; omega) (fun j hj => by
      rw [l1] at hj
      rw [show (X.take s).getD j 0 = X.getD j 0 by simp [List.getD, hj]]
      exact hcell j (by omega))
    rw [l1] at this
    exact this
  · have := copy_bytes ((w.drewN n).setRow r (bs (splice R fp (X.take s)))) r sb 0 (so + s) _ ((X.drop s).take (k - s)) (k - s) R.length (X.length - s) (sc - s) 3 (hR n) (by rw [l2]; omega) (by rw [l2, hl]; omega) (fun j hj => by
      rw [l2] at hj
      rw [show ((X.drop s).take (k - s)).getD j 0 = X.getD (s + j) 0 by simp [List.getD, hj]]
      have h := hcell (s + j) (by omega)
      rw [show so + s + j = so + (s + j) by omega]
      refine (World.cell?_of_block (w := w) (a := ⟨sb, so + (s + j), none⟩) ?_).trans h
      exact setRow_other (w.drewN n) r sb _ sr)
    rw [l2] at this
    rw [this, setRow_setRow]
  · rw [run_copy_none ((w.drewN n).setRow r (bs (splice R fp (X.take s)))) 33 33 3 5 _ _ _ _ _ _ Try.underlying33 (by kernel_rfl) (by show min 0 (k - s) = 0; omega)]
    have e2 : splice (splice R fp (X.take s)) 0 ((X.drop s).take (k - s)) = splice R fp (X.take s) := by
      have : (X.drop s).take (k - s) = [] := by
        apply List.eq_nil_of_length_eq_zero; rw [l2]; omega
      rw [this]; simp [splice]
    rw [e2]

theorem put_done {w w1 W : World} {b r r1 bound high low : Nat} {L : List Int} {stop stop' : Bool} {R : List Int} {st : Nat} (f : Full w1 b r1 bound high low L stop R st) (F1 : Fr (fun i => i = b) w w1) (hr : r1 = r ∨ w.heap.size ≤ r1) (X : List Int) (s k fp : Nat) (R2 : List Int) (M : Marks bound high low)
    (hR : L.length + k ≤ R.length) (hX : k ≤ X.length) (hR2 : R2 = splice (splice R fp (X.take s)) 0 ((X.drop s).take (k - s))) (hfp : fp = (st + L.length) % R.length) (hs : s = min k (R.length - fp))
    (hWb : Hd W b bound high low (.slice (some ⟨r1, 0, none⟩) R.length R.length) st ((L.length : Int) + k) stop') (hWr : W.heap[r1]? = some (.cells (bs R2) 5 (0, 0))) (F2 : Fr (fun i => i = b ∨ i = r1) w1 W) :
    Fr (fun i => i = b ∨ i = r) w W ∧ ∃ r', Chain W b r' bound high low (L ++ X.take k) stop' ∧ (r' = r ∨ w.heap.size ≤ r') := by
  have hst := f.st
  have fl : fp < R.length := by rw [hfp]; exact Nat.mod_lt _ (by omega)
  have l1 : (X.take s).length = s := by simp; omega
  have l2 : ((X.drop s).take (k - s)).length = k - s := by simp; omega
  have l3 : (splice R fp (X.take s)).length = R.length := splice_length _ _ _ (by rw [l1]; omega)
  have l4 : R2.length = R.length := by rw [hR2, splice_length _ _ _ (by rw [l2, l3]; omega), l3]
  have hc : ringL R2 st (L.length + k) = L ++ X.take k := by
    rw [hR2, ring_put R X st L.length k fp s hst hR hX hfp hs, f.cont]
  have el : (L ++ X.take k).length = L.length + k := by simp; omega
  refine ⟨(F1.mono fun i _ h => Or.inl h).trans F2 ?_, r1, ⟨M, .inr ⟨R2, st, ⟨?_, hWr, f.ne, ?_, ?_, ?_, ?_⟩⟩⟩, hr⟩
  · rintro i hi (h | h)
    · exact .inl h
    · rcases hr with e | e
      · exact .inr (by rw [h, e])
      · exact absurd hi (by omega)
  · rw [l4, el]; simpa using hWb
  · rw [l4]; exact hst
  · rw [l4, el]; exact hR
  · rw [l4]; exact f.top
  · rw [el]; exact hc

section
variable {W : World} {b r1 : Nat} {bound high low : Int} {rv : Value} {st sz : Int} {stop : Bool}
theorem put_hdA (h : Hd W b bound high low rv st sz stop) (q : Nat) (v : Int) (stop' : Bool) (hs : stop' = true) :
    Hd (((W.setCell ⟨b, 5, none⟩ (.int .i64 v)).drewN q).setCell ⟨b, 6, none⟩ (.bool true)) b bound high low rv st v stop' := by
  subst hs
  have h2 := hp_set h 5 (.int .i64 v)
  exact hp_set (W := (W.setCell ⟨b, 5, none⟩ (.int .i64 v)).drewN q) h2 6 (.bool true)
theorem put_hdB (h : Hd W b bound high low rv st sz stop) (q : Nat) (v : Int) (stop' : Bool) (hs : stop' = stop) :
    Hd ((W.setCell ⟨b, 5, none⟩ (.int .i64 v)).drewN q) b bound high low rv st v stop' := by
  subst hs
  exact hp_set h 5 (.int .i64 v)
theorem put_ring {o : Obj} (h : W.heap[r1]? = some o) (nb : b ≠ r1) (q : Nat) (v v' : Value) :
    (((W.setCell ⟨b, 5, none⟩ v).drewN q).setCell ⟨b, 6, none⟩ v').heap[r1]? = some o := by
  rw [hp_set_other _ _ _ _ _ (Ne.symm nb)]
  exact (hp_set_other _ _ _ _ _ (Ne.symm nb)).trans h
theorem put_ringB {o : Obj} (h : W.heap[r1]? = some o) (nb : b ≠ r1) (q : Nat) (v : Value) :
    ((W.setCell ⟨b, 5, none⟩ v).drewN q).heap[r1]? = some o :=
  (hp_set_other _ _ _ _ _ (Ne.symm nb)).trans h
end
theorem stop_yes {stop : Bool} {high l k : Nat} (h : (high : Int) ≤ (l : Int) + k) : (stop || decide (high ≤ l + k)) = true := by
  rw [decide_eq_true (by omega : high ≤ l + k)]; simp
theorem stop_no {stop : Bool} {high l k : Nat} (h : (l : Int) + k < high) : (stop || decide (high ≤ l + k)) = stop := by
  rw [decide_eq_false (by omega : ¬ high ≤ l + k)]; simp
section
variable {w1 : World} {b r1 n : Nat} {c : Array Value}
theorem put_frA (h : ∀ i, i ≠ r1 → ((w1.drewN n).setRow r1 c).heap[i]? = (w1.drewN n).heap[i]?) (q : Nat) (v v' : Value) :
    Fr (fun i => i = b ∨ i = r1) w1 (((((w1.drewN n).setRow r1 c).setCell ⟨b, 5, none⟩ v).drewN q).setCell ⟨b, 6, none⟩ v') := by
  refine ⟨rfl, rfl, rfl, by simp, fun k _ hk => ?_⟩
  rw [hp_set_other _ _ _ _ _ (fun e => hk (.inl e))]
  exact (hp_set_other _ _ _ _ _ (fun e => hk (.inl e))).trans (h k (fun e => hk (.inr e)))
theorem put_frB (h : ∀ i, i ≠ r1 → ((w1.drewN n).setRow r1 c).heap[i]? = (w1.drewN n).heap[i]?) (q : Nat) (v : Value) :
    Fr (fun i => i = b ∨ i = r1) w1 ((((w1.drewN n).setRow r1 c).setCell ⟨b, 5, none⟩ v).drewN q) := by
  refine ⟨rfl, rfl, rfl, by simp, fun k _ hk => ?_⟩
  exact (hp_set_other _ _ _ _ _ (fun e => hk (.inl e))).trans (h k (fun e => hk (.inr e)))
end

set_option maxHeartbeats 1000000 in
theorem put_some {w : World} {b r bound high low : Nat} {L : List Int} {stop : Bool} (h : Chain w b r bound high low L stop) (X : List Int) (sb so sc k : Nat) (hs1 : sb ≠ b) (hs2 : sb ≠ r) (hlen : X.length ≤ 9223372036854775807) (hsc : X.length ≤ sc)
    (hsb : sb < w.heap.size) (hcell : ∀ j, j < X.length → w.cell? ⟨sb, so + j, none⟩ = some (.int .u8 (X.getD j 0))) (hk : 0 < k) (hkd : k = min X.length (bound - L.length)) :
    Calls Try.prog 11 #[.pointer (some ⟨b, 0, none⟩), .slice (some ⟨sb, so, none⟩) X.length sc] w fun e w' => e = .returned (.int .i64 (k : Int)) ∧ Fr (fun i => i = b ∨ i = r) w w' ∧
      ∃ r', Chain w' b r' bound high low (L ++ X.take k) (stop || decide (high ≤ L.length + k)) ∧ (r' = r ∨ w.heap.size ≤ r') := by
  obtain ⟨rv, st0, hd⟩ := h.hd
  have hl := h.fits
  have hm := h.marks.h3
  have HM := hide h.marks
  have hp := hide (room_any hd (by omega) (by omega) (by omega))
  have hg := fun n => grow_any (h.drewN n) k hk (by omega)
  rw [show ((L.length + k : Nat) : Int) = (L.length : Int) + k by omega] at hg
  have HG := hide hg
  have hz : ((k : Int) == 0) = false := by simp; omega
  have d5 := hd.c5
  have HC := hide hcell
  have kx : k ≤ X.length := by omega
  clear hg h hcell
  have cs : (¬ ((bound : Int) - L.length < X.length) ∧ ((X.length : Nat) : Int) = (k : Int)) ∨ ((bound : Int) - L.length < X.length ∧ (bound : Int) - L.length = (k : Int)) := by omega
  clear hkd
  rcases cs with ⟨q1, q2⟩ | ⟨q1, q2⟩
  all_goals
    go_enter Try.func11, Try.ntmps11
    go_wp2_with fail
    refine hp.out.mono ?_
    rintro e w' ⟨rfl, n1, rfl⟩
    go_wp2_with fail
    refine (HG.out n1).mono ?_
    rintro e w1 ⟨rfl, F1, r1, R, st, f, hR, hr⟩
    obtain ⟨fp, Hfp⟩ : ∃ fp, Hid (fp = (st + L.length) % R.length) := ⟨_, hide rfl⟩
    obtain ⟨s, Hs⟩ : ∃ s, Hid (s = min k (R.length - fp)) := ⟨_, hide rfl⟩
    have top := f.top
    have fit := f.fits
    have fst := f.st
    have fpl : fp < R.length := by rw [Hfp.out]; exact Nat.mod_lt _ (by omega)
    have s1 : s ≤ k := by have := Hs.out; omega
    have s2 : fp + s ≤ R.length := by have := Hs.out; omega
    have hp2 := hide (parts_any (i := L.length) (n := k) f.hd (by omega) (by omega) fst fit (by omega) fp s Hfp.out Hs.out)
    have sr : sb ≠ r1 := by
      rcases hr with e | e
      · rw [e]; exact hs2
      · have : w.heap.size ≤ r1 := e
        omega
    have sw : w1.heap[sb]? = w.heap[sb]? := F1.block sb hsb hs1
    have K0 := put_copies f sr X sc s k fp so (by omega) hsc s1 (by omega) s2 (by omega) (fun j hj => (World.cell?_of_block (w := w) (a := ⟨sb, so + j, none⟩) sw).trans (HC.out j hj))
    obtain ⟨R1, HR1⟩ : ∃ R1, Hid (R1 = splice R fp (X.take s)) := ⟨_, hide rfl⟩
    obtain ⟨R2, HR2⟩ : ∃ R2, Hid (R2 = splice (splice R fp (X.take s)) 0 ((X.drop s).take (k - s))) := ⟨_, hide rfl⟩
    rw [← HR2.out, ← HR1.out] at K0
    have K := hide K0
    clear sw K0
    have g5 := f.hd.c5
    have nb : b ≠ r1 := Ne.symm f.ne
    have hW : ∀ n, Hd ((w1.drewN n).setRow r1 (bs R2)) b bound high low (.slice (some ⟨r1, 0, none⟩) R.length R.length) st L.length stop := fun n => (setRow_other (w1.drewN n) r1 b _ nb).trans f.hd
    have m1 := fun n => (hW n).c1
    have m5 := fun n => (hW n).c5
    have m6 := fun n => (hW n).c6
    have z5 := fun n => (hW n).fz 5
    have z6 := fun n => (hW n).fz 6
    have HW := hide hW
    have FF := hide f
    clear f hW
    go_wp2_with fail
    refine hp2.out.mono ?_
    rintro e w' ⟨rfl, n2, rfl⟩
    have K1 := K.out.1
    have K2 := K.out.2.1
    have F1' : Fr (fun i => i = b) w w1 := ⟨F1.os, F1.tape, F1.output, F1.size, F1.block⟩
    have fin := hide (fun W (stop' : Bool) => put_done (W := W) (stop' := stop') FF.out F1' hr X s k fp R2 HM.out hR kx HR2.out Hfp.out Hs.out)
    have ring2 := hide (fun n => setRow_heap (w1.drewN n) r1 (bs R) (bs R2) 5 (0, 0) FF.out.ring)
    have oth := hide (fun n i h => setRow_other (w1.drewN n) r1 i (bs R2) h)
    clear F1'
    by_cases hcs : sc = s
    · have K3 := K.out.2.2 hcs
      first
      | (exfalso; omega)
      | (subst hcs
         by_cases hst : (high : Int) ≤ L.length + k
         · go_wp2_with fail
           go_quiet (fail)
           go_wp2
           go_ret
           exact ⟨rfl, fin.out _ _ (put_hdA (HW.out n2) nq _ _ (stop_yes hst)) (put_ring (ring2.out n2) nb nq _ _) (put_frA (oth.out n2) nq _ _)⟩
         · go_wp2_with fail
           go_quiet (fail)
           go_wp2
           go_ret
           exact ⟨rfl, fin.out _ _ (put_hdB (HW.out n2) nq _ _ (stop_no hst)) (put_ringB (ring2.out n2) nb nq _) (put_frB (oth.out n2) nq _)⟩)
    · by_cases hst : (high : Int) ≤ L.length + k
      · go_wp2_with fail
        go_quiet (fail)
        go_wp2
        go_ret
        exact ⟨rfl, fin.out _ _ (put_hdA (HW.out n2) nq _ _ (stop_yes hst)) (put_ring (ring2.out n2) nb nq _ _) (put_frA (oth.out n2) nq _ _)⟩
      · go_wp2_with fail
        go_quiet (fail)
        go_wp2
        go_ret
        exact ⟨rfl, fin.out _ _ (put_hdB (HW.out n2) nq _ _ (stop_no hst)) (put_ringB (ring2.out n2) nb nq _) (put_frB (oth.out n2) nq _)⟩
end Go.Proofs.Ytglhoihiaflmgab
