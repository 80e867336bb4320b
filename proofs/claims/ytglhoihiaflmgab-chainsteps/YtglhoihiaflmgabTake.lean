/- Peek, Drop and Take: the first bytes, in a row of their own; and what is left. -/
import Derived.Test.YtglhoihiaflmgabPut
namespace Go.Proofs.Ytglhoihiaflmgab
open Go.ChangeShapes Go.WideShapes Go.ChangeAt Go.RowKit

def kOf (n : Int) (l : Nat) : Nat := min n.toNat l
theorem clipI_kOf (n : Int) (l : Nat) : clipI n (l : Int) = (kOf n l : Int) := by unfold clipI kOf; omega

theorem clip_chain {w : World} {b r bound high low : Nat} {L : List Int} {stop : Bool} (h : Chain w b r bound high low L stop) (n : Int) :
    Calls Try.prog 25 #[.pointer (some ⟨b, 0, none⟩), .int .i64 n] w fun e w' => e = .returned (.int .i64 (kOf n L.length : Int)) ∧ w = w' := by
  obtain ⟨rv, st, hd⟩ := h.hd
  have := clip_any n hd (by omega)
  rw [clipI_kOf] at this
  exact this

theorem peek_zero {w : World} {b r bound high low : Nat} {L : List Int} {stop : Bool} (h : Chain w b r bound high low L stop) (n : Int) (hk : kOf n L.length = 0) :
    Calls Try.prog 16 #[.pointer (some ⟨b, 0, none⟩), .int .i64 n] w fun e w' => e = .returned (.slice none 0 0) ∧ w = w' := by
  have hc := clip_chain h n
  rw [hk] at hc
  have HC := hide hc
  clear hc h hk
  go_enter Try.func16, Try.ntmps16
  go_wp2_with (go_at_call 25; refine HC.out.mono ?_; rintro e w' ⟨rfl, rfl⟩)
  go_ret
  exact ⟨rfl, rfl⟩

/-- What Peek leaves: a new row with the bytes. -/
structure Made (w w' : World) (l : List Int) : Prop where
  fr : Fr (fun _ => False) w w'
  sz : w'.heap.size = w.heap.size + 1
  row : w'.heap[w.heap.size]? = some (.cells (bs l) 5 (0, 0))

theorem made_of {w : World} {q : Nat} {c c0 : Array Value} {l : List Int} (hc : c = bs l) : Made w (((w.alloc (.cells c0 5)).drewN q).setRow w.heap.size c) l := by
  subst hc
  refine ⟨⟨rfl, rfl, rfl, by simp, fun i hi _ => ?_⟩, by simp, setRow_heap _ _ _ _ _ _ (hp_new w _)⟩
  rw [setRow_other _ _ _ _ (by omega)]
  exact Below.heap_alloc w _ i hi

theorem splice_all (A : List Int) : splice (List.replicate A.length 0) 0 A = A := by simp [splice]

theorem peek_some {w : World} {b r bound high low : Nat} {L : List Int} {stop : Bool} (h : Chain w b r bound high low L stop) (n : Int) (k : Nat) (hk : kOf n L.length = k) (h0 : 0 < k) :
    Calls Try.prog 16 #[.pointer (some ⟨b, 0, none⟩), .int .i64 n] w fun e w' => e = .returned (.slice (some ⟨w.heap.size, 0, none⟩) k k) ∧ Made w w' (L.take k) := by
  have hkl : k ≤ L.length := by rw [← hk]; unfold kOf; omega
  have hm := h.marks.h3
  have hc := clip_chain h n
  rw [hk] at hc
  have HC := hide hc
  rcases h.body with ⟨_, rfl⟩ | ⟨R, st, f⟩
  · simp at hkl; omega
  have l1 := f.st
  have l2 := f.fits
  have l3 := f.top
  have hmk := make_bytes k (by omega)
  have hlt := f.hd.lt
  have hrl : r < w.heap.size := (Array.getElem?_eq_some_iff.1 f.ring).1
  have hp := copyTo_any (w := w.alloc (.cells (bs (List.replicate k 0)) 5)) (m := k) (d := w.heap.size) (o := 0) (c := 0) ((Below.heap_alloc w _ b hlt).trans f.hd) R (List.replicate k 0) ((Below.heap_alloc w _ r hrl).trans f.ring) rfl (hp_new w _) (by omega) (by omega) (by omega) l1 (by omega) (by simp)
  rw [Nat.add_zero] at hp
  have HP := hide hp
  have hz : ((k : Int) == 0) = false := by simp; omega
  have ec : splice (List.replicate k 0) 0 (ringL R st k) = L.take k := by
    have e1 : ringL R st k = L.take k := by
      have := ringL_take R st L.length k hkl
      rw [f.cont] at this
      exact this.symm
    have e2 : (L.take k).length = k := by simp; omega
    rw [e1]
    have := splice_all (L.take k)
    rwa [e2] at this
  have EC := hide ec
  clear hc h hk f hp ec
  go_enter Try.func16, Try.ntmps16
  go_wp2_with fail
  refine HC.out.mono ?_
  rintro e w' ⟨rfl, rfl⟩
  go_wp2_with fail
  refine HP.out.mono ?_
  rintro e w' ⟨rfl, q, rfl⟩
  go_wp2_with fail
  go_ret
  exact ⟨rfl, made_of (by rw [EC.out])⟩

theorem drop_zero {w : World} {b r bound high low : Nat} {L : List Int} {stop : Bool} (h : Chain w b r bound high low L stop) (n : Int) (hk : kOf n L.length = 0) :
    Calls Try.prog 15 #[.pointer (some ⟨b, 0, none⟩), .int .i64 n] w fun e w' => e = .returned (.int .i64 0) ∧ w = w' := by
  have hc := clip_chain h n
  rw [hk] at hc
  have HC := hide hc
  clear hc h hk
  go_enter Try.func15, Try.ntmps15
  go_wp2_with (go_at_call 25; refine HC.out.mono ?_; rintro e w' ⟨rfl, rfl⟩)
  go_ret
  exact ⟨rfl, rfl⟩

theorem dstop_yes {stop : Bool} {low l k : Nat} (h : (l : Int) - k ≤ low) : (stop && decide (low < l - k)) = false := by
  rw [decide_eq_false (by omega : ¬ low < l - k)]; simp
theorem dstop_no {stop : Bool} {low l k : Nat} (h : (low : Int) < (l : Int) - k) : (stop && decide (low < l - k)) = stop := by
  rw [decide_eq_true (by omega : low < l - k)]; simp
section
variable {w : World} {b : Nat} {bound high low : Int} {rv : Value} {st sz : Int} {stop : Bool}
theorem drop_hdA (h : Hd w b bound high low rv st sz stop) (q nq : Nat) (a c : Int) (stop' : Bool) (hs : stop' = false) :
    Hd (((((w.drewN q).setCell ⟨b, 4, none⟩ (.int .i64 a)).setCell ⟨b, 5, none⟩ (.int .i64 c)).drewN nq).setCell ⟨b, 6, none⟩ (.bool false)) b bound high low rv a c stop' := by
  subst hs
  have h1 := hp_set (W := w.drewN q) h 4 (.int .i64 a)
  have h2 := hp_set h1 5 (.int .i64 c)
  exact hp_set (W := (((w.drewN q).setCell ⟨b, 4, none⟩ (.int .i64 a)).setCell ⟨b, 5, none⟩ (.int .i64 c)).drewN nq) h2 6 (.bool false)
theorem drop_hdB (h : Hd w b bound high low rv st sz stop) (q nq : Nat) (a c : Int) (stop' : Bool) (hs : stop' = stop) :
    Hd ((((w.drewN q).setCell ⟨b, 4, none⟩ (.int .i64 a)).setCell ⟨b, 5, none⟩ (.int .i64 c)).drewN nq) b bound high low rv a c stop' := by
  subst hs
  have h1 := hp_set (W := w.drewN q) h 4 (.int .i64 a)
  exact hp_set h1 5 (.int .i64 c)
theorem drop_frA (q nq : Nat) (u v x : Value) : Fr (fun i => i = b) w (((((w.drewN q).setCell ⟨b, 4, none⟩ u).setCell ⟨b, 5, none⟩ v).drewN nq).setCell ⟨b, 6, none⟩ x) := by
  refine ⟨rfl, rfl, rfl, by simp, fun k _ hk => ?_⟩
  rw [hp_set_other _ _ _ _ _ hk]
  exact (hp_set_other _ _ _ _ _ hk).trans (hp_set_other _ _ _ _ _ hk)
theorem drop_frB (q nq : Nat) (u v : Value) : Fr (fun i => i = b) w ((((w.drewN q).setCell ⟨b, 4, none⟩ u).setCell ⟨b, 5, none⟩ v).drewN nq) := by
  refine ⟨rfl, rfl, rfl, by simp, fun k _ hk => ?_⟩
  exact (hp_set_other _ _ _ _ _ hk).trans (hp_set_other _ _ _ _ _ hk)
end
theorem drop_done {w W : World} {b r bound high low : Nat} {L : List Int} {stop stop' : Bool} {R : List Int} {st k : Nat} (f : Full w b r bound high low L stop R st) (M : Marks bound high low) (hk : k ≤ L.length)
    (hW : Hd W b bound high low (.slice (some ⟨r, 0, none⟩) R.length R.length) (((st : Int) + k) % R.length) ((L.length : Int) - k) stop') (F : Fr (fun i => i = b) w W) :
    Fr (fun i => i = b) w W ∧ Chain W b r bound high low (L.drop k) stop' := by
  have l1 := f.st
  have l2 := f.fits
  have el : (L.drop k).length = L.length - k := by simp
  refine ⟨F, M, .inr ⟨R, (st + k) % R.length, ⟨?_, F.hd f.ne f.ring, f.ne, Nat.mod_lt _ (by omega), ?_, f.top, ?_⟩⟩⟩
  · rw [el, show ((L.length - k : Nat) : Int) = (L.length : Int) - k by omega]
    simpa using hW
  · rw [el]; omega
  · rw [el, ring_drop R st L.length k l1 l2 hk, f.cont]

theorem drop_some {w : World} {b r bound high low : Nat} {L : List Int} {stop : Bool} (h : Chain w b r bound high low L stop) (n : Int) (k : Nat) (hk : kOf n L.length = k) (h0 : 0 < k) :
    Calls Try.prog 15 #[.pointer (some ⟨b, 0, none⟩), .int .i64 n] w fun e w' => e = .returned (.int .i64 (k : Int)) ∧ Fr (fun i => i = b) w w' ∧ Chain w' b r bound high low (L.drop k) (stop && decide (low < L.length - k)) := by
  have hkl : k ≤ L.length := by rw [← hk]; unfold kOf; omega
  have hm := h.marks.h3
  have HM := hide h.marks
  have hc := clip_chain h n
  rw [hk] at hc
  have HC := hide hc
  rcases h.body with ⟨_, rfl⟩ | ⟨R, st, f⟩
  · simp at hkl; omega
  have l1 := f.st
  have l2 := f.fits
  have l3 := f.top
  have hp := hide (place_any (i := k) f.hd (by omega) (by omega) l1 (by omega))
  have hz : ((k : Int) == 0) = false := by simp; omega
  have c2 := f.hd.c2
  have c4 := f.hd.c4
  have c5 := f.hd.c5
  have c6 := f.hd.c6
  have z4 := f.hd.fz 4
  have z5 := f.hd.fz 5
  have z6 := f.hd.fz 6
  have FF := hide f
  clear hc h hk f
  by_cases hst : (L.length : Int) - k ≤ low
  · go_enter Try.func15, Try.ntmps15
    go_wp2_with fail
    refine HC.out.mono ?_
    rintro e w' ⟨rfl, rfl⟩
    go_wp2_with fail
    refine hp.out.mono ?_
    rintro e w' ⟨rfl, q, rfl⟩
    go_wp2_with fail
    go_quiet (fail)
    go_wp2
    go_ret
    exact ⟨rfl, drop_done FF.out HM.out hkl (drop_hdA FF.out.hd q nq _ _ _ (dstop_yes hst)) (drop_frA q nq _ _ _)⟩
  · go_enter Try.func15, Try.ntmps15
    go_wp2_with fail
    refine HC.out.mono ?_
    rintro e w' ⟨rfl, rfl⟩
    go_wp2_with fail
    refine hp.out.mono ?_
    rintro e w' ⟨rfl, q, rfl⟩
    go_wp2_with fail
    go_quiet (fail)
    go_wp2
    go_ret
    exact ⟨rfl, drop_done FF.out HM.out hkl (drop_hdB FF.out.hd q nq _ _ _ (dstop_no hst)) (drop_frB q nq _ _)⟩

theorem take_zero {w : World} {b r bound high low : Nat} {L : List Int} {stop : Bool} (h : Chain w b r bound high low L stop) (n : Int) (hk : kOf n L.length = 0) :
    Calls Try.prog 13 #[.pointer (some ⟨b, 0, none⟩), .int .i64 n] w fun e w' => e = .returned (.slice none 0 0) ∧ w = w' := by
  have h1 := hide (peek_zero h n hk)
  have h2 := hide (drop_zero h 0 (by unfold kOf; simp))
  clear h hk
  go_enter Try.func13, Try.ntmps13
  go_wp2_with fail
  refine h1.out.mono ?_
  rintro e w' ⟨rfl, rfl⟩
  go_wp2_with fail
  refine h2.out.mono ?_
  rintro e w' ⟨rfl, rfl⟩
  go_wp2_with fail
  go_ret
  exact ⟨rfl, rfl⟩

theorem take_some {w : World} {b r bound high low : Nat} {L : List Int} {stop : Bool} (h : Chain w b r bound high low L stop) (n : Int) (k : Nat) (hk : kOf n L.length = k) (h0 : 0 < k) :
    Calls Try.prog 13 #[.pointer (some ⟨b, 0, none⟩), .int .i64 n] w fun e w' => e = .returned (.slice (some ⟨w.heap.size, 0, none⟩) k k) ∧ Fr (fun i => i = b) w w' ∧ w.heap.size < w'.heap.size ∧ w'.heap[w.heap.size]? = some (.cells (bs (L.take k)) 5 (0, 0)) ∧
      Chain w' b r bound high low (L.drop k) (stop && decide (low < L.length - k)) := by
  have hkl : k ≤ L.length := by rw [← hk]; unfold kOf; omega
  have h1 := hide (peek_some h n k hk h0)
  obtain ⟨rv, st, hd⟩ := h.hd
  have hb : b < w.heap.size := hd.lt
  have h2 := hide (fun (W : World) (M : Made w W (L.take k)) => drop_some (h.frame M.fr (fun x => x) (fun x => x)) (k : Int) k (by unfold kOf; omega) h0)
  clear h hk hd
  go_enter Try.func13, Try.ntmps13
  go_wp2_with fail
  refine h1.out.mono ?_
  rintro e w' ⟨rfl, M⟩
  have h3 := hide (h2.out _ M)
  have MM := hide M
  clear M
  go_wp2_with fail
  refine h3.out.mono ?_
  rintro e w2 ⟨rfl, F, C⟩
  have FF := hide F
  have CC := hide C
  clear F C
  go_wp2_with fail
  go_ret
  have F := FF.out
  have M := MM.out
  refine ⟨rfl, (M.fr.mono (fun _ _ x => x.elim)).trans F (fun i _ x => x), ?_, F.hd (by omega) M.row, CC.out⟩
  have := F.size
  have := M.sz
  omega
end Go.Proofs.Ytglhoihiaflmgab
