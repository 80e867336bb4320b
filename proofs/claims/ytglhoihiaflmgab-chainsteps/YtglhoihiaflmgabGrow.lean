/- grow makes the ring hold at least n bytes; the chain's bytes stay, in their order. -/
import Derived.Test.YtglhoihiaflmgabCopyTo
import Derived.Deep.OwnRows
import Derived.BigRegion
namespace Go.Proofs.Ytglhoihiaflmgab
open Go.ChangeShapes Go.WideShapes Go.ChangeAt Go.RowKit

theorem make_bytes (n : Nat) (h : n ≤ 1048576) (w : World) :
    (Instr.makeSlice 33 (.int .i64 (n : Int)) (.int .i64 (n : Int))).run Try.prog w = .ok (.slice (some ⟨w.heap.size, 0, none⟩) n n) (w.alloc (.cells (bs (List.replicate n 0)) 5)) := by
  rw [run_make_row' (P := Try.prog) 33 5 (.int .u8 0) 1 Try.underlying33 (by kernel_rfl) rfl .i64 .i64 n (by omega) (by omega) w]
  congr 3
  apply Array.ext_getElem?
  intro i
  by_cases hi : i < n
  · simp [madeCells, bs, hi, Nat.mod_one]
  · simp [madeCells, bs, hi]

theorem Hd.lt {w : World} {b : Nat} {bound high low start size : Int} {rv : Value} {stop : Bool} (h : Hd w b bound high low rv start size stop) : b < w.heap.size := (Array.getElem?_eq_some_iff.1 h).1
theorem hp_set {W : World} {b : Nat} {cur : Array Value} {t : TypeId} {fr : Nat × Nat} (h : W.heap[b]? = some (.cells cur t fr)) (i : Nat) (v : Value) : (W.setCell ⟨b, i, none⟩ v).heap[b]? = some (.cells (cur.setIfInBounds i v) t fr) := by
  rw [setCell_eq_setRow W b i cur t fr v h]; exact setRow_heap W b cur _ t fr h
theorem hp_set_other (W : World) (b k i : Nat) (v : Value) (h : k ≠ b) : (W.setCell ⟨b, i, none⟩ v).heap[k]? = W.heap[k]? := Below.heap_setCell W ⟨b, i, none⟩ v k h
theorem hp_new (W : World) (o : Obj) : (W.alloc o).heap[W.heap.size]? = some o := by
  show (W.heap.push o)[W.heap.size]? = some o
  simp

/-- What grow leaves: a new ring at the heap's end, which begins with the chain's bytes. -/
structure Grew (w w' : World) (b : Nat) (bound high low : Int) (n : Nat) (size : Int) (stop : Bool) (R : List Int) : Prop where
  fr : Fr (fun k => k = b) w w'
  sz : w'.heap.size = w.heap.size + 1
  hd : Hd w' b bound high low (.slice (some ⟨w.heap.size, 0, none⟩) n n) 0 size stop
  ring : w'.heap[w.heap.size]? = some (.cells (bs R) 5 (0, 0))

theorem grew_of {w W : World} {b : Nat} {bound high low : Int} {n : Nat} {start size : Int} {stop : Bool} {rv : Value} {R : List Int}
    (hf : Fr (fun k => k = b) w W) (hz : W.heap.size = w.heap.size + 1) (hb : b < w.heap.size) (hr : W.heap[w.heap.size]? = some (.cells (bs R) 5 (0, 0)))
    (h : Hd W b bound high low rv start size stop) : Grew w ((W.setCell ⟨b, 3, none⟩ (.slice (some ⟨w.heap.size, 0, none⟩) n n)).setCell ⟨b, 4, none⟩ (.int .i64 0)) b bound high low n size stop R := by
  have h2 := hp_set h 3 (.slice (some ⟨w.heap.size, 0, none⟩) n n)
  have h3 := hp_set h2 4 (.int .i64 0)
  have ne : w.heap.size ≠ b := by omega
  refine ⟨⟨hf.os, hf.tape, hf.output, ?_, ?_⟩, ?_, h3, ?_⟩
  · simp; omega
  · intro k hk hkb
    rw [hp_set_other _ _ _ _ _ hkb, hp_set_other _ _ _ _ _ hkb]
    exact hf.block k hk hkb
  · simp; exact hz
  · rw [hp_set_other _ _ _ _ _ ne, hp_set_other _ _ _ _ _ ne]
    exact hr

theorem grew_alloc {w : World} {b : Nat} {bound high low : Int} {n : Nat} {start size : Int} {stop : Bool} {rv : Value} {R : List Int} (q : Nat)
    (h : Hd w b bound high low rv start size stop) : Grew w ((((w.setCell ⟨b, 3, none⟩ (.slice (some ⟨w.heap.size, 0, none⟩) n n)).setCell ⟨b, 4, none⟩ (.int .i64 0)).alloc (.cells (bs R) 5)).drewN q) b bound high low n size stop R := by
  have hb := h.lt
  have h2 := hp_set h 3 (.slice (some ⟨w.heap.size, 0, none⟩) n n)
  have h3 := hp_set h2 4 (.int .i64 0)
  have hz : ((w.setCell ⟨b, 3, none⟩ (.slice (some ⟨w.heap.size, 0, none⟩) n n)).setCell ⟨b, 4, none⟩ (.int .i64 0)).heap.size = w.heap.size := by simp
  refine ⟨⟨rfl, rfl, rfl, ?_, ?_⟩, ?_, ?_, ?_⟩
  · simp
  · intro k hk hkb
    refine (Below.heap_alloc _ _ k (by rw [hz]; exact hk)).trans ?_
    rw [hp_set_other _ _ _ _ _ hkb, hp_set_other _ _ _ _ _ hkb]
  · simp
  · exact (Below.heap_alloc _ _ b (by rw [hz]; exact hb)).trans h3
  · have := hp_new ((w.setCell ⟨b, 3, none⟩ (.slice (some ⟨w.heap.size, 0, none⟩) n n)).setCell ⟨b, 4, none⟩ (.int .i64 0)) (.cells (bs R) 5)
    rw [hz] at this
    exact this

section
variable {w : World} {b r N start sz n : Nat} {bound : Nat} {high low : Int} {stop : Bool} {rv : Value}

theorem grow_no {a : Option Addr} {c : Nat} {start size : Int} (h : Hd w b bound high low (.slice a N c) start size stop) (hn : n ≤ N) :
    Calls Try.prog 23 #[.pointer (some ⟨b, 0, none⟩), .int .i64 (n : Int)] w fun e w' => e = .returned (.tuple #[]) ∧ w = w' := by
  have c3 := h.c3
  clear h
  go_enter Try.func23, Try.ntmps23
  go_wp2
  exact bodyPost_ret (results_none rfl _ _ _) rfl ⟨rfl, rfl⟩

theorem grow_first (h : Hd w b bound high low (.slice none 0 0) 0 0 stop) (h0 : 0 < n) (hn : n ≤ bound) (hb : bound ≤ 1048576) :
    Calls Try.prog 23 #[.pointer (some ⟨b, 0, none⟩), .int .i64 (n : Int)] w fun e w' => e = .returned (.tuple #[]) ∧ Grew w w' b bound high low n 0 stop (List.replicate n 0) := by
  have hmk := make_bytes n (by omega)
  have c3 := h.c3
  have c0 := h.c0
  have c5 := h.c5
  have f3 := h.fz 3
  have f4 := h.fz 4
  have c4 := h.c4
  have hbs : b < w.heap.size := h.lt
  have H : Hid (Hd w b bound high low (.slice none 0 0) 0 0 stop) := h
  clear h
  go_enter Try.func23, Try.ntmps23
  go_wp2
  go_region
  go_wp2
  go_end0
  exact ⟨rfl, grew_alloc 1 H.out⟩

theorem hide {p : Prop} (h : p) : Hid p := h
theorem splice_zero (n : Nat) (A : List Int) : splice (List.replicate n 0) 0 A = A ++ List.replicate (n - A.length) 0 := by
  simp [splice]

theorem grow_core (x : Int) (N' : Nat) (hx : x = N') (h : Hd w b bound high low (.slice (some ⟨r, 0, none⟩) N N) (start : Int) (sz : Int) stop) (R : List Int) (hR : w.heap[r]? = some (.cells (bs R) 5 (0, 0))) (hRl : R.length = N)
    (hN : 0 < N) (hM : N ≤ bound) (hb : bound ≤ 1048576) (hs : start < N) (hsz : sz ≤ N) (hn : N < n) (hnb : n ≤ bound) (hN' : n ≤ N') (hNb : N' ≤ bound)
    (hcase : (x = n ∧ 2 * (N : Int) ≤ n) ∨ (x = 2 * (N : Int) ∧ (n : Int) < 2 * N ∧ 2 * (N : Int) ≤ bound) ∨ (x = bound ∧ (n : Int) < 2 * N ∧ (bound : Int) < 2 * N)) :
    Calls Try.prog 23 #[.pointer (some ⟨b, 0, none⟩), .int .i64 (n : Int)] w fun e w' => e = .returned (.tuple #[]) ∧ Grew w w' b bound high low N' sz stop (ringL R start sz ++ List.replicate (N' - sz) 0) := by
  have hmk : ∀ W : World, (Instr.makeSlice 33 (.int .i64 x) (.int .i64 x)).run Try.prog W = .ok (.slice (some ⟨W.heap.size, 0, none⟩) N' N') (W.alloc (.cells (bs (List.replicate N' 0)) 5)) := by
    rw [hx]; exact make_bytes N' (by omega)
  have c3 := h.c3
  have c0 := h.c0
  have c5 := h.c5
  have f3 := h.fz 3
  have f4 := h.fz 4
  have c4 := h.c4
  have hbs : b < w.heap.size := h.lt
  have hrs : r < w.heap.size := (Array.getElem?_eq_some_iff.1 hR).1
  have HX : Hid (x = N') := hx
  have H : Hid (Hd w b bound high low (.slice (some ⟨r, 0, none⟩) N N) (start : Int) (sz : Int) stop) := h
  have HR : Hid (w.heap[r]? = some (.cells (bs R) 5 (0, 0))) := hR
  have HL : Hid (R.length = N) := hRl
  clear h hR hx hRl
  by_cases hz : sz = 0
  · have e0 : ringL R start sz ++ List.replicate (N' - sz) 0 = List.replicate N' 0 := by simp [hz, ringL]
    rw [e0]
    subst hz
    rcases hcase with ⟨rfl, h1⟩ | ⟨rfl, h1, h2⟩ | ⟨rfl, h1, h2⟩
    all_goals
      go_enter Try.func23, Try.ntmps23
      go_wp2
      go_region
      go_wp2
      go_end0
      exact ⟨rfl, grew_alloc 1 H.out⟩
  · have hz1 : (0 : Int) < sz := by omega
    have hp := fun (W : World) (hd : Hd W b bound high low (.slice (some ⟨r, 0, none⟩) N N) (start : Int) (sz : Int) stop) (hR : W.heap[r]? = some (.cells (bs R) 5 (0, 0))) (hD : W.heap[w.heap.size]? = some (.cells (bs (List.replicate N' 0)) 5 (0, 0))) =>
      copyTo_any (m := sz) (d := w.heap.size) (o := 0) (c := N' - sz) hd R (List.replicate N' 0) hR HL.out hD (by omega) hN (by omega) hs hsz (by simp; omega)
    rw [show sz + (N' - sz) = N' by omega] at hp
    have HP := hide hp
    clear hp
    rcases hcase with ⟨rfl, h1⟩ | ⟨rfl, h1, h2⟩ | ⟨rfl, h1, h2⟩
    all_goals
      go_enter Try.func23, Try.ntmps23
      go_wp2
      go_region
      go_wp2_with fail
      refine (HP.out _ ?_ ?_ ?_).mono ?_
      · exact (Below.heap_alloc w _ b hbs).trans H.out
      · exact (Below.heap_alloc w _ r hrs).trans HR.out
      · exact hp_new w _
      rintro e w' ⟨rfl, q, rfl⟩
      rw [splice_zero]
      have hl : (ringL R start sz).length = sz := ringL_length R start sz (by rw [HL.out]; omega) (by rw [HL.out]; exact hsz)
      rw [hl]
      obtain ⟨W, HW⟩ : ∃ W, Hid (W = (((w.alloc (.cells (bs (List.replicate N' 0)) 5)).drew).drewN q).setRow w.heap.size (bs (ringL R start sz ++ List.replicate (N' - sz) 0))) := ⟨_, hide rfl⟩
      rw [← HW.out]
      have g1 : Fr (fun k => k = b) w W := by
        rw [HW.out]
        refine ⟨rfl, rfl, rfl, by simp, fun k hk hkb => ?_⟩
        rw [setRow_other _ _ _ _ (by omega)]
        exact Below.heap_alloc w _ k hk
      have g2 : Hd W b bound high low (.slice (some ⟨r, 0, none⟩) N N) (start : Int) (sz : Int) stop := by
        rw [HW.out]
        unfold Hd
        rw [setRow_other _ _ _ _ (by omega)]
        exact (Below.heap_alloc w _ b hbs).trans H.out
      have g3 : W.heap[w.heap.size]? = some (.cells (bs (ringL R start sz ++ List.replicate (N' - sz) 0)) 5 (0, 0)) := by
        rw [HW.out]
        exact setRow_heap _ _ _ _ _ _ (hp_new w _)
      have g4 : Hid (W.heap.size = w.heap.size + 1) := by
        unfold Hid
        rw [HW.out]; simp
      have d3 := g2.c3
      have d4 := g2.c4
      have e3 := g2.fz 3
      have e4 := g2.fz 4
      have G1 := hide g1
      have G2 := hide g2
      have G3 := hide g3
      clear g1 g2 g3 HW
      go_wp2
      go_end0
      exact ⟨rfl, grew_of G1.out g4.out hbs G3.out G2.out⟩
end
end Go.Proofs.Ytglhoihiaflmgab
