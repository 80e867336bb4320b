/- Rows of moments that are cut at their front: what cut and late tell of them. -/
import Derived.Test.YtcapicaieacgnaaPOb
import Derived.Test.YtcapicaieacgnaaLib
import Derived.Shelf.Slices.Empties
namespace Go.Proofs.Ytcapicaieacgnaa
open Go.ChangeShapes Go.WideShapes Go.ChangeAt Go.RowKit

/-- A slice that reads as l, wherever it begins in its block; it may be appended to. -/
def Sr (w : World) (v : Value) (l : List Int) : Prop :=
  (v = .slice none 0 0 ∧ l = []) ∨ ∃ g off cap cur, v = .slice (some ⟨g, off, none⟩) l.length cap ∧ w.heap[g]? = some (.cells cur 3 (0, 0)) ∧ l.length ≤ cap ∧ cap ≤ 9223372036854775807 ∧ off + cap ≤ cur.size ∧ (∀ i, i < l.length → cur[off + i]? = some (.int .i64 (l.getD i 0)))
theorem Sr.fr {w w' : World} {v : Value} {l : List Int} {Q : Nat → Prop} (h : Sr w v l) (F : Fr Q w w') (d : ∀ k, v.ownBlock = some k → ¬ Q k) : Sr w' v l := by
  rcases h with x | ⟨g, off, cap, cur, rfl, hg, r⟩
  · exact .inl x
  · exact .inr ⟨g, off, cap, cur, rfl, F.hd (d g rfl) hg, r⟩
theorem Sr.lt {w : World} {v : Value} {l : List Int} (h : Sr w v l) {k : Nat} (hk : v.ownBlock = some k) : k < w.heap.size := by
  rcases h with ⟨rfl, _⟩ | ⟨g, off, cap, cur, rfl, hg, r⟩
  · simp [Value.ownBlock] at hk
  · simp only [Value.ownBlock, Option.some.injEq] at hk
    subst hk; exact hp_lt hg
theorem Sr.shape {w : World} {v : Value} {l : List Int} (h : Sr w v l) : ∃ a cap, v = .slice a l.length cap ∧ l.length ≤ cap ∧ cap ≤ 9223372036854775807 := by
  rcases h with ⟨rfl, rfl⟩ | ⟨g, off, cap, cur, rfl, hg, h1, h2, _⟩
  · exact ⟨none, 0, rfl, Nat.le_refl _, by omega⟩
  · exact ⟨_, cap, rfl, h1, h2⟩
theorem ret_v {a b : Value} (h : a = b) : Ending.returned a = .returned b := by rw [h]

theorem getD_drop {l : List Int} {o i : Nat} : (l.drop o).getD i 0 = l.getD (o + i) 0 := by simp [List.getD, List.getElem?_drop]
/-- A part of a slice, from o on, with less room. -/
theorem Sr.cut {w : World} {g off cap o m : Nat} {l : List Int} {cur : Array Value} (hg : w.heap[g]? = some (.cells cur 3 (0, 0))) (h2 : cap ≤ 9223372036854775807) (h3 : off + cap ≤ cur.size) (h4 : ∀ i, i < l.length → cur[off + i]? = some (.int .i64 (l.getD i 0))) (ho : o ≤ l.length) (hm : l.length ≤ m) (hm2 : m ≤ cap) :
    Sr w (.slice (some ⟨g, off + o, none⟩) (l.length - o) (m - o)) (l.drop o) :=
  .inr ⟨g, off + o, m - o, cur, by simp, hg, by simp; omega, by omega, by omega, fun i hi => by
    simp at hi
    rw [getD_drop, Nat.add_assoc]
    exact h4 (o + i) (by omega)⟩

set_option maxHeartbeats 1000000 in
theorem cut_any (w : World) (v : Value) (l : List Int) (o : Nat) (h : Sr w v l) (ho : o ≤ l.length) :
    Calls Try.prog 25 #[v, .int .i64 (o : Int)] w fun e w' => ∃ v', e = .returned v' ∧ w = w' ∧ Sr w v' (l.drop o) ∧ ∀ k, v'.ownBlock = some k → v.ownBlock = some k := by
  rcases h with ⟨rfl, rfl⟩ | ⟨g, off, cap, cur, rfl, hg, h1, h2, h3, h4⟩
  · obtain rfl : o = 0 := by simpa using ho
    go_enter Try.func25, Try.ntmps25
    go_wp2
    go_ret
    exact ⟨_, rfl, rfl, .inl ⟨rfl, rfl⟩, fun k hk => hk⟩
  · have HC := hide (fun m (hm : l.length ≤ m) (hm2 : m ≤ cap) => Sr.cut hg h2 h3 h4 ho hm hm2)
    have H0 : Hid (Sr w (.slice (some ⟨g, off, none⟩) 0 0) []) := hide (.inr ⟨g, off, 0, cur, rfl, hg, Nat.le_refl _, by omega, by omega, fun i hi => by simp at hi⟩)
    clear hg h3 h4
    obtain ⟨n, Hn⟩ : ∃ n, Hid (l.length = n) := ⟨_, hide rfl⟩
    rw [Hn.out] at HC h1 ho ⊢
    by_cases hq : n / 2 < o
    · have hq2 : (n : Int) / 2 < (o : Int) := by omega
      by_cases he : n = o
      · subst he
        go_enter Try.func25, Try.ntmps25
        go_wp2
        go_ret
        refine ⟨_, rfl, rfl, ?_, fun k hk => hk⟩
        rw [← Hn.out, List.drop_length]
        exact H0.out
      · have he2 : ¬ n = o := he
        go_enter Try.func25, Try.ntmps25
        go_wp2
        go_ret
        exact ⟨_, rfl, rfl, HC.out n (Nat.le_refl _) h1, fun k hk => hk⟩
    · have hq2 : ¬ (n : Int) / 2 < (o : Int) := by omega
      by_cases he : cap = o
      · obtain rfl : n = 0 := by omega
        obtain rfl : o = 0 := by omega
        subst he
        go_enter Try.func25, Try.ntmps25
        go_wp2
        go_ret
        refine ⟨_, rfl, rfl, ?_, fun k hk => hk⟩
        rw [List.eq_nil_of_length_eq_zero Hn.out]
        exact H0.out
      · go_enter Try.func25, Try.ntmps25
        go_wp2
        go_ret
        exact ⟨_, rfl, rfl, HC.out cap h1 (Nat.le_refl _), fun k hk => hk⟩

/-- Those that are behind a moment. -/
def lateL (x : Int) (l : List Int) : List Int := l.filter (fun y => decide (x < y))
theorem drop_late : ∀ (l : List Int) (x : Int), l.Pairwise (· ≤ ·) → l.drop (l.countP (fun y => decide (y < x + 1))) = lateL x l
  | [], _, _ => rfl
  | a :: r, x, h => by
    rw [List.pairwise_cons] at h
    by_cases ha : a < x + 1
    · rw [List.countP_cons_of_pos (by simpa using ha), List.drop_succ_cons, drop_late r x h.2]
      unfold lateL
      rw [List.filter_cons_of_neg (by simp; omega)]
    · have h0 : r.countP (fun y => decide (y < x + 1)) = 0 := by
        rw [List.countP_eq_zero]
        intro y hy
        have := h.1 y hy
        simp; omega
      rw [List.countP_cons_of_neg (by simpa using ha), h0, List.drop_zero]
      unfold lateL
      rw [List.filter_eq_self.2]
      intro y hy
      rcases List.mem_cons.1 hy with rfl | hy
      · simp; omega
      · have := h.1 y hy
        simp; omega

set_option maxHeartbeats 1000000 in
theorem search_any (w : World) (v : Value) (l : List Int) (x : Int) (h : Sr w v l) (hs : l.Pairwise (· ≤ ·)) (hl : l.length < 4611686018427387904) :
    Calls Try.prog 24 #[v, .int .i64 x] w fun e w' => (∃ y, e = .returned (.tuple #[.int .i64 ((l.countP (fun y => decide (y < x)) : Nat) : Int), .bool y])) ∧ ∃ q, w' = w.drewN q := by
  rcases h with ⟨rfl, rfl⟩ | ⟨g, off, cap, cur, rfl, hg, h1, h2, h3, h4⟩
  · refine (Any.slices_BinarySearch_int_empty Try.lays25 none 0 x w).mono ?_
    rintro e w' ⟨rfl, rfl⟩
    exact ⟨⟨_, rfl⟩, 0, rfl⟩
  · refine (Any.slices_BinarySearch_int Try.lays25 g off l.length cap l x w (Nat.le_refl _) hl (fun j hj => ?_) (by rw [List.take_length]; exact hs)).mono ?_
    · rw [cell_of hg]; exact h4 j hj
    · rintro e w' ⟨rfl, q, rfl⟩
      rw [List.take_length]
      exact ⟨⟨_, rfl⟩, q, rfl⟩

/-- A budget's block. -/
def Bk (T : TypeId) (w : World) (b : Nat) (pc mn wn la : Int) (v1 v2 : Value) : Prop := w.heap[b]? = some (.cells #[.int .i64 pc, .int .i64 mn, .int .i64 wn, .int .i64 la, v1, v2] T (0, 0))
theorem Bk.cs {T : TypeId} {w : World} {b : Nat} {pc mn wn la : Int} {v1 v2 : Value} (h : Bk T w b pc mn wn la v1 v2) :
    w.cell? ⟨b, 0, none⟩ = some (.int .i64 pc) ∧ w.cell? ⟨b, 1, none⟩ = some (.int .i64 mn) ∧ w.cell? ⟨b, 2, none⟩ = some (.int .i64 wn) ∧ w.cell? ⟨b, 3, none⟩ = some (.int .i64 la) ∧ w.cell? ⟨b, 4, none⟩ = some v1 ∧ w.cell? ⟨b, 5, none⟩ = some v2 ∧
    w.frozen? ⟨b, 3, none⟩ = false ∧ w.frozen? ⟨b, 4, none⟩ = false ∧ w.frozen? ⟨b, 5, none⟩ = false :=
  ⟨cell_of h 0, cell_of h 1, cell_of h 2, cell_of h 3, cell_of h 4, cell_of h 5, frozen_of h 3, frozen_of h 4, frozen_of h 5⟩

set_option maxHeartbeats 1000000 in
theorem late_any (w : World) (b : Nat) (wn t : Int) (v : Value) (l : List Int) (hb : w.cell? ⟨b, 2, none⟩ = some (.int .i64 wn)) (w0 : 1 ≤ wn) (w1 : wn ≤ 1000000) (t0 : 0 ≤ t) (t1 : t ≤ 4611686018427387904) (h : Sr w v l) (hs : l.Pairwise (· ≤ ·)) (hl : l.length < 4611686018427387904) :
    Calls Try.prog 20 #[.pointer (some ⟨b, 0, none⟩), v, .int .i64 t] w fun e w' => (∃ v', e = .returned v' ∧ Sr w v' (lateL (t - wn) l) ∧ ∀ k, v'.ownBlock = some k → v.ownBlock = some k) ∧ ∃ q, w' = w.drewN q := by
  have HS := hide (search_any w v l (t - wn + 1) h hs hl)
  have HC := hide (fun q => cut_any (w.drewN q) v l (l.countP (fun y => decide (y < t - wn + 1))) h List.countP_le_length)
  have HE := hide (drop_late l (t - wn) hs)
  obtain ⟨a, cap, rfl, hc1, hc2⟩ := h.shape
  obtain ⟨n, Hn⟩ : ∃ n, Hid (l.length = n) := ⟨_, hide rfl⟩
  rw [Hn.out] at HS HC hc1 ⊢
  rw [HE.out] at HC
  clear h hs hl HE
  generalize l.countP (fun y => decide (y < t - wn + 1)) = m at HS HC
  go_enter Try.func20, Try.ntmps20
  go_wp2_with fail
  refine HS.out.mono ?_
  rintro e w1 ⟨⟨y, rfl⟩, q, rfl⟩
  go_wp2_with fail
  refine (HC.out q).mono ?_
  rintro e w2 ⟨v', rfl, rfl, hv, ho⟩
  have HV := hide hv
  have HO := hide ho
  clear hv ho
  obtain ⟨a2, cap2, rfl, hd1, hd2⟩ := HV.out.shape
  go_wp2_with fail
  go_ret
  exact ⟨⟨_, rfl, HV.out, HO.out⟩, q, rfl⟩
end Go.Proofs.Ytcapicaieacgnaa
