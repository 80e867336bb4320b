/- The document's own world: all numbers that are open, in their order. -/
import Derived.Test.YtpgbpfdgbajhlaaRefWrite
namespace Go.Proofs.Ytpgbpfdgbajhlaa
open Go.ChangeShapes Go.WideShapes Go.ChangeAt Go.RowKit

theorem sorted_perm (l : List Int) : (sorted l).Perm l := List.mergeSort_perm l leI
theorem sorted_pair (l : List Int) : (sorted l).Pairwise (fun a b => a ≤ b) := by
  have tr : ∀ a b c : Int, leI a b = true → leI b c = true → leI a c = true := fun _ _ _ h1 h2 => by simp only [leI, decide_eq_true_eq] at *; exact Int.le_trans h1 h2
  have to : ∀ a b : Int, (leI a b || leI b a) = true := fun a b => by simp only [leI, Bool.or_eq_true, decide_eq_true_eq]; exact Int.le_total a b
  exact (List.pairwise_mergeSort tr to l).imp (fun h => by simpa [leI] using h)
theorem sorted_unique {M l : List Int} (hp : M.Perm l) (hs : M.Pairwise (fun a b => a ≤ b)) : M = sorted l :=
  List.Perm.eq_of_pairwise (le := fun a b : Int => a ≤ b) (fun _ _ _ _ h1 h2 => Int.le_antisymm h1 h2) hs (sorted_pair l) (hp.trans (sorted_perm l).symm)
theorem opens_more {S : List Cn} {j : Nat} {x : Cn} (hx : S[j]? = some x) : opens (S.take (j + 1)) = opens (S.take j) ++ (if x.isOpen then [x.num] else []) := by
  rw [List.take_add_one, hx]
  unfold opens
  rw [List.filter_append, List.map_append]
  cases h : x.isOpen <;> simp [h]

/-- A number put into its place, so far. -/
def mid (L : List Int) (v : Int) (k : Nat) : List Int := L.take k ++ v :: L.drop k
theorem mid_len (L : List Int) (v : Int) (k : Nat) (hk : k ≤ L.length) : (mid L v k).length = L.length + 1 := by simp [mid]; omega
theorem mid_end (L : List Int) (v : Int) : mid L v L.length = L ++ [v] := by simp [mid]
theorem mid_at (L : List Int) (v : Int) (k : Nat) (hk : k ≤ L.length) : (mid L v k).getD k 0 = v := by
  have : (L.take k).length = k := by simp; omega
  simp only [mid, List.getD]
  rw [List.getElem?_append_right (by omega), this]; simp
theorem mid_below (L : List Int) (v : Int) (k : Nat) (hk : k + 1 ≤ L.length) : (mid L v (k + 1)).getD k 0 = L.getD k 0 := by
  have : (L.take (k + 1)).length = k + 1 := by simp; omega
  simp only [mid, List.getD]
  rw [List.getElem?_append_left (by omega), List.getElem?_take, if_pos (by omega)]
theorem mid_swap (L : List Int) (v : Int) (k : Nat) (hk : k + 1 ≤ L.length) : ((mid L v (k + 1)).set (k + 1) (L.getD k 0)).set k v = mid L v k := by
  have e1 : L.take (k + 1) = L.take k ++ [L.getD k 0] := (take_more (by omega)).symm
  have e2 : L.drop k = L.getD k 0 :: L.drop (k + 1) := by
    rw [List.drop_eq_getElem_cons (by omega)]
    simp [List.getD, show k < L.length by omega]
  have hl : (L.take k).length = k := by simp; omega
  have h3 : ∀ (A B : List Int) (a b c : Int), ((A ++ a :: b :: B).set (A.length + 1) a).set A.length c = A ++ c :: a :: B := by
    intro A B a b c
    rw [List.set_append_right _ _ (by omega), List.set_append_right _ _ (by omega)]
    simp
  unfold mid
  rw [e1, e2, List.append_assoc, List.cons_append, List.nil_append]
  have := h3 (L.take k) (L.drop (k + 1)) (L.getD k 0) v v
  rw [hl] at this
  exact this
theorem mid_sorted (L : List Int) (v : Int) (k : Nat) (hs : L.Pairwise (fun a b => a ≤ b)) (hhi : ∀ y ∈ L.drop k, v < y) (hlo : k = 0 ∨ L.getD (k - 1) 0 ≤ v) (hk : k ≤ L.length) : (mid L v k).Pairwise (fun a b => a ≤ b) := by
  unfold mid
  rw [List.pairwise_append]
  have hlow : ∀ a ∈ L.take k, a ≤ v := by
    intro a ha
    rcases hlo with rfl | hlo
    · simp at ha
    · obtain ⟨n, hn, rfl⟩ := List.getElem_of_mem ha
      have hn2 : n < k := by simp at hn; omega
      rw [List.getElem_take]
      have e : L.getD (k - 1) 0 = L[k - 1] := by simp [List.getD, show k - 1 < L.length by omega]
      rw [e] at hlo
      by_cases h : n = k - 1
      · subst h; exact hlo
      · exact Int.le_trans (List.pairwise_iff_getElem.1 hs n (k - 1) (by omega) (by omega) (by omega)) hlo
  refine ⟨hs.sublist (List.take_sublist _ _), List.pairwise_cons.2 ⟨fun y hy => Int.le_of_lt (hhi y hy), hs.sublist (List.drop_sublist _ _)⟩, fun a ha b hb => ?_⟩
  rcases List.mem_cons.1 hb with rfl | hb
  · exact hlow a ha
  · exact Int.le_trans (hlow a ha) (Int.le_of_lt (hhi b hb))
theorem mid_perm (L : List Int) (v : Int) (k : Nat) : (mid L v k).Perm (L ++ [v]) := by
  unfold mid
  have h1 : (L.take k ++ v :: L.drop k).Perm (v :: (L.take k ++ L.drop k)) := List.perm_middle
  rw [List.take_append_drop] at h1
  exact h1.trans (List.perm_append_singleton v L).symm

theorem Row.cells {W : World} {q : IntKind} {v : Value} {l : List Int} {go : Option Nat} (h : Row W q v l go) (h0 : 0 < l.length) : ∃ g off cap, go = some g ∧ v = .slice (some ⟨g, off, none⟩) l.length cap ∧ l.length ≤ cap ∧ g < W.heap.size ∧ (∀ i, i < l.length → W.cell? ⟨g, off + i, none⟩ = some (.int q (l.getD i 0)) ∧ W.frozen? ⟨g, off + i, none⟩ = false) ∧
    ∀ i y, i < l.length → Row (W.setCell ⟨g, off + i, none⟩ (.int q y)) q v (l.set i y) go := by
  rcases h with ⟨_, _, rfl⟩ | ⟨g, off, cap, rfl, rfl, h1, h2, h3, h4⟩
  · simp at h0
  · refine ⟨g, off, cap, rfl, rfl, h1, h2, fun i hi => ⟨h4 i hi, (h3 i (by omega)).2⟩, fun i y hi => .inr ⟨g, off, cap, rfl, by rw [List.length_set], by rw [List.length_set]; exact h1, by simpa using h2, fun j hj => ⟨?_, by rw [World.frozen?_setCell]; exact (h3 j hj).2⟩, fun j hj => ?_⟩⟩
    · by_cases e : i = j
      · subst e; rw [World.cell?_setCell_same' _ _ _ (h3 i hj).1]; rfl
      · rw [World.cell?_setCell_other _ _ _ _ (addr_ne (by omega))]; exact (h3 j hj).1
    · rw [List.length_set] at hj
      by_cases e : i = j
      · subst e
        rw [World.cell?_setCell_same' _ _ _ (h3 i (by omega)).1]
        simp [List.getD, hi]
      · rw [World.cell?_setCell_other _ _ _ _ (addr_ne (by omega)), h4 j hj]
        simp [List.getD, List.getElem?_set_ne e]

theorem Sl.one64 (W : World) (x : Int) : Sl (W.alloc (.cells #[.int .i64 x] 3)) .i64 (.slice (some ⟨W.heap.size, 0, none⟩) 1 1) [x] :=
  (Row.ofNew W .i64 3 #[.int .i64 x] [x] 1 (Nat.le_refl _) (Nat.le_refl _) (fun i hi => by
    match i, hi with
    | 0, _ => rfl)).sl
structure AlInv (W wr : World) (u : Value) (l : List Int) (go : Option Nat) : Prop where
  row : Row wr .i64 u l go
  fr : Fr (fun _ => False) W wr
  new : ∀ g, go = some g → W.heap.size ≤ g
theorem AlInv.grow {W wr W2 : World} {u v : Value} {l l' : List Int} {go go' : Option Nat} (h : AlInv W wr u l go) {wA : World} (hA : Fr (fun _ => False) wr wA) (hg : wA.grownBy W2 go) (hR : Row W2 .i64 v l' go') (hgo : go' = go ∨ ∃ g, go' = some g ∧ wA.heap.size ≤ g) : AlInv W W2 v l' go' := by
  refine ⟨hR, (h.fr.trans hA (fun _ _ e => e)).trans (Fr.grown hg) (fun b hb e => by have := h.new b e; omega), fun g e => ?_⟩
  rcases hgo with h1 | ⟨g', h1, h2⟩
  · exact h.new g (by rw [← h1]; exact e)
  · rw [h1] at e; cases e
    have := h.fr.size
    have := hA.size
    omega

section
variable {W : World} {d : Nat} {S : List Cn} {dr : List Int} {own : Nat → Option Tag} {lv : Value} {lg : Option Nat} {px : Nat → Ph} {dv : Value} {dg : Option Nat} {k : Int} {i : Nat} {x : Cn}

def AlPost (W : World) (S : List Cn) (e : Ending) (W' : World) : Prop := ∃ v go, e = .returned v ∧ AlInv W W' v (sorted (opens S)) go

set_option maxRecDepth 20000 in
set_option maxHeartbeats 4000000 in
theorem rall_any (h : XObj W d S dr own lv lg px dv dg) (hS : SOk S dr) : Calls Try.prog 16 #[.pointer (some ⟨d, 0, none⟩)] W (AlPost W S) := by
  have c0 := h.c0
  have hsz := hS.size
  obtain ⟨a, cap, hv, _⟩ := h.row.shape
  have HL := hide h
  have HO : Hid (∀ j, (sorted (opens (S.take j))).length ≤ 1024) := hide (fun j => by
    rw [(sorted_perm _).length_eq]
    have h1 := hS.cnt
    have h2 : ((S.take j).filter Cn.isOpen).length ≤ (S.filter Cn.isOpen).length := ((List.take_sublist j S).filter _).length_le
    simp only [opens, List.length_map]; omega)
  subst hv
  clear h hS
  go_enter Try.func16, Try.ntmps16
  have I0 : Hid (∃ go, AlInv W W (.slice none 0 0) (sorted (opens (S.take 0))) go) := hide ⟨none, by simpa [opens, sorted] using Row.nil W .i64, Fr.refl _ _, nofun⟩
  go_wp2_with fail
  go_loopw [3, 13] (fun u v wr => ∃ j : Nat, j ≤ S.length ∧ v = .int .i64 (j : Int) ∧ Hid (∃ go, AlInv W wr u (sorted (opens (S.take j))) go)) (fun _ v _ => S.length - (intOf v).toNat)
  case atStart => exact ⟨0, Nat.zero_le _, rfl, I0⟩
  case round =>
    clear I0
    obtain ⟨j, hj, rfl, HI⟩ := hrel
    obtain ⟨go, hI⟩ := HI.out
    obtain ⟨L, HLs⟩ : ∃ L, Hid (sorted (opens (S.take j)) = L) := ⟨_, hide rfl⟩
    rw [HLs.out] at hI
    have hLl : L.length ≤ 1024 := by rw [← HLs.out]; exact HO.out j
    have HLp : Hid (L.Pairwise (fun a b => a ≤ b)) := hide (by rw [← HLs.out]; exact sorted_pair _)
    obtain ⟨ua, uc, eu, _⟩ := hI.row.sl
    subst eu
    by_cases hlt : j < S.length
    · obtain ⟨x, Hx⟩ : ∃ x, Hid (S[j]? = some x) := ⟨S[j], hide (List.getElem?_eq_getElem hlt)⟩
      have hX := xfr HL.out hI.fr
      obtain ⟨wa, wc, ew, _⟩ := (hX.ent j x Hx.out).wrow.sl
      obtain ⟨sa, sc, es, _⟩ := (hX.ent j x Hx.out).srow.sl
      obtain ⟨g, cap2, -, hv, -, hg, d0, d1, d2, d3, d4, d5, -⟩ := hX.row.at Hx.out
      rw [ew] at d3
      rw [es] at d4
      simp only [Value.slice.injEq] at hv
      obtain ⟨rfl, -, rfl⟩ := hv
      have Hop := hide (opens_more Hx.out)
      have HIH := hide hI
      clear hX ew es hI HI
      obtain ⟨xn, xo, xe, xw, xs, xr⟩ := x
      dsimp only at d0 d1 d2 d3 d4 d5 Hop
      cases xo with
      | false =>
        go_wp2_with fail
        go_roundw
        case rel => exact ⟨j + 1, by omega, by go_num, hide ⟨go, by
          rw [Hop.out]
          simp only [Bool.false_eq_true, if_false, List.append_nil, HLs.out]
          have hA := Fr.alloc (fun _ => False) wr (.cells #[.int .i64 xn, .bool false, .bool xe, .slice wa xw.length wc, .slice sa xs.length sc, .int .i64 xr] 38)
          exact ⟨HIH.out.row.frame hA.size (fun b e => hA.block b (by have h1 := HIH.out.row; rw [e] at h1; exact h1.lt) (fun e => e)), HIH.out.fr.trans hA (fun _ _ e => e), HIH.out.new⟩⟩⟩
        case measure => simp [intOf]; omega
      | true =>
        have hA1 := Fr.alloc (fun _ => False) wr (.cells #[.int .i64 xn, .bool true, .bool xe, .slice wa xw.length wc, .slice sa xs.length sc, .int .i64 xr] 38)
        have hA2 := Fr.alloc (fun _ => False) (wr.alloc (.cells #[.int .i64 xn, .bool true, .bool xe, .slice wa xw.length wc, .slice sa xs.length sc, .int .i64 xr] 38)) (.cells #[.int .i64 xn] 3)
        have hA := hide (hA1.trans hA2 (fun _ _ e => e))
        have HRA := hide (HIH.out.row.frame hA.out.size (fun b e => hA.out.block b (by have h1 := HIH.out.row; rw [e] at h1; exact h1.lt) (fun e => e)))
        have HOne : Hid (Sl _ .i64 (.slice (some ⟨wr.heap.size + 1, 0, none⟩) 1 1) [xn]) := hide (by
          have h1 := Sl.one64 (wr.alloc (.cells #[.int .i64 xn, .bool true, .bool xe, .slice wa xw.length wc, .slice sa xs.length sc, .int .i64 xr] 38)) xn
          have e : (wr.alloc (.cells #[.int .i64 xn, .bool true, .bool xe, .slice wa xw.length wc, .slice sa xs.length sc, .int .i64 xr] 38)).heap.size = wr.heap.size + 1 := by simp
          rw [e] at h1
          exact h1)
        clear hA1 hA2
        go_wp2_with (first
          | (at_builtin; refine wpList_append_ints rfl _ _ rfl _ (.slice ua L.length uc) (.slice (some ⟨wr.heap.size + 1, 0, none⟩) 1 1) L [xn] go rfl rfl HRA.out HOne.out (by simp only [List.length_cons, List.length_nil]; omega) ?_
             intro v' W2 go' h1 h2 h3
             have HI2 := hide (HIH.out.grow hA.out h2 h1 h3)
             obtain ⟨a2, c2, e2, _⟩ := h1.sl
             rw [List.length_append, List.length_cons, List.length_nil, Nat.zero_add] at e2
             subst e2
             clear h1 h2 h3)
          | go_in)
        clear HRA HOne hA
        go_loopw [6] (fun v wi => ∃ k : Nat, k ≤ L.length ∧ v = .int .i64 (k : Int) ∧ Hid (AlInv W wi (.slice a2 (L.length + 1) c2) (mid L xn k) go' ∧ ∀ y ∈ L.drop k, xn < y)) (fun v _ => (intOf v).toNat)
        case atStart => exact ⟨L.length, Nat.le_refl _, by go_num, hide ⟨by rw [mid_end]; exact HI2.out, fun y hy => by simp at hy⟩⟩
        case round =>
          obtain ⟨k, hk, rfl, HK⟩ := hrel
          have HEND : Hid (∀ n, (k = 0 ∨ L.getD (k - 1) 0 ≤ xn) → AlInv W (wr.drewN n) (.slice a2 (L.length + 1) c2) (sorted (opens (S.take (j + 1)))) go') := hide (fun n hlo => by
            have e : mid L xn k = sorted (opens (S.take (j + 1))) := by
              refine sorted_unique ?_ (mid_sorted L xn k HLp.out HK.out.2 hlo hk)
              rw [Hop.out]
              simp only [if_true]
              refine (mid_perm L xn k).trans (List.Perm.append_right _ ?_)
              rw [← HLs.out]; exact sorted_perm _
            rw [← e]
            exact ⟨HK.out.1.row.frame (Nat.le_refl _) (fun _ _ => rfl), HK.out.1.fr.trans (Fr.drewN (fun _ => False) _ _) (fun _ _ e => e), HK.out.1.new⟩)
          by_cases hk0 : k = 0
          · have HE := hide (fun n => HEND.out n (.inl hk0))
            subst hk0
            clear HEND HK
            go_wp2_with fail
            go_quiet (fail)
            go_wp2_with fail
            go_roundw
            case rel => exact ⟨j + 1, by omega, by go_num, hide ⟨go', HE.out _⟩⟩
            case measure => simp [intOf]; omega
          · obtain ⟨m, rfl⟩ : ∃ m, k = m + 1 := ⟨k - 1, by omega⟩
            have hml : (mid L xn (m + 1)).length = L.length + 1 := mid_len L xn (m + 1) hk
            obtain ⟨g2, off2, cap3, hgo2, hv2, hcap2, hg2, hc2, hset⟩ := HK.out.1.row.cells (by omega)
            rw [hml] at hv2 hc2 hset hcap2
            simp only [Value.slice.injEq, true_and] at hv2
            obtain ⟨rfl, rfl⟩ := hv2
            have c1 := (hc2 (m + 1) (by omega)).1
            have f1 := (hc2 (m + 1) (by omega)).2
            have c2' := (hc2 m (by omega)).1
            have f2 := (hc2 m (by omega)).2
            rw [mid_at L xn (m + 1) hk] at c1
            rw [mid_below L xn m hk] at c2'
            obtain ⟨z, Hz⟩ : ∃ z, Hid (L.getD m 0 = z) := ⟨_, hide rfl⟩
            rw [Hz.out] at c2'
            have FIN : Hid (xn < z → ∀ n, AlInv W (((wr.drewN n).setCell ⟨g2, off2 + (m + 1), none⟩ (.int .i64 z)).setCell ⟨g2, off2 + m, none⟩ (.int .i64 xn)) (.slice (some ⟨g2, off2, none⟩) (L.length + 1) c2) (mid L xn m) go' ∧ ∀ y ∈ L.drop m, xn < y) := hide (fun hz n => by
              have R1 := hset (m + 1) z (by omega)
              obtain ⟨g3, off3, cap4, -, hv3, -, -, -, hset3⟩ := R1.cells (by rw [List.length_set]; omega)
              rw [List.length_set, hml] at hv3 hset3
              simp only [Value.slice.injEq, Option.some.injEq, Addr.mk.injEq, true_and, and_true] at hv3
              obtain ⟨⟨rfl, rfl⟩, rfl⟩ := hv3
              have R2 := hset3 m xn (by omega)
              rw [← Hz.out, mid_swap L xn m hk] at R2
              have hgW := HK.out.1.new g2 hgo2
              refine ⟨⟨?_, ((HK.out.1.fr.trans (Fr.drewN (fun _ => False) _ n) (fun _ _ e => e)).trans (Fr.set _ g2 _ _) (fun b hb e => by omega)).trans (Fr.set _ g2 _ _) (fun b hb e => by omega), HK.out.1.new⟩, fun y hy => ?_⟩
              · rw [← Hz.out]
                exact R2.frame (Nat.le_refl _) (fun _ _ => rfl)
              · rw [List.drop_eq_getElem_cons (by omega)] at hy
                rcases List.mem_cons.1 hy with rfl | hy
                · have e : L.getD m 0 = L[m] := by simp [List.getD, show m < L.length by omega]
                  rw [← e, Hz.out]; exact hz
                · exact HK.out.2 y hy)
            clear hset hc2 hgo2 hcap2
            by_cases hz : xn < z
            · have HF := hide (FIN.out hz)
              clear FIN HEND HK
              go_wp2_with fail
              go_quiet (fail)
              go_wp2_with fail
              go_roundw
              case rel => exact ⟨m, by omega, by go_num, hide (HF.out _)⟩
              case measure => simp [intOf]
            · have hz' : z ≤ xn := by omega
              have HE := hide (fun n => HEND.out n (.inr (by rw [Nat.add_sub_cancel, Hz.out]; exact hz')))
              clear FIN HEND HK hz
              go_wp2_with fail
              go_quiet (fail)
              go_wp2_with fail
              go_roundw
              case rel => exact ⟨j + 1, by omega, by go_num, hide ⟨go', HE.out _⟩⟩
              case measure => simp [intOf]; omega
    · have ej : j = S.length := by omega
      subst ej
      have HIH := hide hI
      clear hI HI
      go_wp2_with fail
      go_ret
      have e : sorted (opens S) = L := by rw [← HLs.out, List.take_length]
      exact ⟨_, go, rfl, by rw [e]; exact HIH.out⟩
end
end Go.Proofs.Ytpgbpfdgbajhlaa
