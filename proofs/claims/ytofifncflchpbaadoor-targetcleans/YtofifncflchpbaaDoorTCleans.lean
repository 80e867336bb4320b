/- A path without dots: the statement, walked. -/
import Derived.Test.YtofifncflchpbaaDoorTSays
import Derived.Test.YtofifncflchpbaaDoorTRCln
namespace Go.Proofs.YtofifncflchpbaaDoor
open Go.ChangeShapes Go.WideShapes Go.ChangeAt Go.RowKit

def fine (x : List UInt8) : Prop := x ≠ dots ∧ x ≠ dot
def allFine (P : List UInt8) (l : List UInt8) : Prop := ∀ x ∈ segsFrom P l, fine x
theorem clean_ok {s : ByteArray} (h : cleanE s.data.toList = 0) : cleanS s = sS (47 :: jn (kept s.data.toList.tail)) ∧ s.data.toList.head? = some 47 ∧ s.size ≤ 8192 := by
  unfold cleanE at h
  unfold cleanS cleanL
  by_cases h1 : s.data.toList.head? = some 47
  · rw [if_pos h1] at h ⊢
    by_cases h2 : 8192 < s.data.toList.length
    · rw [if_pos h2] at h; omega
    · rw [if_neg h2]
      rw [size_len] at h2
      exact ⟨rfl, h1, by omega⟩
  · rw [if_neg h1] at h; omega
theorem clean_len {s : ByteArray} (h : cleanE s.data.toList = 0) : (cleanS s).size ≤ s.size ∧ 0 < (cleanS s).size := by
  obtain ⟨h1, h2, h3⟩ := clean_ok h
  have hk := kept_len s.data.toList.tail
  rw [List.length_tail, size_len] at hk
  have hp : 0 < s.size := by
    rw [← size_len]
    cases e : s.data.toList with
    | nil => rw [e] at h2; cases h2
    | cons _ _ => simp
  rw [h1, sS_size, List.length_cons]
  omega
theorem clean_twice {s : ByteArray} (h : cleanE s.data.toList = 0) : cleanS (cleanS s) = cleanS s ∧ cleanE (cleanS s).data.toList = 0 := by
  obtain ⟨h1, h2, h3⟩ := clean_ok h
  obtain ⟨h4, h5⟩ := clean_len h
  have e : (cleanS s).data.toList = 47 :: jn (kept s.data.toList.tail) := by rw [h1, sS_list]
  have hn : ¬ 8192 < (cleanS s).data.toList.length := by rw [size_len]; omega
  have hh : (cleanS s).data.toList.head? = some 47 := by rw [e]; rfl
  constructor
  · have : cleanL (cleanS s).data.toList = 47 :: jn (kept s.data.toList.tail) := by
      unfold cleanL
      rw [if_pos hh, if_neg hn, e, List.tail_cons, kept_twice]
    rw [show cleanS (cleanS s) = sS (cleanL (cleanS s).data.toList) from rfl, this, h1]
  · unfold cleanE
    rw [if_pos hh, if_neg hn]
theorem fine_start {s : ByteArray} (h : cleanE s.data.toList = 0) : allFine [] ((cleanS s).data.toList.drop 1) := by
  obtain ⟨h1, h2, h3⟩ := clean_ok h
  rw [h1, sS_list, List.drop_one, List.tail_cons]
  intro x hx
  rw [segsFrom_empty, segs_kept] at hx
  exact (kept_mem _ x hx).2
theorem fine_next {a : ByteArray} {P : List UInt8} {k : Nat} (h : k < a.size) (hc : a[k] ≠ 47) (hf : allFine P (a.data.toList.drop k)) : allFine (P ++ [a[k]]) (a.data.toList.drop (k + 1)) := by
  rw [drop_cons a k h] at hf
  unfold allFine at *
  rw [segsFrom_next _ _ _ hc] at hf
  exact hf
theorem fine_cut {a : ByteArray} {P : List UInt8} {k : Nat} (h : k < a.size) (hc : a[k] = 47) (hf : allFine P (a.data.toList.drop k)) : fine P ∧ allFine [] (a.data.toList.drop (k + 1)) := by
  rw [drop_cons a k h, hc] at hf
  unfold allFine at *
  rw [segsFrom_cut] at hf
  rw [segsFrom_empty]
  exact ⟨hf P (by simp), fun x hx => hf x (by simp [hx])⟩
theorem fine_end {a : ByteArray} {P : List UInt8} {k : Nat} (h : a.size ≤ k) (hf : allFine P (a.data.toList.drop k)) : fine P := by
  rw [drop_end a k h] at hf
  unfold allFine at hf
  rw [segsFrom_nil] at hf
  exact hf P (by simp)
theorem fine_tests {P : List UInt8} (h : fine P) : ((sS P).toList == [46]) = false ∧ ((sS P).toList == [46, 46]) = false := by
  constructor
  · rw [str_eq, sS_list]; exact decide_eq_false h.2
  · rw [str_eq, sS_list]; exact decide_eq_false h.1

set_option maxHeartbeats 2000000 in
theorem cleans_walk (s : ByteArray) (w : World) (hm : MX w) :
    Calls Tryd.prog 6 #[.string s] w fun e w' => e = .returned (.bool true) ∧ Below w.heap.size w w' := by
  have HM := hide hm
  have HC := hide (fun w => clean_any s w)
  have HD := hide (fun w => rclean_any s w)
  clear hm
  by_cases h0 : cleanE s.data.toList = 0
  · have hl := clean_len h0
    have h8 := (clean_ok h0).2.2
    have HF := hide (fine_start h0)
    have h2 := clean_twice h0
    have HC2 := hide (fun w => clean_any (cleanS s) w)
    rw [h2.1, h2.2] at HC2
    rw [h0] at HC HD
    clear h2 h0
    generalize cleanS s = a at *
    go_enter Tryd.func6, Tryd.ntmps6
    go_wp2_with fail
    refine (HC.out _ HM.out).mono ?_
    rintro e w1 ⟨rfl, b1⟩
    have B1 := hide b1
    clear b1
    go_wp2_with fail
    refine (HD.out _).mono ?_
    rintro e w2 ⟨rfl, b2⟩
    have B2 := hide (B1.out.trans (b2.mono B1.out.size))
    clear b2 B1
    go_wp2_with fail
    refine (HC2.out _ (HM.out.below B2.out)).mono ?_
    rintro e w3 ⟨rfl, b3⟩
    have B3 := hide (B2.out.trans (b3.mono B2.out.size))
    clear b3 B2
    go_wp2
    go_loop [9, 10] (fun p i => ∃ (k : Nat) (P : List UInt8), i = .int .i64 k ∧ p = .string (sS P) ∧ 1 ≤ k ∧ k ≤ a.size + 1 ∧ P.length ≤ k ∧ Hid (k ≤ a.size → allFine P (a.data.toList.drop k))) (fun _ i => a.size + 1 - (intOf i).toNat)
    case atStart => exact ⟨1, [], rfl, rfl, Nat.le_refl _, by omega, Nat.zero_le _, hide (fun _ => HF.out)⟩
    case round =>
      obtain ⟨k, P, rfl, rfl, hk1, hk, hP, H⟩ := hrel
      have hsz : (sS P).size = P.length := sS_size P
      by_cases hle : (k : Int) ≤ a.size
      · by_cases hlt : (k : Int) < a.size
        · have hb : k < a.size := by omega
          by_cases hsl : (a[k].toNat : Int) = 47
          · have hc := byte_is (n := 47) (c := a[k]) (by omega) (by omega)
            have hf := fine_cut hb hc (H.out (by omega))
            obtain ⟨t1, t2⟩ := fine_tests hf.1
            have HN := hide hf.2
            clear hf hc
            go_wp2
            exact ⟨⟨k + 1, [], by go_num, rfl, by omega, by omega, Nat.zero_le _, hide (fun _ => HN.out)⟩, by simp [intOf]; omega⟩
          · have hc := byte_ne (n := 47) (c := a[k]) (by omega) (by omega)
            have HN := hide (fine_next hb hc (H.out (by omega)))
            have HPS := hide (part_snoc a P k hb)
            have hes := ext_one_size a k hb
            have hslc := slice_one a k hb
            generalize a.extract k (k + 1) = E at HPS hes hslc
            clear hc
            go_wp2
            exact ⟨⟨k + 1, P ++ [a[k]], by go_num, by rw [HPS.out], by omega, by omega, by rw [List.length_append, List.length_singleton]; omega, hide (fun _ => HN.out)⟩, by simp [intOf]; omega⟩
        · have hf := fine_end (P := P) (by omega) (H.out (by omega))
          obtain ⟨t1, t2⟩ := fine_tests hf
          clear hf
          go_wp2
          exact ⟨⟨k + 1, [], by go_num, rfl, by omega, by omega, Nat.zero_le _, hide (fun h => by omega)⟩, by simp [intOf]; omega⟩
      · go_wp2_with fail
        refine (speaks_any _ (HM.out.below B3.out)).mono ?_
        rintro e w4 ⟨rfl, b4⟩
        have B4 := hide (B3.out.trans (b4.mono B3.out.size))
        clear b4 B3
        go_wp2
        go_ret
        exact ⟨rfl, B4.out⟩
  · have HE := hide h0
    have tE : (((cleanE s.data.toList : Nat) : Int) != 0) = true := by rw [bne_iff_ne]; omega
    clear h0
    generalize cleanE s.data.toList = ee at *
    generalize cleanS s = a at *
    go_enter Tryd.func6, Tryd.ntmps6
    go_wp2_with fail
    refine (HC.out _ HM.out).mono ?_
    rintro e w1 ⟨rfl, b1⟩
    have B1 := hide b1
    clear b1
    go_wp2_with fail
    refine (HD.out _).mono ?_
    rintro e w2 ⟨rfl, b2⟩
    have B2 := hide (B1.out.trans (b2.mono B1.out.size))
    clear b2 B1
    go_wp2_with fail
    refine (speaks_any _ (HM.out.below B2.out)).mono ?_
    rintro e w3 ⟨rfl, b3⟩
    have B3 := hide (B2.out.trans (b3.mono B2.out.size))
    clear b3 B2
    go_wp2
    go_ret
    exact ⟨rfl, B3.out⟩
end Go.Proofs.YtofifncflchpbaaDoor
