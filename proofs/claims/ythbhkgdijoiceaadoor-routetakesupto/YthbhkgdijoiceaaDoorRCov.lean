/- Whether a prefix covers a path; how near a match's host is to a host: the program's, the document's. -/
import Derived.Test.YthbhkgdijoiceaaDoorFGet
namespace Go.Proofs.YthbhkgdijoiceaaDoor
open Go.ChangeShapes Go.WideShapes Go.ChangeAt Go.RowKit

theorem pre_iff (s p : ByteArray) : Lib.hasPrefix s.data.toList p.data.toList = decide (p.size ≤ s.size ∧ s.extract 0 p.size = p) := by
  unfold Lib.hasPrefix
  rw [Bool.eq_iff_iff, List.isPrefixOf_iff_prefix, List.prefix_iff_eq_take, decide_eq_true_eq, size_len]
  constructor
  · intro h
    have hl := congrArg List.length h
    rw [List.length_take, size_len, size_len] at hl
    refine ⟨by omega, ?_⟩
    have : (s.extract 0 p.size).data.toList = p.data.toList := by rw [ext_take]; exact h.symm
    cases hh : s.extract 0 p.size; cases p
    rw [hh] at this
    simp only [ByteArray.mk.injEq]
    exact Array.toList_inj.1 this
  · rintro ⟨_, h⟩
    rw [← ext_take, h]
theorem suf_iff (h e : ByteArray) (hl : e.size ≤ h.size) : Lib.hasSuffix h.data.toList e.data.toList = decide (h.extract (h.size - e.size) h.size = e) := by
  unfold Lib.hasSuffix
  rw [Bool.eq_iff_iff, List.isSuffixOf_iff_suffix, List.suffix_iff_eq_drop, decide_eq_true_eq, size_len, size_len]
  constructor
  · intro hh
    have : (h.extract (h.size - e.size) h.size).data.toList = e.data.toList := by rw [ext_drop]; exact hh.symm
    cases h2 : h.extract (h.size - e.size) h.size; cases e
    rw [h2] at this
    simp only [ByteArray.mk.injEq]
    exact Array.toList_inj.1 this
  · intro hh
    rw [← ext_drop, hh]
theorem suf_one (p : ByteArray) (h0 : 0 < p.size) : Lib.hasSuffix p.data.toList [47] = decide (p[p.size - 1].toNat = 47) := by
  unfold Lib.hasSuffix
  rw [Bool.eq_iff_iff, List.isSuffixOf_iff_suffix, List.suffix_iff_eq_drop, decide_eq_true_eq, size_len]
  have e : p.data.toList.drop (p.size - 1) = [p[p.size - 1]] := by
    rw [List.drop_eq_getElem_cons (by rw [size_len]; omega), List.drop_of_length_le (by rw [size_len]; omega)]
    rfl
  rw [show [(47 : UInt8)].length = 1 from rfl, e]
  constructor
  · intro h
    simp only [List.cons.injEq, and_true] at h
    rw [← h]; rfl
  · intro h
    rw [byte_is (n := 47) h (by decide)]
    rfl
theorem pre_one (s : ByteArray) (k : Nat) (h : k < s.size) : Lib.hasPrefix (s.data.toList.drop k) [47] = decide (s[k].toNat = 47) := by
  unfold Lib.hasPrefix
  rw [drop_cons s k h, Bool.eq_iff_iff, List.isPrefixOf_iff_prefix, decide_eq_true_eq, List.cons_prefix_cons]
  constructor
  · rintro ⟨h1, _⟩
    rw [← h1]; rfl
  · intro h
    exact ⟨(byte_is (n := 47) h (by decide)).symm, List.nil_prefix⟩
def covB (p s : ByteArray) : Bool := Lib.hasPrefix s.data.toList p.data.toList && (decide (s.size = p.size) || (Lib.hasSuffix p.data.toList [47] || Lib.hasPrefix (s.data.toList.drop p.size) [47]))
set_option maxHeartbeats 1000000 in
theorem cov_any (p s : ByteArray) (w : World) (hp : p.size ≤ 9223372036854775807) :
    Calls Tryd.prog 10 #[.string p, .string s] w fun e w' => e = .returned (.bool (covB p s)) ∧ w' = w := by
  have hC := Tryd.strings_CutPrefix s p
  obtain ⟨t, ht⟩ : ∃ t : ByteArray, t = ⟨(Lib.trimPrefix s.data.toList p.data.toList).toArray⟩ := ⟨_, rfl⟩
  have hT : t.data.toList = Lib.trimPrefix s.data.toList p.data.toList := by rw [ht]
  rw [← ht] at hC
  clear ht
  have hS := fun w => Tryd.strings_HasSuffix p ⟨#[47]⟩ w hp
  have hP := Tryd.strings_HasPrefix t ⟨#[47]⟩
  rw [show (⟨#[47]⟩ : ByteArray).data.toList = [47] from rfl] at hS hP
  clear hp
  cases hb : Lib.hasPrefix s.data.toList p.data.toList with
  | false =>
    have HR : Hid (covB p s = false) := hide (by unfold covB; rw [hb]; rfl)
    rw [hb] at hC
    have HC := hide hC
    clear hC hS hP hT hb
    go_enter Tryd.func10, Tryd.ntmps10
    go_wp2_with (go_at_call 24; refine (HC.out _).mono ?_; rintro e w' ⟨rfl, rfl⟩)
    go_ret
    exact ⟨ret_bool HR.out.symm, rfl⟩
  | true =>
    unfold Lib.trimPrefix at hT
    rw [hb, if_pos rfl, size_len] at hT
    have hsz : t.size = s.size - p.size := by rw [← size_len, hT, List.length_drop, size_len]
    have hpl : p.size ≤ s.size := (of_decide_eq_true ((pre_iff s p).symm.trans hb)).1
    have hR : covB p s = (decide (t.size = 0) || (Lib.hasSuffix p.data.toList [47] || Lib.hasPrefix t.data.toList [47])) := by
      unfold covB
      rw [hb, hT, hsz, Bool.true_and]
      congr 1
      exact decide_eq_decide.2 (by omega)
    rw [hb] at hC
    rw [hR]
    have HC := hide hC
    clear hC hT hb hsz hpl hR
    generalize Lib.hasSuffix p.data.toList [47] = x at hS ⊢
    generalize Lib.hasPrefix t.data.toList [47] = y at hP ⊢
    have HS := hide hS
    have HP := hide hP
    clear hS hP
    by_cases h0 : t.size = 0
    · have he : t.toList.isEmpty = true := by rw [Lib.toList_data, isEmpty_size]; exact decide_eq_true h0
      have H0 := hide h0
      clear h0
      go_enter Tryd.func10, Tryd.ntmps10
      go_wp2_with (go_at_call 24; refine (HC.out _).mono ?_; rintro e w' ⟨rfl, rfl⟩)
      go_ret
      exact ⟨ret_bool (by rw [decide_eq_true H0.out]; rfl), rfl⟩
    · have he : t.toList.isEmpty = false := by rw [Lib.toList_data, isEmpty_size]; exact decide_eq_false h0
      have H0 := hide h0
      clear h0
      cases x with
      | true =>
        go_enter Tryd.func10, Tryd.ntmps10
        go_wp2_with (first | (go_at_call 24; refine (HC.out _).mono ?_; rintro e w' ⟨rfl, rfl⟩) | (go_at_call 25; refine (HS.out _).mono ?_; rintro e w' ⟨rfl, rfl⟩))
        go_ret
        exact ⟨ret_bool (by rw [decide_eq_false H0.out]; rfl), rfl⟩
      | false =>
        go_enter Tryd.func10, Tryd.ntmps10
        go_wp2_with (first | (go_at_call 24; refine (HC.out _).mono ?_; rintro e w' ⟨rfl, rfl⟩) | (go_at_call 25; refine (HS.out _).mono ?_; rintro e w' ⟨rfl, rfl⟩) | (go_at_call 26; refine (HP.out _).mono ?_; rintro e w' ⟨rfl, rfl⟩))
        go_ret
        exact ⟨ret_bool (by rw [decide_eq_false H0.out]; rfl), rfl⟩
end Go.Proofs.YthbhkgdijoiceaaDoor
