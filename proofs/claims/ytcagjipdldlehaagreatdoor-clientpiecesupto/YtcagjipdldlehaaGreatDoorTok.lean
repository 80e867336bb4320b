/- Tokens: what the program tells of a text, and what the document's answer does, are one plain function. -/
import Derived.Test.YtcagjipdldlehaaGreatDoorBase
import Derived.Lib.SlBytesConst
namespace Go.Proofs.YtcagjipdldlehaaGreatDoor
open Go.ChangeShapes Go.WideShapes Go.ChangeAt Go.RowKit

theorem token_yes {s : ByteArray} {k : Nat} (hk : s.size ≤ k) (h : (s.data.toList.take k).all tokc = true) (h0 : 0 < s.size) : true = tokenB s.data.toList := by
  rw [take_all s k hk] at h
  unfold tokenB
  rw [h, isEmpty_size, decide_eq_false (by omega)]
  rfl
theorem token_empty {s : ByteArray} (h0 : s.size = 0) : false = tokenB s.data.toList := by
  unfold tokenB
  rw [isEmpty_size]
  simp [h0]
theorem token_no {s : ByteArray} {k : Nat} (h : k < s.size) (hp : tokc s[k] = false) : false = tokenB s.data.toList := by
  unfold tokenB
  rw [all_no tokc s k h hp]
  rfl

theorem token_end {s : ByteArray} {k : Nat} (hk : s.size ≤ k) (h : (s.data.toList.take k).all tokc = true) : (!s.toList.isEmpty) = tokenB s.data.toList := by
  rw [take_all s k hk] at h
  unfold tokenB
  rw [h, Lib.toList_data]
  rfl

set_option maxHeartbeats 400000 in
theorem token_any (s : ByteArray) (w : World) (hs : s.size ≤ maxLen) :
    Calls Tryz.prog 58 #[.string s] w fun e w' => e = .returned (.bool (tokenB s.data.toList)) ∧ w = w' := by
  unfold maxLen at hs
  go_enter Tryz.func58, Tryz.ntmps58
  go_wp2
  go_loop [6] (fun i => ∃ k : Nat, k ≤ s.size ∧ i = .int .i64 k ∧ Hid ((s.data.toList.take k).all tokc = true)) (fun i => s.size - (intOf i).toNat)
  case atStart => exact ⟨0, Nat.zero_le _, rfl, by simp [Hid]⟩
  case round =>
    obtain ⟨k, hk, rfl, H⟩ := hrel
    by_cases hlt : k < s.size
    · cases ht : tokc s[k] with
      | true =>
        go_wp2_with (go_at_call 85; refine (inToken_any _ _).mono ?_; rintro e w' ⟨rfl, rfl⟩)
        go_round
        case rel => exact ⟨k + 1, by omega, by go_num, by show _ = _; rw [all_snoc tokc s k hlt, H.out, ht]; rfl⟩
        case measure => simp [intOf]; omega
      | false =>
        go_wp2_with (go_at_call 85; refine (inToken_any _ _).mono ?_; rintro e w' ⟨rfl, rfl⟩)
        go_ret
        exact ⟨ret_bool (token_no hlt ht), rfl⟩
    · go_wp2_with fail
      go_ret
      exact ⟨ret_bool (token_end (by omega) H.out), rfl⟩

/-! ### The document's answer -/
theorem marks_get : ∀ k : Fin 15, tokMarks[k.val]? = some (tokMarks.getD k.val 0) := by decide
theorem contains_snoc (c : UInt8) (k : Nat) (h : k < 15) : (tokMarks.take (k + 1)).contains c = ((tokMarks.take k).contains c || c == tokMarks.getD k 0) := by
  rw [List.take_add_one, marks_get ⟨k, h⟩]
  rw [Bool.eq_iff_iff]
  simp [List.contains_eq_mem, List.mem_append]
theorem mark_cells : ∀ k : Fin 15, (#[.int .u8 33, .int .u8 35, .int .u8 36, .int .u8 37, .int .u8 38, .int .u8 39, .int .u8 42, .int .u8 43, .int .u8 45, .int .u8 46, .int .u8 94, .int .u8 95, .int .u8 96, .int .u8 124, .int .u8 126] : Array Value)[k.val]? = some (.int .u8 ((tokMarks.getD k.val 0).toNat : Int)) := by
  intro k
  match k with
  | ⟨0, _⟩ => rfl
  | ⟨1, _⟩ => rfl
  | ⟨2, _⟩ => rfl
  | ⟨3, _⟩ => rfl
  | ⟨4, _⟩ => rfl
  | ⟨5, _⟩ => rfl
  | ⟨6, _⟩ => rfl
  | ⟨7, _⟩ => rfl
  | ⟨8, _⟩ => rfl
  | ⟨9, _⟩ => rfl
  | ⟨10, _⟩ => rfl
  | ⟨11, _⟩ => rfl
  | ⟨12, _⟩ => rfl
  | ⟨13, _⟩ => rfl
  | ⟨14, _⟩ => rfl
theorem mark_cell (w : World) (k : Nat) (h : k < 15) : (w.alloc (.cells #[.int .u8 33, .int .u8 35, .int .u8 36, .int .u8 37, .int .u8 38, .int .u8 39, .int .u8 42, .int .u8 43, .int .u8 45, .int .u8 46, .int .u8 94, .int .u8 95, .int .u8 96, .int .u8 124, .int .u8 126] 5 (15, 16))).cell? ⟨w.heap.size, k, none⟩ = some (.int .u8 ((tokMarks.getD k 0).toNat : Int)) := by
  rw [World.cell?_alloc_mark]
  exact mark_cells ⟨k, h⟩
set_option maxHeartbeats 400000 in
set_option maxRecDepth 100000 in
theorem tchar_any (c : UInt8) (w : World) : Calls Tryz.prog 134 #[.int .u8 (c.toNat : Int)] w fun e w' => e = .returned (.bool (tokc c)) ∧ Below w.heap.size w w' := by
  have hc := byte_lt c
  by_cases ha : alnum c = true
  · have h : (65 ≤ c.toNat ∧ c.toNat ≤ 90) ∨ (97 ≤ c.toNat ∧ c.toNat ≤ 122) ∨ (48 ≤ c.toNat ∧ c.toNat ≤ 57) := by
      simp only [alnum, Bool.or_eq_true, Bool.and_eq_true, decide_eq_true_eq] at ha; omega
    have H := ha
    rcases h with ⟨h1, h2⟩ | ⟨h1, h2⟩ | ⟨h1, h2⟩
    all_goals
      clear ha
      have HH : Hid (alnum c = true) := H
      clear H
      go_enter Tryz.func134, Tryz.ntmps134
      go_wp2
      go_ret
      exact ⟨ret_bool (tok_yes HH.out), Below.refl _ _⟩
  · have hn : Hid (alnum c = false) := by show _ = _; simpa using ha
    have h : ¬ ((65 ≤ c.toNat ∧ c.toNat ≤ 90) ∨ (97 ≤ c.toNat ∧ c.toNat ≤ 122) ∨ (48 ≤ c.toNat ∧ c.toNat ≤ 57)) := by
      simp only [alnum, Bool.or_eq_true, Bool.and_eq_true, decide_eq_true_eq] at ha; omega
    clear ha
    have HCELL := hide (mark_cell w)
    have hconv := Lib.run_convert_bytes_const (P := Tryz.prog) w 31 5 #[.int .u8 33, .int .u8 35, .int .u8 36, .int .u8 37, .int .u8 38, .int .u8 39, .int .u8 42, .int .u8 43, .int .u8 45, .int .u8 46, .int .u8 94, .int .u8 95, .int .u8 96, .int .u8 124, .int .u8 126] 15 15 Tryz.underlying31 Tryz.underlying5
    simp only [List.size_toArray, List.length_cons, List.length_nil, Nat.reduceAdd] at hconv
    have h' : (65 ≤ c.toNat ∧ 90 < c.toNat ∧ 97 ≤ c.toNat ∧ 122 < c.toNat) ∨ (65 ≤ c.toNat ∧ 90 < c.toNat ∧ c.toNat < 97) ∨ (57 < c.toNat ∧ c.toNat < 65) ∨ c.toNat < 48 := by omega
    clear h
    go_enter Tryz.func134, Tryz.ntmps134
    rcases h' with ⟨h1, h2, h3, h4⟩ | ⟨h1, h2, h3⟩ | ⟨h1, h2⟩ | h1
    all_goals
      go_wp2
      go_loop [30] (fun i => ∃ k : Nat, k ≤ 15 ∧ i = .int .i64 k ∧ Hid ((tokMarks.take k).contains c = false)) (fun i => 15 - (intOf i).toNat)
      case atStart => exact ⟨0, Nat.zero_le _, rfl, by simp [Hid]⟩
      case round =>
        obtain ⟨k, hk, rfl, H⟩ := hrel
        by_cases hlt : k < 15
        · have hcs := contains_snoc c k hlt
          have hck := HCELL.out k hlt
          have hme : tokMarks.contains (tokMarks.getD k 0) = true := by
            rw [List.contains_eq_mem, decide_eq_true_eq, List.getD_eq_getElem?_getD, List.getElem?_eq_getElem (by simpa [tokMarks] using hlt), Option.getD_some]
            exact List.getElem_mem _
          generalize tokMarks.getD k 0 = x at hcs hck hme
          have hbe := byte_eqI c x
          cases ht : (c == x) with
          | true =>
            rw [ht] at hbe
            have HT : Hid (tokc c = true) := by
              show _ = _
              unfold tokc; rw [eq_of_beq ht, hme]; simp
            clear ht hcs hme
            go_wp2
            go_ret
            exact ⟨ret_bool HT.out.symm, (Below.refl _ _).alloc (Nat.le_refl _) _⟩
          | false =>
            rw [ht] at hbe
            have HC : Hid ((tokMarks.take (k + 1)).contains c = false) := by show _ = _; rw [hcs, H.out, ht]; rfl
            clear ht hcs hme
            go_wp2
            go_round
            case rel => exact ⟨k + 1, by omega, by go_num, HC⟩
            case measure => simp [intOf]; omega
        · have e : k = 15 := by omega
          subst e
          have HT : Hid (tokc c = false) := by
            show _ = _
            unfold tokc
            rw [hn.out]
            exact H.out
          go_wp2
          go_ret
          exact ⟨ret_bool HT.out.symm, (Below.refl _ _).alloc (Nat.le_refl _) _⟩
end Go.Proofs.YtcagjipdldlehaaGreatDoor
