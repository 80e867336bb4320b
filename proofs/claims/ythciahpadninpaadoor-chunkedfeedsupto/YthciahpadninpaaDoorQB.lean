/- QB: Base Tok Val Num Pend Lst FNam FCheck FAll FChk. -/
import Derived.Test.YthciahpadninpaaDoorLib
import Derived.Test.YthciahpadninpaaDoorQA
import Derived.Lib.SlBytesConst
import Derived.Deep.QuietTactic
import Derived.BigQuiet
import Derived.Deep.RegionWith
import Derived.Handy
import Derived.Deep.Cut
/- What the smallest functions of package lexis, and of the document's answer for it, tell of a byte. -/
namespace Go.Proofs.YthciahpadninpaaDoor
open Go.ChangeShapes Go.WideShapes Go.ChangeAt Go.RowKit

theorem indexByte_neg : ∀ (l : List UInt8) (c : UInt8), Lib.indexByte l c = -1 ∨ 0 ≤ Lib.indexByte l c
  | [], c => .inl rfl
  | b :: l, c => by
    unfold Lib.indexByte
    rcases indexByte_neg l c with h | h
    · split
      · right; omega
      · left; simp [h]
    · split
      · right; omega
      · split
        · left; rfl
        · right; omega
theorem indexByte_mem : ∀ (l : List UInt8) (c : UInt8), decide (0 ≤ Lib.indexByte l c) = l.contains c
  | [], c => rfl
  | b :: l, c => by
    have ih := indexByte_mem l c
    have hn := indexByte_neg l c
    unfold Lib.indexByte
    rw [List.contains_cons, ← ih]
    by_cases h : b = c
    · subst h; simp
    · have h1 : (b == c) = false := by simpa using h
      have h2 : (c == b) = false := by simpa using Ne.symm h
      rw [h1, h2]
      simp only [Bool.false_or]
      rcases hn with hn | hn
      · rw [hn]; simp
      · have h3 : (Lib.indexByte l c == -1) = false := by rw [beq_eq_false_iff_ne]; omega
        simp only [h3, Bool.false_eq_true, ↓reduceIte]
        congr 1
        rw [eq_iff_iff]
        omega

theorem alnum_yes {c : UInt8} (h : (65 ≤ c.toNat ∧ c.toNat ≤ 90) ∨ (97 ≤ c.toNat ∧ c.toNat ≤ 122) ∨ (48 ≤ c.toNat ∧ c.toNat ≤ 57)) : alnum c = true := by
  simp only [alnum, Bool.or_eq_true, Bool.and_eq_true, decide_eq_true_eq]; omega
theorem alnum_no {c : UInt8} (h : ¬ ((65 ≤ c.toNat ∧ c.toNat ≤ 90) ∨ (97 ≤ c.toNat ∧ c.toNat ≤ 122) ∨ (48 ≤ c.toNat ∧ c.toNat ≤ 57))) : alnum c = false := by
  cases e : alnum c with
  | false => rfl
  | true => simp only [alnum, Bool.or_eq_true, Bool.and_eq_true, decide_eq_true_eq] at e; omega
theorem tok_yes {c : UInt8} (h : alnum c = true) : true = tokc c := by unfold tokc; rw [h]; rfl
theorem tok_no {c : UInt8} (h : alnum c = false) : decide (0 ≤ Lib.indexByte [33, 35, 36, 37, 38, 39, 42, 43, 45, 46, 94, 95, 96, 124, 126] c) = tokc c := by
  rw [indexByte_mem]; unfold tokc; rw [h]; rfl

set_option maxHeartbeats 400000 in
theorem inToken_any (c : UInt8) (w : World) : Calls Tryd.prog 61 #[.int .u8 (c.toNat : Int)] w fun e w' => e = .returned (.bool (tokc c)) ∧ w = w' := by
  have hc := byte_lt c
  go_enter Tryd.func61, Tryd.ntmps61
  go_wp2_with (go_at_call 70; refine (Tryd.strings_IndexByte _ _ _).mono ?_; rintro e w' ⟨rfl, rfl⟩)
  all_goals go_ret
  all_goals first
    | exact ⟨ret_bool (tok_yes (alnum_yes (by omega))), rfl⟩
    | exact ⟨ret_bool (tok_no (alnum_no (by omega))), rfl⟩

theorem inValue_any (c : UInt8) (w : World) : Calls Tryd.prog 62 #[.int .u8 (c.toNat : Int)] w fun e w' => e = .returned (.bool (valc c)) ∧ w = w' := by
  have hc := byte_lt c
  by_cases h9 : c.toNat = 9
  · have t : (((c.toNat : Int)) == 9) = true := beq_iff_eq.2 (by omega)
    go_enter Tryd.func62, Tryd.ntmps62
    go_wp2
    all_goals go_ret
    all_goals exact ⟨ret_bool (by simp [valc, h9]), rfl⟩
  · have t : (((c.toNat : Int)) == 9) = false := beq_eq_false_iff_ne.2 (by omega)
    by_cases h32 : 32 ≤ c.toNat
    · by_cases h127 : c.toNat = 127
      · have t2 : (((c.toNat : Int)) != 127) = false := by rw [bne_eq_false_iff_eq]; omega
        go_enter Tryd.func62, Tryd.ntmps62
        go_wp2
        all_goals go_ret
        all_goals exact ⟨ret_bool (by simp [valc, h127]), rfl⟩
      · have t2 : (((c.toNat : Int)) != 127) = true := by rw [bne_iff_ne]; omega
        go_enter Tryd.func62, Tryd.ntmps62
        go_wp2
        all_goals go_ret
        all_goals exact ⟨ret_bool (by simp [valc, h9, h32, h127]), rfl⟩
    · go_enter Tryd.func62, Tryd.ntmps62
      go_wp2
      all_goals go_ret
      all_goals exact ⟨ret_bool (by simp [valc, h9, h32]), rfl⟩

theorem blank_any (c : UInt8) (w : World) : Calls Tryd.prog 53 #[.int .u8 (c.toNat : Int)] w fun e w' => e = .returned (.bool (blankc c)) ∧ w = w' := by
  have hc := byte_lt c
  by_cases h9 : c.toNat = 9
  · have t : (((c.toNat : Int)) == 9) = true := beq_iff_eq.2 (by omega)
    go_enter Tryd.func53, Tryd.ntmps53
    go_wp2
    go_ret
    exact ⟨ret_bool (by simp [blankc, h9]), rfl⟩
  · have t : (((c.toNat : Int)) == 9) = false := beq_eq_false_iff_ne.2 (by omega)
    by_cases h32 : c.toNat = 32
    · have t2 : (((c.toNat : Int)) == 32) = true := beq_iff_eq.2 (by omega)
      go_enter Tryd.func53, Tryd.ntmps53
      go_wp2
      go_ret
      exact ⟨ret_bool (by simp [blankc, h32]), rfl⟩
    · have t2 : (((c.toNat : Int)) == 32) = false := beq_eq_false_iff_ne.2 (by omega)
      go_enter Tryd.func53, Tryd.ntmps53
      go_wp2
      go_ret
      exact ⟨ret_bool (by simp [blankc, h9, h32]), rfl⟩
end Go.Proofs.YthciahpadninpaaDoor
/- Tokens: what the program tells of a text, and what the document's answer does, are one plain function. -/
namespace Go.Proofs.YthciahpadninpaaDoor
open Go.ChangeShapes Go.WideShapes Go.ChangeAt Go.RowKit

theorem token_yes {s : ByteArray} {k : Nat} (hk : s.size ≤ k) (h : (s.data.toList.take k).all tokc = true) (h0 : 0 < s.size) : true = tokenB s.data.toList := by
  rw [take_all s k hk] at h
  unfold tokenB
  rw [h, isEmpty_size, decide_eq_false (by omega)]
  rfl
theorem token_empty {s : ByteArray} (h0 : s.size = 0) : false = tokenB s.data.toList := by
  unfold tokenB
  rw [isEmpty_size]
  simp [h0]
theorem token_no {s : ByteArray} {k : Nat} (h : k < s.size) (hp : tokc s[k] = false) : false = tokenB s.data.toList := by
  unfold tokenB
  rw [all_no tokc s k h hp]
  rfl

theorem token_end {s : ByteArray} {k : Nat} (hk : s.size ≤ k) (h : (s.data.toList.take k).all tokc = true) : (!s.toList.isEmpty) = tokenB s.data.toList := by
  rw [take_all s k hk] at h
  unfold tokenB
  rw [h, Lib.toList_data]
  rfl

set_option maxHeartbeats 400000 in
theorem token_any (s : ByteArray) (w : World) (hs : s.size ≤ maxLen) :
    Calls Tryd.prog 50 #[.string s] w fun e w' => e = .returned (.bool (tokenB s.data.toList)) ∧ w = w' := by
  unfold maxLen at hs
  go_enter Tryd.func50, Tryd.ntmps50
  go_wp2
  go_loop [6] (fun i => ∃ k : Nat, k ≤ s.size ∧ i = .int .i64 k ∧ Hid ((s.data.toList.take k).all tokc = true)) (fun i => s.size - (intOf i).toNat)
  case atStart => exact ⟨0, Nat.zero_le _, rfl, by simp [Hid]⟩
  case round =>
    obtain ⟨k, hk, rfl, H⟩ := hrel
    by_cases hlt : k < s.size
    · cases ht : tokc s[k] with
      | true =>
        go_wp2_with (go_at_call 61; refine (inToken_any _ _).mono ?_; rintro e w' ⟨rfl, rfl⟩)
        go_round
        case rel => exact ⟨k + 1, by omega, by go_num, by show _ = _; rw [all_snoc tokc s k hlt, H.out, ht]; rfl⟩
        case measure => simp [intOf]; omega
      | false =>
        go_wp2_with (go_at_call 61; refine (inToken_any _ _).mono ?_; rintro e w' ⟨rfl, rfl⟩)
        go_ret
        exact ⟨ret_bool (token_no hlt ht), rfl⟩
    · go_wp2_with fail
      go_ret
      exact ⟨ret_bool (token_end (by omega) H.out), rfl⟩

/-! ### The document's answer -/
theorem marks_get : ∀ k : Fin 15, tokMarks[k.val]? = some (tokMarks.getD k.val 0) := by decide
theorem contains_snoc (c : UInt8) (k : Nat) (h : k < 15) : (tokMarks.take (k + 1)).contains c = ((tokMarks.take k).contains c || c == tokMarks.getD k 0) := by
  rw [List.take_add_one, marks_get ⟨k, h⟩]
  rw [Bool.eq_iff_iff]
  simp [List.contains_eq_mem, List.mem_append]
theorem mark_cells : ∀ k : Fin 15, (#[.int .u8 33, .int .u8 35, .int .u8 36, .int .u8 37, .int .u8 38, .int .u8 39, .int .u8 42, .int .u8 43, .int .u8 45, .int .u8 46, .int .u8 94, .int .u8 95, .int .u8 96, .int .u8 124, .int .u8 126] : Array Value)[k.val]? = some (.int .u8 ((tokMarks.getD k.val 0).toNat : Int)) := by
  intro k
  match k with
  | ⟨0, _⟩ => rfl
  | ⟨1, _⟩ => rfl
  | ⟨2, _⟩ => rfl
  | ⟨3, _⟩ => rfl
  | ⟨4, _⟩ => rfl
  | ⟨5, _⟩ => rfl
  | ⟨6, _⟩ => rfl
  | ⟨7, _⟩ => rfl
  | ⟨8, _⟩ => rfl
  | ⟨9, _⟩ => rfl
  | ⟨10, _⟩ => rfl
  | ⟨11, _⟩ => rfl
  | ⟨12, _⟩ => rfl
  | ⟨13, _⟩ => rfl
  | ⟨14, _⟩ => rfl
theorem mark_cell (w : World) (k : Nat) (h : k < 15) : (w.alloc (.cells #[.int .u8 33, .int .u8 35, .int .u8 36, .int .u8 37, .int .u8 38, .int .u8 39, .int .u8 42, .int .u8 43, .int .u8 45, .int .u8 46, .int .u8 94, .int .u8 95, .int .u8 96, .int .u8 124, .int .u8 126] 5 (15, 16))).cell? ⟨w.heap.size, k, none⟩ = some (.int .u8 ((tokMarks.getD k 0).toNat : Int)) := by
  rw [World.cell?_alloc_mark]
  exact mark_cells ⟨k, h⟩
set_option maxHeartbeats 400000 in
set_option maxRecDepth 100000 in
theorem tchar_any (c : UInt8) (w : World) : Calls Tryd.prog 52 #[.int .u8 (c.toNat : Int)] w fun e w' => e = .returned (.bool (tokc c)) ∧ Below w.heap.size w w' := by
  have hc := byte_lt c
  by_cases ha : alnum c = true
  · have h : (65 ≤ c.toNat ∧ c.toNat ≤ 90) ∨ (97 ≤ c.toNat ∧ c.toNat ≤ 122) ∨ (48 ≤ c.toNat ∧ c.toNat ≤ 57) := by
      simp only [alnum, Bool.or_eq_true, Bool.and_eq_true, decide_eq_true_eq] at ha; omega
    have H := ha
    rcases h with ⟨h1, h2⟩ | ⟨h1, h2⟩ | ⟨h1, h2⟩
    all_goals
      clear ha
      have HH : Hid (alnum c = true) := H
      clear H
      go_enter Tryd.func52, Tryd.ntmps52
      go_wp2
      go_ret
      exact ⟨ret_bool (tok_yes HH.out), Below.refl _ _⟩
  · have hn : Hid (alnum c = false) := by show _ = _; simpa using ha
    have h : ¬ ((65 ≤ c.toNat ∧ c.toNat ≤ 90) ∨ (97 ≤ c.toNat ∧ c.toNat ≤ 122) ∨ (48 ≤ c.toNat ∧ c.toNat ≤ 57)) := by
      simp only [alnum, Bool.or_eq_true, Bool.and_eq_true, decide_eq_true_eq] at ha; omega
    clear ha
    have HCELL := hide (mark_cell w)
    have hconv := Lib.run_convert_bytes_const (P := Tryd.prog) w 29 5 #[.int .u8 33, .int .u8 35, .int .u8 36, .int .u8 37, .int .u8 38, .int .u8 39, .int .u8 42, .int .u8 43, .int .u8 45, .int .u8 46, .int .u8 94, .int .u8 95, .int .u8 96, .int .u8 124, .int .u8 126] 15 15 Tryd.underlying29 Tryd.underlying5
    simp only [List.size_toArray, List.length_cons, List.length_nil, Nat.reduceAdd] at hconv
    have h' : (65 ≤ c.toNat ∧ 90 < c.toNat ∧ 97 ≤ c.toNat ∧ 122 < c.toNat) ∨ (65 ≤ c.toNat ∧ 90 < c.toNat ∧ c.toNat < 97) ∨ (57 < c.toNat ∧ c.toNat < 65) ∨ c.toNat < 48 := by omega
    clear h
    go_enter Tryd.func52, Tryd.ntmps52
    rcases h' with ⟨h1, h2, h3, h4⟩ | ⟨h1, h2, h3⟩ | ⟨h1, h2⟩ | h1
    all_goals
      go_wp2
      go_loop [30] (fun i => ∃ k : Nat, k ≤ 15 ∧ i = .int .i64 k ∧ Hid ((tokMarks.take k).contains c = false)) (fun i => 15 - (intOf i).toNat)
      case atStart => exact ⟨0, Nat.zero_le _, rfl, by simp [Hid]⟩
      case round =>
        obtain ⟨k, hk, rfl, H⟩ := hrel
        by_cases hlt : k < 15
        · have hcs := contains_snoc c k hlt
          have hck := HCELL.out k hlt
          have hme : tokMarks.contains (tokMarks.getD k 0) = true := by
            rw [List.contains_eq_mem, decide_eq_true_eq, List.getD_eq_getElem?_getD, List.getElem?_eq_getElem (by simpa [tokMarks] using hlt), Option.getD_some]
            exact List.getElem_mem _
          generalize tokMarks.getD k 0 = x at hcs hck hme
          have hbe := byte_eqI c x
          cases ht : (c == x) with
          | true =>
            rw [ht] at hbe
            have HT : Hid (tokc c = true) := by
              show _ = _
              unfold tokc; rw [eq_of_beq ht, hme]; simp
            clear ht hcs hme
            go_wp2
            go_ret
            exact ⟨ret_bool HT.out.symm, (Below.refl _ _).alloc (Nat.le_refl _) _⟩
          | false =>
            rw [ht] at hbe
            have HC : Hid ((tokMarks.take (k + 1)).contains c = false) := by show _ = _; rw [hcs, H.out, ht]; rfl
            clear ht hcs hme
            go_wp2
            go_round
            case rel => exact ⟨k + 1, by omega, by go_num, HC⟩
            case measure => simp [intOf]; omega
        · have e : k = 15 := by omega
          subst e
          have HT : Hid (tokc c = false) := by
            show _ = _
            unfold tokc
            rw [hn.out]
            exact H.out
          go_wp2
          go_ret
          exact ⟨ret_bool HT.out.symm, (Below.refl _ _).alloc (Nat.le_refl _) _⟩
end Go.Proofs.YthciahpadninpaaDoor
/- Values and trimmed texts: the program's and the document's. -/
namespace Go.Proofs.YthciahpadninpaaDoor
open Go.ChangeShapes Go.WideShapes Go.ChangeAt Go.RowKit

theorem token_pos {s : ByteArray} {k : Nat} (hk : s.size ≤ k) (h : (s.data.toList.take k).all tokc = true) : decide (0 < s.size) = tokenB s.data.toList := by
  rw [take_all s k hk] at h
  unfold tokenB
  rw [h, isEmpty_size, Bool.eq_iff_iff]
  simp only [Bool.true_and, Bool.not_eq_true', decide_eq_true_eq, decide_eq_false_iff_not]
  omega

set_option maxHeartbeats 400000 in
theorem rtoken_any (s : ByteArray) (w : World) (hs : s.size ≤ maxLen) :
    Calls Tryd.prog 38 #[.string s] w fun e w' => e = .returned (.bool (tokenB s.data.toList)) ∧ Below w.heap.size w w' := by
  unfold maxLen at hs
  go_enter Tryd.func38, Tryd.ntmps38
  go_wp2
  go_loopw [3] (fun i wr => ∃ k : Nat, k ≤ s.size ∧ i = .int .i64 k ∧ Hid ((s.data.toList.take k).all tokc = true) ∧ Hid (Below w.heap.size w wr)) (fun i _ => s.size - (intOf i).toNat)
  case atStart => exact ⟨0, Nat.zero_le _, rfl, by simp [Hid], Below.refl _ _⟩
  case round =>
    obtain ⟨k, hk, rfl, H, HB⟩ := hrel
    by_cases hlt : k < s.size
    · cases ht : tokc s[k] with
      | true =>
        go_wp2_with (go_at_call 52; refine (tchar_any _ _).mono ?_; rintro e w' ⟨rfl, hb⟩)
        go_roundw
        case rel => exact ⟨k + 1, by omega, by go_num, by show _ = _; rw [all_snoc tokc s k hlt, H.out, ht]; rfl, HB.out.trans (hb.mono HB.out.size)⟩
        case measure => simp [intOf]; omega
      | false =>
        go_wp2_with (go_at_call 52; refine (tchar_any _ _).mono ?_; rintro e w' ⟨rfl, hb⟩)
        go_ret
        exact ⟨ret_bool (token_no hlt ht), HB.out.trans (hb.mono HB.out.size)⟩
    · go_wp2_with fail
      go_ret
      exact ⟨ret_bool (token_pos (by omega) H.out), HB.out⟩

/-! ### Trimmed -/
def trimS (s : ByteArray) : ByteArray := ⟨(trimB s.data.toList).toArray⟩
theorem trim_size (s : ByteArray) : (trimS s).size ≤ s.size := by
  have := trimB_le s.data.toList
  rw [size_len] at this
  exact this
theorem strim_any (s : ByteArray) (w : World) (hs : s.size ≤ maxLen) :
    Calls Tryd.prog 63 #[.string s, .string ⟨#[9, 32]⟩] w fun e w' => e = .returned (.string (trimS s)) ∧ Below w.heap.size w w' :=
  Any.strings_Trim_laid Tryd.lays160 (by kernel_rfl) s ⟨#[9, 32]⟩ w hs (by decide) (ascii_of_all (by decide))
theorem clone_any (s : ByteArray) (w : World) (hs : s.size ≤ 281474976710656) :
    Calls Tryd.prog 26 #[.string s] w fun e w' => e = .returned (.string s) ∧ Below w.heap.size w w' := by
  go_enter Tryd.func26, Tryd.ntmps26
  go_wp2_with (go_at_call 36; refine (Tryd.stringslite_Clone _ _ hs).mono ?_; rintro e w' ⟨rfl, hb⟩)
  go_ret
  exact ⟨rfl, hb⟩
theorem trim_any (s : ByteArray) (w : World) (hs : s.size ≤ 281474976710656) :
    Calls Tryd.prog 57 #[.string s] w fun e w' => e = .returned (.string (trimS s)) ∧ Below w.heap.size w w' := by
  have hz : (trimS s).size ≤ 281474976710656 := Nat.le_trans (trim_size s) hs
  have hm : s.size ≤ maxLen := by unfold maxLen; omega
  generalize hr : trimS s = r at hz ⊢
  have hT : ∀ w, Calls Tryd.prog 63 #[.string s, .string ⟨#[9, 32]⟩] w fun e w' => e = .returned (.string r) ∧ Below w.heap.size w w' := fun w => hr ▸ strim_any s w hm
  have HT := hide hT
  clear hr hT
  go_enter Tryd.func57, Tryd.ntmps57
  go_wp2_with (first | (go_at_call 63; refine (HT.out _).mono ?_; rintro e w1 ⟨rfl, hb1⟩) | (go_at_call 26; refine (clone_any _ _ hz).mono ?_; rintro e w2 ⟨rfl, hb2⟩))
  go_ret
  exact ⟨rfl, hb1.trans (hb2.mono hb1.size)⟩

/-! ### Values -/
theorem value_end {s r : ByteArray} {k : Nat} (hk : s.size ≤ k) (h : (s.data.toList.take k).all valc = true) (hr : trimS s = r) : (s.toList == r.toList) = valueB s.data.toList := by
  rw [take_all s k hk] at h
  subst hr
  unfold valueB
  rw [h, Lib.toList_data, Lib.toList_data, beq_list]
  rfl

set_option maxHeartbeats 400000 in
theorem value_any (s : ByteArray) (w : World) (hs : s.size ≤ maxLen) :
    Calls Tryd.prog 51 #[.string s] w fun e w' => e = .returned (.bool (valueB s.data.toList)) ∧ Below w.heap.size w w' := by
  have hT := hide (fun w => strim_any s w hs)
  generalize hr : trimS s = r at hT
  have HR := hide hr
  clear hr
  unfold maxLen at hs
  go_enter Tryd.func51, Tryd.ntmps51
  go_wp2
  go_loop [6] (fun i => ∃ k : Nat, k ≤ s.size ∧ i = .int .i64 k ∧ Hid ((s.data.toList.take k).all valc = true)) (fun i => s.size - (intOf i).toNat)
  case atStart => exact ⟨0, Nat.zero_le _, rfl, by simp [Hid]⟩
  case round =>
    obtain ⟨k, hk, rfl, H⟩ := hrel
    by_cases hlt : k < s.size
    · cases ht : valc s[k] with
      | true =>
        go_wp2_with (go_at_call 62; refine (inValue_any _ _).mono ?_; rintro e w' ⟨rfl, rfl⟩)
        go_round
        case rel => exact ⟨k + 1, by omega, by go_num, by show _ = _; rw [all_snoc valc s k hlt, H.out, ht]; rfl⟩
        case measure => simp [intOf]; omega
      | false =>
        go_wp2_with (go_at_call 62; refine (inValue_any _ _).mono ?_; rintro e w' ⟨rfl, rfl⟩)
        go_ret
        exact ⟨ret_bool (by unfold valueB; rw [all_no valc s k hlt ht]; rfl), Below.refl _ _⟩
    · go_wp2_with (go_at_call 63; refine (hT.out _).mono ?_; rintro e w1 ⟨rfl, hb1⟩)
      go_ret
      exact ⟨ret_bool (value_end (by omega) H.out HR.out), hb1⟩

/-! ### Pieces of a text -/
theorem ltrim_blank {t : ByteArray} (h : 0 < t.size) (hb : blankc t[0] = true) : ltrim t.data.toList = ltrim (t.extract 1 t.size).data.toList := by
  rw [head_list t h, ltrim_cons, if_pos hb]
theorem ltrim_stop {t : ByteArray} (h : 0 < t.size) (hb : blankc t[0] = false) : ltrim t.data.toList = t.data.toList := by
  rw [head_list t h, ltrim_cons, if_neg (by rw [hb]; simp)]
theorem rtrim_blank {t : ByteArray} (h : 0 < t.size) (hb : blankc t[t.size - 1] = true) : rtrim t.data.toList = rtrim (t.extract 0 (t.size - 1)).data.toList := by
  rw [last_list t h, rtrim_snoc, if_pos hb]
theorem rtrim_stop {t : ByteArray} (h : 0 < t.size) (hb : blankc t[t.size - 1] = false) : rtrim t.data.toList = t.data.toList := by
  rw [last_list t h, rtrim_snoc, if_neg (by rw [hb]; simp)]
theorem trim_end {s t : ByteArray} (h : rtrim (ltrim s.data.toList) = rtrim t.data.toList) (h2 : rtrim t.data.toList = t.data.toList) : Ending.returned (.string t) = .returned (.string (trimS s)) := by
  have e : trimS s = t := by
    unfold trimS
    rw [trimB_eq, trim_comm, h, h2]
  rw [e]

set_option maxHeartbeats 400000 in
theorem rtrim_any (s : ByteArray) (w : World) (hs : s.size ≤ maxLen) :
    Calls Tryd.prog 49 #[.string s] w fun e w' => e = .returned (.string (trimS s)) ∧ w = w' := by
  unfold maxLen at hs
  go_enter Tryd.func49, Tryd.ntmps49
  go_wp2
  go_loop [0] (fun v => ∃ t : ByteArray, v = .string t ∧ t.size ≤ s.size ∧ Hid (ltrim s.data.toList = ltrim t.data.toList)) (fun v => strLen v)
  case atStart => exact ⟨s, rfl, Nat.le_refl _, rfl⟩
  case round =>
    obtain ⟨t, rfl, ht, H⟩ := hrel
    by_cases h0 : 0 < t.size
    · cases hb : blankc t[0] with
      | true =>
        have hz := ext_size t 1 t.size
        have H2 := hide (H.out.trans (ltrim_blank h0 hb))
        have HZ := hide hz
        clear hz
        go_wp2_with (go_at_call 53; refine (blank_any _ _).mono ?_; rintro e w' ⟨rfl, rfl⟩)
        exact ⟨⟨_, rfl, by rw [HZ.out]; omega, H2⟩, by simp only [strLen]; rw [HZ.out]; omega⟩
      | false =>
        have H2 := hide (congrArg rtrim (H.out.trans (ltrim_stop h0 hb)))
        clear H
        go_wp2_with (go_at_call 53; refine (blank_any _ _).mono ?_; rintro e w' ⟨rfl, rfl⟩)
        go_loop [0] (fun v => ∃ t : ByteArray, v = .string t ∧ t.size ≤ s.size ∧ Hid (rtrim (ltrim s.data.toList) = rtrim t.data.toList)) (fun v => strLen v)
        case atStart => exact ⟨t, rfl, ht, H2⟩
        case round =>
          clear H2 ht
          obtain ⟨r, rfl, hr, H3⟩ := hrel
          by_cases h1 : 0 < r.size
          · cases hc : blankc r[r.size - 1] with
            | true =>
              have H4 := hide (H3.out.trans (rtrim_blank h1 hc))
              have HZ := hide (ext_size r 0 (r.size - 1))
              go_wp2_with (go_at_call 53; refine (blank_any _ _).mono ?_; rintro e w' ⟨rfl, rfl⟩)
              exact ⟨⟨_, rfl, by rw [HZ.out]; omega, H4⟩, by simp only [strLen]; rw [HZ.out]; omega⟩
            | false =>
              have H4 := hide (trim_end H3.out (rtrim_stop h1 hc))
              go_wp2_with (go_at_call 53; refine (blank_any _ _).mono ?_; rintro e w' ⟨rfl, rfl⟩)
              go_ret
              exact ⟨H4.out, rfl⟩
          · have H4 := hide (trim_end H3.out (by rw [nil_list r h1]; rfl))
            go_wp2
            go_ret
            exact ⟨H4.out, rfl⟩
    · have H2 := hide (congrArg rtrim (H.out.trans (show ltrim t.data.toList = t.data.toList by rw [nil_list t h0]; rfl)))
      clear H
      go_wp2
      go_loop [0] (fun v => ∃ t : ByteArray, v = .string t ∧ t.size ≤ s.size ∧ Hid (rtrim (ltrim s.data.toList) = rtrim t.data.toList)) (fun v => strLen v)
      case atStart => exact ⟨t, rfl, ht, H2⟩
      case round =>
        clear H2 ht
        obtain ⟨r, rfl, hr, H3⟩ := hrel
        by_cases h1 : 0 < r.size
        · cases hc : blankc r[r.size - 1] with
          | true =>
            have H4 := hide (H3.out.trans (rtrim_blank h1 hc))
            have HZ := hide (ext_size r 0 (r.size - 1))
            go_wp2_with (go_at_call 53; refine (blank_any _ _).mono ?_; rintro e w' ⟨rfl, rfl⟩)
            exact ⟨⟨_, rfl, by rw [HZ.out]; omega, H4⟩, by simp only [strLen]; rw [HZ.out]; omega⟩
          | false =>
            have H4 := hide (trim_end H3.out (rtrim_stop h1 hc))
            go_wp2_with (go_at_call 53; refine (blank_any _ _).mono ?_; rintro e w' ⟨rfl, rfl⟩)
            go_ret
            exact ⟨H4.out, rfl⟩
        · have H4 := hide (trim_end H3.out (by rw [nil_list r h1]; rfl))
          go_wp2
          go_ret
          exact ⟨H4.out, rfl⟩

/-! ### The document's values -/
theorem valc_ref (c : UInt8) : valc c = (decide (c.toNat = 9) || (decide (32 ≤ c.toNat) && decide (c.toNat ≤ 126)) || decide (128 ≤ c.toNat)) := by
  rw [Bool.eq_iff_iff]
  simp only [valc, Bool.or_eq_true, Bool.and_eq_true, Bool.not_eq_true', decide_eq_true_eq, decide_eq_false_iff_not]
  omega
theorem value_ends {s : ByteArray} {k : Nat} (hk : s.size ≤ k) (h : (s.data.toList.take k).all valc = true) (h0 : 0 < s.size) : (!blankc s[0] && !blankc s[s.size - 1]) = valueB s.data.toList := by
  rw [take_all s k hk] at h
  unfold valueB
  rw [h, Bool.true_and, Bool.eq_iff_iff]
  simp only [Bool.and_eq_true, Bool.not_eq_true', decide_eq_true_eq]
  rw [trim_id]
  have e1 : s.data.toList.head? = some s[0] := by rw [head_list s h0]; rfl
  have e2 : s.data.toList.getLast? = some s[s.size - 1] := by rw [last_list s h0]; simp
  rw [e1, e2]
  simp
theorem value_nil {s : ByteArray} (h0 : ¬ 0 < s.size) : true = valueB s.data.toList := by
  rw [nil_list s h0]; simp [valueB, trimB_eq, ltrim, rtrim]

set_option maxHeartbeats 400000 in
theorem rvalue_any (s : ByteArray) (w : World) (hs : s.size ≤ maxLen) :
    Calls Tryd.prog 39 #[.string s] w fun e w' => e = .returned (.bool (valueB s.data.toList)) ∧ w = w' := by
  unfold maxLen at hs
  go_enter Tryd.func39, Tryd.ntmps39
  go_wp2
  go_loop [4] (fun i => ∃ k : Nat, k ≤ s.size ∧ i = .int .i64 k ∧ Hid ((s.data.toList.take k).all valc = true)) (fun i => s.size - (intOf i).toNat)
  case atStart => exact ⟨0, Nat.zero_le _, rfl, by simp [Hid]⟩
  case round =>
    obtain ⟨k, hk, rfl, H⟩ := hrel
    by_cases hlt : k < s.size
    · have hl := byte_lt s[k]
      have hv := hide (valc_ref s[k])
      have H9 : s[k].toNat = 9 ∨ (s[k].toNat ≠ 9 ∧ 32 ≤ s[k].toNat ∧ s[k].toNat ≤ 126) ∨ (128 ≤ s[k].toNat) ∨ (s[k].toNat ≠ 9 ∧ s[k].toNat < 32) ∨ s[k].toNat = 127 := by omega
      rcases H9 with h | h | h | h | h
      · have t : (((s[k].toNat : Int)) == 9) = true := beq_iff_eq.2 (by omega)
        have ht : Hid (valc s[k] = true) := by show _ = _; rw [hv.out]; simp; omega
        clear h
        go_wp2
        all_goals
          go_round
          case rel => exact ⟨k + 1, by omega, by go_num, by show _ = _; rw [all_snoc valc s k hlt, H.out, ht.out]; rfl⟩
          case measure => simp [intOf]; omega
      · have t : (((s[k].toNat : Int)) == 9) = false := beq_eq_false_iff_ne.2 (by omega)
        have ht : Hid (valc s[k] = true) := by show _ = _; rw [hv.out]; simp; omega
        obtain ⟨_, h1, h2⟩ := h
        go_wp2
        all_goals
          go_round
          case rel => exact ⟨k + 1, by omega, by go_num, by show _ = _; rw [all_snoc valc s k hlt, H.out, ht.out]; rfl⟩
          case measure => simp [intOf]; omega
      · have t : (((s[k].toNat : Int)) == 9) = false := beq_eq_false_iff_ne.2 (by omega)
        have ht : Hid (valc s[k] = true) := by show _ = _; rw [hv.out]; simp; omega
        have d2 : decide ((s[k].toNat : Int) ≤ 126) = false := decide_eq_false (by omega)
        have d3 : decide (128 ≤ (s[k].toNat : Int)) = true := decide_eq_true (by omega)
        go_wp2
        all_goals
          go_round
          case rel => exact ⟨k + 1, by omega, by go_num, by show _ = _; rw [all_snoc valc s k hlt, H.out, ht.out]; rfl⟩
          case measure => simp [intOf]; omega
      all_goals
        have t : (((s[k].toNat : Int)) == 9) = false := beq_eq_false_iff_ne.2 (by omega)
        have ht : Hid (valc s[k] = false) := by
          show _ = _
          rw [hv.out, Bool.eq_false_iff]
          intro x
          simp only [Bool.or_eq_true, Bool.and_eq_true, decide_eq_true_eq] at x
          omega
        have hr : s[k].toNat < 32 ∨ (126 < s[k].toNat ∧ s[k].toNat < 128) := by omega
        have d3 : decide (128 ≤ (s[k].toNat : Int)) = false := decide_eq_false (by omega)
        have d4 : decide (32 ≤ (s[k].toNat : Int)) = false ∨ decide ((s[k].toNat : Int) ≤ 126) = false := hr.elim (fun hr => .inl (decide_eq_false (by omega))) (fun hr => .inr (decide_eq_false (by omega)))
        clear h hr
        rcases d4 with d4 | d4
        all_goals
          go_wp2
          all_goals
            go_ret
            exact ⟨ret_bool (by unfold valueB; rw [all_no valc s k hlt ht.out]; rfl), rfl⟩
    · by_cases h0 : 0 < s.size
      · have t : (((s.size : Int)) == 0) = false := beq_eq_false_iff_ne.2 (by omega)
        have HV := hide (value_ends (show s.size ≤ k by omega) H.out h0)
        cases hb : blankc s[0] with
        | true =>
          go_wp2_with (go_at_call 53; refine (blank_any _ _).mono ?_; rintro e w' ⟨rfl, rfl⟩)
          go_ret
          exact ⟨ret_bool (by rw [← HV.out, hb]; rfl), rfl⟩
        | false =>
          go_wp2_with (go_at_call 53; refine (blank_any _ _).mono ?_; rintro e w' ⟨rfl, rfl⟩)
          go_ret
          exact ⟨ret_bool (by rw [← HV.out, hb]; rfl), rfl⟩
      · have t : (((s.size : Int)) == 0) = true := beq_iff_eq.2 (by omega)
        go_wp2
        go_ret
        exact ⟨ret_bool (value_nil h0), rfl⟩
end Go.Proofs.YthciahpadninpaaDoor
/- Numbers: what digits say, by the program and by the document. -/
namespace Go.Proofs.YthciahpadninpaaDoor
open Go.ChangeShapes Go.WideShapes Go.ChangeAt Go.RowKit

theorem digv_up {c : UInt8} (h : 65 ≤ c.toNat ∧ c.toNat ≤ 70) : (digv c : Int) = c.toNat - 55 := by unfold digv; rw [if_pos h]; omega
theorem digv_lo {c : UInt8} (h : 97 ≤ c.toNat ∧ c.toNat ≤ 102) : (digv c : Int) = c.toNat - 87 := by unfold digv; rw [if_neg (by omega), if_pos h]; omega
theorem digv_nu {c : UInt8} (h : 48 ≤ c.toNat ∧ c.toNat ≤ 57) : (digv c : Int) = c.toNat - 48 := by unfold digv; rw [if_neg (by omega), if_neg (by omega), if_pos h]; omega
theorem digv_none {c : UInt8} (h : ¬ (65 ≤ c.toNat ∧ c.toNat ≤ 70)) (h2 : ¬ (97 ≤ c.toNat ∧ c.toNat ≤ 102)) (h3 : ¬ (48 ≤ c.toNat ∧ c.toNat ≤ 57)) : digv c = 16 := by
  unfold digv; rw [if_neg h, if_neg h2, if_neg h3]
theorem ways (n : Nat) : (65 ≤ n ∧ n ≤ 70) ∨ (97 ≤ n ∧ n ≤ 102) ∨ (48 ≤ n ∧ n ≤ 57) ∨ n < 48 ∨ (57 < n ∧ n < 65) ∨ (70 < n ∧ n < 97) ∨ 102 < n := by omega

set_option maxHeartbeats 400000 in
theorem digit_any (c : UInt8) (w : World) : Calls Tryd.prog 69 #[.int .u8 (c.toNat : Int)] w fun e w' => e = .returned (.int .i64 (digv c : Int)) ∧ w = w' := by
  have hc := byte_lt c
  rcases ways c.toNat with h | h | h | h | h | h | h
  · have HD := hide (digv_up h)
    obtain ⟨h1, h2⟩ := h
    go_enter Tryd.func69, Tryd.ntmps69
    go_wp2
    all_goals go_ret
    all_goals exact ⟨ret_int (by rw [HD.out]; omega), rfl⟩
  · have HD := hide (digv_lo h)
    obtain ⟨h1, h2⟩ := h
    go_enter Tryd.func69, Tryd.ntmps69
    go_wp2
    all_goals go_ret
    all_goals exact ⟨ret_int (by rw [HD.out]; omega), rfl⟩
  · have HD := hide (digv_nu h)
    obtain ⟨h1, h2⟩ := h
    go_enter Tryd.func69, Tryd.ntmps69
    go_wp2
    all_goals go_ret
    all_goals exact ⟨ret_int (by rw [HD.out]), rfl⟩
  all_goals
    have HD := hide (digv_none (c := c) (by omega) (by omega) (by omega))
    try obtain ⟨h1, h2⟩ := h
    go_enter Tryd.func69, Tryd.ntmps69
    go_wp2
    all_goals go_ret
    all_goals exact ⟨ret_int (by rw [HD.out]; rfl), rfl⟩

/-- What the document's digit says: -1 where it is none. -/
def rdig (c : UInt8) (base : Nat) : Int := if digv c < base then (digv c : Int) else -1
theorem rdig_yes {c : UInt8} {base : Nat} (h : digv c < base) : rdig c base = digv c := by unfold rdig; rw [if_pos h]
theorem rdig_no {c : UInt8} {base : Nat} (h : ¬ digv c < base) : rdig c base = -1 := by unfold rdig; rw [if_neg h]
theorem rdig_val {c : UInt8} {base : Nat} {x : Int} (h : (digv c : Int) = x) (h2 : x < base) : rdig c base = x := by rw [rdig_yes (by omega), h]
theorem rdig_non {c : UInt8} {base : Nat} {x : Int} (h : (digv c : Int) = x) (h2 : ¬ x < base) : rdig c base = -1 := rdig_no (by omega)
theorem digv_nat {c : UInt8} {n : Nat} (h : digv c = n) : (digv c : Int) = n := by rw [h]

set_option maxHeartbeats 400000 in
theorem rdigit_10 (c : UInt8) (w : World) : Calls Tryd.prog 48 #[.int .u8 (c.toNat : Int), .int .i64 10] w fun e w' => e = .returned (.int .i64 (rdig c 10)) ∧ w = w' := by
  have hc := byte_lt c
  rcases ways c.toNat with h | h | h | h | h | h | h
  · have HD := hide (digv_up h)
    obtain ⟨h1, h2⟩ := h
    go_enter Tryd.func48, Tryd.ntmps48
    go_wp2
    all_goals go_ret
    all_goals exact ⟨ret_int (by first | (rw [rdig_val HD.out (by omega)]; omega) | rw [rdig_non HD.out (by omega)]), rfl⟩
  · have HD := hide (digv_lo h)
    obtain ⟨h1, h2⟩ := h
    go_enter Tryd.func48, Tryd.ntmps48
    go_wp2
    all_goals go_ret
    all_goals exact ⟨ret_int (by first | (rw [rdig_val HD.out (by omega)]; omega) | rw [rdig_non HD.out (by omega)]), rfl⟩
  · have HD := hide (digv_nu h)
    obtain ⟨h1, h2⟩ := h
    go_enter Tryd.func48, Tryd.ntmps48
    go_wp2
    all_goals go_ret
    all_goals exact ⟨ret_int (by rw [rdig_val HD.out (by omega)]), rfl⟩
  all_goals
    have HD := hide (digv_nat (digv_none (c := c) (by omega) (by omega) (by omega)))
    try obtain ⟨h1, h2⟩ := h
    go_enter Tryd.func48, Tryd.ntmps48
    go_wp2
    all_goals go_ret
    all_goals exact ⟨ret_int (by rw [rdig_non HD.out (by omega)]), rfl⟩

set_option maxHeartbeats 400000 in
theorem rdigit_16 (c : UInt8) (w : World) : Calls Tryd.prog 48 #[.int .u8 (c.toNat : Int), .int .i64 16] w fun e w' => e = .returned (.int .i64 (rdig c 16)) ∧ w = w' := by
  have hc := byte_lt c
  rcases ways c.toNat with h | h | h | h | h | h | h
  · have HD := hide (digv_up h)
    obtain ⟨h1, h2⟩ := h
    go_enter Tryd.func48, Tryd.ntmps48
    go_wp2
    all_goals go_ret
    all_goals exact ⟨ret_int (by first | (rw [rdig_val HD.out (by omega)]; omega) | rw [rdig_non HD.out (by omega)]), rfl⟩
  · have HD := hide (digv_lo h)
    obtain ⟨h1, h2⟩ := h
    go_enter Tryd.func48, Tryd.ntmps48
    go_wp2
    all_goals go_ret
    all_goals exact ⟨ret_int (by first | (rw [rdig_val HD.out (by omega)]; omega) | rw [rdig_non HD.out (by omega)]), rfl⟩
  · have HD := hide (digv_nu h)
    obtain ⟨h1, h2⟩ := h
    go_enter Tryd.func48, Tryd.ntmps48
    go_wp2
    all_goals go_ret
    all_goals exact ⟨ret_int (by rw [rdig_val HD.out (by omega)]), rfl⟩
  all_goals
    have HD := hide (digv_nat (digv_none (c := c) (by omega) (by omega) (by omega)))
    try obtain ⟨h1, h2⟩ := h
    go_enter Tryd.func48, Tryd.ntmps48
    go_wp2
    all_goals go_ret
    all_goals exact ⟨ret_int (by rw [rdig_non HD.out (by omega)]), rfl⟩

/-! ### Row by row -/
def dig (base : Nat) (c : UInt8) : Bool := decide (digv c < base)
theorem numE_empty {base : Nat} {l : List UInt8} (h : l = []) : numV base l = 0 ∧ numE base l = 50 := by subst h; simp [numV, numE]
theorem num_bad {base : Nat} {s : ByteArray} {k : Nat} (h : k < s.size) (hp : dig base s[k] = false) : numV base s.data.toList = 0 ∧ numE base s.data.toList = 50 := by
  have := all_no (dig base) s k h hp
  unfold dig at this
  unfold numV numE
  rw [this]
  simp
theorem num_big {base : Nat} {s : ByteArray} {k : Nat} {a : Int} (h0 : 0 < s.size) (hk : s.size ≤ k) (h : (s.data.toList.take k).all (dig base) = true) (ha : a = accu base (s.data.toList.take k)) (hb : 9007199254740992 < a) : numV base s.data.toList = 0 ∧ numE base s.data.toList = 51 := by
  rw [take_all s k hk] at h ha
  have hn : s.data.toList ≠ [] := fun e => by have := size_len s; rw [e] at this; simp at this; omega
  unfold dig at h
  have hb' : top < accu base s.data.toList := by unfold top; omega
  unfold numV numE
  rw [h]
  simp [hn, hb']
theorem num_fits {base : Nat} {s : ByteArray} {k : Nat} {a : Int} (h0 : 0 < s.size) (hk : s.size ≤ k) (h : (s.data.toList.take k).all (dig base) = true) (ha : a = accu base (s.data.toList.take k)) (hb : ¬ 9007199254740992 < a) : (numV base s.data.toList : Int) = a ∧ numE base s.data.toList = 0 := by
  rw [take_all s k hk] at h ha
  have hn : s.data.toList ≠ [] := fun e => by have := size_len s; rw [e] at this; simp at this; omega
  unfold dig at h
  have hb' : ¬ top < accu base s.data.toList := by unfold top; omega
  unfold numV numE
  rw [h]
  simp [hn, hb', ha]
theorem ret2 {a b : Int} {m n : Nat} (h : (m : Int) = a ∧ n = b) : Ending.returned (.tuple #[.int .i64 a, .int .i64 b]) = .returned (.tuple #[.int .i64 (m : Int), .int .i64 (n : Int)]) := by
  rw [← h.1, ← h.2]
theorem acc_next {base : Nat} {s : ByteArray} {k : Nat} {a : Int} (h : k < s.size) (ha : a = accu base (s.data.toList.take k)) : (a ≤ 9007199254740992 → a * base + digv s[k] = accu base (s.data.toList.take (k + 1))) ∧ (¬ a ≤ 9007199254740992 → a = accu base (s.data.toList.take (k + 1))) := by
  rw [take_snoc s k h, accu_snoc]
  unfold stp top
  constructor
  · intro hl
    rw [if_pos (by omega), ha]
    simp
  · intro hl
    rw [if_neg (by omega), ha]
theorem accI_le {base : Nat} (hb : base ≤ 16) {l : List UInt8} {a : Int} (ha : a = accu base l) : 0 ≤ a ∧ a ≤ 144115188075855888 := by
  have := accu_le base hb l
  unfold top at this
  omega

set_option maxHeartbeats 400000 in
theorem number_10 (s : ByteArray) (w : World) (hs : s.size ≤ maxLen) :
    Calls Tryd.prog 56 #[.string s, .int .i64 10] w fun e w' => e = .returned (.tuple #[.int .i64 (numV 10 s.data.toList : Int), .int .i64 (numE 10 s.data.toList : Int)]) ∧ w = w' := by
  unfold maxLen at hs
  by_cases h0 : 0 < s.size
  · have he : s.toList.isEmpty = false := by rw [Lib.toList_data, isEmpty_size]; exact decide_eq_false (by omega)
    have hz : ((s.size : Int) == 0) = false := beq_eq_false_iff_ne.2 (by omega)
    go_enter Tryd.func56, Tryd.ntmps56
    go_wp2
    go_loop [6, 13] (fun n i => ∃ (k : Nat) (a : Int), k ≤ s.size ∧ i = .int .i64 k ∧ n = .int .i64 a ∧ Hid (a = accu 10 (s.data.toList.take k)) ∧ Hid ((s.data.toList.take k).all (dig 10) = true)) (fun _ i => s.size - (intOf i).toNat)
    case atStart => exact ⟨0, 0, Nat.zero_le _, rfl, rfl, by simp [Hid, accu], by simp [Hid]⟩
    case round =>
      obtain ⟨k, a, hk, rfl, rfl, HA, H⟩ := hrel
      obtain ⟨ha0, ha1⟩ := accI_le (by omega) HA.out
      by_cases hlt : k < s.size
      · have hdl : (digv s[k] : Int) ≤ 16 := by have := digv_le s[k]; omega
        have HN := hide (acc_next hlt HA.out)
        cases hd : dig 10 s[k] with
        | true =>
          have HS : Hid ((s.data.toList.take (k + 1)).all (dig 10) = true) := by show _ = _; rw [all_snoc _ s k hlt, H.out, hd]; rfl
          replace hd : (digv s[k] : Int) < 10 := by simp [dig] at hd; omega
          by_cases hle : a ≤ 9007199254740992
          · have HM := hide (HN.out.1 hle)
            go_wp2_with (go_at_call 69; refine (digit_any _ _).mono ?_; rintro e w' ⟨rfl, rfl⟩)
            exact ⟨⟨k + 1, _, by omega, by go_num, rfl, HM, HS⟩, by simp [intOf]; omega⟩
          · have HM := hide (HN.out.2 hle)
            go_wp2_with (go_at_call 69; refine (digit_any _ _).mono ?_; rintro e w' ⟨rfl, rfl⟩)
            exact ⟨⟨k + 1, _, by omega, by go_num, rfl, HM, HS⟩, by simp [intOf]; omega⟩
        | false =>
          have HB := hide (num_bad hlt hd)
          replace hd : ¬ (digv s[k] : Int) < 10 := by simp [dig] at hd; omega
          go_wp2_with (go_at_call 69; refine (digit_any _ _).mono ?_; rintro e w' ⟨rfl, rfl⟩)
          go_ret2
          exact ⟨ret2 ⟨by rw [HB.out.1]; rfl, by rw [HB.out.2]; rfl⟩, rfl⟩
      · by_cases hbig : 9007199254740992 < a
        · have HB := hide (num_big h0 (show s.size ≤ k by omega) H.out HA.out hbig)
          go_wp2
          go_ret2
          exact ⟨ret2 ⟨by rw [HB.out.1]; rfl, by rw [HB.out.2]; rfl⟩, rfl⟩
        · have HB := hide (num_fits h0 (show s.size ≤ k by omega) H.out HA.out hbig)
          go_wp2
          go_ret2
          exact ⟨ret2 ⟨HB.out.1, by rw [HB.out.2]; rfl⟩, rfl⟩
  · have he : s.toList.isEmpty = true := by rw [Lib.toList_data, isEmpty_size]; exact decide_eq_true (by omega)
    have hz : ((s.size : Int) == 0) = true := beq_iff_eq.2 (by omega)
    have HB := hide (numE_empty (base := 10) (nil_list s h0))
    go_enter Tryd.func56, Tryd.ntmps56
    go_wp2
    go_ret2
    exact ⟨ret2 ⟨by rw [HB.out.1]; rfl, by rw [HB.out.2]; rfl⟩, rfl⟩

set_option maxHeartbeats 400000 in
theorem rnumber_10 (s : ByteArray) (w : World) (hs : s.size ≤ maxLen) :
    Calls Tryd.prog 34 #[.string s, .int .i64 10] w fun e w' => e = .returned (.tuple #[.int .i64 (numV 10 s.data.toList : Int), .int .i64 (numE 10 s.data.toList : Int)]) ∧ w = w' := by
  unfold maxLen at hs
  by_cases h0 : 0 < s.size
  · have he : s.toList.isEmpty = false := by rw [Lib.toList_data, isEmpty_size]; exact decide_eq_false (by omega)
    have hz : ((s.size : Int) == 0) = false := beq_eq_false_iff_ne.2 (by omega)
    go_enter Tryd.func34, Tryd.ntmps34
    go_wp2
    go_loop [6, 7] (fun n i => ∃ (k : Nat) (a : Int), k ≤ s.size ∧ i = .int .i64 k ∧ n = .int .i64 a ∧ Hid (a = accu 10 (s.data.toList.take k)) ∧ Hid ((s.data.toList.take k).all (dig 10) = true)) (fun _ i => s.size - (intOf i).toNat)
    case atStart => exact ⟨0, 0, Nat.zero_le _, rfl, rfl, by simp [Hid, accu], by simp [Hid]⟩
    case round =>
      obtain ⟨k, a, hk, rfl, rfl, HA, H⟩ := hrel
      obtain ⟨ha0, ha1⟩ := accI_le (by omega) HA.out
      by_cases hlt : k < s.size
      · have hdl : (digv s[k] : Int) ≤ 16 := by have := digv_le s[k]; omega
        have HN := hide (acc_next hlt HA.out)
        cases hd : dig 10 s[k] with
        | true =>
          have HS : Hid ((s.data.toList.take (k + 1)).all (dig 10) = true) := by show _ = _; rw [all_snoc _ s k hlt, H.out, hd]; rfl
          replace hd : (digv s[k] : Int) < 10 := by simp [dig] at hd; omega
          have hdr : rdig s[k] 10 = (digv s[k] : Int) := rdig_yes (by omega)
          by_cases hle : a ≤ 9007199254740992
          · have HM := hide (HN.out.1 hle)
            go_wp2_with (go_at_call 48; refine (rdigit_10 _ _).mono ?_; rintro e w' ⟨rfl, rfl⟩)
            exact ⟨⟨k + 1, _, by omega, by go_num, rfl, HM, HS⟩, by simp [intOf]; omega⟩
          · have HM := hide (HN.out.2 hle)
            go_wp2_with (go_at_call 48; refine (rdigit_10 _ _).mono ?_; rintro e w' ⟨rfl, rfl⟩)
            exact ⟨⟨k + 1, _, by omega, by go_num, rfl, HM, HS⟩, by simp [intOf]; omega⟩
        | false =>
          have HB := hide (num_bad hlt hd)
          replace hd : ¬ (digv s[k] : Int) < 10 := by simp [dig] at hd; omega
          have hdr : rdig s[k] 10 = -1 := rdig_no (by omega)
          go_wp2_with (go_at_call 48; refine (rdigit_10 _ _).mono ?_; rintro e w' ⟨rfl, rfl⟩)
          go_ret2
          exact ⟨ret2 ⟨by rw [HB.out.1]; rfl, by rw [HB.out.2]; rfl⟩, rfl⟩
      · by_cases hbig : 9007199254740992 < a
        · have HB := hide (num_big h0 (show s.size ≤ k by omega) H.out HA.out hbig)
          go_wp2
          go_ret2
          exact ⟨ret2 ⟨by rw [HB.out.1]; rfl, by rw [HB.out.2]; rfl⟩, rfl⟩
        · have HB := hide (num_fits h0 (show s.size ≤ k by omega) H.out HA.out hbig)
          go_wp2
          go_ret2
          exact ⟨ret2 ⟨HB.out.1, by rw [HB.out.2]; rfl⟩, rfl⟩
  · have he : s.toList.isEmpty = true := by rw [Lib.toList_data, isEmpty_size]; exact decide_eq_true (by omega)
    have hz : ((s.size : Int) == 0) = true := beq_iff_eq.2 (by omega)
    have HB := hide (numE_empty (base := 10) (nil_list s h0))
    go_enter Tryd.func34, Tryd.ntmps34
    go_wp2
    go_ret2
    exact ⟨ret2 ⟨by rw [HB.out.1]; rfl, by rw [HB.out.2]; rfl⟩, rfl⟩

set_option maxHeartbeats 400000 in
theorem number_16 (s : ByteArray) (w : World) (hs : s.size ≤ maxLen) :
    Calls Tryd.prog 56 #[.string s, .int .i64 16] w fun e w' => e = .returned (.tuple #[.int .i64 (numV 16 s.data.toList : Int), .int .i64 (numE 16 s.data.toList : Int)]) ∧ w = w' := by
  unfold maxLen at hs
  by_cases h0 : 0 < s.size
  · have he : s.toList.isEmpty = false := by rw [Lib.toList_data, isEmpty_size]; exact decide_eq_false (by omega)
    have hz : ((s.size : Int) == 0) = false := beq_eq_false_iff_ne.2 (by omega)
    go_enter Tryd.func56, Tryd.ntmps56
    go_wp2
    go_loop [6, 13] (fun n i => ∃ (k : Nat) (a : Int), k ≤ s.size ∧ i = .int .i64 k ∧ n = .int .i64 a ∧ Hid (a = accu 16 (s.data.toList.take k)) ∧ Hid ((s.data.toList.take k).all (dig 16) = true)) (fun _ i => s.size - (intOf i).toNat)
    case atStart => exact ⟨0, 0, Nat.zero_le _, rfl, rfl, by simp [Hid, accu], by simp [Hid]⟩
    case round =>
      obtain ⟨k, a, hk, rfl, rfl, HA, H⟩ := hrel
      obtain ⟨ha0, ha1⟩ := accI_le (by omega) HA.out
      by_cases hlt : k < s.size
      · have hdl : (digv s[k] : Int) ≤ 16 := by have := digv_le s[k]; omega
        have HN := hide (acc_next hlt HA.out)
        cases hd : dig 16 s[k] with
        | true =>
          have HS : Hid ((s.data.toList.take (k + 1)).all (dig 16) = true) := by show _ = _; rw [all_snoc _ s k hlt, H.out, hd]; rfl
          replace hd : (digv s[k] : Int) < 16 := by simp [dig] at hd; omega
          by_cases hle : a ≤ 9007199254740992
          · have HM := hide (HN.out.1 hle)
            go_wp2_with (go_at_call 69; refine (digit_any _ _).mono ?_; rintro e w' ⟨rfl, rfl⟩)
            exact ⟨⟨k + 1, _, by omega, by go_num, rfl, HM, HS⟩, by simp [intOf]; omega⟩
          · have HM := hide (HN.out.2 hle)
            go_wp2_with (go_at_call 69; refine (digit_any _ _).mono ?_; rintro e w' ⟨rfl, rfl⟩)
            exact ⟨⟨k + 1, _, by omega, by go_num, rfl, HM, HS⟩, by simp [intOf]; omega⟩
        | false =>
          have HB := hide (num_bad hlt hd)
          replace hd : ¬ (digv s[k] : Int) < 16 := by simp [dig] at hd; omega
          go_wp2_with (go_at_call 69; refine (digit_any _ _).mono ?_; rintro e w' ⟨rfl, rfl⟩)
          go_ret2
          exact ⟨ret2 ⟨by rw [HB.out.1]; rfl, by rw [HB.out.2]; rfl⟩, rfl⟩
      · by_cases hbig : 9007199254740992 < a
        · have HB := hide (num_big h0 (show s.size ≤ k by omega) H.out HA.out hbig)
          go_wp2
          go_ret2
          exact ⟨ret2 ⟨by rw [HB.out.1]; rfl, by rw [HB.out.2]; rfl⟩, rfl⟩
        · have HB := hide (num_fits h0 (show s.size ≤ k by omega) H.out HA.out hbig)
          go_wp2
          go_ret2
          exact ⟨ret2 ⟨HB.out.1, by rw [HB.out.2]; rfl⟩, rfl⟩
  · have he : s.toList.isEmpty = true := by rw [Lib.toList_data, isEmpty_size]; exact decide_eq_true (by omega)
    have hz : ((s.size : Int) == 0) = true := beq_iff_eq.2 (by omega)
    have HB := hide (numE_empty (base := 16) (nil_list s h0))
    go_enter Tryd.func56, Tryd.ntmps56
    go_wp2
    go_ret2
    exact ⟨ret2 ⟨by rw [HB.out.1]; rfl, by rw [HB.out.2]; rfl⟩, rfl⟩

set_option maxHeartbeats 400000 in
theorem rnumber_16 (s : ByteArray) (w : World) (hs : s.size ≤ maxLen) :
    Calls Tryd.prog 34 #[.string s, .int .i64 16] w fun e w' => e = .returned (.tuple #[.int .i64 (numV 16 s.data.toList : Int), .int .i64 (numE 16 s.data.toList : Int)]) ∧ w = w' := by
  unfold maxLen at hs
  by_cases h0 : 0 < s.size
  · have he : s.toList.isEmpty = false := by rw [Lib.toList_data, isEmpty_size]; exact decide_eq_false (by omega)
    have hz : ((s.size : Int) == 0) = false := beq_eq_false_iff_ne.2 (by omega)
    go_enter Tryd.func34, Tryd.ntmps34
    go_wp2
    go_loop [6, 7] (fun n i => ∃ (k : Nat) (a : Int), k ≤ s.size ∧ i = .int .i64 k ∧ n = .int .i64 a ∧ Hid (a = accu 16 (s.data.toList.take k)) ∧ Hid ((s.data.toList.take k).all (dig 16) = true)) (fun _ i => s.size - (intOf i).toNat)
    case atStart => exact ⟨0, 0, Nat.zero_le _, rfl, rfl, by simp [Hid, accu], by simp [Hid]⟩
    case round =>
      obtain ⟨k, a, hk, rfl, rfl, HA, H⟩ := hrel
      obtain ⟨ha0, ha1⟩ := accI_le (by omega) HA.out
      by_cases hlt : k < s.size
      · have hdl : (digv s[k] : Int) ≤ 16 := by have := digv_le s[k]; omega
        have HN := hide (acc_next hlt HA.out)
        cases hd : dig 16 s[k] with
        | true =>
          have HS : Hid ((s.data.toList.take (k + 1)).all (dig 16) = true) := by show _ = _; rw [all_snoc _ s k hlt, H.out, hd]; rfl
          replace hd : (digv s[k] : Int) < 16 := by simp [dig] at hd; omega
          have hdr : rdig s[k] 16 = (digv s[k] : Int) := rdig_yes (by omega)
          by_cases hle : a ≤ 9007199254740992
          · have HM := hide (HN.out.1 hle)
            go_wp2_with (go_at_call 48; refine (rdigit_16 _ _).mono ?_; rintro e w' ⟨rfl, rfl⟩)
            exact ⟨⟨k + 1, _, by omega, by go_num, rfl, HM, HS⟩, by simp [intOf]; omega⟩
          · have HM := hide (HN.out.2 hle)
            go_wp2_with (go_at_call 48; refine (rdigit_16 _ _).mono ?_; rintro e w' ⟨rfl, rfl⟩)
            exact ⟨⟨k + 1, _, by omega, by go_num, rfl, HM, HS⟩, by simp [intOf]; omega⟩
        | false =>
          have HB := hide (num_bad hlt hd)
          replace hd : ¬ (digv s[k] : Int) < 16 := by simp [dig] at hd; omega
          have hdr : rdig s[k] 16 = -1 := rdig_no (by omega)
          go_wp2_with (go_at_call 48; refine (rdigit_16 _ _).mono ?_; rintro e w' ⟨rfl, rfl⟩)
          go_ret2
          exact ⟨ret2 ⟨by rw [HB.out.1]; rfl, by rw [HB.out.2]; rfl⟩, rfl⟩
      · by_cases hbig : 9007199254740992 < a
        · have HB := hide (num_big h0 (show s.size ≤ k by omega) H.out HA.out hbig)
          go_wp2
          go_ret2
          exact ⟨ret2 ⟨by rw [HB.out.1]; rfl, by rw [HB.out.2]; rfl⟩, rfl⟩
        · have HB := hide (num_fits h0 (show s.size ≤ k by omega) H.out HA.out hbig)
          go_wp2
          go_ret2
          exact ⟨ret2 ⟨HB.out.1, by rw [HB.out.2]; rfl⟩, rfl⟩
  · have he : s.toList.isEmpty = true := by rw [Lib.toList_data, isEmpty_size]; exact decide_eq_true (by omega)
    have hz : ((s.size : Int) == 0) = true := beq_iff_eq.2 (by omega)
    have HB := hide (numE_empty (base := 16) (nil_list s h0))
    go_enter Tryd.func34, Tryd.ntmps34
    go_wp2
    go_ret2
    exact ⟨ret2 ⟨by rw [HB.out.1]; rfl, by rw [HB.out.2]; rfl⟩, rfl⟩

theorem Hex_any (s : ByteArray) (w : World) (hs : s.size ≤ maxLen) :
    Calls Tryd.prog 44 #[.string s] w fun e w' => e = .returned (.tuple #[.int .i64 (numV 16 s.data.toList : Int), .int .i64 (numE 16 s.data.toList : Int)]) ∧ w = w' := by
  go_enter Tryd.func44, Tryd.ntmps44
  go_wp2_with (go_at_call 56; refine (number_16 _ _ hs).mono ?_; rintro e w' ⟨rfl, rfl⟩)
  go_ret2
  exact ⟨rfl, rfl⟩
end Go.Proofs.YthciahpadninpaaDoor
/- Where a list's first part ends; two lists of texts held against one another. -/
namespace Go.Proofs.YthciahpadninpaaDoor
open Go.ChangeShapes Go.WideShapes Go.ChangeAt Go.RowKit

theorem drop_cons (s : ByteArray) (k : Nat) (h : k < s.size) : s.data.toList.drop k = s[k] :: s.data.toList.drop (k + 1) := by
  rw [List.drop_eq_getElem_cons (by simpa using h)]; rfl
theorem drop_end (s : ByteArray) (k : Nat) (h : s.size ≤ k) : s.data.toList.drop k = [] := List.drop_eq_nil_of_le (by rw [size_len]; exact h)
def pd (s : ByteArray) (q : Bool) (k : Nat) : Nat := pend q false (s.data.toList.drop k)
theorem pd_end {s : ByteArray} {q : Bool} {k : Nat} (h : s.size ≤ k) : pd s q k = 0 := by unfold pd; rw [drop_end s k h]; rfl
theorem pd_quote {s : ByteArray} {q : Bool} {k : Nat} (h : k < s.size) (hc : s[k] = 34) : pd s q k = pd s (!q) (k + 1) + 1 := by
  unfold pd
  rw [drop_cons s k h, pend, hc, if_neg (by simp)]
  simp [nx]
theorem pd_comma {s : ByteArray} {k : Nat} (h : k < s.size) (hc : s[k] = 44) : pd s false k = 0 := by
  unfold pd
  rw [drop_cons s k h, pend, hc, if_pos ⟨rfl, rfl⟩]
theorem pd_other {s : ByteArray} {q : Bool} {k : Nat} (h : k < s.size) (h1 : s[k] ≠ 34) (h2 : s[k] ≠ 92 ∨ q = false) (h3 : s[k] ≠ 44 ∨ q = true) : pd s q k = pd s q (k + 1) + 1 := by
  unfold pd
  rw [drop_cons s k h, pend, if_neg (by rintro ⟨x, y⟩; rcases h3 with h3 | h3; · exact h3 x
                                        · rw [y] at h3; cases h3)]
  have : nx q false s[k] = (q, false) := by
    unfold nx
    rw [if_neg (by simp), if_neg (by rintro ⟨x, y⟩; rcases h2 with h2 | h2; · exact h2 x
                                     · rw [y] at h2; cases h2), if_neg h1]
  rw [this]
theorem pd_skip {s : ByteArray} {k : Nat} (h : k + 1 < s.size) (hc : s[k] = 92) : pd s true k = pd s true (k + 2) + 2 := by
  unfold pd
  rw [drop_cons s k (by omega), pend, hc, if_neg (by simp), drop_cons s (k + 1) h]
  simp [pend, nx]
theorem pd_skip_end {s : ByteArray} {k : Nat} (h : k < s.size) (h2 : s.size = k + 1) (hc : s[k] = 92) : pd s true k = 1 := by
  unfold pd
  rw [drop_cons s k h, pend, hc, if_neg (by simp), drop_end s (k + 1) (by omega)]
  simp [pend]
theorem byte_is {c : UInt8} {n : Nat} (h : c.toNat = n) (hn : n < 256) : c = UInt8.ofNat n := by
  apply UInt8.toNat_inj.1
  rw [h, UInt8.toNat_ofNat']
  omega
theorem byte_ne {c : UInt8} {n : Nat} (h : c.toNat ≠ n) (hn : n < 256) : c ≠ UInt8.ofNat n := by
  rintro rfl
  rw [UInt8.toNat_ofNat'] at h
  omega

end Go.Proofs.YthciahpadninpaaDoor
/- The program's list of a text's elements. -/
namespace Go.Proofs.YthciahpadninpaaDoor
open Go.ChangeShapes Go.WideShapes Go.ChangeAt Go.RowKit

def sS (l : List UInt8) : ByteArray := ⟨l.toArray⟩
theorem sS_list (l : List UInt8) : (sS l).data.toList = l := by simp [sS]
theorem sS_size (l : List UInt8) : (sS l).size = l.length := by rw [← size_len, sS_list]
theorem sS_of (s : ByteArray) : sS s.data.toList = s := by cases s; simp [sS]
/-- The elements, as texts. -/
def listS (l : List UInt8) : List ByteArray := (listB l).map sS
theorem listS_len (l : List UInt8) : (listS l).length ≤ l.length := by unfold listS; rw [List.length_map]; exact listB_len l
theorem trimS_eq (s : ByteArray) : trimS s = sS (trimB s.data.toList) := rfl

theorem ext_take (t : ByteArray) (e : Nat) : (t.extract 0 e).data.toList = t.data.toList.take e := by rw [ext_list, List.drop_zero, Nat.sub_zero]
theorem ext_drop (t : ByteArray) (e : Nat) : (t.extract e t.size).data.toList = t.data.toList.drop e := by
  rw [ext_list]
  exact List.take_of_length_le (by rw [List.length_drop, size_len]; omega)
theorem drop_min (t : ByteArray) (e : Nat) : t.data.toList.drop (min (e + 1) t.size) = t.data.toList.drop (e + 1) := by
  by_cases h : e + 1 ≤ t.size
  · rw [Nat.min_eq_left h]
  · rw [Nat.min_eq_right (by omega), drop_end t _ (Nat.le_refl _), drop_end t _ (by omega)]

/-- One part more: the element that it adds, if it is not empty, and what is left. -/
theorem list_step (t : ByteArray) (h : 0 < t.size) (m : Nat) (hm : m = min (pend false false t.data.toList + 1) t.size) :
    listS t.data.toList = (if (trimS (t.extract 0 (pend false false t.data.toList))).size = 0 then [] else [trimS (t.extract 0 (pend false false t.data.toList))]) ++ listS (t.extract m t.size).data.toList := by
  have hn : t.data.toList ≠ [] := fun e => by have := size_len t; rw [e] at this; simp at this; omega
  unfold listS
  rw [listB_cons hn, List.map_append, ext_drop, hm, drop_min]
  congr 1
  rw [trimS_eq, ext_take, sS_size]
  unfold elem
  by_cases h0 : trimB (t.data.toList.take (pend false false t.data.toList)) = []
  · rw [if_pos h0, h0]; rfl
  · rw [if_neg h0, if_neg (by intro e; exact h0 (List.eq_nil_of_length_eq_zero e))]; rfl

end Go.Proofs.YthciahpadninpaaDoor
/- A field's name held against another one: the program's test as a function value. -/
namespace Go.Proofs.YthciahpadninpaaDoor
open Go.ChangeShapes Go.WideShapes Go.ChangeAt Go.RowKit

end Go.Proofs.YthciahpadninpaaDoor
/- A field: whether it is right; a copy of it. -/
namespace Go.Proofs.YthciahpadninpaaDoor
open Go.ChangeShapes Go.WideShapes Go.ChangeAt Go.RowKit

def chkF (f : ByteArray × ByteArray) : Nat := if tokenB f.1.data.toList then (if valueB f.2.data.toList then 0 else 71) else 70
set_option maxHeartbeats 1000000 in
theorem check_any (n v : ByteArray) (w : World) (hn : n.size ≤ maxLen) (hv : v.size ≤ maxLen) :
    Calls Tryd.prog 37 #[.agg #[.string n, .string v]] w fun e w' => e = .returned (.int .i64 (chkF (n, v) : Nat)) ∧ Below w.heap.size w w' := by
  have HT := hide (fun W => token_any n W hn)
  have HV := hide (fun W => value_any v W hv)
  clear hn hv
  unfold chkF
  show Calls _ _ _ _ fun e w' => e = .returned (.int .i64 ((if tokenB n.data.toList then (if valueB v.data.toList then 0 else 71) else 70 : Nat) : Int)) ∧ _
  generalize tokenB n.data.toList = bt at HT ⊢
  generalize valueB v.data.toList = bv at HV ⊢
  have b0 := hide ((Below.refl _ w).alloc (Nat.le_refl _) (.cells #[.string n, .string v] 46))
  have H0 := hide (hp_new w (.cells #[.string n, .string v] 46))
  cases bt with
  | false =>
    go_enter Tryd.func37, Tryd.ntmps37
    go_wp2_with fail
    refine (HT.out _).mono ?_
    rintro e w1 ⟨rfl, rfl⟩
    go_wp2
    go_ret
    exact ⟨rfl, b0.out⟩
  | true =>
    cases bv with
    | false =>
      go_enter Tryd.func37, Tryd.ntmps37
      go_wp2_with fail
      refine (HT.out _).mono ?_
      rintro e w1 ⟨rfl, rfl⟩
      go_wp2_with fail
      refine (HV.out _).mono ?_
      rintro e w2 ⟨rfl, b2⟩
      go_wp2
      go_ret
      exact ⟨rfl, b0.out.trans (b2.mono b0.out.size)⟩
    | true =>
      go_enter Tryd.func37, Tryd.ntmps37
      go_wp2_with fail
      refine (HT.out _).mono ?_
      rintro e w1 ⟨rfl, rfl⟩
      go_wp2_with fail
      refine (HV.out _).mono ?_
      rintro e w2 ⟨rfl, b2⟩
      go_wp2
      go_ret
      exact ⟨rfl, b0.out.trans (b2.mono b0.out.size)⟩

/-- Two blocks of the call's own: a field that came in, and one that is told. -/
structure FTwo (w x : World) (a b : ByteArray) : Prop where
  h0 : x.heap[w.heap.size]? = some (.cells #[.string a, .string b] 46)
  h1 : x.heap[w.heap.size + 1]? = some (.cells #[.string ⟨#[]⟩, .string ⟨#[]⟩] 46)
  b : Below w.heap.size w x
theorem lt_heap {x : World} {b : Nat} {o : Obj} (h : x.heap[b]? = some o) : b < x.heap.size := (Array.getElem?_eq_some_iff.1 h).1
theorem FTwo.start (w : World) (a b : ByteArray) : FTwo w ((w.alloc (.cells #[.string a, .string b] 46)).alloc (.cells #[.string ⟨#[]⟩, .string ⟨#[]⟩] 46)) a b := by
  have e : (w.alloc (.cells #[.string a, .string b] 46)).heap.size = w.heap.size + 1 := by show (w.heap.push _).size = _; simp
  refine ⟨?_, ?_, ((Below.refl _ w).alloc (Nat.le_refl _) _).alloc (by omega) _⟩
  · rw [Below.heap_alloc _ _ _ (by omega)]; exact hp_new w _
  · rw [← e]; exact hp_new _ _
theorem FTwo.below {w x y : World} {a b : ByteArray} (h : FTwo w x a b) (hb : Below x.heap.size x y) : FTwo w y a b :=
  ⟨(hb.block _ (lt_heap h.h0)).trans h.h0, (hb.block _ (lt_heap h.h1)).trans h.h1, h.b.trans (hb.mono h.b.size)⟩
theorem FTwo.cl {w x : World} {a b s : ByteArray} (h : FTwo w x a b) (hs : s.size ≤ 281474976710656) :
    Calls Tryd.prog 26 #[.string s] x fun e y => e = .returned (.string s) ∧ y.cell? ⟨w.heap.size, 0, none⟩ = some (.string a) ∧ y.cell? ⟨w.heap.size, 1, none⟩ = some (.string b) ∧ y.frozen? ⟨w.heap.size + 1, 0, none⟩ = false ∧ y.frozen? ⟨w.heap.size + 1, 1, none⟩ = false ∧
      y.cell? ⟨w.heap.size + 1, 0, none⟩ = some (.string ⟨#[]⟩) ∧ y.cell? ⟨w.heap.size + 1, 1, none⟩ = some (.string ⟨#[]⟩) ∧ Hid (FTwo w y a b) := by
  refine (clone_any s x hs).mono ?_
  rintro e y ⟨rfl, hb⟩
  have h2 := h.below hb
  exact ⟨rfl, cell_at h2.h0 0, cell_at h2.h0 1, by rw [frozen_at h2.h1]; rfl, by rw [frozen_at h2.h1]; rfl, cell_at h2.h1 0, cell_at h2.h1 1, h2⟩
theorem FTwo.fin {w y : World} {a b c d : ByteArray} (h : FTwo w y a b) : ((y.setCell ⟨w.heap.size + 1, 0, none⟩ (.string c)).setCell ⟨w.heap.size + 1, 1, none⟩ (.string d)).cell? ⟨w.heap.size + 1, 0, none⟩ = some (.string c) ∧
    ((y.setCell ⟨w.heap.size + 1, 0, none⟩ (.string c)).setCell ⟨w.heap.size + 1, 1, none⟩ (.string d)).cell? ⟨w.heap.size + 1, 1, none⟩ = some (.string d) ∧ Below w.heap.size w ((y.setCell ⟨w.heap.size + 1, 0, none⟩ (.string c)).setCell ⟨w.heap.size + 1, 1, none⟩ (.string d)) := by
  have h2 := hp_set (hp_set h.h1 0 (.string c)) 1 (.string d)
  exact ⟨cell_at h2 0, cell_at h2 1, (h.b.setCell (p := ⟨w.heap.size + 1, 0, none⟩) (by show w.heap.size ≤ w.heap.size + 1; omega) _).setCell (p := ⟨w.heap.size + 1, 1, none⟩) (by show w.heap.size ≤ w.heap.size + 1; omega) _⟩
end Go.Proofs.YthciahpadninpaaDoor
/- The values of a name: the program's, the document's. -/
namespace Go.Proofs.YthciahpadninpaaDoor
open Go.ChangeShapes Go.WideShapes Go.ChangeAt Go.RowKit

/-- Has a field the name n? -/
def nmB (n : ByteArray) (f : ByteArray × ByteArray) : Bool := sameB f.1.data.toList n.data.toList
def allS (A : List (ByteArray × ByteArray)) (n : ByteArray) : List ByteArray := (A.filter (nmB n)).map (·.2)
/-- Every text of the list is short, and there are not many. -/
def Sm (A : List (ByteArray × ByteArray)) : Prop := A.length ≤ 1048576 ∧ ∀ f ∈ A, f.1.size ≤ 1048576 ∧ f.2.size ≤ 1048576
theorem Sm.at {A : List (ByteArray × ByteArray)} (h : Sm A) (k : Nat) (hk : k < A.length) : A[k].1.size ≤ 1048576 ∧ A[k].2.size ≤ 1048576 := h.2 _ (List.getElem_mem hk)
theorem take_snocF {α : Type} (A : List α) (k : Nat) (h : k < A.length) : A.take (k + 1) = A.take k ++ [A[k]] := List.take_succ_eq_append_getElem h
theorem allS_snoc (A : List (ByteArray × ByteArray)) (n a b : ByteArray) (f : ByteArray × ByteArray) (hf : f = (a, b)) (k : Nat) (hk : k < A.length) (he : A[k] = f) : allS (A.take (k + 1)) n = if nmB n f then allS (A.take k) n ++ [b] else allS (A.take k) n := by
  subst hf
  rw [take_snocF A k hk, he]
  unfold allS
  rw [List.filter_append]
  by_cases h : nmB n (a, b) = true
  · rw [if_pos h, List.filter_cons_of_pos h]; simp
  · rw [if_neg h, List.filter_cons_of_neg h]; simp
theorem allS_len (A : List (ByteArray × ByteArray)) (n : ByteArray) (k : Nat) : (allS (A.take k) n).length ≤ A.length := by
  unfold allS
  rw [List.length_map]
  exact Nat.le_trans (List.length_filter_le _ _) (by rw [List.length_take]; omega)
theorem low_beq (a n : ByteArray) (v : ByteArray) : ((lowS a).toList == (lowS n).toList) = nmB n (a, v) := same_eq a n

theorem Row.lower {W : World} {base base2 : Nat} {e : TypeId} {v : Value} {xs : List Value} (h : Row W base e v xs) (hb : base2 ≤ base) : Row W base2 e v xs := by
  refine ⟨h.1, ?_⟩
  rcases h.2 with x | ⟨g, cap, cur, rfl, h1, r⟩
  · exact .inl x
  · exact .inr ⟨g, cap, cur, rfl, Nat.le_trans hb h1, r⟩
end Go.Proofs.YthciahpadninpaaDoor
/- Check: the program's, the document's. -/
namespace Go.Proofs.YthciahpadninpaaDoor
open Go.ChangeShapes Go.WideShapes Go.ChangeAt Go.RowKit

def chkA (A : List (ByteArray × ByteArray)) : Nat := match A.find? (fun f => chkF f != 0) with
  | some f => chkF f
  | none => 0
def chkL (A : List (ByteArray × ByteArray)) : Nat := if 100 < A.length then 2 else chkA A
def okT (A : List (ByteArray × ByteArray)) (k : Nat) : Prop := ∀ f ∈ A.take k, chkF f = 0
theorem okT_next {A : List (ByteArray × ByteArray)} {k : Nat} (h : okT A k) (hk : k < A.length) {f : ByteArray × ByteArray} (he : A[k] = f) (h0 : chkF f = 0) : okT A (k + 1) := by
  intro f' hf
  rw [take_snocF A k hk, List.mem_append] at hf
  rcases hf with hf | hf
  · exact h _ hf
  · simp only [List.mem_singleton] at hf
    rw [hf, he]; exact h0
theorem okT_find {A : List (ByteArray × ByteArray)} {k : Nat} (h : okT A k) : (A.take k).find? (fun f => chkF f != 0) = none := by
  rw [List.find?_eq_none]
  intro f hf
  simp [h f hf]
theorem chk_hit {A : List (ByteArray × ByteArray)} {k : Nat} (h : okT A k) (hl : A.length ≤ 100) (hk : k < A.length) {f : ByteArray × ByteArray} (he : A[k] = f) (h0 : chkF f ≠ 0) : chkL A = chkF f := by
  unfold chkL
  rw [if_neg (by omega)]
  unfold chkA
  have e : A = A.take k ++ f :: A.drop (k + 1) := by rw [← he]; simp
  have e2 : A.find? (fun f => chkF f != 0) = some f := by
    rw [e, List.find?_append, okT_find h, List.find?_cons_of_pos (by simpa using h0)]; rfl
  rw [e2]
theorem chk_none {A : List (ByteArray × ByteArray)} {k : Nat} (h : okT A k) (hl : A.length ≤ 100) (hk : A.length ≤ k) : chkL A = 0 := by
  unfold chkL
  rw [if_neg (by omega)]
  unfold chkA
  have := okT_find h
  rw [List.take_of_length_le hk] at this
  rw [this]
theorem chkF_tok {a b : ByteArray} (h : tokenB a.data.toList = false) : chkF (a, b) = 70 := by unfold chkF; rw [h]; rfl
theorem chkF_val {a b : ByteArray} (h : tokenB a.data.toList = true) (h2 : valueB b.data.toList = false) : chkF (a, b) = 71 := by unfold chkF; rw [h, h2]; rfl
theorem chkF_ok {a b : ByteArray} (h : tokenB a.data.toList = true) (h2 : valueB b.data.toList = true) : chkF (a, b) = 0 := by unfold chkF; rw [h, h2]; rfl
theorem rvalue_b (s : ByteArray) (w : World) (hs : s.size ≤ maxLen) :
    Calls Tryd.prog 39 #[.string s] w fun e w' => e = .returned (.bool (valueB s.data.toList)) ∧ Below w.heap.size w w' :=
  (rvalue_any s w hs).mono fun _ _ ⟨h1, h2⟩ => ⟨h1, by rw [← h2]; exact Below.refl _ _⟩
set_option maxHeartbeats 2000000 in
theorem Check_any (w : World) (l : Value) (A : List (ByteArray × ByteArray)) (hA : Flds w l A) (hs : Sm A) :
    Calls Tryd.prog 27 #[l] w fun e w' => e = .returned (.int .i64 (chkL A : Nat)) ∧ Below w.heap.size w w' := by
  obtain ⟨a0, c0, rfl, hc0, hcells⟩ := hA
  have HF := hide hcells
  have HS := hide hs
  have hl : A.length ≤ 1048576 := hs.1
  clear hcells hs hc0
  by_cases hlong : 100 < A.length
  · have hC : chkL A = 2 := by unfold chkL; rw [if_pos hlong]
    rw [hC]
    have tl : (100 : Int) < (A.length : Int) := by omega
    go_enter Tryd.func27, Tryd.ntmps27
    go_wp2
    go_ret
    exact ⟨rfl, Below.refl _ _⟩
  · have tl : ¬ (100 : Int) < (A.length : Int) := by omega
    have hl2 : A.length ≤ 100 := by omega
    clear hlong
    go_enter Tryd.func27, Tryd.ntmps27
    go_wp2
    go_loopw [11] (fun i wr => ∃ k : Nat, k ≤ A.length ∧ i = .int .i64 k ∧ Hid (okT A k) ∧ Hid (Below w.heap.size w wr)) (fun i _ => A.length - (intOf i).toNat)
    case atStart => exact ⟨0, Nat.zero_le _, rfl, hide (fun f hf => by simp at hf), hide (Below.refl _ _)⟩
    case round =>
      obtain ⟨k, hk, rfl, HO, HB⟩ := hrel
      by_cases hlt : k < A.length
      · have HNX := hide (fun (f : ByteArray × ByteArray) he h0 => okT_next HO.out hlt (f := f) he h0)
        have HHT := hide (fun (f : ByteArray × ByteArray) he h0 => chk_hit HO.out hl2 hlt (f := f) he h0)
        obtain ⟨g1, o1, rfl, hgl, q1, q2⟩ := HF.out k hlt
        obtain ⟨z1, z2⟩ := HS.out.at k hlt
        obtain ⟨fa, fb, hf⟩ : ∃ fa fb, A[k] = (fa, fb) := ⟨_, _, rfl⟩
        rw [hf] at q1 q2 z1 z2
        have HE := hide hf
        clear hf
        have BW := hide (HB.out)
        have r1 : wr.cell? ⟨g1, o1 + k * 2, none⟩ = some (.string fa) := (BW.out.cell (p := ⟨g1, o1 + k * 2, none⟩) hgl).trans q1
        have r2 : wr.cell? ⟨g1, o1 + k * 2 + 1, none⟩ = some (.string fb) := (BW.out.cell (p := ⟨g1, o1 + k * 2 + 1, none⟩) hgl).trans q2
        clear q1 q2 hgl
        go_upto_region 6 with fail
        have HB2 := hide (HB.out.alloc HB.out.size (.cells #[.string fa, .string fb] 46))
        have HD := hide (hp_new wr (.cells #[.string fa, .string fb] 46))
        clear r1 r2 BW HB
        generalize wr.alloc (.cells #[.string fa, .string fb] 46) = x at HB2 HD ⊢
        generalize wr.heap.size = b at HD ⊢
        have d0 : x.cell? ⟨b, 0, none⟩ = some (.string fa) := cell_at HD.out 0
        have d1 : x.cell? ⟨b, 1, none⟩ = some (.string fb) := cell_at HD.out 1
        go_wp2_with fail
        refine (check_any fa fb x (by unfold maxLen; omega) (by unfold maxLen; omega)).mono ?_
        rintro e w2 ⟨rfl, bb⟩
        have HB3 := hide (HB2.out.trans (bb.mono HB2.out.size))
        have HD' := hide ((bb.block _ (lt_heap HD.out)).trans HD.out)
        clear HD d0 d1 HB2 bb
        have HD := HD'
        clear HD'
        have d0 : w2.cell? ⟨b, 0, none⟩ = some (.string fa) := cell_at HD.out 0
        have d1 : w2.cell? ⟨b, 1, none⟩ = some (.string fb) := cell_at HD.out 1
        by_cases h0 : chkF (fa, fb) = 0
        · have HO2 := hide (HNX.out _ HE.out h0)
          rw [h0]
          clear h0
          go_wp2
          exact ⟨⟨k + 1, by omega, by go_num, HO2, HB3⟩, by simp [intOf]; omega⟩
        · have HC := hide (HHT.out _ HE.out h0)
          have tb : (((chkF (fa, fb) : Nat) : Int) != 0) = true := by rw [bne_iff_ne]; omega
          generalize chkF (fa, fb) = c at HC tb ⊢
          clear h0
          go_wp2
          go_ret
          exact ⟨by rw [HC.out]; rfl, HB3.out⟩
      · have HC := hide (chk_none HO.out hl2 (by omega))
        go_wp2
        go_ret
        exact ⟨by rw [HC.out]; rfl, HB.out⟩
set_option maxHeartbeats 2000000 in
theorem rCheck_any (w : World) (l : Value) (A : List (ByteArray × ByteArray)) (hA : Flds w l A) (hs : Sm A) :
    Calls Tryd.prog 28 #[l] w fun e w' => e = .returned (.int .i64 (chkL A : Nat)) ∧ Below w.heap.size w w' := by
  obtain ⟨a0, c0, rfl, hc0, hcells⟩ := hA
  have HF := hide hcells
  have HS := hide hs
  have hl : A.length ≤ 1048576 := hs.1
  clear hcells hs hc0
  by_cases hlong : 100 < A.length
  · have hC : chkL A = 2 := by unfold chkL; rw [if_pos hlong]
    rw [hC]
    have tl : (100 : Int) < (A.length : Int) := by omega
    go_enter Tryd.func28, Tryd.ntmps28
    go_wp2
    go_ret
    exact ⟨rfl, Below.refl _ _⟩
  · have tl : ¬ (100 : Int) < (A.length : Int) := by omega
    have hl2 : A.length ≤ 100 := by omega
    clear hlong
    go_enter Tryd.func28, Tryd.ntmps28
    go_wp2
    go_loopw [10] (fun i wr => ∃ k : Nat, k ≤ A.length ∧ i = .int .i64 k ∧ Hid (okT A k) ∧ Hid (Below w.heap.size w wr)) (fun i _ => A.length - (intOf i).toNat)
    case atStart => exact ⟨0, Nat.zero_le _, rfl, hide (fun f hf => by simp at hf), hide (Below.refl _ _)⟩
    case round =>
      obtain ⟨k, hk, rfl, HO, HB⟩ := hrel
      by_cases hlt : k < A.length
      · have HNX := hide (fun (f : ByteArray × ByteArray) he h0 => okT_next HO.out hlt (f := f) he h0)
        have HHT := hide (fun (f : ByteArray × ByteArray) he h0 => chk_hit HO.out hl2 hlt (f := f) he h0)
        obtain ⟨g1, o1, rfl, hgl, q1, q2⟩ := HF.out k hlt
        obtain ⟨z1, z2⟩ := HS.out.at k hlt
        obtain ⟨fa, fb, hf⟩ : ∃ fa fb, A[k] = (fa, fb) := ⟨_, _, rfl⟩
        rw [hf] at q1 q2 z1 z2
        have HE := hide hf
        clear hf
        have BW := hide (HB.out)
        have r1 : wr.cell? ⟨g1, o1 + k * 2, none⟩ = some (.string fa) := (BW.out.cell (p := ⟨g1, o1 + k * 2, none⟩) hgl).trans q1
        have r2 : wr.cell? ⟨g1, o1 + k * 2 + 1, none⟩ = some (.string fb) := (BW.out.cell (p := ⟨g1, o1 + k * 2 + 1, none⟩) hgl).trans q2
        clear q1 q2 hgl
        go_upto_region 6 with fail
        have HB2 := hide (HB.out.alloc HB.out.size (.cells #[.string fa, .string fb] 46))
        have HD := hide (hp_new wr (.cells #[.string fa, .string fb] 46))
        clear r1 r2 BW HB
        generalize wr.alloc (.cells #[.string fa, .string fb] 46) = x at HB2 HD ⊢
        generalize wr.heap.size = b at HD ⊢
        have d0 : x.cell? ⟨b, 0, none⟩ = some (.string fa) := cell_at HD.out 0
        have d1 : x.cell? ⟨b, 1, none⟩ = some (.string fb) := cell_at HD.out 1
        go_wp2_with fail
        refine (rtoken_any fa x (by unfold maxLen; omega)).mono ?_
        rintro e w2 ⟨rfl, bb⟩
        have HB3 := hide (HB2.out.trans (bb.mono HB2.out.size))
        have HD' := hide ((bb.block _ (lt_heap HD.out)).trans HD.out)
        clear HD d0 d1 HB2 bb
        have HD := HD'
        clear HD'
        have d0 : w2.cell? ⟨b, 0, none⟩ = some (.string fa) := cell_at HD.out 0
        have d1 : w2.cell? ⟨b, 1, none⟩ = some (.string fb) := cell_at HD.out 1
        cases ht : tokenB fa.data.toList with
        | false =>
          have HC := hide (HHT.out _ HE.out (by rw [chkF_tok ht]; decide))
          rw [chkF_tok ht] at HC
          clear ht
          go_wp2
          go_ret
          exact ⟨by rw [HC.out]; rfl, HB3.out⟩
        | true =>
          go_wp2_with fail
          refine (rvalue_b fb w2 (by unfold maxLen; omega)).mono ?_
          rintro e w3 ⟨rfl, bb⟩
          have HB4 := hide (HB3.out.trans (bb.mono HB3.out.size))
          have HD' := hide ((bb.block _ (lt_heap HD.out)).trans HD.out)
          clear HD d0 d1 HB3 bb
          have HD := HD'
          clear HD'
          have d0 : w3.cell? ⟨b, 0, none⟩ = some (.string fa) := cell_at HD.out 0
          have d1 : w3.cell? ⟨b, 1, none⟩ = some (.string fb) := cell_at HD.out 1
          cases hv : valueB fb.data.toList with
          | false =>
            have HC := hide (HHT.out _ HE.out (by rw [chkF_val ht hv]; decide))
            rw [chkF_val ht hv] at HC
            clear ht hv
            go_wp2
            go_ret
            exact ⟨by rw [HC.out]; rfl, HB4.out⟩
          | true =>
            have HO2 := hide (HNX.out _ HE.out (chkF_ok ht hv))
            clear ht hv
            go_wp2
            exact ⟨⟨k + 1, by omega, by go_num, HO2, HB4⟩, by simp [intOf]; omega⟩
      · have HC := hide (chk_none HO.out hl2 (by omega))
        go_wp2
        go_ret
        exact ⟨by rw [HC.out]; rfl, HB.out⟩
end Go.Proofs.YthciahpadninpaaDoor
