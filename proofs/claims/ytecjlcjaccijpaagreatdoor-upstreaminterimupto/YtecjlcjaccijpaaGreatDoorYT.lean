/- YT. -/
import Derived.Test.YtecjlcjaccijpaaGreatDoorLib
import Derived.Test.YtecjlcjaccijpaaGreatDoorYA
import Derived.Lib.SlBytesConst
import Derived.Deep.QuietTactic
import Derived.BigQuiet
import Derived.Deep.RegionWith
import Derived.Handy
import Derived.Deep.Cut
namespace Go.Proofs.YtecjlcjaccijpaaGreatDoor
open Go.ChangeShapes Go.WideShapes Go.ChangeAt Go.RowKit
set_option linter.unusedVariables false
set_option maxHeartbeats 16000000
set_option maxRecDepth 100000
theorem indexByte_neg : ∀ (l : List UInt8) (c : UInt8), Lib.indexByte l c = -1 ∨ 0 <= Lib.indexByte l c
 | [], c => .inl rfl
 | b :: l, c => by
  unfold Lib.indexByte
  rcases indexByte_neg l c with h | h
  ·split
   ·right; omega
   ·left; simp [h]
  ·split
   ·right; omega
   ·split
    ·left; rfl
    ·right; omega
theorem indexByte_mem : ∀ (l : List UInt8) (c : UInt8), decide (0 <= Lib.indexByte l c) = l.contains c
 | [], c => rfl
 | b :: l, c => by
  have ih := indexByte_mem l c
  have hn := indexByte_neg l c
  unfold Lib.indexByte
  rw [List.contains_cons, <- ih]
  by_cases h : b = c
  ·subst h; simp
  ·have h1 : (b == c) = false := by simpa using h
   have h2 : (c == b) = false := by simpa using Ne.symm h
   rw [h1, h2]
   simp only [Bool.false_or]
   rcases hn with hn | hn
   ·rw [hn]; simp
   ·have h3 : (Lib.indexByte l c == -1) = false := by rw [beq_eq_false_iff_ne]; omega
    simp only [h3, Bool.false_eq_true, ↓reduceIte]
    congr 1
    rw [eq_iff_iff]
    omega
theorem alnum_yes {c : UInt8} (h : (65 <= c.toNat /\ c.toNat <= 90) ∨ (97 <= c.toNat /\ c.toNat <= 122) ∨ (48 <= c.toNat /\ c.toNat <= 57)) : alnum c = true := by
 simp only [alnum, Bool.or_eq_true, Bool.and_eq_true, decide_eq_true_eq]; omega
theorem alnum_no {c : UInt8} (h : ¬ ((65 <= c.toNat /\ c.toNat <= 90) ∨ (97 <= c.toNat /\ c.toNat <= 122) ∨ (48 <= c.toNat /\ c.toNat <= 57))) : alnum c = false := by
 cases e : alnum c with
 | false => rfl
 | true => simp only [alnum, Bool.or_eq_true, Bool.and_eq_true, decide_eq_true_eq] at e; omega
theorem tok_yes {c : UInt8} (h : alnum c = true) : true = tokc c := by unfold tokc; rw [h]; rfl
theorem tok_no {c : UInt8} (h : alnum c = false) : decide (0 <= Lib.indexByte [33, 35, 36, 37, 38, 39, 42, 43, 45, 46, 94, 95, 96, 124, 126] c) = tokc c := by
 rw [indexByte_mem]; unfold tokc; rw [h]; rfl
theorem inToken_any (c : UInt8) (w : World) : Calls Tryz.prog 38 #[.int .u8 (c.toNat : Int)] w fun e w' => e = .returned (.bool (tokc c)) /\ w = w' := by
 have hc := byte_lt c
 go_enter Tryz.func38, Tryz.ntmps38
 go_wp2_with (go_at_call 55; refine (Tryz.strings_IndexByte _ _ _).mono ?_; rintro e w' ⟨rfl, rfl⟩)
 all_goals go_ret
 all_goals first
  | exact ⟨ret_bool (tok_yes (alnum_yes (by omega))), rfl⟩
  | exact ⟨ret_bool (tok_no (alnum_no (by omega))), rfl⟩
theorem inValue_any (c : UInt8) (w : World) : Calls Tryz.prog 95 #[.int .u8 (c.toNat : Int)] w fun e w' => e = .returned (.bool (valc c)) /\ w = w' := by
 have hc := byte_lt c
 by_cases h9 : c.toNat = 9
 ·have t : (((c.toNat : Int)) == 9) = true := beq_iff_eq.2 (by omega)
  go_enter Tryz.func95, Tryz.ntmps95
  go_wp2
  all_goals go_ret
  all_goals exact ⟨ret_bool (by simp [valc, h9]), rfl⟩
 ·have t : (((c.toNat : Int)) == 9) = false := beq_eq_false_iff_ne.2 (by omega)
  by_cases h32 : 32 <= c.toNat
  ·by_cases h127 : c.toNat = 127
   ·have t2 : (((c.toNat : Int)) != 127) = false := by rw [bne_eq_false_iff_eq]; omega
    go_enter Tryz.func95, Tryz.ntmps95
    go_wp2
    all_goals go_ret
    all_goals exact ⟨ret_bool (by simp [valc, h127]), rfl⟩
   ·have t2 : (((c.toNat : Int)) != 127) = true := by rw [bne_iff_ne]; omega
    go_enter Tryz.func95, Tryz.ntmps95
    go_wp2
    all_goals go_ret
    all_goals exact ⟨ret_bool (by simp [valc, h9, h32, h127]), rfl⟩
  ·go_enter Tryz.func95, Tryz.ntmps95
   go_wp2
   all_goals go_ret
   all_goals exact ⟨ret_bool (by simp [valc, h9, h32]), rfl⟩
theorem blank_any (c : UInt8) (w : World) : Calls Tryz.prog 90 #[.int .u8 (c.toNat : Int)] w fun e w' => e = .returned (.bool (blankc c)) /\ w = w' := by
 have hc := byte_lt c
 by_cases h9 : c.toNat = 9
 ·have t : (((c.toNat : Int)) == 9) = true := beq_iff_eq.2 (by omega)
  go_enter Tryz.func90, Tryz.ntmps90
  go_wp2
  go_ret
  exact ⟨ret_bool (by simp [blankc, h9]), rfl⟩
 ·have t : (((c.toNat : Int)) == 9) = false := beq_eq_false_iff_ne.2 (by omega)
  by_cases h32 : c.toNat = 32
  ·have t2 : (((c.toNat : Int)) == 32) = true := beq_iff_eq.2 (by omega)
   go_enter Tryz.func90, Tryz.ntmps90
   go_wp2
   go_ret
   exact ⟨ret_bool (by simp [blankc, h32]), rfl⟩
  ·have t2 : (((c.toNat : Int)) == 32) = false := beq_eq_false_iff_ne.2 (by omega)
   go_enter Tryz.func90, Tryz.ntmps90
   go_wp2
   go_ret
   exact ⟨ret_bool (by simp [blankc, h9, h32]), rfl⟩
theorem token_no {s : ByteArray} {k : Nat} (h : k < s.size) (hp : tokc s[k] = false) : false = tokenB s.data.toList := by
 unfold tokenB
 rw [all_no tokc s k h hp]
 rfl
theorem token_end {s : ByteArray} {k : Nat} (hk : s.size <= k) (h : (s.data.toList.take k).all tokc = true) : (!s.toList.isEmpty) = tokenB s.data.toList := by
 rw [take_all s k hk] at h
 unfold tokenB
 rw [h, Lib.toList_data]
 rfl
theorem token_any (s : ByteArray) (w : World) (hs : s.size <= maxLen) :
  Calls Tryz.prog 23 #[.string s] w fun e w' => e = .returned (.bool (tokenB s.data.toList)) /\ w = w' := by
 unfold maxLen at hs
 go_enter Tryz.func23, Tryz.ntmps23
 go_wp2
 go_loop [6] (fun i => ∃ k : Nat, k <= s.size /\ i = .int .i64 k /\ Hid ((s.data.toList.take k).all tokc = true)) (fun i => s.size - (intOf i).toNat)
 case atStart => exact ⟨0, Nat.zero_le _, rfl, by simp [Hid]⟩
 case round =>
  obtain ⟨k, hk, rfl, H⟩ := hrel
  by_cases hlt : k < s.size
  ·cases ht : tokc s[k] with
   | true =>
    go_wp2_with (go_at_call 38; refine (inToken_any _ _).mono ?_; rintro e w' ⟨rfl, rfl⟩)
    go_round
    case rel => exact ⟨k + 1, by omega, by go_num, by show _ = _; rw [all_snoc tokc s k hlt, H.out, ht]; rfl⟩
    case measure => simp [intOf]; omega
   | false =>
    go_wp2_with (go_at_call 38; refine (inToken_any _ _).mono ?_; rintro e w' ⟨rfl, rfl⟩)
    go_ret
    exact ⟨ret_bool (token_no hlt ht), rfl⟩
  ·go_wp2_with fail
   go_ret
   exact ⟨ret_bool (token_end (by omega) H.out), rfl⟩
/-! ### The document's answer -/
theorem marks_get : ∀ k : Fin 15, tokMarks[k.val]? = some (tokMarks.getD k.val 0) := by decide
theorem contains_snoc (c : UInt8) (k : Nat) (h : k < 15) : (tokMarks.take (k + 1)).contains c = ((tokMarks.take k).contains c || c == tokMarks.getD k 0) := by
 rw [List.take_add_one, marks_get ⟨k, h⟩]
 rw [Bool.eq_iff_iff]
 simp [List.contains_eq_mem, List.mem_append]
theorem mark_cells : ∀ k : Fin 15, (#[.int .u8 33, .int .u8 35, .int .u8 36, .int .u8 37, .int .u8 38, .int .u8 39, .int .u8 42, .int .u8 43, .int .u8 45, .int .u8 46, .int .u8 94, .int .u8 95, .int .u8 96, .int .u8 124, .int .u8 126] : Array Value)[k.val]? = some (.int .u8 ((tokMarks.getD k.val 0).toNat : Int)) := by
 intro k
 match k with
 | ⟨0, _⟩ => rfl
 | ⟨1, _⟩ => rfl
 | ⟨2, _⟩ => rfl
 | ⟨3, _⟩ => rfl
 | ⟨4, _⟩ => rfl
 | ⟨5, _⟩ => rfl
 | ⟨6, _⟩ => rfl
 | ⟨7, _⟩ => rfl
 | ⟨8, _⟩ => rfl
 | ⟨9, _⟩ => rfl
 | ⟨10, _⟩ => rfl
 | ⟨11, _⟩ => rfl
 | ⟨12, _⟩ => rfl
 | ⟨13, _⟩ => rfl
 | ⟨14, _⟩ => rfl
theorem mark_cell (w : World) (k : Nat) (h : k < 15) : (w.alloc (.cells #[.int .u8 33, .int .u8 35, .int .u8 36, .int .u8 37, .int .u8 38, .int .u8 39, .int .u8 42, .int .u8 43, .int .u8 45, .int .u8 46, .int .u8 94, .int .u8 95, .int .u8 96, .int .u8 124, .int .u8 126] 5 (15, 16))).cell? ⟨w.heap.size, k, none⟩ = some (.int .u8 ((tokMarks.getD k 0).toNat : Int)) := by
 rw [World.cell?_alloc_mark]
 exact mark_cells ⟨k, h⟩
theorem tchar_any (c : UInt8) (w : World) : Calls Tryz.prog 37 #[.int .u8 (c.toNat : Int)] w fun e w' => e = .returned (.bool (tokc c)) /\ Below w.heap.size w w' := by
 have hc := byte_lt c
 by_cases ha : alnum c = true
 ·have h : (65 <= c.toNat /\ c.toNat <= 90) ∨ (97 <= c.toNat /\ c.toNat <= 122) ∨ (48 <= c.toNat /\ c.toNat <= 57) := by
   simp only [alnum, Bool.or_eq_true, Bool.and_eq_true, decide_eq_true_eq] at ha; omega
  have H := ha
  rcases h with ⟨h1, h2⟩ | ⟨h1, h2⟩ | ⟨h1, h2⟩
  all_goals
   clear ha
   have HH : Hid (alnum c = true) := H
   clear H
   go_enter Tryz.func37, Tryz.ntmps37
   go_wp2
   go_ret
   exact ⟨ret_bool (tok_yes HH.out), Below.refl _ _⟩
 ·have hn : Hid (alnum c = false) := by show _ = _; simpa using ha
  have h : ¬ ((65 <= c.toNat /\ c.toNat <= 90) ∨ (97 <= c.toNat /\ c.toNat <= 122) ∨ (48 <= c.toNat /\ c.toNat <= 57)) := by
   simp only [alnum, Bool.or_eq_true, Bool.and_eq_true, decide_eq_true_eq] at ha; omega
  clear ha
  have HCELL := hide (mark_cell w)
  have hconv := Lib.run_convert_bytes_const (P := Tryz.prog) w 24 5 #[.int .u8 33, .int .u8 35, .int .u8 36, .int .u8 37, .int .u8 38, .int .u8 39, .int .u8 42, .int .u8 43, .int .u8 45, .int .u8 46, .int .u8 94, .int .u8 95, .int .u8 96, .int .u8 124, .int .u8 126] 15 15 Tryz.underlying24 Tryz.underlying5
  simp only [List.size_toArray, List.length_cons, List.length_nil, Nat.reduceAdd] at hconv
  have h' : (65 <= c.toNat /\ 90 < c.toNat /\ 97 <= c.toNat /\ 122 < c.toNat) ∨ (65 <= c.toNat /\ 90 < c.toNat /\ c.toNat < 97) ∨ (57 < c.toNat /\ c.toNat < 65) ∨ c.toNat < 48 := by omega
  clear h
  go_enter Tryz.func37, Tryz.ntmps37
  rcases h' with ⟨h1, h2, h3, h4⟩ | ⟨h1, h2, h3⟩ | ⟨h1, h2⟩ | h1
  all_goals
   go_wp2
   go_loop [30] (fun i => ∃ k : Nat, k <= 15 /\ i = .int .i64 k /\ Hid ((tokMarks.take k).contains c = false)) (fun i => 15 - (intOf i).toNat)
   case atStart => exact ⟨0, Nat.zero_le _, rfl, by simp [Hid]⟩
   case round =>
    obtain ⟨k, hk, rfl, H⟩ := hrel
    by_cases hlt : k < 15
    ·have hcs := contains_snoc c k hlt
     have hck := HCELL.out k hlt
     have hme : tokMarks.contains (tokMarks.getD k 0) = true := by
      rw [List.contains_eq_mem, decide_eq_true_eq, List.getD_eq_getElem?_getD, List.getElem?_eq_getElem (by simpa [tokMarks] using hlt), Option.getD_some]
      exact List.getElem_mem _
     generalize tokMarks.getD k 0 = x at hcs hck hme
     have hbe := byte_eqI c x
     cases ht : (c == x) with
     | true =>
      rw [ht] at hbe
      have HT : Hid (tokc c = true) := by
       show _ = _
       unfold tokc; rw [eq_of_beq ht, hme]; simp
      clear ht hcs hme
      go_wp2
      go_ret
      exact ⟨ret_bool HT.out.symm, (Below.refl _ _).alloc (Nat.le_refl _) _⟩
     | false =>
      rw [ht] at hbe
      have HC : Hid ((tokMarks.take (k + 1)).contains c = false) := by show _ = _; rw [hcs, H.out, ht]; rfl
      clear ht hcs hme
      go_wp2
      go_round
      case rel => exact ⟨k + 1, by omega, by go_num, HC⟩
      case measure => simp [intOf]; omega
    ·have e : k = 15 := by omega
     subst e
     have HT : Hid (tokc c = false) := by
      show _ = _
      unfold tokc
      rw [hn.out]
      exact H.out
     go_wp2
     go_ret
     exact ⟨ret_bool HT.out.symm, (Below.refl _ _).alloc (Nat.le_refl _) _⟩
theorem token_pos {s : ByteArray} {k : Nat} (hk : s.size <= k) (h : (s.data.toList.take k).all tokc = true) : decide (0 < s.size) = tokenB s.data.toList := by
 rw [take_all s k hk] at h
 unfold tokenB
 rw [h, isEmpty_size, Bool.eq_iff_iff]
 simp only [Bool.true_and, Bool.not_eq_true', decide_eq_true_eq, decide_eq_false_iff_not]
 omega
theorem rtoken_any (s : ByteArray) (w : World) (hs : s.size <= maxLen) :
  Calls Tryz.prog 21 #[.string s] w fun e w' => e = .returned (.bool (tokenB s.data.toList)) /\ Below w.heap.size w w' := by
 unfold maxLen at hs
 go_enter Tryz.func21, Tryz.ntmps21
 go_wp2
 go_loopw [3] (fun i wr => ∃ k : Nat, k <= s.size /\ i = .int .i64 k /\ Hid ((s.data.toList.take k).all tokc = true) /\ Hid (Below w.heap.size w wr)) (fun i _ => s.size - (intOf i).toNat)
 case atStart => exact ⟨0, Nat.zero_le _, rfl, by simp [Hid], Below.refl _ _⟩
 case round =>
  obtain ⟨k, hk, rfl, H, HB⟩ := hrel
  by_cases hlt : k < s.size
  ·cases ht : tokc s[k] with
   | true =>
    go_wp2_with (go_at_call 37; refine (tchar_any _ _).mono ?_; rintro e w' ⟨rfl, hb⟩)
    go_roundw
    case rel => exact ⟨k + 1, by omega, by go_num, by show _ = _; rw [all_snoc tokc s k hlt, H.out, ht]; rfl, HB.out.trans (hb.mono HB.out.size)⟩
    case measure => simp [intOf]; omega
   | false =>
    go_wp2_with (go_at_call 37; refine (tchar_any _ _).mono ?_; rintro e w' ⟨rfl, hb⟩)
    go_ret
    exact ⟨ret_bool (token_no hlt ht), HB.out.trans (hb.mono HB.out.size)⟩
  ·go_wp2_with fail
   go_ret
   exact ⟨ret_bool (token_pos (by omega) H.out), HB.out⟩
/-! ### Trimmed -/
def trimS (s : ByteArray) : ByteArray := ⟨(trimB s.data.toList).toArray⟩
theorem trim_size (s : ByteArray) : (trimS s).size <= s.size := by
 have := trimB_le s.data.toList
 rw [size_len] at this
 exact this
theorem strim_any (s : ByteArray) (w : World) (hs : s.size <= maxLen) :
  Calls Tryz.prog 96 #[.string s, .string ⟨#[9, 32]⟩] w fun e w' => e = .returned (.string (trimS s)) /\ Below w.heap.size w w' :=
 Any.strings_Trim_laid Tryz.lays160 (by kernel_rfl) s ⟨#[9, 32]⟩ w hs (by decide) (ascii_of_all (by decide))
theorem clone_any (s : ByteArray) (w : World) (hs : s.size <= 281474976710656) :
  Calls Tryz.prog 25 #[.string s] w fun e w' => e = .returned (.string s) /\ Below w.heap.size w w' := by
 go_enter Tryz.func25, Tryz.ntmps25
 go_wp2_with (go_at_call 41; refine (Tryz.stringslite_Clone _ _ hs).mono ?_; rintro e w' ⟨rfl, hb⟩)
 go_ret
 exact ⟨rfl, hb⟩
theorem trim_any (s : ByteArray) (w : World) (hs : s.size <= 281474976710656) :
  Calls Tryz.prog 78 #[.string s] w fun e w' => e = .returned (.string (trimS s)) /\ Below w.heap.size w w' := by
 have hz : (trimS s).size <= 281474976710656 := Nat.le_trans (trim_size s) hs
 have hm : s.size <= maxLen := by unfold maxLen; omega
 generalize hr : trimS s = r at hz |-
 have hT : ∀ w, Calls Tryz.prog 96 #[.string s, .string ⟨#[9, 32]⟩] w fun e w' => e = .returned (.string r) /\ Below w.heap.size w w' := fun w => hr ▸ strim_any s w hm
 have HT := hide hT
 clear hr hT
 go_enter Tryz.func78, Tryz.ntmps78
 go_wp2_with (first | (go_at_call 96; refine (HT.out _).mono ?_; rintro e w1 ⟨rfl, hb1⟩) | (go_at_call 25; refine (clone_any _ _ hz).mono ?_; rintro e w2 ⟨rfl, hb2⟩))
 go_ret
 exact ⟨rfl, hb1.trans (hb2.mono hb1.size)⟩
/-! ### Values -/
theorem value_end {s r : ByteArray} {k : Nat} (hk : s.size <= k) (h : (s.data.toList.take k).all valc = true) (hr : trimS s = r) : (s.toList == r.toList) = valueB s.data.toList := by
 rw [take_all s k hk] at h
 subst hr
 unfold valueB
 rw [h, Lib.toList_data, Lib.toList_data, beq_list]
 rfl
theorem value_any (s : ByteArray) (w : World) (hs : s.size <= maxLen) :
  Calls Tryz.prog 77 #[.string s] w fun e w' => e = .returned (.bool (valueB s.data.toList)) /\ Below w.heap.size w w' := by
 have hT := hide (fun w => strim_any s w hs)
 generalize hr : trimS s = r at hT
 have HR := hide hr
 clear hr
 unfold maxLen at hs
 go_enter Tryz.func77, Tryz.ntmps77
 go_wp2
 go_loop [6] (fun i => ∃ k : Nat, k <= s.size /\ i = .int .i64 k /\ Hid ((s.data.toList.take k).all valc = true)) (fun i => s.size - (intOf i).toNat)
 case atStart => exact ⟨0, Nat.zero_le _, rfl, by simp [Hid]⟩
 case round =>
  obtain ⟨k, hk, rfl, H⟩ := hrel
  by_cases hlt : k < s.size
  ·cases ht : valc s[k] with
   | true =>
    go_wp2_with (go_at_call 95; refine (inValue_any _ _).mono ?_; rintro e w' ⟨rfl, rfl⟩)
    go_round
    case rel => exact ⟨k + 1, by omega, by go_num, by show _ = _; rw [all_snoc valc s k hlt, H.out, ht]; rfl⟩
    case measure => simp [intOf]; omega
   | false =>
    go_wp2_with (go_at_call 95; refine (inValue_any _ _).mono ?_; rintro e w' ⟨rfl, rfl⟩)
    go_ret
    exact ⟨ret_bool (by unfold valueB; rw [all_no valc s k hlt ht]; rfl), Below.refl _ _⟩
  ·go_wp2_with (go_at_call 96; refine (hT.out _).mono ?_; rintro e w1 ⟨rfl, hb1⟩)
   go_ret
   exact ⟨ret_bool (value_end (by omega) H.out HR.out), hb1⟩
/-! ### Pieces of a text -/
theorem ltrim_blank {t : ByteArray} (h : 0 < t.size) (hb : blankc t[0] = true) : ltrim t.data.toList = ltrim (t.extract 1 t.size).data.toList := by
 rw [head_list t h, ltrim_cons, if_pos hb]
theorem ltrim_stop {t : ByteArray} (h : 0 < t.size) (hb : blankc t[0] = false) : ltrim t.data.toList = t.data.toList := by
 rw [head_list t h, ltrim_cons, if_neg (by rw [hb]; simp)]
theorem rtrim_blank {t : ByteArray} (h : 0 < t.size) (hb : blankc t[t.size - 1] = true) : rtrim t.data.toList = rtrim (t.extract 0 (t.size - 1)).data.toList := by
 rw [last_list t h, rtrim_snoc, if_pos hb]
theorem rtrim_stop {t : ByteArray} (h : 0 < t.size) (hb : blankc t[t.size - 1] = false) : rtrim t.data.toList = t.data.toList := by
 rw [last_list t h, rtrim_snoc, if_neg (by rw [hb]; simp)]
theorem trim_end {s t : ByteArray} (h : rtrim (ltrim s.data.toList) = rtrim t.data.toList) (h2 : rtrim t.data.toList = t.data.toList) : Ending.returned (.string t) = .returned (.string (trimS s)) := by
 have e : trimS s = t := by
  unfold trimS
  rw [trimB_eq, trim_comm, h, h2]
 rw [e]
theorem rtrim_any (s : ByteArray) (w : World) (hs : s.size <= maxLen) :
  Calls Tryz.prog 68 #[.string s] w fun e w' => e = .returned (.string (trimS s)) /\ w = w' := by
 unfold maxLen at hs
 go_enter Tryz.func68, Tryz.ntmps68
 go_wp2
 go_loop [0] (fun v => ∃ t : ByteArray, v = .string t /\ t.size <= s.size /\ Hid (ltrim s.data.toList = ltrim t.data.toList)) (fun v => strLen v)
 case atStart => exact ⟨s, rfl, Nat.le_refl _, rfl⟩
 case round =>
  obtain ⟨t, rfl, ht, H⟩ := hrel
  by_cases h0 : 0 < t.size
  ·cases hb : blankc t[0] with
   | true =>
    have hz := ext_size t 1 t.size
    have H2 := hide (H.out.trans (ltrim_blank h0 hb))
    have HZ := hide hz
    clear hz
    go_wp2_with (go_at_call 90; refine (blank_any _ _).mono ?_; rintro e w' ⟨rfl, rfl⟩)
    exact ⟨⟨_, rfl, by rw [HZ.out]; omega, H2⟩, by simp only [strLen]; rw [HZ.out]; omega⟩
   | false =>
    have H2 := hide (congrArg rtrim (H.out.trans (ltrim_stop h0 hb)))
    clear H
    go_wp2_with (go_at_call 90; refine (blank_any _ _).mono ?_; rintro e w' ⟨rfl, rfl⟩)
    go_loop [0] (fun v => ∃ t : ByteArray, v = .string t /\ t.size <= s.size /\ Hid (rtrim (ltrim s.data.toList) = rtrim t.data.toList)) (fun v => strLen v)
    case atStart => exact ⟨t, rfl, ht, H2⟩
    case round =>
     clear H2 ht
     obtain ⟨r, rfl, hr, H3⟩ := hrel
     by_cases h1 : 0 < r.size
     ·cases hc : blankc r[r.size - 1] with
      | true =>
       have H4 := hide (H3.out.trans (rtrim_blank h1 hc))
       have HZ := hide (ext_size r 0 (r.size - 1))
       go_wp2_with (go_at_call 90; refine (blank_any _ _).mono ?_; rintro e w' ⟨rfl, rfl⟩)
       exact ⟨⟨_, rfl, by rw [HZ.out]; omega, H4⟩, by simp only [strLen]; rw [HZ.out]; omega⟩
      | false =>
       have H4 := hide (trim_end H3.out (rtrim_stop h1 hc))
       go_wp2_with (go_at_call 90; refine (blank_any _ _).mono ?_; rintro e w' ⟨rfl, rfl⟩)
       go_ret
       exact ⟨H4.out, rfl⟩
     ·have H4 := hide (trim_end H3.out (by rw [nil_list r h1]; rfl))
      go_wp2
      go_ret
      exact ⟨H4.out, rfl⟩
  ·have H2 := hide (congrArg rtrim (H.out.trans (show ltrim t.data.toList = t.data.toList by rw [nil_list t h0]; rfl)))
   clear H
   go_wp2
   go_loop [0] (fun v => ∃ t : ByteArray, v = .string t /\ t.size <= s.size /\ Hid (rtrim (ltrim s.data.toList) = rtrim t.data.toList)) (fun v => strLen v)
   case atStart => exact ⟨t, rfl, ht, H2⟩
   case round =>
    clear H2 ht
    obtain ⟨r, rfl, hr, H3⟩ := hrel
    by_cases h1 : 0 < r.size
    ·cases hc : blankc r[r.size - 1] with
     | true =>
      have H4 := hide (H3.out.trans (rtrim_blank h1 hc))
      have HZ := hide (ext_size r 0 (r.size - 1))
      go_wp2_with (go_at_call 90; refine (blank_any _ _).mono ?_; rintro e w' ⟨rfl, rfl⟩)
      exact ⟨⟨_, rfl, by rw [HZ.out]; omega, H4⟩, by simp only [strLen]; rw [HZ.out]; omega⟩
     | false =>
      have H4 := hide (trim_end H3.out (rtrim_stop h1 hc))
      go_wp2_with (go_at_call 90; refine (blank_any _ _).mono ?_; rintro e w' ⟨rfl, rfl⟩)
      go_ret
      exact ⟨H4.out, rfl⟩
    ·have H4 := hide (trim_end H3.out (by rw [nil_list r h1]; rfl))
     go_wp2
     go_ret
     exact ⟨H4.out, rfl⟩
/-! ### The document's values -/
theorem valc_ref (c : UInt8) : valc c = (decide (c.toNat = 9) || (decide (32 <= c.toNat) && decide (c.toNat <= 126)) || decide (128 <= c.toNat)) := by
 rw [Bool.eq_iff_iff]
 simp only [valc, Bool.or_eq_true, Bool.and_eq_true, Bool.not_eq_true', decide_eq_true_eq, decide_eq_false_iff_not]
 omega
theorem value_ends {s : ByteArray} {k : Nat} (hk : s.size <= k) (h : (s.data.toList.take k).all valc = true) (h0 : 0 < s.size) : (!blankc s[0] && !blankc s[s.size - 1]) = valueB s.data.toList := by
 rw [take_all s k hk] at h
 unfold valueB
 rw [h, Bool.true_and, Bool.eq_iff_iff]
 simp only [Bool.and_eq_true, Bool.not_eq_true', decide_eq_true_eq]
 rw [trim_id]
 have e1 : s.data.toList.head? = some s[0] := by rw [head_list s h0]; rfl
 have e2 : s.data.toList.getLast? = some s[s.size - 1] := by rw [last_list s h0]; simp
 rw [e1, e2]
 simp
theorem value_nil {s : ByteArray} (h0 : ¬ 0 < s.size) : true = valueB s.data.toList := by
 rw [nil_list s h0]; simp [valueB, trimB_eq, ltrim, rtrim]
theorem rvalue_any (s : ByteArray) (w : World) (hs : s.size <= maxLen) :
  Calls Tryz.prog 69 #[.string s] w fun e w' => e = .returned (.bool (valueB s.data.toList)) /\ w = w' := by
 unfold maxLen at hs
 go_enter Tryz.func69, Tryz.ntmps69
 go_wp2
 go_loop [4] (fun i => ∃ k : Nat, k <= s.size /\ i = .int .i64 k /\ Hid ((s.data.toList.take k).all valc = true)) (fun i => s.size - (intOf i).toNat)
 case atStart => exact ⟨0, Nat.zero_le _, rfl, by simp [Hid]⟩
 case round =>
  obtain ⟨k, hk, rfl, H⟩ := hrel
  by_cases hlt : k < s.size
  ·have hl := byte_lt s[k]
   have hv := hide (valc_ref s[k])
   have H9 : s[k].toNat = 9 ∨ (s[k].toNat ≠ 9 /\ 32 <= s[k].toNat /\ s[k].toNat <= 126) ∨ (128 <= s[k].toNat) ∨ (s[k].toNat ≠ 9 /\ s[k].toNat < 32) ∨ s[k].toNat = 127 := by omega
   rcases H9 with h | h | h | h | h
   ·have t : (((s[k].toNat : Int)) == 9) = true := beq_iff_eq.2 (by omega)
    have ht : Hid (valc s[k] = true) := by show _ = _; rw [hv.out]; simp; omega
    clear h
    go_wp2
    all_goals
     go_round
     case rel => exact ⟨k + 1, by omega, by go_num, by show _ = _; rw [all_snoc valc s k hlt, H.out, ht.out]; rfl⟩
     case measure => simp [intOf]; omega
   ·have t : (((s[k].toNat : Int)) == 9) = false := beq_eq_false_iff_ne.2 (by omega)
    have ht : Hid (valc s[k] = true) := by show _ = _; rw [hv.out]; simp; omega
    obtain ⟨_, h1, h2⟩ := h
    go_wp2
    all_goals
     go_round
     case rel => exact ⟨k + 1, by omega, by go_num, by show _ = _; rw [all_snoc valc s k hlt, H.out, ht.out]; rfl⟩
     case measure => simp [intOf]; omega
   ·have t : (((s[k].toNat : Int)) == 9) = false := beq_eq_false_iff_ne.2 (by omega)
    have ht : Hid (valc s[k] = true) := by show _ = _; rw [hv.out]; simp; omega
    have d2 : decide ((s[k].toNat : Int) <= 126) = false := decide_eq_false (by omega)
    have d3 : decide (128 <= (s[k].toNat : Int)) = true := decide_eq_true (by omega)
    go_wp2
    all_goals
     go_round
     case rel => exact ⟨k + 1, by omega, by go_num, by show _ = _; rw [all_snoc valc s k hlt, H.out, ht.out]; rfl⟩
     case measure => simp [intOf]; omega
   all_goals
    have t : (((s[k].toNat : Int)) == 9) = false := beq_eq_false_iff_ne.2 (by omega)
    have ht : Hid (valc s[k] = false) := by
     show _ = _
     rw [hv.out, Bool.eq_false_iff]
     intro x
     simp only [Bool.or_eq_true, Bool.and_eq_true, decide_eq_true_eq] at x
     omega
    have hr : s[k].toNat < 32 ∨ (126 < s[k].toNat /\ s[k].toNat < 128) := by omega
    have d3 : decide (128 <= (s[k].toNat : Int)) = false := decide_eq_false (by omega)
    have d4 : decide (32 <= (s[k].toNat : Int)) = false ∨ decide ((s[k].toNat : Int) <= 126) = false := hr.elim (fun hr => .inl (decide_eq_false (by omega))) (fun hr => .inr (decide_eq_false (by omega)))
    clear h hr
    rcases d4 with d4 | d4
    all_goals
     go_wp2
     all_goals
      go_ret
      exact ⟨ret_bool (by unfold valueB; rw [all_no valc s k hlt ht.out]; rfl), rfl⟩
  ·by_cases h0 : 0 < s.size
   ·have t : (((s.size : Int)) == 0) = false := beq_eq_false_iff_ne.2 (by omega)
    have HV := hide (value_ends (show s.size <= k by omega) H.out h0)
    cases hb : blankc s[0] with
    | true =>
     go_wp2_with (go_at_call 90; refine (blank_any _ _).mono ?_; rintro e w' ⟨rfl, rfl⟩)
     go_ret
     exact ⟨ret_bool (by rw [<- HV.out, hb]; rfl), rfl⟩
    | false =>
     go_wp2_with (go_at_call 90; refine (blank_any _ _).mono ?_; rintro e w' ⟨rfl, rfl⟩)
     go_ret
     exact ⟨ret_bool (by rw [<- HV.out, hb]; rfl), rfl⟩
   ·have t : (((s.size : Int)) == 0) = true := beq_iff_eq.2 (by omega)
    go_wp2
    go_ret
    exact ⟨ret_bool (value_nil h0), rfl⟩
theorem digv_up {c : UInt8} (h : 65 <= c.toNat /\ c.toNat <= 70) : (digv c : Int) = c.toNat - 55 := by unfold digv; rw [if_pos h]; omega
theorem digv_lo {c : UInt8} (h : 97 <= c.toNat /\ c.toNat <= 102) : (digv c : Int) = c.toNat - 87 := by unfold digv; rw [if_neg (by omega), if_pos h]; omega
theorem digv_nu {c : UInt8} (h : 48 <= c.toNat /\ c.toNat <= 57) : (digv c : Int) = c.toNat - 48 := by unfold digv; rw [if_neg (by omega), if_neg (by omega), if_pos h]; omega
theorem digv_none {c : UInt8} (h : ¬ (65 <= c.toNat /\ c.toNat <= 70)) (h2 : ¬ (97 <= c.toNat /\ c.toNat <= 102)) (h3 : ¬ (48 <= c.toNat /\ c.toNat <= 57)) : digv c = 16 := by
 unfold digv; rw [if_neg h, if_neg h2, if_neg h3]
theorem ways (n : Nat) : (65 <= n /\ n <= 70) ∨ (97 <= n /\ n <= 102) ∨ (48 <= n /\ n <= 57) ∨ n < 48 ∨ (57 < n /\ n < 65) ∨ (70 < n /\ n < 97) ∨ 102 < n := by omega
theorem digit_any (c : UInt8) (w : World) : Calls Tryz.prog 97 #[.int .u8 (c.toNat : Int)] w fun e w' => e = .returned (.int .i64 (digv c : Int)) /\ w = w' := by
 have hc := byte_lt c
 rcases ways c.toNat with h | h | h | h | h | h | h
 ·have HD := hide (digv_up h)
  obtain ⟨h1, h2⟩ := h
  go_enter Tryz.func97, Tryz.ntmps97
  go_wp2
  all_goals go_ret
  all_goals exact ⟨ret_int (by rw [HD.out]; omega), rfl⟩
 ·have HD := hide (digv_lo h)
  obtain ⟨h1, h2⟩ := h
  go_enter Tryz.func97, Tryz.ntmps97
  go_wp2
  all_goals go_ret
  all_goals exact ⟨ret_int (by rw [HD.out]; omega), rfl⟩
 ·have HD := hide (digv_nu h)
  obtain ⟨h1, h2⟩ := h
  go_enter Tryz.func97, Tryz.ntmps97
  go_wp2
  all_goals go_ret
  all_goals exact ⟨ret_int (by rw [HD.out]), rfl⟩
 all_goals
  have HD := hide (digv_none (c := c) (by omega) (by omega) (by omega))
  try obtain ⟨h1, h2⟩ := h
  go_enter Tryz.func97, Tryz.ntmps97
  go_wp2
  all_goals go_ret
  all_goals exact ⟨ret_int (by rw [HD.out]; rfl), rfl⟩
def rdig (c : UInt8) (base : Nat) : Int := if digv c < base then (digv c : Int) else -1
theorem rdig_yes {c : UInt8} {base : Nat} (h : digv c < base) : rdig c base = digv c := by unfold rdig; rw [if_pos h]
theorem rdig_no {c : UInt8} {base : Nat} (h : ¬ digv c < base) : rdig c base = -1 := by unfold rdig; rw [if_neg h]
theorem rdig_val {c : UInt8} {base : Nat} {x : Int} (h : (digv c : Int) = x) (h2 : x < base) : rdig c base = x := by rw [rdig_yes (by omega), h]
theorem rdig_non {c : UInt8} {base : Nat} {x : Int} (h : (digv c : Int) = x) (h2 : ¬ x < base) : rdig c base = -1 := rdig_no (by omega)
theorem digv_nat {c : UInt8} {n : Nat} (h : digv c = n) : (digv c : Int) = n := by rw [h]
theorem rdigit_10 (c : UInt8) (w : World) : Calls Tryz.prog 73 #[.int .u8 (c.toNat : Int), .int .i64 10] w fun e w' => e = .returned (.int .i64 (rdig c 10)) /\ w = w' := by
 have hc := byte_lt c
 rcases ways c.toNat with h | h | h | h | h | h | h
 ·have HD := hide (digv_up h)
  obtain ⟨h1, h2⟩ := h
  go_enter Tryz.func73, Tryz.ntmps73
  go_wp2
  all_goals go_ret
  all_goals exact ⟨ret_int (by first | (rw [rdig_val HD.out (by omega)]; omega) | rw [rdig_non HD.out (by omega)]), rfl⟩
 ·have HD := hide (digv_lo h)
  obtain ⟨h1, h2⟩ := h
  go_enter Tryz.func73, Tryz.ntmps73
  go_wp2
  all_goals go_ret
  all_goals exact ⟨ret_int (by first | (rw [rdig_val HD.out (by omega)]; omega) | rw [rdig_non HD.out (by omega)]), rfl⟩
 ·have HD := hide (digv_nu h)
  obtain ⟨h1, h2⟩ := h
  go_enter Tryz.func73, Tryz.ntmps73
  go_wp2
  all_goals go_ret
  all_goals exact ⟨ret_int (by rw [rdig_val HD.out (by omega)]), rfl⟩
 all_goals
  have HD := hide (digv_nat (digv_none (c := c) (by omega) (by omega) (by omega)))
  try obtain ⟨h1, h2⟩ := h
  go_enter Tryz.func73, Tryz.ntmps73
  go_wp2
  all_goals go_ret
  all_goals exact ⟨ret_int (by rw [rdig_non HD.out (by omega)]), rfl⟩
theorem rdigit_16 (c : UInt8) (w : World) : Calls Tryz.prog 73 #[.int .u8 (c.toNat : Int), .int .i64 16] w fun e w' => e = .returned (.int .i64 (rdig c 16)) /\ w = w' := by
 have hc := byte_lt c
 rcases ways c.toNat with h | h | h | h | h | h | h
 ·have HD := hide (digv_up h)
  obtain ⟨h1, h2⟩ := h
  go_enter Tryz.func73, Tryz.ntmps73
  go_wp2
  all_goals go_ret
  all_goals exact ⟨ret_int (by first | (rw [rdig_val HD.out (by omega)]; omega) | rw [rdig_non HD.out (by omega)]), rfl⟩
 ·have HD := hide (digv_lo h)
  obtain ⟨h1, h2⟩ := h
  go_enter Tryz.func73, Tryz.ntmps73
  go_wp2
  all_goals go_ret
  all_goals exact ⟨ret_int (by first | (rw [rdig_val HD.out (by omega)]; omega) | rw [rdig_non HD.out (by omega)]), rfl⟩
 ·have HD := hide (digv_nu h)
  obtain ⟨h1, h2⟩ := h
  go_enter Tryz.func73, Tryz.ntmps73
  go_wp2
  all_goals go_ret
  all_goals exact ⟨ret_int (by rw [rdig_val HD.out (by omega)]), rfl⟩
 all_goals
  have HD := hide (digv_nat (digv_none (c := c) (by omega) (by omega) (by omega)))
  try obtain ⟨h1, h2⟩ := h
  go_enter Tryz.func73, Tryz.ntmps73
  go_wp2
  all_goals go_ret
  all_goals exact ⟨ret_int (by rw [rdig_non HD.out (by omega)]), rfl⟩
/-! ### Row by row -/
def dig (base : Nat) (c : UInt8) : Bool := decide (digv c < base)
theorem numE_empty {base : Nat} {l : List UInt8} (h : l = []) : numV base l = 0 /\ numE base l = 50 := by subst h; simp [numV, numE]
theorem num_bad {base : Nat} {s : ByteArray} {k : Nat} (h : k < s.size) (hp : dig base s[k] = false) : numV base s.data.toList = 0 /\ numE base s.data.toList = 50 := by
 have := all_no (dig base) s k h hp
 unfold dig at this
 unfold numV numE
 rw [this]
 simp
theorem num_big {base : Nat} {s : ByteArray} {k : Nat} {a : Int} (h0 : 0 < s.size) (hk : s.size <= k) (h : (s.data.toList.take k).all (dig base) = true) (ha : a = accu base (s.data.toList.take k)) (hb : 9007199254740992 < a) : numV base s.data.toList = 0 /\ numE base s.data.toList = 51 := by
 rw [take_all s k hk] at h ha
 have hn : s.data.toList ≠ [] := fun e => by have := size_len s; rw [e] at this; simp at this; omega
 unfold dig at h
 have hb' : top < accu base s.data.toList := by unfold top; omega
 unfold numV numE
 rw [h]
 simp [hn, hb']
theorem num_fits {base : Nat} {s : ByteArray} {k : Nat} {a : Int} (h0 : 0 < s.size) (hk : s.size <= k) (h : (s.data.toList.take k).all (dig base) = true) (ha : a = accu base (s.data.toList.take k)) (hb : ¬ 9007199254740992 < a) : (numV base s.data.toList : Int) = a /\ numE base s.data.toList = 0 := by
 rw [take_all s k hk] at h ha
 have hn : s.data.toList ≠ [] := fun e => by have := size_len s; rw [e] at this; simp at this; omega
 unfold dig at h
 have hb' : ¬ top < accu base s.data.toList := by unfold top; omega
 unfold numV numE
 rw [h]
 simp [hn, hb', ha]
theorem ret2 {a b : Int} {m n : Nat} (h : (m : Int) = a /\ n = b) : Ending.returned (.tuple #[.int .i64 a, .int .i64 b]) = .returned (.tuple #[.int .i64 (m : Int), .int .i64 (n : Int)]) := by
 rw [<- h.1, <- h.2]
theorem acc_next {base : Nat} {s : ByteArray} {k : Nat} {a : Int} (h : k < s.size) (ha : a = accu base (s.data.toList.take k)) : (a <= 9007199254740992 -> a * base + digv s[k] = accu base (s.data.toList.take (k + 1))) /\ (¬ a <= 9007199254740992 -> a = accu base (s.data.toList.take (k + 1))) := by
 rw [take_snoc s k h, accu_snoc]
 unfold stp top
 constructor
 ·intro hl
  rw [if_pos (by omega), ha]
  simp
 ·intro hl
  rw [if_neg (by omega), ha]
theorem accI_le {base : Nat} (hb : base <= 16) {l : List UInt8} {a : Int} (ha : a = accu base l) : 0 <= a /\ a <= 144115188075855888 := by
 have := accu_le base hb l
 unfold top at this
 omega
theorem number_10 (s : ByteArray) (w : World) (hs : s.size <= maxLen) :
  Calls Tryz.prog 79 #[.string s, .int .i64 10] w fun e w' => e = .returned (.tuple #[.int .i64 (numV 10 s.data.toList : Int), .int .i64 (numE 10 s.data.toList : Int)]) /\ w = w' := by
 unfold maxLen at hs
 by_cases h0 : 0 < s.size
 ·have he : s.toList.isEmpty = false := by rw [Lib.toList_data, isEmpty_size]; exact decide_eq_false (by omega)
  have hz : ((s.size : Int) == 0) = false := beq_eq_false_iff_ne.2 (by omega)
  go_enter Tryz.func79, Tryz.ntmps79
  go_wp2
  go_loop [6, 13] (fun n i => ∃ (k : Nat) (a : Int), k <= s.size /\ i = .int .i64 k /\ n = .int .i64 a /\ Hid (a = accu 10 (s.data.toList.take k)) /\ Hid ((s.data.toList.take k).all (dig 10) = true)) (fun _ i => s.size - (intOf i).toNat)
  case atStart => exact ⟨0, 0, Nat.zero_le _, rfl, rfl, by simp [Hid, accu], by simp [Hid]⟩
  case round =>
   obtain ⟨k, a, hk, rfl, rfl, HA, H⟩ := hrel
   obtain ⟨ha0, ha1⟩ := accI_le (by omega) HA.out
   by_cases hlt : k < s.size
   ·have hdl : (digv s[k] : Int) <= 16 := by have := digv_le s[k]; omega
    have HN := hide (acc_next hlt HA.out)
    cases hd : dig 10 s[k] with
    | true =>
     have HS : Hid ((s.data.toList.take (k + 1)).all (dig 10) = true) := by show _ = _; rw [all_snoc _ s k hlt, H.out, hd]; rfl
     replace hd : (digv s[k] : Int) < 10 := by simp [dig] at hd; omega
     by_cases hle : a <= 9007199254740992
     ·have HM := hide (HN.out.1 hle)
      go_wp2_with (go_at_call 97; refine (digit_any _ _).mono ?_; rintro e w' ⟨rfl, rfl⟩)
      exact ⟨⟨k + 1, _, by omega, by go_num, rfl, HM, HS⟩, by simp [intOf]; omega⟩
     ·have HM := hide (HN.out.2 hle)
      go_wp2_with (go_at_call 97; refine (digit_any _ _).mono ?_; rintro e w' ⟨rfl, rfl⟩)
      exact ⟨⟨k + 1, _, by omega, by go_num, rfl, HM, HS⟩, by simp [intOf]; omega⟩
    | false =>
     have HB := hide (num_bad hlt hd)
     replace hd : ¬ (digv s[k] : Int) < 10 := by simp [dig] at hd; omega
     go_wp2_with (go_at_call 97; refine (digit_any _ _).mono ?_; rintro e w' ⟨rfl, rfl⟩)
     go_ret2
     exact ⟨ret2 ⟨by rw [HB.out.1]; rfl, by rw [HB.out.2]; rfl⟩, rfl⟩
   ·by_cases hbig : 9007199254740992 < a
    ·have HB := hide (num_big h0 (show s.size <= k by omega) H.out HA.out hbig)
     go_wp2
     go_ret2
     exact ⟨ret2 ⟨by rw [HB.out.1]; rfl, by rw [HB.out.2]; rfl⟩, rfl⟩
    ·have HB := hide (num_fits h0 (show s.size <= k by omega) H.out HA.out hbig)
     go_wp2
     go_ret2
     exact ⟨ret2 ⟨HB.out.1, by rw [HB.out.2]; rfl⟩, rfl⟩
 ·have he : s.toList.isEmpty = true := by rw [Lib.toList_data, isEmpty_size]; exact decide_eq_true (by omega)
  have hz : ((s.size : Int) == 0) = true := beq_iff_eq.2 (by omega)
  have HB := hide (numE_empty (base := 10) (nil_list s h0))
  go_enter Tryz.func79, Tryz.ntmps79
  go_wp2
  go_ret2
  exact ⟨ret2 ⟨by rw [HB.out.1]; rfl, by rw [HB.out.2]; rfl⟩, rfl⟩
theorem rnumber_10 (s : ByteArray) (w : World) (hs : s.size <= maxLen) :
  Calls Tryz.prog 51 #[.string s, .int .i64 10] w fun e w' => e = .returned (.tuple #[.int .i64 (numV 10 s.data.toList : Int), .int .i64 (numE 10 s.data.toList : Int)]) /\ w = w' := by
 unfold maxLen at hs
 by_cases h0 : 0 < s.size
 ·have he : s.toList.isEmpty = false := by rw [Lib.toList_data, isEmpty_size]; exact decide_eq_false (by omega)
  have hz : ((s.size : Int) == 0) = false := beq_eq_false_iff_ne.2 (by omega)
  go_enter Tryz.func51, Tryz.ntmps51
  go_wp2
  go_loop [6, 7] (fun n i => ∃ (k : Nat) (a : Int), k <= s.size /\ i = .int .i64 k /\ n = .int .i64 a /\ Hid (a = accu 10 (s.data.toList.take k)) /\ Hid ((s.data.toList.take k).all (dig 10) = true)) (fun _ i => s.size - (intOf i).toNat)
  case atStart => exact ⟨0, 0, Nat.zero_le _, rfl, rfl, by simp [Hid, accu], by simp [Hid]⟩
  case round =>
   obtain ⟨k, a, hk, rfl, rfl, HA, H⟩ := hrel
   obtain ⟨ha0, ha1⟩ := accI_le (by omega) HA.out
   by_cases hlt : k < s.size
   ·have hdl : (digv s[k] : Int) <= 16 := by have := digv_le s[k]; omega
    have HN := hide (acc_next hlt HA.out)
    cases hd : dig 10 s[k] with
    | true =>
     have HS : Hid ((s.data.toList.take (k + 1)).all (dig 10) = true) := by show _ = _; rw [all_snoc _ s k hlt, H.out, hd]; rfl
     replace hd : (digv s[k] : Int) < 10 := by simp [dig] at hd; omega
     have hdr : rdig s[k] 10 = (digv s[k] : Int) := rdig_yes (by omega)
     by_cases hle : a <= 9007199254740992
     ·have HM := hide (HN.out.1 hle)
      go_wp2_with (go_at_call 73; refine (rdigit_10 _ _).mono ?_; rintro e w' ⟨rfl, rfl⟩)
      exact ⟨⟨k + 1, _, by omega, by go_num, rfl, HM, HS⟩, by simp [intOf]; omega⟩
     ·have HM := hide (HN.out.2 hle)
      go_wp2_with (go_at_call 73; refine (rdigit_10 _ _).mono ?_; rintro e w' ⟨rfl, rfl⟩)
      exact ⟨⟨k + 1, _, by omega, by go_num, rfl, HM, HS⟩, by simp [intOf]; omega⟩
    | false =>
     have HB := hide (num_bad hlt hd)
     replace hd : ¬ (digv s[k] : Int) < 10 := by simp [dig] at hd; omega
     have hdr : rdig s[k] 10 = -1 := rdig_no (by omega)
     go_wp2_with (go_at_call 73; refine (rdigit_10 _ _).mono ?_; rintro e w' ⟨rfl, rfl⟩)
     go_ret2
     exact ⟨ret2 ⟨by rw [HB.out.1]; rfl, by rw [HB.out.2]; rfl⟩, rfl⟩
   ·by_cases hbig : 9007199254740992 < a
    ·have HB := hide (num_big h0 (show s.size <= k by omega) H.out HA.out hbig)
     go_wp2
     go_ret2
     exact ⟨ret2 ⟨by rw [HB.out.1]; rfl, by rw [HB.out.2]; rfl⟩, rfl⟩
    ·have HB := hide (num_fits h0 (show s.size <= k by omega) H.out HA.out hbig)
     go_wp2
     go_ret2
     exact ⟨ret2 ⟨HB.out.1, by rw [HB.out.2]; rfl⟩, rfl⟩
 ·have he : s.toList.isEmpty = true := by rw [Lib.toList_data, isEmpty_size]; exact decide_eq_true (by omega)
  have hz : ((s.size : Int) == 0) = true := beq_iff_eq.2 (by omega)
  have HB := hide (numE_empty (base := 10) (nil_list s h0))
  go_enter Tryz.func51, Tryz.ntmps51
  go_wp2
  go_ret2
  exact ⟨ret2 ⟨by rw [HB.out.1]; rfl, by rw [HB.out.2]; rfl⟩, rfl⟩
theorem number_16 (s : ByteArray) (w : World) (hs : s.size <= maxLen) :
  Calls Tryz.prog 79 #[.string s, .int .i64 16] w fun e w' => e = .returned (.tuple #[.int .i64 (numV 16 s.data.toList : Int), .int .i64 (numE 16 s.data.toList : Int)]) /\ w = w' := by
 unfold maxLen at hs
 by_cases h0 : 0 < s.size
 ·have he : s.toList.isEmpty = false := by rw [Lib.toList_data, isEmpty_size]; exact decide_eq_false (by omega)
  have hz : ((s.size : Int) == 0) = false := beq_eq_false_iff_ne.2 (by omega)
  go_enter Tryz.func79, Tryz.ntmps79
  go_wp2
  go_loop [6, 13] (fun n i => ∃ (k : Nat) (a : Int), k <= s.size /\ i = .int .i64 k /\ n = .int .i64 a /\ Hid (a = accu 16 (s.data.toList.take k)) /\ Hid ((s.data.toList.take k).all (dig 16) = true)) (fun _ i => s.size - (intOf i).toNat)
  case atStart => exact ⟨0, 0, Nat.zero_le _, rfl, rfl, by simp [Hid, accu], by simp [Hid]⟩
  case round =>
   obtain ⟨k, a, hk, rfl, rfl, HA, H⟩ := hrel
   obtain ⟨ha0, ha1⟩ := accI_le (by omega) HA.out
   by_cases hlt : k < s.size
   ·have hdl : (digv s[k] : Int) <= 16 := by have := digv_le s[k]; omega
    have HN := hide (acc_next hlt HA.out)
    cases hd : dig 16 s[k] with
    | true =>
     have HS : Hid ((s.data.toList.take (k + 1)).all (dig 16) = true) := by show _ = _; rw [all_snoc _ s k hlt, H.out, hd]; rfl
     replace hd : (digv s[k] : Int) < 16 := by simp [dig] at hd; omega
     by_cases hle : a <= 9007199254740992
     ·have HM := hide (HN.out.1 hle)
      go_wp2_with (go_at_call 97; refine (digit_any _ _).mono ?_; rintro e w' ⟨rfl, rfl⟩)
      exact ⟨⟨k + 1, _, by omega, by go_num, rfl, HM, HS⟩, by simp [intOf]; omega⟩
     ·have HM := hide (HN.out.2 hle)
      go_wp2_with (go_at_call 97; refine (digit_any _ _).mono ?_; rintro e w' ⟨rfl, rfl⟩)
      exact ⟨⟨k + 1, _, by omega, by go_num, rfl, HM, HS⟩, by simp [intOf]; omega⟩
    | false =>
     have HB := hide (num_bad hlt hd)
     replace hd : ¬ (digv s[k] : Int) < 16 := by simp [dig] at hd; omega
     go_wp2_with (go_at_call 97; refine (digit_any _ _).mono ?_; rintro e w' ⟨rfl, rfl⟩)
     go_ret2
     exact ⟨ret2 ⟨by rw [HB.out.1]; rfl, by rw [HB.out.2]; rfl⟩, rfl⟩
   ·by_cases hbig : 9007199254740992 < a
    ·have HB := hide (num_big h0 (show s.size <= k by omega) H.out HA.out hbig)
     go_wp2
     go_ret2
     exact ⟨ret2 ⟨by rw [HB.out.1]; rfl, by rw [HB.out.2]; rfl⟩, rfl⟩
    ·have HB := hide (num_fits h0 (show s.size <= k by omega) H.out HA.out hbig)
     go_wp2
     go_ret2
     exact ⟨ret2 ⟨HB.out.1, by rw [HB.out.2]; rfl⟩, rfl⟩
 ·have he : s.toList.isEmpty = true := by rw [Lib.toList_data, isEmpty_size]; exact decide_eq_true (by omega)
  have hz : ((s.size : Int) == 0) = true := beq_iff_eq.2 (by omega)
  have HB := hide (numE_empty (base := 16) (nil_list s h0))
  go_enter Tryz.func79, Tryz.ntmps79
  go_wp2
  go_ret2
  exact ⟨ret2 ⟨by rw [HB.out.1]; rfl, by rw [HB.out.2]; rfl⟩, rfl⟩
theorem rnumber_16 (s : ByteArray) (w : World) (hs : s.size <= maxLen) :
  Calls Tryz.prog 51 #[.string s, .int .i64 16] w fun e w' => e = .returned (.tuple #[.int .i64 (numV 16 s.data.toList : Int), .int .i64 (numE 16 s.data.toList : Int)]) /\ w = w' := by
 unfold maxLen at hs
 by_cases h0 : 0 < s.size
 ·have he : s.toList.isEmpty = false := by rw [Lib.toList_data, isEmpty_size]; exact decide_eq_false (by omega)
  have hz : ((s.size : Int) == 0) = false := beq_eq_false_iff_ne.2 (by omega)
  go_enter Tryz.func51, Tryz.ntmps51
  go_wp2
  go_loop [6, 7] (fun n i => ∃ (k : Nat) (a : Int), k <= s.size /\ i = .int .i64 k /\ n = .int .i64 a /\ Hid (a = accu 16 (s.data.toList.take k)) /\ Hid ((s.data.toList.take k).all (dig 16) = true)) (fun _ i => s.size - (intOf i).toNat)
  case atStart => exact ⟨0, 0, Nat.zero_le _, rfl, rfl, by simp [Hid, accu], by simp [Hid]⟩
  case round =>
   obtain ⟨k, a, hk, rfl, rfl, HA, H⟩ := hrel
   obtain ⟨ha0, ha1⟩ := accI_le (by omega) HA.out
   by_cases hlt : k < s.size
   ·have hdl : (digv s[k] : Int) <= 16 := by have := digv_le s[k]; omega
    have HN := hide (acc_next hlt HA.out)
    cases hd : dig 16 s[k] with
    | true =>
     have HS : Hid ((s.data.toList.take (k + 1)).all (dig 16) = true) := by show _ = _; rw [all_snoc _ s k hlt, H.out, hd]; rfl
     replace hd : (digv s[k] : Int) < 16 := by simp [dig] at hd; omega
     have hdr : rdig s[k] 16 = (digv s[k] : Int) := rdig_yes (by omega)
     by_cases hle : a <= 9007199254740992
     ·have HM := hide (HN.out.1 hle)
      go_wp2_with (go_at_call 73; refine (rdigit_16 _ _).mono ?_; rintro e w' ⟨rfl, rfl⟩)
      exact ⟨⟨k + 1, _, by omega, by go_num, rfl, HM, HS⟩, by simp [intOf]; omega⟩
     ·have HM := hide (HN.out.2 hle)
      go_wp2_with (go_at_call 73; refine (rdigit_16 _ _).mono ?_; rintro e w' ⟨rfl, rfl⟩)
      exact ⟨⟨k + 1, _, by omega, by go_num, rfl, HM, HS⟩, by simp [intOf]; omega⟩
    | false =>
     have HB := hide (num_bad hlt hd)
     replace hd : ¬ (digv s[k] : Int) < 16 := by simp [dig] at hd; omega
     have hdr : rdig s[k] 16 = -1 := rdig_no (by omega)
     go_wp2_with (go_at_call 73; refine (rdigit_16 _ _).mono ?_; rintro e w' ⟨rfl, rfl⟩)
     go_ret2
     exact ⟨ret2 ⟨by rw [HB.out.1]; rfl, by rw [HB.out.2]; rfl⟩, rfl⟩
   ·by_cases hbig : 9007199254740992 < a
    ·have HB := hide (num_big h0 (show s.size <= k by omega) H.out HA.out hbig)
     go_wp2
     go_ret2
     exact ⟨ret2 ⟨by rw [HB.out.1]; rfl, by rw [HB.out.2]; rfl⟩, rfl⟩
    ·have HB := hide (num_fits h0 (show s.size <= k by omega) H.out HA.out hbig)
     go_wp2
     go_ret2
     exact ⟨ret2 ⟨HB.out.1, by rw [HB.out.2]; rfl⟩, rfl⟩
 ·have he : s.toList.isEmpty = true := by rw [Lib.toList_data, isEmpty_size]; exact decide_eq_true (by omega)
  have hz : ((s.size : Int) == 0) = true := beq_iff_eq.2 (by omega)
  have HB := hide (numE_empty (base := 16) (nil_list s h0))
  go_enter Tryz.func51, Tryz.ntmps51
  go_wp2
  go_ret2
  exact ⟨ret2 ⟨by rw [HB.out.1]; rfl, by rw [HB.out.2]; rfl⟩, rfl⟩
theorem Number_any (s : ByteArray) (w : World) (hs : s.size <= maxLen) :
  Calls Tryz.prog 59 #[.string s] w fun e w' => e = .returned (.tuple #[.int .i64 (numV 10 s.data.toList : Int), .int .i64 (numE 10 s.data.toList : Int)]) /\ w = w' := by
 go_enter Tryz.func59, Tryz.ntmps59
 go_wp2_with (go_at_call 79; refine (number_10 _ _ hs).mono ?_; rintro e w' ⟨rfl, rfl⟩)
 go_ret2
 exact ⟨rfl, rfl⟩
theorem Hex_any (s : ByteArray) (w : World) (hs : s.size <= maxLen) :
  Calls Tryz.prog 157 #[.string s] w fun e w' => e = .returned (.tuple #[.int .i64 (numV 16 s.data.toList : Int), .int .i64 (numE 16 s.data.toList : Int)]) /\ w = w' := by
 go_enter Tryz.func157, Tryz.ntmps157
 go_wp2_with (go_at_call 79; refine (number_16 _ _ hs).mono ?_; rintro e w' ⟨rfl, rfl⟩)
 go_ret2
 exact ⟨rfl, rfl⟩
theorem drop_cons (s : ByteArray) (k : Nat) (h : k < s.size) : s.data.toList.drop k = s[k] :: s.data.toList.drop (k + 1) := by
 rw [List.drop_eq_getElem_cons (by simpa using h)]; rfl
theorem drop_end (s : ByteArray) (k : Nat) (h : s.size <= k) : s.data.toList.drop k = [] := List.drop_eq_nil_of_le (by rw [size_len]; exact h)
def pd (s : ByteArray) (q : Bool) (k : Nat) : Nat := pend q false (s.data.toList.drop k)
theorem pd_end {s : ByteArray} {q : Bool} {k : Nat} (h : s.size <= k) : pd s q k = 0 := by unfold pd; rw [drop_end s k h]; rfl
theorem pd_quote {s : ByteArray} {q : Bool} {k : Nat} (h : k < s.size) (hc : s[k] = 34) : pd s q k = pd s (!q) (k + 1) + 1 := by
 unfold pd
 rw [drop_cons s k h, pend, hc, if_neg (by simp)]
 simp [nx]
theorem pd_comma {s : ByteArray} {k : Nat} (h : k < s.size) (hc : s[k] = 44) : pd s false k = 0 := by
 unfold pd
 rw [drop_cons s k h, pend, hc, if_pos ⟨rfl, rfl⟩]
theorem pd_other {s : ByteArray} {q : Bool} {k : Nat} (h : k < s.size) (h1 : s[k] ≠ 34) (h2 : s[k] ≠ 92 ∨ q = false) (h3 : s[k] ≠ 44 ∨ q = true) : pd s q k = pd s q (k + 1) + 1 := by
  unfold pd
  rw [drop_cons s k h, pend, if_neg (by rintro ⟨x, y⟩; rcases h3 with h3 | h3; · exact h3 x
                                        · rw [y] at h3; cases h3)]
  have : nx q false s[k] = (q, false) := by
    unfold nx
    rw [if_neg (by simp), if_neg (by rintro ⟨x, y⟩; rcases h2 with h2 | h2; · exact h2 x
                                     · rw [y] at h2; cases h2), if_neg h1]
  rw [this]
theorem pd_skip {s : ByteArray} {k : Nat} (h : k + 1 < s.size) (hc : s[k] = 92) : pd s true k = pd s true (k + 2) + 2 := by
 unfold pd
 rw [drop_cons s k (by omega), pend, hc, if_neg (by simp), drop_cons s (k + 1) h]
 simp [pend, nx]
theorem pd_skip_end {s : ByteArray} {k : Nat} (h : k < s.size) (h2 : s.size = k + 1) (hc : s[k] = 92) : pd s true k = 1 := by
 unfold pd
 rw [drop_cons s k h, pend, hc, if_neg (by simp), drop_end s (k + 1) (by omega)]
 simp [pend]
theorem byte_is {c : UInt8} {n : Nat} (h : c.toNat = n) (hn : n < 256) : c = UInt8.ofNat n := by
 apply UInt8.toNat_inj.1
 rw [h, UInt8.toNat_ofNat']
 omega
theorem byte_ne {c : UInt8} {n : Nat} (h : c.toNat ≠ n) (hn : n < 256) : c ≠ UInt8.ofNat n := by
 rintro rfl
 rw [UInt8.toNat_ofNat'] at h
 omega
theorem pend_any (s : ByteArray) (w : World) (hs : s.size <= 140737488355328) :
  Calls Tryz.prog 152 #[.string s] w fun e w' => e = .returned (.int .i64 (pend false false s.data.toList : Nat)) /\ w = w' := by
 have hP : ∃ P : Nat, Hid (pend false false s.data.toList = P) := ⟨_, hide rfl⟩
 obtain ⟨P, HP⟩ := hP
 have HP0 : Hid (pd s false 0 = P) := hide (by unfold pd; rw [List.drop_zero]; exact HP.out)
 rw [HP.out]
 clear HP
 go_enter Tryz.func152, Tryz.ntmps152
 go_wp2
 go_loop [3, 4] (fun b i => ∃ (k : Nat) (q : Bool), b = .bool q /\ i = .int .i64 k /\ k <= s.size + 1 /\ Hid (P = min k s.size + pd s q k)) (fun _ i => s.size + 1 - (intOf i).toNat)
 case atStart => exact ⟨0, false, rfl, rfl, by omega, hide (by rw [HP0.out]; omega)⟩
 case round =>
  obtain ⟨k, q, rfl, rfl, hk, H⟩ := hrel
  by_cases hlt : k < s.size
  ·have hb := byte_lt s[k]
   have hm : min k s.size = k := by omega
   have H2 : Hid (P = k + pd s q k) := hide (by have := H.out; rw [hm] at this; exact this)
   clear H hm
   by_cases h34 : s[k].toNat = 34
   ·have t34 : (((s[k].toNat : Int)) == 34) = true := beq_iff_eq.2 (by omega)
    have HN := hide (pd_quote (q := q) hlt (byte_is (n := 34) h34 (by decide)))
    go_wp2
    exact ⟨⟨k + 1, !q, rfl, by go_num, by omega, hide (by rw [H2.out, HN.out]; omega)⟩, by simp [intOf]; omega⟩
   ·have t34 : (((s[k].toNat : Int)) == 34) = false := beq_eq_false_iff_ne.2 (by omega)
    have n34 := byte_ne (n := 34) h34 (by decide)
    have N34 := hide n34
    clear n34
    by_cases h92 : s[k].toNat = 92
    ·have t92 : (((s[k].toNat : Int)) == 92) = true := beq_iff_eq.2 (by omega)
     have t44 : (((s[k].toNat : Int)) == 44) = false := beq_eq_false_iff_ne.2 (by omega)
     have n44 : Hid (s[k] ≠ 44) := hide (byte_ne (n := 44) (by omega) (by omega))
     cases q with
     | true =>
      by_cases he : k + 1 < s.size
      ·have HN := hide (pd_skip he (byte_is (n := 92) h92 (by decide)))
       go_wp2
       exact ⟨⟨k + 2, true, rfl, by go_num, by omega, hide (by rw [H2.out, HN.out]; omega)⟩, by simp [intOf]; omega⟩
      ·have HN := hide (pd_skip_end hlt (by omega) (byte_is (n := 92) h92 (by decide)))
       have HE := hide (pd_end (s := s) (q := true) (k := k + 2) (by omega))
       go_wp2
       exact ⟨⟨k + 2, true, rfl, by go_num, by omega, hide (by rw [H2.out, HN.out, HE.out]; omega)⟩, by simp [intOf]; omega⟩
     | false =>
      have HN := hide (pd_other (q := false) hlt N34.out (.inr rfl) (.inl n44.out))
      go_wp2
      exact ⟨⟨k + 1, false, rfl, by go_num, by omega, hide (by rw [H2.out, HN.out]; omega)⟩, by simp [intOf]; omega⟩
    ·have t92 : (((s[k].toNat : Int)) == 92) = false := beq_eq_false_iff_ne.2 (by omega)
     have n92 := hide (byte_ne (n := 92) h92 (by omega))
     by_cases h44 : s[k].toNat = 44
     ·have t44 : (((s[k].toNat : Int)) == 44) = true := beq_iff_eq.2 (by omega)
      cases q with
      | true =>
       have HN := hide (pd_other (q := true) hlt N34.out (.inl n92.out) (.inr rfl))
       go_wp2
       exact ⟨⟨k + 1, true, rfl, by go_num, by omega, hide (by rw [H2.out, HN.out]; omega)⟩, by simp [intOf]; omega⟩
      | false =>
       have HN := hide (pd_comma hlt (byte_is (n := 44) h44 (by decide)))
       go_wp2
       go_ret
       exact ⟨ret_int (by rw [H2.out, HN.out]; omega), rfl⟩
     ·have t44 : (((s[k].toNat : Int)) == 44) = false := beq_eq_false_iff_ne.2 (by omega)
      have n44 := hide (byte_ne (n := 44) h44 (by omega))
      have HN := hide (pd_other (q := q) hlt N34.out (.inl n92.out) (.inl n44.out))
      go_wp2
      exact ⟨⟨k + 1, q, rfl, by go_num, by omega, hide (by rw [H2.out, HN.out]; omega)⟩, by simp [intOf]; omega⟩
  ·have HE := hide (pd_end (s := s) (q := q) (k := k) (by omega))
   go_wp2
   go_ret
   exact ⟨ret_int (by rw [H.out, HE.out]; omega), rfl⟩
def sS (l : List UInt8) : ByteArray := ⟨l.toArray⟩
theorem sS_list (l : List UInt8) : (sS l).data.toList = l := by simp [sS]
theorem sS_size (l : List UInt8) : (sS l).size = l.length := by rw [<- size_len, sS_list]
def listS (l : List UInt8) : List ByteArray := (listB l).map sS
theorem listS_len (l : List UInt8) : (listS l).length <= l.length := by unfold listS; rw [List.length_map]; exact listB_len l
theorem trimS_eq (s : ByteArray) : trimS s = sS (trimB s.data.toList) := rfl
theorem ext_take (t : ByteArray) (e : Nat) : (t.extract 0 e).data.toList = t.data.toList.take e := by rw [ext_list, List.drop_zero, Nat.sub_zero]
theorem ext_drop (t : ByteArray) (e : Nat) : (t.extract e t.size).data.toList = t.data.toList.drop e := by
 rw [ext_list]
 exact List.take_of_length_le (by rw [List.length_drop, size_len]; omega)
theorem drop_min (t : ByteArray) (e : Nat) : t.data.toList.drop (min (e + 1) t.size) = t.data.toList.drop (e + 1) := by
 by_cases h : e + 1 <= t.size
 ·rw [Nat.min_eq_left h]
 ·rw [Nat.min_eq_right (by omega), drop_end t _ (Nat.le_refl _), drop_end t _ (by omega)]
theorem list_step (t : ByteArray) (h : 0 < t.size) (m : Nat) (hm : m = min (pend false false t.data.toList + 1) t.size) :
  listS t.data.toList = (if (trimS (t.extract 0 (pend false false t.data.toList))).size = 0 then [] else [trimS (t.extract 0 (pend false false t.data.toList))]) ++ listS (t.extract m t.size).data.toList := by
 have hn : t.data.toList ≠ [] := fun e => by have := size_len t; rw [e] at this; simp at this; omega
 unfold listS
 rw [listB_cons hn, List.map_append, ext_drop, hm, drop_min]
 congr 1
 rw [trimS_eq, ext_take, sS_size]
 unfold elem
 by_cases h0 : trimB (t.data.toList.take (pend false false t.data.toList)) = []
 ·rw [if_pos h0, h0]; rfl
 ·rw [if_neg h0, if_neg (by intro e; exact h0 (List.eq_nil_of_length_eq_zero e))]; rfl
theorem list_any (s : ByteArray) (w : World) (hs : s.size <= 1099511627776) :
  Calls Tryz.prog 144 #[.string s] w fun e w' => ∃ v, e = .returned v /\ Row w' w.heap.size 9 v (sc (listS s.data.toList)) /\ Below w.heap.size w w' := by
 go_enter Tryz.func144, Tryz.ntmps144
 go_wp2
 go_loopw [0, 3] (fun x v wr => ∃ (t : ByteArray) (O : List ByteArray), x = .string t /\ t.size <= s.size /\ Hid (listS s.data.toList = O ++ listS t.data.toList) /\ Hid (Row wr w.heap.size 9 v (sc O)) /\ Hid (Below w.heap.size w wr)) (fun x _ _ => strLen x)
 case atStart => exact ⟨s, [], rfl, Nat.le_refl _, hide rfl, hide (Row.nil _ _ _), hide (Below.refl _ _)⟩
 case round =>
  obtain ⟨t, O, rfl, ht, H, HR, HB⟩ := hrel
  obtain ⟨a, c, rfl, _, _⟩ := HR.out.shape
  rw [sc_len] at *
  by_cases h0 : 0 < t.size
  ·have he : t.toList.isEmpty = false := by rw [Lib.toList_data, isEmpty_size]; exact decide_eq_false (by omega)
   have hpl := pend_le t.data.toList false false
   rw [size_len] at hpl
   have hP := pend_any t
   have HS := list_step t h0
   generalize pend false false t.data.toList = P at hP HS hpl
   have HP := hide hP
   clear hP
   obtain ⟨m, hm⟩ : ∃ m, m = min (P + 1) t.size := ⟨_, rfl⟩
   have HS2 := hide (HS m hm)
   clear HS
   go_wp2_with (go_at_call 152; refine (HP.out _ (by omega)).mono ?_; rintro e w' ⟨rfl, rfl⟩)
   have hO : O.length <= s.size := by
    have h1 := listS_len s.data.toList
    rw [H.out, List.length_append, size_len] at h1
    omega
   have hez := ext_size t 0 P
   have hxz : (t.extract 0 P).size <= 281474976710656 := by omega
   have HX := hide (trim_any (t.extract 0 P))
   generalize trimS (t.extract 0 P) = x at HX HS2
   clear hez
   refine (HX.out _ hxz).mono ?_
   rintro e w1 ⟨rfl, hb1⟩
   have HB1 := hide (HB.out.trans (hb1.mono HB.out.size))
   have HR1 := hide (HR.out.below hb1)
   clear hb1 HX
   have hmz := ext_size t m t.size
   have HM := hide hmz
   clear hmz
   by_cases hx : x.size = 0
   ·have hxe : x.toList.isEmpty = true := by rw [Lib.toList_data, isEmpty_size]; exact decide_eq_true hx
    have HF : Hid (listS s.data.toList = O ++ listS (t.extract m t.size).data.toList) := hide (by rw [H.out, HS2.out, if_pos hx]; rfl)
    have hmt : (min ((P : Int) + 1) (t.size : Int)).toNat = m := by omega
    have HMT := hide hmt
    clear hmt
    go_wp2
    rw [HMT.out]
    exact ⟨⟨_, O, rfl, by rw [HM.out]; omega, HF, HR1, HB1⟩, by simp only [strLen]; rw [HM.out]; omega⟩
   ·have hxe : x.toList.isEmpty = false := by rw [Lib.toList_data, isEmpty_size]; exact decide_eq_false hx
    have HF : Hid (listS s.data.toList = (O ++ [x]) ++ listS (t.extract m t.size).data.toList) := hide (by rw [H.out, HS2.out, if_neg hx, List.append_assoc])
    have hmt : (min ((P : Int) + 1) (t.size : Int)).toNat = m := by omega
    have HMT := hide hmt
    clear hmt
    go_wp2_with (at_builtin; apply Hid.out)
    unfold Hid
    refine wpList_append_one elS rfl _ _ rfl w1 w.heap.size (.slice a O.length c) (sc O) (.string x) rfl rfl HR1.out rfl (by rw [sc_len]; omega) (by rw [sc_len]; omega) HB1.out.size ?_
    intro v' w2 O' B'
    have O2 := hide O'
    have B2 := hide (HB1.out.trans B')
    clear O' B'
    go_wp2
    rw [HMT.out]
    exact ⟨⟨_, O ++ [x], rfl, by rw [HM.out]; omega, HF, hide (by rw [sc_snoc]; exact O2.out), B2⟩, by simp only [strLen]; rw [HM.out]; omega⟩
  ·have he : t.toList.isEmpty = true := by rw [Lib.toList_data, isEmpty_size]; exact decide_eq_true (by omega)
   have HE : Hid (listS s.data.toList = O) := hide (by rw [H.out, nil_list t h0]; simp [listS, listB_nil])
   go_wp2
   go_ret
   exact ⟨_, rfl, by rw [HE.out]; exact HR.out, HB.out⟩
theorem namedf_any (n v small : ByteArray) (g : Nat) (w : World) (hn : n.size <= maxLen) (hc : w.cell? ⟨g, 0, none⟩ = some (.string small)) :
  Calls Tryz.prog 153 #[.agg #[.string n, .string v], .pointer (some ⟨g, 0, none⟩)] w fun e w' => e = .returned (.bool ((lowS n).toList == small.toList)) /\ Below w.heap.size w w' := by
 have HL := hide (fun W => lower_any n W hn)
 clear hn
 go_enter Tryz.func153, Tryz.ntmps153
 go_wp2_with fail
 have b0 := hide ((Below.refl _ w).alloc (Nat.le_refl _) (.cells #[.string n, .string v] 92))
 have c0 : (w.alloc (.cells #[.string n, .string v] 92)).cell? ⟨w.heap.size, 0, none⟩ = some (.string n) := cell_at (hp_new w _) 0
 have c1 : (w.alloc (.cells #[.string n, .string v] 92)).cell? ⟨g, 0, none⟩ = some (.string small) := by rw [b0.out.cell (p := ⟨g, 0, none⟩) (World.block_lt_of_cell? w _ hc)]; exact hc
 clear hc
 generalize w.alloc (.cells #[.string n, .string v] 92) = w1 at b0 c0 c1 |-
 refine wp_region_cl (by kernel_rfl) (by kernel_rfl) ?_
 refine cl_val (v := ?_) (by kernel_rfl) (fun W hW => ?_) ?_
 rotate_left
 ·unfold Oper.quietAt; go_simp; try with_reducible rfl
 simp only [Act.put, sl_]
 refine cl_val (v := ?_) (by kernel_rfl) (fun W hW => ?_) ?_
 rotate_left
 ·have l0 := hW.cell c0; unfold Oper.quietAt; go_simp; try with_reducible rfl
 simp only [Act.put, sl_]
 refine cl_val (v := .string (lowS n)) (by kernel_rfl) (fun W hW => ?_) ?_
 ·unfold Oper.quietAt; go_simp; exact call_cl hW (HL.out W)
 simp only [Act.put, sl_]
 refine cl_val (v := ?_) (by kernel_rfl) (fun W hW => ?_) ?_
 rotate_left
 ·have l0 := hW.cell c1; unfold Oper.quietAt; go_simp; try with_reducible rfl
 simp only [Act.put, sl_]
 refine cl_val (v := ?_) (by kernel_rfl) (fun W hW => ?_) ?_
 rotate_left
 ·unfold Oper.quietAt; go_simp; try with_reducible rfl
 simp only [Act.put, sl_]
 refine cl_assign _ (by kernel_rfl) rfl ?_
 simp only [Act.put, sl_]
 refine wpQuiet_nil ?_
 intro w2 Hw2
 go_wp2
 go_ret
 exact ⟨rfl, b0.out.trans (Hw2.out.mono b0.out.size)⟩
theorem named_any (n : ByteArray) (w : World) (hn : n.size <= maxLen) :
  Calls Tryz.prog 145 #[.string n] w fun e w' => ∃ g, e = .returned (.func (.func 153) #[] #[.pointer (some ⟨g, 0, none⟩)]) /\ w'.cell? ⟨g, 0, none⟩ = some (.string (lowS n)) /\ Below w.heap.size w w' := by
 have hmf : ∀ (fn : Fn) (first cap : Array Value) (w : World), (Instr.makeFunc fn first cap).run Tryz.prog w = .ok (.func fn first cap) w := fun _ _ _ _ => rfl
 go_enter Tryz.func145, Tryz.ntmps145
 go_wp2_with (go_at_call 135; refine (lower_any _ _ hn).mono ?_; rintro e w1 ⟨rfl, b1⟩)
 go_ret
 exact ⟨_, rfl, cell_at (hp_new w1 _) 0, b1.alloc b1.size _⟩
def chkF (f : ByteArray × ByteArray) : Nat := if tokenB f.1.data.toList then (if valueB f.2.data.toList then 0 else 71) else 70
theorem check_any (n v : ByteArray) (w : World) (hn : n.size <= maxLen) (hv : v.size <= maxLen) :
  Calls Tryz.prog 121 #[.agg #[.string n, .string v]] w fun e w' => e = .returned (.int .i64 (chkF (n, v) : Nat)) /\ Below w.heap.size w w' := by
 have HT := hide (fun W => token_any n W hn)
 have HV := hide (fun W => value_any v W hv)
 clear hn hv
 unfold chkF
 show Calls _ _ _ _ fun e w' => e = .returned (.int .i64 ((if tokenB n.data.toList then (if valueB v.data.toList then 0 else 71) else 70 : Nat) : Int)) /\ _
 generalize tokenB n.data.toList = bt at HT |-
 generalize valueB v.data.toList = bv at HV |-
 have b0 := hide ((Below.refl _ w).alloc (Nat.le_refl _) (.cells #[.string n, .string v] 92))
 have H0 := hide (hp_new w (.cells #[.string n, .string v] 92))
 cases bt with
 | false =>
  go_enter Tryz.func121, Tryz.ntmps121
  go_wp2_with fail
  refine (HT.out _).mono ?_
  rintro e w1 ⟨rfl, rfl⟩
  go_wp2
  go_ret
  exact ⟨rfl, b0.out⟩
 | true =>
  cases bv with
  | false =>
   go_enter Tryz.func121, Tryz.ntmps121
   go_wp2_with fail
   refine (HT.out _).mono ?_
   rintro e w1 ⟨rfl, rfl⟩
   go_wp2_with fail
   refine (HV.out _).mono ?_
   rintro e w2 ⟨rfl, b2⟩
   go_wp2
   go_ret
   exact ⟨rfl, b0.out.trans (b2.mono b0.out.size)⟩
  | true =>
   go_enter Tryz.func121, Tryz.ntmps121
   go_wp2_with fail
   refine (HT.out _).mono ?_
   rintro e w1 ⟨rfl, rfl⟩
   go_wp2_with fail
   refine (HV.out _).mono ?_
   rintro e w2 ⟨rfl, b2⟩
   go_wp2
   go_ret
   exact ⟨rfl, b0.out.trans (b2.mono b0.out.size)⟩
theorem lt_heap {x : World} {b : Nat} {o : Obj} (h : x.heap[b]? = some o) : b < x.heap.size := (Array.getElem?_eq_some_iff.1 h).1
def nmB (n : ByteArray) (f : ByteArray × ByteArray) : Bool := sameB f.1.data.toList n.data.toList
def allS (A : List (ByteArray × ByteArray)) (n : ByteArray) : List ByteArray := (A.filter (nmB n)).map (·.2)
def Sm (A : List (ByteArray × ByteArray)) : Prop := A.length <= 1048576 /\ ∀ f ∈ A, f.1.size <= 1048576 /\ f.2.size <= 1048576
theorem Sm.at {A : List (ByteArray × ByteArray)} (h : Sm A) (k : Nat) (hk : k < A.length) : A[k].1.size <= 1048576 /\ A[k].2.size <= 1048576 := h.2 _ (List.getElem_mem hk)
theorem take_snocF {α : Type} (A : List α) (k : Nat) (h : k < A.length) : A.take (k + 1) = A.take k ++ [A[k]] := List.take_succ_eq_append_getElem h
theorem allS_snoc (A : List (ByteArray × ByteArray)) (n a b : ByteArray) (f : ByteArray × ByteArray) (hf : f = (a, b)) (k : Nat) (hk : k < A.length) (he : A[k] = f) : allS (A.take (k + 1)) n = if nmB n f then allS (A.take k) n ++ [b] else allS (A.take k) n := by
 subst hf
 rw [take_snocF A k hk, he]
 unfold allS
 rw [List.filter_append]
 by_cases h : nmB n (a, b) = true
 ·rw [if_pos h, List.filter_cons_of_pos h]; simp
 ·rw [if_neg h, List.filter_cons_of_neg h]; simp
theorem allS_len (A : List (ByteArray × ByteArray)) (n : ByteArray) (k : Nat) : (allS (A.take k) n).length <= A.length := by
 unfold allS
 rw [List.length_map]
 exact Nat.le_trans (List.length_filter_le _ _) (by rw [List.length_take]; omega)
theorem low_beq (a n : ByteArray) (v : ByteArray) : ((lowS a).toList == (lowS n).toList) = nmB n (a, v) := same_eq a n
theorem Row.lower {W : World} {base base2 : Nat} {e : TypeId} {v : Value} {xs : List Value} (h : Row W base e v xs) (hb : base2 <= base) : Row W base2 e v xs := by
 refine ⟨h.1, ?_⟩
 rcases h.2 with x | ⟨g, cap, cur, rfl, h1, r⟩
 ·exact .inl x
 ·exact .inr ⟨g, cap, cur, rfl, Nat.le_trans hb h1, r⟩
theorem rsame_any (a b : ByteArray) (w : World) (ha : a.size <= 140737488355328) (hb : b.size <= 140737488355328) :
  Calls Tryz.prog 91 #[.string a, .string b] w fun e w' => e = .returned (.bool (sameB a.data.toList b.data.toList)) /\ Below w.heap.size w w' := by
 have hE := hide (same_eq a b)
 have hA := hide (fun w => rlower_any a w ha)
 have hB := hide (fun w => rlower_any b w hb)
 generalize lowS a = la at hE hA
 generalize lowS b = lb at hE hB
 go_enter Tryz.func91, Tryz.ntmps91
 go_wp2_with fail
 refine (hA.out _).mono ?_
 rintro e w1 ⟨rfl, b1⟩
 go_wp2_with fail
 refine (hB.out _).mono ?_
 rintro e w2 ⟨rfl, b2⟩
 go_wp2
 go_ret
 exact ⟨ret_bool hE.out, b1.trans (b2.mono b1.size)⟩
theorem all_any (w : World) (l : Value) (A : List (ByteArray × ByteArray)) (n : ByteArray) (hA : Flds w l A) (hs : Sm A) (hn : n.size <= 1048576) :
  Calls Tryz.prog 136 #[l, .string n] w fun e w' => ∃ v, e = .returned v /\ Row w' w.heap.size 9 v (sc (allS A n)) /\ Below w.heap.size w w' := by
 obtain ⟨a0, c0, rfl, hc0, hcells⟩ := hA
 have HF := hide hcells
 have HS := hide hs
 have hl : A.length <= 1048576 := hs.1
 clear hcells hs hc0
 have HN := hide (named_any n w (by unfold maxLen; omega))
 go_enter Tryz.func136, Tryz.ntmps136
 go_wp2_with fail
 refine HN.out.mono ?_
 rintro e w1 ⟨g, rfl, hg, b1⟩
 have HG := hide hg
 have B1 := hide b1
 clear hg b1 HN
 go_wp2
 go_loopw [13, 6] (fun i v wr => ∃ (k : Nat) (O : List ByteArray), k <= A.length /\ i = .int .i64 k /\ O.length <= A.length /\ Hid (allS (A.take k) n = O) /\ Hid (Row wr w1.heap.size 9 v (sc O)) /\ Hid (Below w1.heap.size w1 wr)) (fun i _ _ => A.length - (intOf i).toNat)
 case atStart => exact ⟨0, [], Nat.zero_le _, rfl, Nat.zero_le _, hide rfl, hide (Row.nil _ _ _), hide (Below.refl _ _)⟩
 case round =>
  obtain ⟨k, O, hk, rfl, hO, HO, HR, HB⟩ := hrel
  obtain ⟨a6, c6, rfl, _, _⟩ := HR.out.shape
  rw [sc_len] at *
  by_cases hlt : k < A.length
  ·have HNX := hide (fun f he => allS_snoc A n f.1 f.2 f rfl k hlt he)
   have HLN := hide (allS_len A n (k + 1))
   obtain ⟨g1, o1, rfl, hgl, q1, q2⟩ := HF.out k hlt
   obtain ⟨z1, z2⟩ := HS.out.at k hlt
   obtain ⟨fa, fb, hf⟩ : ∃ fa fb, A[k] = (fa, fb) := ⟨_, _, rfl⟩
   rw [hf] at q1 q2 z1 z2
   have HE := hide hf
   clear hf
   have BW := hide (B1.out.trans (HB.out.mono B1.out.size))
   have r1 : wr.cell? ⟨g1, o1 + k * 2, none⟩ = some (.string fa) := (BW.out.cell (p := ⟨g1, o1 + k * 2, none⟩) hgl).trans q1
   have r2 : wr.cell? ⟨g1, o1 + k * 2 + 1, none⟩ = some (.string fb) := (BW.out.cell (p := ⟨g1, o1 + k * 2 + 1, none⟩) hgl).trans q2
   clear q1 q2 hgl
   go_upto_region 6 with fail
   have HB2 := hide (HB.out.alloc HB.out.size (.cells #[.string fa, .string fb] 92))
   have HR2 := hide (HR.out.below ((Below.refl _ wr).alloc (Nat.le_refl _) (.cells #[.string fa, .string fb] 92)))
   have HD := hide (hp_new wr (.cells #[.string fa, .string fb] 92))
   clear r1 r2 BW HB HR
   generalize wr.alloc (.cells #[.string fa, .string fb] 92) = x at HB2 HR2 HD |-
   generalize wr.heap.size = b at HD |-
   have d0 : x.cell? ⟨b, 0, none⟩ = some (.string fa) := cell_at HD.out 0
   have d1 : x.cell? ⟨b, 1, none⟩ = some (.string fb) := cell_at HD.out 1
   have hgx : x.cell? ⟨g, 0, none⟩ = some (.string (lowS n)) := (HB2.out.cell (p := ⟨g, 0, none⟩) (World.block_lt_of_cell? w1 _ HG.out)).trans HG.out
   go_wp2_with fail
   refine (namedf_any fa fb (lowS n) g x (by unfold maxLen; omega) hgx).mono ?_
   rintro e w2 ⟨rfl, bb⟩
   have HB3 := hide (HB2.out.trans (bb.mono HB2.out.size))
   have HR3 := hide (HR2.out.below bb)
   have HD' := hide ((bb.block _ (lt_heap HD.out)).trans HD.out)
   clear HD d0 d1 HB2 HR2 bb
   have HD := HD'
   clear HD'
   have d0 : w2.cell? ⟨b, 0, none⟩ = some (.string fa) := cell_at HD.out 0
   have d1 : w2.cell? ⟨b, 1, none⟩ = some (.string fb) := cell_at HD.out 1
   rw [low_beq fa n fb]
   have HX := hide (HNX.out (fa, fb) HE.out)
   cases hb : nmB n (fa, fb) with
   | true =>
    have HO2 : Hid (allS (A.take (k + 1)) n = O ++ [fb]) := hide (by rw [HX.out, if_pos (show nmB n (fa, fb) = true from hb), HO.out])
    have hO2 : (O ++ [fb]).length <= A.length := by rw [<- HO2.out]; exact HLN.out
    clear hb HX
    go_wp2_with fail
    refine (clone_any fb w2 (by omega)).mono ?_
    rintro e w3 ⟨rfl, bb⟩
    have HB4 := hide (HB3.out.trans (bb.mono HB3.out.size))
    have HR4 := hide (HR3.out.below bb)
    have HD' := hide ((bb.block _ (lt_heap HD.out)).trans HD.out)
    clear HD d0 d1 HB3 HR3 bb
    have HD := HD'
    clear HD'
    have d0 : w3.cell? ⟨b, 0, none⟩ = some (.string fa) := cell_at HD.out 0
    have d1 : w3.cell? ⟨b, 1, none⟩ = some (.string fb) := cell_at HD.out 1
    go_wp2_with (at_builtin; apply Hid.out)
    unfold Hid
    refine wpList_append_one elS rfl _ _ rfl w3 w1.heap.size (.slice a6 O.length c6) (sc O) (.string fb) rfl rfl HR4.out rfl (by rw [sc_len]; omega) (by rw [sc_len]; omega) HB4.out.size ?_
    intro v' w4 O' B'
    have O5 := hide O'
    have B5 := hide (HB4.out.trans B')
    clear O' B'
    go_wp2
    exact ⟨⟨k + 1, O ++ [fb], by omega, by go_num, hO2, HO2, hide (by rw [sc_snoc]; exact O5.out), B5⟩, by simp [intOf]; omega⟩
   | false =>
    have HO2 : Hid (allS (A.take (k + 1)) n = O) := hide (by rw [HX.out, if_neg (show ¬ nmB n (fa, fb) = true from fun h => by rw [show nmB n (fa, fb) = nmB n (fa, fb) from rfl, hb] at h; cases h), HO.out])
    clear hb HX
    go_wp2
    exact ⟨⟨k + 1, O, by omega, by go_num, hO, HO2, HR3, HB3⟩, by simp [intOf]; omega⟩
  ·have HE : Hid (allS A n = O) := hide (by rw [<- HO.out, List.take_of_length_le (by omega)])
   go_wp2
   go_ret
   exact ⟨_, rfl, by rw [HE.out]; exact HR.out.lower B1.out.size, B1.out.trans (HB.out.mono B1.out.size)⟩
theorem rall_any (w : World) (l : Value) (A : List (ByteArray × ByteArray)) (n : ByteArray) (hA : Flds w l A) (hs : Sm A) (hn : n.size <= 1048576) :
  Calls Tryz.prog 71 #[l, .string n] w fun e w' => ∃ v, e = .returned v /\ Row w' w.heap.size 9 v (sc (allS A n)) /\ Below w.heap.size w w' := by
 obtain ⟨a0, c0, rfl, hc0, hcells⟩ := hA
 have HF := hide hcells
 have HS := hide hs
 have hl : A.length <= 1048576 := hs.1
 clear hcells hs hc0
 go_enter Tryz.func71, Tryz.ntmps71
 go_wp2
 go_loopw [10, 5] (fun i v wr => ∃ (k : Nat) (O : List ByteArray), k <= A.length /\ i = .int .i64 k /\ O.length <= A.length /\ Hid (allS (A.take k) n = O) /\ Hid (Row wr w.heap.size 9 v (sc O)) /\ Hid (Below w.heap.size w wr)) (fun i _ _ => A.length - (intOf i).toNat)
 case atStart => exact ⟨0, [], Nat.zero_le _, rfl, Nat.zero_le _, hide rfl, hide (Row.nil _ _ _), hide (Below.refl _ _)⟩
 case round =>
  obtain ⟨k, O, hk, rfl, hO, HO, HR, HB⟩ := hrel
  obtain ⟨a6, c6, rfl, _, _⟩ := HR.out.shape
  rw [sc_len] at *
  by_cases hlt : k < A.length
  ·have HNX := hide (fun f he => allS_snoc A n f.1 f.2 f rfl k hlt he)
   have HLN := hide (allS_len A n (k + 1))
   obtain ⟨g1, o1, rfl, hgl, q1, q2⟩ := HF.out k hlt
   obtain ⟨z1, z2⟩ := HS.out.at k hlt
   obtain ⟨fa, fb, hf⟩ : ∃ fa fb, A[k] = (fa, fb) := ⟨_, _, rfl⟩
   rw [hf] at q1 q2 z1 z2
   have HE := hide hf
   clear hf
   have BW := hide (HB.out)
   have r1 : wr.cell? ⟨g1, o1 + k * 2, none⟩ = some (.string fa) := (BW.out.cell (p := ⟨g1, o1 + k * 2, none⟩) hgl).trans q1
   have r2 : wr.cell? ⟨g1, o1 + k * 2 + 1, none⟩ = some (.string fb) := (BW.out.cell (p := ⟨g1, o1 + k * 2 + 1, none⟩) hgl).trans q2
   clear q1 q2 hgl
   go_upto_region 5 with fail
   have HB2 := hide (HB.out.alloc HB.out.size (.cells #[.string fa, .string fb] 92))
   have HR2 := hide (HR.out.below ((Below.refl _ wr).alloc (Nat.le_refl _) (.cells #[.string fa, .string fb] 92)))
   have HD := hide (hp_new wr (.cells #[.string fa, .string fb] 92))
   clear r1 r2 BW HB HR
   generalize wr.alloc (.cells #[.string fa, .string fb] 92) = x at HB2 HR2 HD |-
   generalize wr.heap.size = b at HD |-
   have d0 : x.cell? ⟨b, 0, none⟩ = some (.string fa) := cell_at HD.out 0
   have d1 : x.cell? ⟨b, 1, none⟩ = some (.string fb) := cell_at HD.out 1
   go_wp2_with fail
   refine (rsame_any fa n x (by omega) (by omega)).mono ?_
   rintro e w2 ⟨rfl, bb⟩
   have HB3 := hide (HB2.out.trans (bb.mono HB2.out.size))
   have HR3 := hide (HR2.out.below bb)
   have HD' := hide ((bb.block _ (lt_heap HD.out)).trans HD.out)
   clear HD d0 d1 HB2 HR2 bb
   have HD := HD'
   clear HD'
   have d0 : w2.cell? ⟨b, 0, none⟩ = some (.string fa) := cell_at HD.out 0
   have d1 : w2.cell? ⟨b, 1, none⟩ = some (.string fb) := cell_at HD.out 1
   have HX := hide (HNX.out (fa, fb) HE.out)
   cases hb : sameB fa.data.toList n.data.toList with
   | true =>
    have HO2 : Hid (allS (A.take (k + 1)) n = O ++ [fb]) := hide (by rw [HX.out, if_pos (show nmB n (fa, fb) = true from hb), HO.out])
    have hO2 : (O ++ [fb]).length <= A.length := by rw [<- HO2.out]; exact HLN.out
    clear hb HX
    go_wp2_with (at_builtin; apply Hid.out)
    unfold Hid
    refine wpList_append_one elS rfl _ _ rfl w2 w.heap.size (.slice a6 O.length c6) (sc O) (.string fb) rfl rfl HR3.out rfl (by rw [sc_len]; omega) (by rw [sc_len]; omega) HB3.out.size ?_
    intro v' w4 O' B'
    have O5 := hide O'
    have B5 := hide (HB3.out.trans B')
    clear O' B'
    go_wp2
    exact ⟨⟨k + 1, O ++ [fb], by omega, by go_num, hO2, HO2, hide (by rw [sc_snoc]; exact O5.out), B5⟩, by simp [intOf]; omega⟩
   | false =>
    have HO2 : Hid (allS (A.take (k + 1)) n = O) := hide (by rw [HX.out, if_neg (show ¬ nmB n (fa, fb) = true from fun h => by rw [show nmB n (fa, fb) = sameB fa.data.toList n.data.toList from rfl, hb] at h; cases h), HO.out])
    clear hb HX
    go_wp2
    exact ⟨⟨k + 1, O, by omega, by go_num, hO, HO2, HR3, HB3⟩, by simp [intOf]; omega⟩
  ·have HE : Hid (allS A n = O) := hide (by rw [<- HO.out, List.take_of_length_le (by omega)])
   go_wp2
   go_ret
   exact ⟨_, rfl, by rw [HE.out]; exact HR.out, HB.out⟩
def chkA (A : List (ByteArray × ByteArray)) : Nat := match A.find? (fun f => chkF f != 0) with
 | some f => chkF f
 | none => 0
def chkL (A : List (ByteArray × ByteArray)) : Nat := if 100 < A.length then 2 else chkA A
def okT (A : List (ByteArray × ByteArray)) (k : Nat) : Prop := ∀ f ∈ A.take k, chkF f = 0
theorem okT_next {A : List (ByteArray × ByteArray)} {k : Nat} (h : okT A k) (hk : k < A.length) {f : ByteArray × ByteArray} (he : A[k] = f) (h0 : chkF f = 0) : okT A (k + 1) := by
 intro f' hf
 rw [take_snocF A k hk, List.mem_append] at hf
 rcases hf with hf | hf
 ·exact h _ hf
 ·simp only [List.mem_singleton] at hf
  rw [hf, he]; exact h0
theorem okT_find {A : List (ByteArray × ByteArray)} {k : Nat} (h : okT A k) : (A.take k).find? (fun f => chkF f != 0) = none := by
 rw [List.find?_eq_none]
 intro f hf
 simp [h f hf]
theorem chk_hit {A : List (ByteArray × ByteArray)} {k : Nat} (h : okT A k) (hl : A.length <= 100) (hk : k < A.length) {f : ByteArray × ByteArray} (he : A[k] = f) (h0 : chkF f ≠ 0) : chkL A = chkF f := by
 unfold chkL
 rw [if_neg (by omega)]
 unfold chkA
 have e : A = A.take k ++ f :: A.drop (k + 1) := by rw [<- he]; simp
 have e2 : A.find? (fun f => chkF f != 0) = some f := by
  rw [e, List.find?_append, okT_find h, List.find?_cons_of_pos (by simpa using h0)]; rfl
 rw [e2]
theorem chk_none {A : List (ByteArray × ByteArray)} {k : Nat} (h : okT A k) (hl : A.length <= 100) (hk : A.length <= k) : chkL A = 0 := by
 unfold chkL
 rw [if_neg (by omega)]
 unfold chkA
 have := okT_find h
 rw [List.take_of_length_le hk] at this
 rw [this]
theorem chkF_tok {a b : ByteArray} (h : tokenB a.data.toList = false) : chkF (a, b) = 70 := by unfold chkF; rw [h]; rfl
theorem chkF_val {a b : ByteArray} (h : tokenB a.data.toList = true) (h2 : valueB b.data.toList = false) : chkF (a, b) = 71 := by unfold chkF; rw [h, h2]; rfl
theorem chkF_ok {a b : ByteArray} (h : tokenB a.data.toList = true) (h2 : valueB b.data.toList = true) : chkF (a, b) = 0 := by unfold chkF; rw [h, h2]; rfl
theorem rvalue_b (s : ByteArray) (w : World) (hs : s.size <= maxLen) :
  Calls Tryz.prog 69 #[.string s] w fun e w' => e = .returned (.bool (valueB s.data.toList)) /\ Below w.heap.size w w' :=
 (rvalue_any s w hs).mono fun _ _ ⟨h1, h2⟩ => ⟨h1, by rw [<- h2]; exact Below.refl _ _⟩
theorem Check_any (w : World) (l : Value) (A : List (ByteArray × ByteArray)) (hA : Flds w l A) (hs : Sm A) :
  Calls Tryz.prog 101 #[l] w fun e w' => e = .returned (.int .i64 (chkL A : Nat)) /\ Below w.heap.size w w' := by
 obtain ⟨a0, c0, rfl, hc0, hcells⟩ := hA
 have HF := hide hcells
 have HS := hide hs
 have hl : A.length <= 1048576 := hs.1
 clear hcells hs hc0
 by_cases hlong : 100 < A.length
 ·have hC : chkL A = 2 := by unfold chkL; rw [if_pos hlong]
  rw [hC]
  have tl : (100 : Int) < (A.length : Int) := by omega
  go_enter Tryz.func101, Tryz.ntmps101
  go_wp2
  go_ret
  exact ⟨rfl, Below.refl _ _⟩
 ·have tl : ¬ (100 : Int) < (A.length : Int) := by omega
  have hl2 : A.length <= 100 := by omega
  clear hlong
  go_enter Tryz.func101, Tryz.ntmps101
  go_wp2
  go_loopw [11] (fun i wr => ∃ k : Nat, k <= A.length /\ i = .int .i64 k /\ Hid (okT A k) /\ Hid (Below w.heap.size w wr)) (fun i _ => A.length - (intOf i).toNat)
  case atStart => exact ⟨0, Nat.zero_le _, rfl, hide (fun f hf => by simp at hf), hide (Below.refl _ _)⟩
  case round =>
   obtain ⟨k, hk, rfl, HO, HB⟩ := hrel
   by_cases hlt : k < A.length
   ·have HNX := hide (fun (f : ByteArray × ByteArray) he h0 => okT_next HO.out hlt (f := f) he h0)
    have HHT := hide (fun (f : ByteArray × ByteArray) he h0 => chk_hit HO.out hl2 hlt (f := f) he h0)
    obtain ⟨g1, o1, rfl, hgl, q1, q2⟩ := HF.out k hlt
    obtain ⟨z1, z2⟩ := HS.out.at k hlt
    obtain ⟨fa, fb, hf⟩ : ∃ fa fb, A[k] = (fa, fb) := ⟨_, _, rfl⟩
    rw [hf] at q1 q2 z1 z2
    have HE := hide hf
    clear hf
    have BW := hide (HB.out)
    have r1 : wr.cell? ⟨g1, o1 + k * 2, none⟩ = some (.string fa) := (BW.out.cell (p := ⟨g1, o1 + k * 2, none⟩) hgl).trans q1
    have r2 : wr.cell? ⟨g1, o1 + k * 2 + 1, none⟩ = some (.string fb) := (BW.out.cell (p := ⟨g1, o1 + k * 2 + 1, none⟩) hgl).trans q2
    clear q1 q2 hgl
    go_upto_region 6 with fail
    have HB2 := hide (HB.out.alloc HB.out.size (.cells #[.string fa, .string fb] 92))
    have HD := hide (hp_new wr (.cells #[.string fa, .string fb] 92))
    clear r1 r2 BW HB
    generalize wr.alloc (.cells #[.string fa, .string fb] 92) = x at HB2 HD |-
    generalize wr.heap.size = b at HD |-
    have d0 : x.cell? ⟨b, 0, none⟩ = some (.string fa) := cell_at HD.out 0
    have d1 : x.cell? ⟨b, 1, none⟩ = some (.string fb) := cell_at HD.out 1
    go_wp2_with fail
    refine (check_any fa fb x (by unfold maxLen; omega) (by unfold maxLen; omega)).mono ?_
    rintro e w2 ⟨rfl, bb⟩
    have HB3 := hide (HB2.out.trans (bb.mono HB2.out.size))
    have HD' := hide ((bb.block _ (lt_heap HD.out)).trans HD.out)
    clear HD d0 d1 HB2 bb
    have HD := HD'
    clear HD'
    have d0 : w2.cell? ⟨b, 0, none⟩ = some (.string fa) := cell_at HD.out 0
    have d1 : w2.cell? ⟨b, 1, none⟩ = some (.string fb) := cell_at HD.out 1
    by_cases h0 : chkF (fa, fb) = 0
    ·have HO2 := hide (HNX.out _ HE.out h0)
     rw [h0]
     clear h0
     go_wp2
     exact ⟨⟨k + 1, by omega, by go_num, HO2, HB3⟩, by simp [intOf]; omega⟩
    ·have HC := hide (HHT.out _ HE.out h0)
     have tb : (((chkF (fa, fb) : Nat) : Int) != 0) = true := by rw [bne_iff_ne]; omega
     generalize chkF (fa, fb) = c at HC tb |-
     clear h0
     go_wp2
     go_ret
     exact ⟨by rw [HC.out]; rfl, HB3.out⟩
   ·have HC := hide (chk_none HO.out hl2 (by omega))
    go_wp2
    go_ret
    exact ⟨by rw [HC.out]; rfl, HB.out⟩
theorem rCheck_any (w : World) (l : Value) (A : List (ByteArray × ByteArray)) (hA : Flds w l A) (hs : Sm A) :
  Calls Tryz.prog 92 #[l] w fun e w' => e = .returned (.int .i64 (chkL A : Nat)) /\ Below w.heap.size w w' := by
 obtain ⟨a0, c0, rfl, hc0, hcells⟩ := hA
 have HF := hide hcells
 have HS := hide hs
 have hl : A.length <= 1048576 := hs.1
 clear hcells hs hc0
 by_cases hlong : 100 < A.length
 ·have hC : chkL A = 2 := by unfold chkL; rw [if_pos hlong]
  rw [hC]
  have tl : (100 : Int) < (A.length : Int) := by omega
  go_enter Tryz.func92, Tryz.ntmps92
  go_wp2
  go_ret
  exact ⟨rfl, Below.refl _ _⟩
 ·have tl : ¬ (100 : Int) < (A.length : Int) := by omega
  have hl2 : A.length <= 100 := by omega
  clear hlong
  go_enter Tryz.func92, Tryz.ntmps92
  go_wp2
  go_loopw [10] (fun i wr => ∃ k : Nat, k <= A.length /\ i = .int .i64 k /\ Hid (okT A k) /\ Hid (Below w.heap.size w wr)) (fun i _ => A.length - (intOf i).toNat)
  case atStart => exact ⟨0, Nat.zero_le _, rfl, hide (fun f hf => by simp at hf), hide (Below.refl _ _)⟩
  case round =>
   obtain ⟨k, hk, rfl, HO, HB⟩ := hrel
   by_cases hlt : k < A.length
   ·have HNX := hide (fun (f : ByteArray × ByteArray) he h0 => okT_next HO.out hlt (f := f) he h0)
    have HHT := hide (fun (f : ByteArray × ByteArray) he h0 => chk_hit HO.out hl2 hlt (f := f) he h0)
    obtain ⟨g1, o1, rfl, hgl, q1, q2⟩ := HF.out k hlt
    obtain ⟨z1, z2⟩ := HS.out.at k hlt
    obtain ⟨fa, fb, hf⟩ : ∃ fa fb, A[k] = (fa, fb) := ⟨_, _, rfl⟩
    rw [hf] at q1 q2 z1 z2
    have HE := hide hf
    clear hf
    have BW := hide (HB.out)
    have r1 : wr.cell? ⟨g1, o1 + k * 2, none⟩ = some (.string fa) := (BW.out.cell (p := ⟨g1, o1 + k * 2, none⟩) hgl).trans q1
    have r2 : wr.cell? ⟨g1, o1 + k * 2 + 1, none⟩ = some (.string fb) := (BW.out.cell (p := ⟨g1, o1 + k * 2 + 1, none⟩) hgl).trans q2
    clear q1 q2 hgl
    go_upto_region 6 with fail
    have HB2 := hide (HB.out.alloc HB.out.size (.cells #[.string fa, .string fb] 92))
    have HD := hide (hp_new wr (.cells #[.string fa, .string fb] 92))
    clear r1 r2 BW HB
    generalize wr.alloc (.cells #[.string fa, .string fb] 92) = x at HB2 HD |-
    generalize wr.heap.size = b at HD |-
    have d0 : x.cell? ⟨b, 0, none⟩ = some (.string fa) := cell_at HD.out 0
    have d1 : x.cell? ⟨b, 1, none⟩ = some (.string fb) := cell_at HD.out 1
    go_wp2_with fail
    refine (rtoken_any fa x (by unfold maxLen; omega)).mono ?_
    rintro e w2 ⟨rfl, bb⟩
    have HB3 := hide (HB2.out.trans (bb.mono HB2.out.size))
    have HD' := hide ((bb.block _ (lt_heap HD.out)).trans HD.out)
    clear HD d0 d1 HB2 bb
    have HD := HD'
    clear HD'
    have d0 : w2.cell? ⟨b, 0, none⟩ = some (.string fa) := cell_at HD.out 0
    have d1 : w2.cell? ⟨b, 1, none⟩ = some (.string fb) := cell_at HD.out 1
    cases ht : tokenB fa.data.toList with
    | false =>
     have HC := hide (HHT.out _ HE.out (by rw [chkF_tok ht]; decide))
     rw [chkF_tok ht] at HC
     clear ht
     go_wp2
     go_ret
     exact ⟨by rw [HC.out]; rfl, HB3.out⟩
    | true =>
     go_wp2_with fail
     refine (rvalue_b fb w2 (by unfold maxLen; omega)).mono ?_
     rintro e w3 ⟨rfl, bb⟩
     have HB4 := hide (HB3.out.trans (bb.mono HB3.out.size))
     have HD' := hide ((bb.block _ (lt_heap HD.out)).trans HD.out)
     clear HD d0 d1 HB3 bb
     have HD := HD'
     clear HD'
     have d0 : w3.cell? ⟨b, 0, none⟩ = some (.string fa) := cell_at HD.out 0
     have d1 : w3.cell? ⟨b, 1, none⟩ = some (.string fb) := cell_at HD.out 1
     cases hv : valueB fb.data.toList with
     | false =>
      have HC := hide (HHT.out _ HE.out (by rw [chkF_val ht hv]; decide))
      rw [chkF_val ht hv] at HC
      clear ht hv
      go_wp2
      go_ret
      exact ⟨by rw [HC.out]; rfl, HB4.out⟩
     | true =>
      have HO2 := hide (HNX.out _ HE.out (chkF_ok ht hv))
      clear ht hv
      go_wp2
      exact ⟨⟨k + 1, by omega, by go_num, HO2, HB4⟩, by simp [intOf]; omega⟩
   ·have HC := hide (chk_none HO.out hl2 (by omega))
    go_wp2
    go_ret
    exact ⟨by rw [HC.out]; rfl, HB.out⟩
end Go.Proofs.YtecjlcjaccijpaaGreatDoor
