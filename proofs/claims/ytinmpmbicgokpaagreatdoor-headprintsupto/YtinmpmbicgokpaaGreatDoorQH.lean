/- QH: HPur HPur2 HPur3 HStW. -/
import Derived.Test.YtinmpmbicgokpaaGreatDoorQF
import Derived.Test.YtinmpmbicgokpaaGreatDoorQJ
/- What is read of a head that was printed, and what a head that is read holds: pure. -/
namespace Go.Proofs.YtinmpmbicgokpaaGreatDoor
open Go.ChangeShapes Go.WideShapes Go.ChangeAt Go.RowKit

/-! ### A line, read -/
theorem bytes_mid : ∀ (l : List UInt8) (p : Pz) (rest : List UInt8), (∀ c ∈ l, c ≠ 13 ∧ c ≠ 10) → p.ending = false → p.whole = false → p.line.length + l.length ≤ 8192 → p.read + l.length ≤ p.most →
    pBytes p (l ++ rest) = sh (pBytes { p with read := p.read + l.length, line := p.line ++ l } rest) l.length
  | [], p, rest, _, _, _, _, _ => by simp [sh]
  | c :: l, p, rest, hc, he, hw, hl, hm => by
    obtain ⟨h13, h10⟩ := hc c (by simp)
    simp only [List.length_cons] at hl hm
    have e : pNext p c = (0, { p with read := p.read + 1, line := p.line ++ [c] }) := by
      unfold pNext
      rw [if_neg (by rw [he]; simp [h10]), if_neg (by omega), if_neg h13, if_neg h10, if_neg (by omega)]
    have ih := bytes_mid l { p with read := p.read + 1, line := p.line ++ [c] } rest (fun d hd => hc d (List.mem_cons_of_mem _ hd)) he hw (by simp only [List.length_append, List.length_cons, List.length_nil]; omega) (by dsimp only; omega)
    rw [List.cons_append, pBytes, e]
    rw [if_neg (by simp), if_neg (by simp [hw]), ih]
    simp only [sh, List.length_cons]
    have e2 : ({ p with read := p.read + 1 + l.length, line := p.line ++ [c] ++ l } : Pz) = { p with read := p.read + (l.length + 1), line := p.line ++ c :: l } := by
      congr 1
      · omega
      · simp
    rw [e2]
    simp only [Prod.mk.injEq, true_and, and_true]
    omega
/-- A whole line, with its end. -/
theorem bytes_ln (l : List UInt8) (p : Pz) (rest : List UInt8) (hc : ∀ c ∈ l, c ≠ 13 ∧ c ≠ 10) (he : p.ending = false) (hw : p.whole = false) (h0 : p.line = []) (hl : l.length ≤ 8192) (hm : p.read + l.length + 2 ≤ p.most) :
    pBytes p (l ++ 13 :: 10 :: rest) =
      if (pLine { p with read := p.read + l.length + 2 } (sS l)).1 ≠ 0 then ((pLine { p with read := p.read + l.length + 2 } (sS l)).1, l.length + 2, (pLine { p with read := p.read + l.length + 2 } (sS l)).2)
      else if (pLine { p with read := p.read + l.length + 2 } (sS l)).2.whole then (0, l.length + 2, (pLine { p with read := p.read + l.length + 2 } (sS l)).2)
      else sh (pBytes (pLine { p with read := p.read + l.length + 2 } (sS l)).2 rest) (l.length + 2) := by
  rw [bytes_mid l p _ hc he hw (by rw [h0]; simpa using hl) (by omega)]
  obtain ⟨most, read, line, ending, passed, fn, req, me, ta, minor, status, re, fs, whole, wrong⟩ := p
  dsimp only at he hw h0 hm ⊢
  subst he hw h0
  rw [pBytes]
  have e1 : pNext (Pz.mk most (read + l.length) ([] ++ l) false passed fn req me ta minor status re fs false wrong) 13 = (0, Pz.mk most (read + l.length + 1) l true passed fn req me ta minor status re fs false wrong) := by
    unfold pNext
    rw [if_neg (by simp), if_neg (by dsimp only; omega), if_pos rfl]
    simp
  rw [e1]
  rw [if_neg (by simp), if_neg (by simp), pBytes]
  have e2 : pNext (Pz.mk most (read + l.length + 1) l true passed fn req me ta minor status re fs false wrong) 10 = pLine (Pz.mk most (read + l.length + 2) [] false passed fn req me ta minor status re fs false wrong) (sS l) := by
    unfold pNext
    rw [if_neg (by simp), if_neg (by dsimp only; omega), if_neg (by decide), if_pos rfl]
  dsimp only
  rw [e2]
  generalize pLine (Pz.mk most (read + l.length + 2) [] false passed fn req me ta minor status re fs false wrong) (sS l) = R
  by_cases h1 : R.1 ≠ 0
  · rw [if_pos h1, if_pos h1]; simp [sh, Nat.add_comm]
  · rw [if_neg h1, if_neg h1]
    by_cases h2 : R.2.whole = true
    · rw [if_pos h2, if_pos h2]; simp [sh]; omega
    · rw [if_neg h2, if_neg h2]; simp [sh]; omega
/-- Too long a line, or too many bytes: something is wrong. -/
theorem bytes_over : ∀ (l : List UInt8) (p : Pz) (rest : List UInt8), (∀ c ∈ l, c ≠ 13 ∧ c ≠ 10) → p.ending = false → p.whole = false → p.line.length ≤ 8192 → p.read ≤ p.most → (8192 < p.line.length + l.length ∨ p.most < p.read + l.length) → (pBytes p (l ++ rest)).1 ≠ 0
  | [], p, rest, _, _, _, h1, h2, h => by simp only [List.length_nil] at h; omega
  | c :: l, p, rest, hc, he, hw, h1, h2, h => by
    obtain ⟨h13, h10⟩ := hc c (by simp)
    simp only [List.length_cons] at h
    rw [List.cons_append, pBytes]
    by_cases hr : p.read = p.most
    · have e : pNext p c = (85, p) := by
        unfold pNext
        rw [if_neg (by rw [he]; simp [h10]), if_pos hr]
      rw [e, if_pos (by simp)]
      simp
    · by_cases hL : p.line.length = 8192
      · have e : pNext p c = (85, { p with read := p.read + 1 }) := by
          unfold pNext
          rw [if_neg (by rw [he]; simp [h10]), if_neg hr, if_neg h13, if_neg h10, if_pos hL]
        rw [e, if_pos (by simp)]
        simp
      · have e : pNext p c = (0, { p with read := p.read + 1, line := p.line ++ [c] }) := by
          unfold pNext
          rw [if_neg (by rw [he]; simp [h10]), if_neg hr, if_neg h13, if_neg h10, if_neg hL]
        rw [e]
        rw [if_neg (by simp), if_neg (by simp [hw])]
        exact bytes_over l { p with read := p.read + 1, line := p.line ++ [c] } rest (fun d hd => hc d (List.mem_cons_of_mem _ hd)) he hw (by simp only [List.length_append, List.length_cons, List.length_nil]; omega) (by dsimp only; omega) (by simp only [List.length_append, List.length_cons, List.length_nil]; omega)
theorem bytes_over2 (l : List UInt8) (p : Pz) (rest : List UInt8) (hc : ∀ c ∈ l, c ≠ 13 ∧ c ≠ 10) (he : p.ending = false) (hw : p.whole = false) (h0 : p.line = []) (hr : p.read ≤ p.most) (h : 8192 < l.length ∨ p.most < p.read + l.length + 2) : (pBytes p (l ++ 13 :: 10 :: rest)).1 ≠ 0 := by
  by_cases h1 : 8192 < l.length ∨ p.most < p.read + l.length
  · exact bytes_over l p _ hc he hw (by rw [h0]; simp) hr (by rw [h0]; simpa using h1)
  · rw [bytes_mid l p _ hc he hw (by rw [h0]; simp; omega) (by omega)]
    obtain ⟨most, read, line, ending, passed, fn, req, me, ta, minor, status, re, fs, whole, wrong⟩ := p
    dsimp only at he hw h0 hr h h1 ⊢
    subst he hw h0
    simp only [sh]
    rw [pBytes]
    by_cases h2 : read + l.length = most
    · have e1 : pNext (Pz.mk most (read + l.length) ([] ++ l) false passed fn req me ta minor status re fs false wrong) 13 = (85, Pz.mk most (read + l.length) ([] ++ l) false passed fn req me ta minor status re fs false wrong) := by
        unfold pNext
        rw [if_neg (by simp), if_pos (by dsimp only; omega)]
      rw [e1, if_pos (by simp)]; simp
    · have e1 : pNext (Pz.mk most (read + l.length) ([] ++ l) false passed fn req me ta minor status re fs false wrong) 13 = (0, Pz.mk most (read + l.length + 1) l true passed fn req me ta minor status re fs false wrong) := by
        unfold pNext
        rw [if_neg (by simp), if_neg (by dsimp only; omega), if_pos rfl]
        simp
      rw [e1]
      rw [if_neg (by simp), if_neg (by simp), pBytes]
      have e2 : pNext (Pz.mk most (read + l.length + 1) l true passed fn req me ta minor status re fs false wrong) 10 = (85, Pz.mk most (read + l.length + 1) l true passed fn req me ta minor status re fs false wrong) := by
        unfold pNext
        rw [if_neg (by simp), if_pos (by dsimp only; omega)]
      dsimp only
      rw [e2, if_pos (by simp)]; simp
end Go.Proofs.YtinmpmbicgokpaaGreatDoor
/- What a head that is read holds; and what is read of a head that was printed: pure. -/
namespace Go.Proofs.YtinmpmbicgokpaaGreatDoor
open Go.ChangeShapes Go.WideShapes Go.ChangeAt Go.RowKit

/-! ### Bytes -/
theorem tokc_is {c : UInt8} (h : tokc c = true) : 32 < c.toNat ∧ c.toNat < 127 ∧ c ≠ 58 := by
  have hb := byte_lt c
  unfold tokc at h
  rw [Bool.or_eq_true] at h
  rcases h with h | h
  · unfold alnum at h
    simp only [Bool.or_eq_true, Bool.and_eq_true, decide_eq_true_eq] at h
    refine ⟨by omega, by omega, ?_⟩
    rintro rfl
    have : (58 : UInt8).toNat = 58 := rfl
    omega
  · rw [List.contains_eq_mem] at h
    have h := of_decide_eq_true h
    unfold tokMarks at h
    simp only [List.mem_cons, List.not_mem_nil, or_false] at h
    rcases h with rfl | rfl | rfl | rfl | rfl | rfl | rfl | rfl | rfl | rfl | rfl | rfl | rfl | rfl | rfl <;> decide
theorem tokc_ne {c d : UInt8} (h : tokc c = true) (hd : d.toNat ≤ 32 ∨ d = 58) : c ≠ d := by
  obtain ⟨h1, h2, h3⟩ := tokc_is h
  rintro rfl
  rcases hd with hd | hd
  · omega
  · exact h3 hd
theorem tgc_ne {c d : UInt8} (h : tgc c = true) (hd : d.toNat ≤ 32) : c ≠ d := by
  unfold tgc at h
  simp only [Bool.and_eq_true, decide_eq_true_eq] at h
  rintro rfl
  omega
theorem valc_ne {c d : UInt8} (h : valc c = true) (hd : d.toNat < 32 ∧ d.toNat ≠ 9) : c ≠ d := by
  unfold valc at h
  simp only [Bool.and_eq_true, Bool.or_eq_true, decide_eq_true_eq] at h
  rintro rfl
  omega
theorem tok_all {l : List UInt8} (h : tokenB l = true) : ∀ c ∈ l, tokc c = true := by
  unfold tokenB at h
  rw [Bool.and_eq_true] at h
  exact List.all_eq_true.1 h.1
theorem tgt_all {l : List UInt8} (h : tgtB l = true) : ∀ c ∈ l, tgc c = true := by
  unfold tgtB at h
  rw [Bool.and_eq_true] at h
  exact List.all_eq_true.1 h.1
theorem chk_is {f : ByteArray × ByteArray} (h : chkF f = 0) : tokenB f.1.data.toList = true ∧ valueB f.2.data.toList = true := by
  unfold chkF at h
  split at h
  · rename_i h1
    split at h
    · rename_i h2; exact ⟨h1, h2⟩
    · cases h
  · cases h
theorem val_all {l : List UInt8} (h : valueB l = true) : ∀ c ∈ l, valc c = true := by
  unfold valueB at h
  rw [Bool.and_eq_true] at h
  exact List.all_eq_true.1 h.1
theorem val_trim {l : List UInt8} (h : valueB l = true) : trimB l = l := by
  unfold valueB at h
  rw [Bool.and_eq_true] at h
  exact (of_decide_eq_true h.2).symm

/-! ### Numbers -/
theorem itoaS0 : itoaS 0 = ⟨#[48]⟩ := by
  unfold itoaS
  rw [show (0 : Int) = ((0 : Nat) : Int) from rfl, Lib.itoa_nonneg, Lib.decDigits]
  rfl
theorem dec3 {n : Nat} (h0 : 100 ≤ n) (h1 : n ≤ 599) : Lib.decDigits n = [UInt8.ofNat (48 + n / 10 / 10), UInt8.ofNat (48 + n / 10 % 10), UInt8.ofNat (48 + n % 10)] := by
  rw [Lib.decDigits, dif_neg (by omega), Lib.decDigits, dif_neg (by omega), Lib.decDigits, dif_pos (by omega)]
  rfl
theorem itoaS3 {n : Nat} (h0 : 100 ≤ n) (h1 : n ≤ 599) : (itoaS (n : Int)).data.toList = [UInt8.ofNat (48 + n / 10 / 10), UInt8.ofNat (48 + n / 10 % 10), UInt8.ofNat (48 + n % 10)] := by
  unfold itoaS
  rw [Lib.itoa_nonneg, dec3 h0 h1]
theorem digv_of {d : Nat} (h : d < 10) : digv (UInt8.ofNat (48 + d)) = d := by
  have : ∀ d : Fin 10, digv (UInt8.ofNat (48 + d.val)) = d.val := by decide
  exact this ⟨d, h⟩
theorem digc_of {d : Nat} (h : d < 10) : (UInt8.ofNat (48 + d)).toNat = 48 + d := by
  have : ∀ d : Fin 10, (UInt8.ofNat (48 + d.val)).toNat = 48 + d.val := by decide
  exact this ⟨d, h⟩
theorem stat3 {n : Nat} (h0 : 100 ≤ n) (h1 : n ≤ 599) : statB (itoaS (n : Int)).data.toList = true ∧ numV 10 (itoaS (n : Int)).data.toList = n := by
  rw [itoaS3 h0 h1]
  have a1 : n / 10 / 10 < 10 := by omega
  have a2 : n / 10 % 10 < 10 := by omega
  have a3 : n % 10 < 10 := by omega
  have hacc : accu 10 [UInt8.ofNat (48 + n / 10 / 10), UInt8.ofNat (48 + n / 10 % 10), UInt8.ofNat (48 + n % 10)] = n := by
    unfold accu
    simp only [List.foldl_cons, List.foldl_nil, stp, top, digv_of a1, digv_of a2, digv_of a3]
    rw [if_pos (by omega : (0 : Nat) ≤ 9007199254740992), if_pos (by omega : 0 * 10 + n / 10 / 10 ≤ 9007199254740992), if_pos (by omega : (0 * 10 + n / 10 / 10) * 10 + n / 10 % 10 ≤ 9007199254740992)]
    omega
  have hall : ([UInt8.ofNat (48 + n / 10 / 10), UInt8.ofNat (48 + n / 10 % 10), UInt8.ofNat (48 + n % 10)] : List UInt8).all (fun c => decide (digv c < 10)) = true := by
    simp only [List.all_cons, List.all_nil, digv_of a1, digv_of a2, digv_of a3, decide_eq_true a1, decide_eq_true a2, decide_eq_true a3, Bool.and_self]
  have hv : numV 10 [UInt8.ofNat (48 + n / 10 / 10), UInt8.ofNat (48 + n / 10 % 10), UInt8.ofNat (48 + n % 10)] = n := by
    unfold numV
    rw [hacc, if_neg]
    rintro (h | h | h)
    · cases h
    · exact h hall
    · unfold top at h; omega
  have he : numE 10 [UInt8.ofNat (48 + n / 10 / 10), UInt8.ofNat (48 + n / 10 % 10), UInt8.ofNat (48 + n % 10)] = 0 := by
    unfold numE
    rw [hacc, if_neg, if_neg]
    · unfold top; omega
    · rintro (h | h)
      · cases h
      · exact h hall
  refine ⟨?_, hv⟩
  unfold statB
  rw [hv, he]
  simp only [decide_true, Bool.true_and, List.length_cons, List.length_nil, Bool.and_eq_true, decide_eq_true_eq]
  exact ⟨h0, h1⟩

/-! ### Right heads -/
structure Rh (h : Hx) : Prop where
  mi : h.mi ≤ 1
  rq : h.r = true → tokenB h.me.data.toList = true ∧ tgtB h.ta.data.toList = true ∧ h.st = 0 ∧ h.re = ⟨#[]⟩
  rs : h.r = false → h.me = ⟨#[]⟩ ∧ h.ta = ⟨#[]⟩ ∧ 100 ≤ h.st ∧ h.st ≤ 599 ∧ h.re.data.toList.all valc = true
  fs : ∀ f ∈ h.fs, chkF f = 0
  fl : h.fs.length ≤ 100
theorem verM_le (l : List UInt8) : verM l ≤ 1 := by unfold verM; split <;> omega
theorem rh_first {rq : Bool} {s : ByteArray} (h : frE rq s = 0) : Rh (frH rq s) := by
  unfold frE at h
  split at h
  · cases h
  · cases rq with
    | true =>
      simp only [if_true] at h
      split at h
      · cases h
      · split at h
        · cases h
        · rename_i h1 h2 h3
          rw [Bool.not_eq_false] at h2
          rw [Bool.not_eq_false, Bool.and_eq_true] at h3
          refine ⟨verM_le _, fun _ => ⟨h3.1, ?_, rfl, rfl⟩, fun e => (by cases e), fun f hf => (by cases hf), Nat.zero_le _⟩
          show tgtB (k1 32 (k2 32 s)).data.toList = true
          unfold tgtB
          rw [isEmpty_size, h2, h3.2]
          rfl
    | false =>
      simp only [Bool.false_eq_true, if_false] at h
      split at h
      · cases h
      · split at h
        · cases h
        · rename_i h1 h2 h3
          rw [Bool.not_eq_false, Bool.and_eq_true] at h2
          rw [Bool.not_eq_false] at h3
          have h4 := h2.1
          unfold statB at h4
          simp only [Bool.and_eq_true, decide_eq_true_eq] at h4
          exact ⟨verM_le _, fun e => (by cases e), fun _ => ⟨rfl, rfl, h4.2.2.1, h4.2.2.2, h3⟩, fun f hf => (by cases hf), Nat.zero_le _⟩
theorem k_split {c : UInt8} {s : ByteArray} (h : k3 c s = true) : s.data.toList = (k1 c s).data.toList ++ c :: (k2 c s).data.toList := by
  unfold k3 at h
  unfold k1 k2
  rcases cu_form c s.data.toList with h1 | ⟨a, b, h1, h2⟩
  · rw [(cu_no h1).2.2] at h; cases h
  · rw [sS_list, sS_list, h1, (cu_yes h2).1, (cu_yes h2).2.1]
theorem verE_zero {l : List UInt8} (h : verE l = 0) : l = ver10 ∨ l = ver11 := by
  unfold verE at h
  split at h
  · assumption
  · split at h <;> cases h
theorem verS_of {l : List UInt8} (h : verE l = 0) : (verS ((verM l : Nat) : Int)).data.toList = l := by
  unfold verS
  rcases verE_zero h with rfl | rfl
  · rw [show verM ver10 = 0 from by decide, app_list, show ((0 : Nat) : Int) = 0 from rfl, itoaS0]; rfl
  · rw [show verM ver11 = 1 from by decide, app_list, show ((1 : Nat) : Int) = 1 from rfl, itoa1]; rfl
theorem first_size {rq : Bool} {s : ByteArray} (h : frE rq s = 0) : (firstS (frH rq s).hi).size = s.size := by
  have hR := rh_first h
  unfold frE at h
  split at h
  · cases h
  · rename_i hk
    rw [Bool.not_eq_false, Bool.and_eq_true] at hk
    have e1 := congrArg List.length (k_split hk.1)
    have e2 := congrArg List.length (k_split hk.2)
    simp only [List.length_append, List.length_cons, size_len] at e1 e2
    cases rq with
    | true =>
      simp only [if_true] at h
      split at h
      · cases h
      · split at h
        · cases h
        · have e3 := congrArg List.length (verS_of h)
          rw [size_len, size_len] at e3
          show (firstS ⟨true, k1 32 s, k1 32 (k2 32 s), ((verM (k2 32 (k2 32 s)).data.toList : Nat) : Int), 0, ⟨#[]⟩, []⟩).size = s.size
          unfold firstS
          rw [if_pos rfl]
          simp only [app_size]
          rw [e3]
          have : (⟨#[32]⟩ : ByteArray).size = 1 := rfl
          omega
    | false =>
      simp only [Bool.false_eq_true, if_false] at h
      split at h
      · cases h
      · split at h
        · cases h
        · rename_i h2 h3
          rw [Bool.not_eq_false, Bool.and_eq_true] at h2
          have h4 := h2.1
          unfold statB at h4
          simp only [Bool.and_eq_true, decide_eq_true_eq] at h4
          have h5 := h4.2.1
          rw [size_len] at h5
          have e3 := congrArg List.length (verS_of h)
          rw [size_len, size_len] at e3
          have e4 := congrArg List.length (itoaS3 h4.2.2.1 h4.2.2.2)
          rw [size_len] at e4
          show (firstS ⟨false, ⟨#[]⟩, ⟨#[]⟩, ((verM (k1 32 s).data.toList : Nat) : Int), ((numV 10 (k1 32 (k2 32 s)).data.toList : Nat) : Int), k2 32 (k2 32 s), []⟩).size = s.size
          unfold firstS
          rw [if_neg (by simp)]
          simp only [app_size]
          rw [e3, e4]
          have : (⟨#[32]⟩ : ByteArray).size = 1 := rfl
          simp only [List.length_cons, List.length_nil]
          omega

/-! ### What a parser holds -/
def fsum : List (ByteArray × ByteArray) → Nat
  | [] => 0
  | f :: r => f.1.size + f.2.size + 3 + fsum r
theorem fsum_app : ∀ a b : List (ByteArray × ByteArray), fsum (a ++ b) = fsum a + fsum b
  | [], b => by simp [fsum]
  | f :: r, b => by rw [List.cons_append, fsum, fsum, fsum_app r b]; omega
def fsz (h : Hx) : Nat := (firstS h.hi).size + 2 + fsum h.fs
structure Jv (rq : Bool) (p : Pz) : Prop where
  ln : ∃ lines, Ln p lines
  rq : p.req = rq
  rh : p.fn = fnFld → Rh p.hx ∧ (firstS p.hx.hi).size ≤ 8192
  wh : p.whole = true → p.fn = fnFld
  sz : (if p.fn = fnFld then fsz p.hx else 0) + p.line.length + (if p.ending = true then 1 else 0) + (if p.whole = true then 2 else 0) ≤ p.read
theorem jv_new (rq : Bool) (most : Nat) : Jv rq (pNew rq most) := by
  have hn : (pNew rq most).fn ≠ fnFld := by
    cases rq with
    | true => exact fn_ne.1
    | false => exact fn_ne.2.1
  refine ⟨⟨0, fun _ => ⟨rfl, rfl, rfl, rfl, rfl, rfl, rfl, rfl⟩, fun h => absurd h hn⟩, rfl, fun h => absurd h hn, fun h => (by cases h), ?_⟩
  rw [if_neg hn]
  exact Nat.le_refl _
theorem first_req (rq : Bool) (s : ByteArray) : (frH rq s).r = rq := by cases rq <;> rfl
theorem jv_line {rq : Bool} {p : Pz} (hf : Fit p) (hw : p.whole = false) (h : Jv rq p) (s : ByteArray) (hs : s.size ≤ 8192) (hl : p.line = []) (he : p.ending = false) (hz : (if p.fn = fnFld then fsz p.hx else 0) + s.size + 2 ≤ p.read) (h0 : (pLine p s).1 = 0) : Jv rq (pLine p s).2 := by
  obtain ⟨lines, hln⟩ := h.ln
  have hO := ok_line p s hf.fs
  have hE := line_end hf s
  by_cases hn : p.fn = fnFld
  · rw [if_pos hn] at hz
    obtain ⟨hR, hF⟩ := h.rh hn
    rw [line_fld hn] at h0 hO hE ⊢
    by_cases h1 : s.size = 0
    · have e : pFld p s = (0, { p with whole := true }) := by unfold pFld; rw [if_pos h1]
      rw [e]
      refine ⟨⟨lines, hln.nb, hln.bg⟩, h.rq, fun _ => ⟨hR, hF⟩, fun _ => hn, ?_⟩
      show (if p.fn = fnFld then fsz p.hx else 0) + p.line.length + (if p.ending = true then 1 else 0) + 2 ≤ p.read
      rw [if_pos hn, hl, he]
      simp only [List.length_nil, Bool.false_eq_true, if_false]
      omega
    · obtain ⟨h2, h3⟩ := fld_eq p s (by omega)
      have h4 := h3 h0
      rw [h2] at h0
      have h5 : fldE s = 0 ∧ p.fs.length ≠ 100 := by
        split at h0
        · cases h0
        · rename_i h6
          exact ⟨h0, fun h7 => h6 ⟨h0, h7⟩⟩
      rw [h4]
      have h6 : fldR s = fldF s := by unfold fldR; rw [if_pos h5.1]
      have h7 : k3 58 s = true ∧ chkF (fldF s) = 0 := by
        have h8 := h5.1
        unfold fldE at h8
        split at h8
        · cases h8
        · split at h8
          · cases h8
          · split at h8
            · cases h8
            · rename_i h9 _
              exact ⟨by simpa using h9, h8⟩
      have e1 := congrArg List.length (k_split h7.1)
      simp only [List.length_append, List.length_cons, size_len] at e1
      have e2 : (fldF s).1.size + (fldF s).2.size + 1 ≤ s.size := by
        have := trimS_size (k2 58 s)
        show (k1 58 s).size + (trimS (k2 58 s)).size + 1 ≤ s.size
        omega
      rw [h6]
      refine ⟨⟨lines, fun hx => absurd hn hx, hln.bg⟩, h.rq, fun _ => ⟨⟨hR.mi, hR.rq, hR.rs, ?_, ?_⟩, hF⟩, fun _ => hn, ?_⟩
      · intro f hf
        rcases List.mem_append.1 hf with hf | hf
        · exact hR.fs f hf
        · rw [List.mem_singleton.1 hf]; exact h7.2
      · show (p.fs ++ [fldF s]).length ≤ 100
        have := hf.fs
        rw [List.length_append, List.length_singleton]
        omega
      · show (if p.fn = fnFld then fsz { p.hx with fs := p.fs ++ [fldF s] } else 0) + p.line.length + (if p.ending = true then 1 else 0) + (if p.whole = true then 2 else 0) ≤ p.read
        have e3 : fsz { p.hx with fs := p.fs ++ [fldF s] } = fsz p.hx + ((fldF s).1.size + (fldF s).2.size + 3) := by
          unfold fsz
          show _ + 2 + fsum (p.fs ++ [fldF s]) = (firstS p.hx.hi).size + 2 + fsum p.fs + _
          rw [fsum_app]
          show (firstS p.hx.hi).size + 2 + (fsum p.fs + ((fldF s).1.size + (fldF s).2.size + 3 + 0)) = _
          omega
        rw [if_pos hn, hl, he, hw, e3]
        simp only [List.length_nil, Bool.false_eq_true, if_false]
        omega
  · rw [if_neg hn] at hz
    obtain ⟨a1, a2, a3, a4, a5, a6, a7, a8⟩ := hln.nb hn
    by_cases h1 : p.req = true ∧ s.size = 0 ∧ lines < 4
    · rw [h1.1] at a1
      have e : pLine p s = (0, { p with passed := p.passed + 1 }) := by
        rw [line_req a1]
        unfold pReq
        rw [if_pos ⟨h1.2.1, by omega⟩]
      rw [e]
      refine ⟨⟨lines + 1, fun _ => ⟨?_, ?_, a3, a4, a5, a6, a7, a8⟩, fun hx => absurd hx hn⟩, h.rq, fun hx => absurd hx hn, fun hx => (by rw [show ({ p with passed := p.passed + 1 } : Pz).whole = p.whole from rfl, hw] at hx; cases hx), ?_⟩
      · show p.fn = if p.req then fnReq else fnRes
        rw [h1.1]; exact a1
      · show p.passed + 1 = lines + 1
        omega
      · show (if p.fn = fnFld then fsz p.hx else 0) + p.line.length + (if p.ending = true then 1 else 0) + (if p.whole = true then 2 else 0) ≤ p.read
        rw [if_neg hn, hl, he, hw]
        simp
    · obtain ⟨e1, e2⟩ := first_hx hln hn s h1
      have he0 : frE p.req s = 0 := e1.symm.trans h0
      obtain ⟨e3, e4⟩ := e2 he0
      have hwh : (pLine p s).2.whole = false := by rw [hE.2 (fun hx => hn hx.1), hw]
      refine ⟨⟨lines + 1, ln_line hln s h0 hwh⟩, ?_, fun _ => ?_, fun hx => (by rw [hwh] at hx; cases hx), ?_⟩
      · have : (pLine p s).2.hx.r = (frH p.req s).r := by rw [e3]
        rw [first_req, h.rq] at this
        exact this
      · rw [e3, first_size he0]
        exact ⟨rh_first he0, hs⟩
      · rw [if_pos e4, e3, hwh, hE.1, he, show (pLine p s).2.line = [] from hO.line.trans hl, hO.read]
        have e5 : (frH p.req s).fs = [] := by unfold frH; split <;> rfl
        unfold fsz
        rw [first_size he0, e5]
        simp only [fsum, List.length_nil, Bool.false_eq_true, if_false]
        omega
theorem jv_next {rq : Bool} {p : Pz} (hf : Fit p) (hw : p.whole = false) (h : Jv rq p) (c : UInt8) (h0 : (pNext p c).1 = 0) : Jv rq (pNext p c).2 ∧ (pNext p c).2.read = p.read + 1 := by
  have hz := h.sz
  rw [hw] at hz
  simp only [Bool.false_eq_true, if_false] at hz
  unfold pNext at h0 ⊢
  by_cases h1 : p.ending ≠ decide (c = 10)
  · rw [if_pos h1] at h0; cases h0
  · rw [if_neg h1] at h0 ⊢
    simp only [ne_eq, Decidable.not_not] at h1
    by_cases h2 : p.read = p.most
    · rw [if_pos h2] at h0; cases h0
    · rw [if_neg h2] at h0 ⊢
      by_cases h3 : c = 13
      · rw [if_pos h3] at h0 ⊢
        subst h3
        have he : p.ending = false := h1
        rw [he] at hz
        refine ⟨⟨h.ln.imp fun _ h => ⟨h.nb, h.bg⟩, h.rq, h.rh, h.wh, ?_⟩, rfl⟩
        show (if p.fn = fnFld then fsz p.hx else 0) + p.line.length + (if true = true then 1 else 0) + (if p.whole = true then 2 else 0) ≤ p.read + 1
        rw [hw]
        simp only [Bool.false_eq_true, if_false, if_true] at hz ⊢
        omega
      · rw [if_neg h3] at h0 ⊢
        by_cases h4 : c = 10
        · rw [if_pos h4] at h0 ⊢
          subst h4
          have he : p.ending = true := h1
          rw [he] at hz
          simp only [if_true] at hz
          have hq : Fit { p with read := p.read + 1, ending := false, line := [] } := ⟨hf.fn, hf.most, by have := hf.read; show p.read + 1 ≤ p.most; omega, Nat.zero_le _, hf.passed, hf.fs⟩
          have hj : Jv rq { p with read := p.read + 1, ending := false, line := [] } := by
            refine ⟨h.ln.imp fun _ h => ⟨h.nb, h.bg⟩, h.rq, h.rh, h.wh, ?_⟩
            show (if p.fn = fnFld then fsz p.hx else 0) + 0 + (if false = true then 1 else 0) + (if p.whole = true then 2 else 0) ≤ p.read + 1
            rw [hw]
            simp only [Bool.false_eq_true, if_false]
            omega
          refine ⟨jv_line hq hw hj (sS p.line) (by rw [sS_size]; exact hf.line) rfl rfl ?_ h0, (ok_line ({ p with read := p.read + 1, ending := false, line := [] } : Pz) (sS p.line) hf.fs).read⟩
          show (if p.fn = fnFld then fsz p.hx else 0) + (sS p.line).size + 2 ≤ p.read + 1
          rw [sS_size]
          omega
        · rw [if_neg h4] at h0 ⊢
          by_cases h5 : p.line.length = 8192
          · rw [if_pos h5] at h0; cases h0
          · rw [if_neg h5]
            refine ⟨⟨h.ln.imp fun _ h => ⟨h.nb, h.bg⟩, h.rq, h.rh, h.wh, ?_⟩, rfl⟩
            show (if p.fn = fnFld then fsz p.hx else 0) + (p.line ++ [c]).length + (if p.ending = true then 1 else 0) + (if p.whole = true then 2 else 0) ≤ p.read + 1
            rw [hw, List.length_append, List.length_singleton]
            simp only [Bool.false_eq_true, if_false] at hz ⊢
            omega
theorem jv_bytes {rq : Bool} : ∀ (l : List UInt8) (p : Pz), Fit p → p.whole = false → Jv rq p → (pBytes p l).1 = 0 → Jv rq (pBytes p l).2.2 ∧ (pBytes p l).2.2.read = p.read + (pBytes p l).2.1
  | [], p, _, _, h, _ => ⟨h, rfl⟩
  | c :: r, p, hf, hw, h, h0 => by
    rw [pBytes] at h0 ⊢
    by_cases h1 : (pNext p c).1 ≠ 0
    · rw [if_pos h1] at h0
      exact absurd h0 h1
    · rw [if_neg h1] at h0 ⊢
      have h1 : (pNext p c).1 = 0 := by simpa using h1
      obtain ⟨h2, h3⟩ := jv_next hf hw h c h1
      by_cases h4 : (pNext p c).2.whole = true
      · rw [if_pos h4]
        exact ⟨h2, h3⟩
      · rw [if_neg h4] at h0 ⊢
        obtain ⟨h5, h6⟩ := jv_bytes r (pNext p c).2 (hf.next c) (by simpa using h4) h2 h0
        exact ⟨h5, by dsimp only; rw [h6, h3]; omega⟩
theorem parse_good {rq : Bool} {l : List UInt8} (h : (pParse rq l).2.2 = 0) : Rh (pParse rq l).1 ∧ (pParse rq l).1.r = rq ∧ (firstS (pParse rq l).1.hi).size ≤ 8192 ∧ fsz (pParse rq l).1 + 2 ≤ (pParse rq l).2.1 := by
  obtain ⟨h1, h2, h3⟩ := parse_ok h
  obtain ⟨h4, h5⟩ := jv_bytes l _ (fit_new rq 65536 (Nat.le_refl _)) rfl (jv_new rq 65536) h1
  rw [h3]
  dsimp only
  have h6 := h4.wh h2
  obtain ⟨h7, h8⟩ := h4.rh h6
  refine ⟨h7, h4.rq, h8, ?_⟩
  have h9 := h4.sz
  rw [if_pos h6, if_pos h2, h5] at h9
  have h10 : (pNew rq 65536).read = 0 := rfl
  omega

/-! ### A head that was printed, read -/
theorem trim_blank (l : List UInt8) (h : trimB l = l) : trimB (32 :: l) = l := by
  rw [trimB_eq] at h ⊢
  rcases List.eq_nil_or_concat l with rfl | ⟨a, c, rfl⟩
  · decide
  · rw [List.concat_eq_append] at h ⊢
    have hb : blankc c = false := by
      cases hc : blankc c with
      | false => rfl
      | true =>
        rw [rtrim_snoc, if_pos hc] at h
        have := congrArg List.length h
        have h1 := ltrim_le (rtrim a)
        have h2 := rtrim_le a
        simp only [List.length_append, List.length_singleton] at this
        omega
    have e1 : rtrim (a ++ [c]) = a ++ [c] := by rw [rtrim_snoc, if_neg (by simp [hb])]
    have e2 : rtrim (32 :: (a ++ [c])) = 32 :: (a ++ [c]) := by
      rw [← List.cons_append, rtrim_snoc, if_neg (by simp [hb])]
    rw [e1] at h
    rw [e2, ltrim_cons, if_pos (by decide), h]
def fldl (f : ByteArray × ByteArray) : List UInt8 := f.1.data.toList ++ 58 :: 32 :: f.2.data.toList
theorem fldL_eq (f : ByteArray × ByteArray) (rest : List UInt8) : fldL f ++ rest = fldl f ++ 13 :: 10 :: rest := by simp [fldL, fldl]
theorem fldl_len (f : ByteArray × ByteArray) : (fldl f).length = f.1.size + f.2.size + 2 := by
  unfold fldl
  simp only [List.length_append, List.length_cons, size_len]
  omega
theorem fldL_len (f : ByteArray × ByteArray) : (fldL f).length = f.1.size + f.2.size + 4 := by
  unfold fldL
  simp only [List.length_append, List.length_cons, List.length_nil, size_len]
  omega
theorem fldl_no {f : ByteArray × ByteArray} (h : chkF f = 0) : ∀ c ∈ fldl f, c ≠ 13 ∧ c ≠ 10 := by
  obtain ⟨h1, h2⟩ := chk_is h
  intro c hc
  unfold fldl at hc
  rcases List.mem_append.1 hc with hc | hc
  · have := tok_all h1 c hc
    exact ⟨tokc_ne this (.inl (by decide)), tokc_ne this (.inl (by decide))⟩
  · rcases List.mem_cons.1 hc with rfl | hc
    · decide
    · rcases List.mem_cons.1 hc with rfl | hc
      · decide
      · have := val_all h2 c hc
        exact ⟨valc_ne this (by decide), valc_ne this (by decide)⟩
theorem fld_line {p : Pz} {f : ByteArray × ByteArray} (h : chkF f = 0) (hl : p.fs.length < 100) : pFld p (sS (fldl f)) = (0, { p with fs := p.fs ++ [f] }) := by
  obtain ⟨h1, h2⟩ := chk_is h
  have hne : ∀ x ∈ f.1.data.toList, x ≠ 58 := fun x hx => tokc_ne (tok_all h1 x hx) (.inr rfl)
  obtain ⟨c1, c2, c3⟩ := cu_yes (b := 32 :: f.2.data.toList) hne
  have e1 : k1 58 (sS (fldl f)) = f.1 := by unfold k1; rw [sS_list]; unfold fldl; rw [c1, sS_of]
  have e2 : k2 58 (sS (fldl f)) = sS (32 :: f.2.data.toList) := by unfold k2; rw [sS_list]; unfold fldl; rw [c2]
  have e3 : k3 58 (sS (fldl f)) = true := by unfold k3; rw [sS_list]; unfold fldl; rw [c3]
  have e4 : fldF (sS (fldl f)) = f := by
    unfold fldF
    rw [e1, e2]
    unfold trimS
    rw [sS_list, trim_blank _ (val_trim h2)]
  have hp := tok_pos h1
  have hd : blankc ((sS (fldl f)).data.toList.headD 0) = false := by
    rw [sS_list]
    unfold fldl
    rw [head_list f.1 (by omega)]
    show blankc f.1[0] = false
    have ht := tokc_is (tok_all h1 f.1[0] (by rw [head_list f.1 (by omega)]; simp))
    unfold blankc
    simp
    omega
  have hr : rtrimS f.1 = f.1 := by
    refine data_inj ?_
    show (⟨(rtrim f.1.data.toList).toArray⟩ : ByteArray).data.toList = _
    refine (rtrim_id_iff _).2 fun c hc => ?_
    have ht := tokc_is (tok_all h1 c (List.mem_of_getLast? hc))
    unfold blankc
    simp
    omega
  unfold pFld
  rw [if_neg (by rw [sS_size, fldl_len]; omega), if_neg (by rw [hd]; exact Bool.false_ne_true), if_neg (by rw [e3]; exact fun h => by cases h), e1, if_neg (by simp [hr]), e4, if_neg (by simp [h]), if_neg (by omega)]
/-- Fields, one behind the other. -/
theorem bytes_flds : ∀ (A : List (ByteArray × ByteArray)) (p : Pz) (rest : List UInt8), p.ending = false → p.whole = false → p.line = [] → p.fn = fnFld → (∀ f ∈ A, chkF f = 0 ∧ f.1.size + f.2.size + 2 ≤ 8192) → p.fs.length + A.length ≤ 100 → p.read + (A.flatMap fldL).length ≤ p.most →
    pBytes p (A.flatMap fldL ++ rest) = sh (pBytes { p with read := p.read + (A.flatMap fldL).length, fs := p.fs ++ A } rest) (A.flatMap fldL).length
  | [], p, rest, _, _, _, _, _, _, _ => by simp [sh]
  | f :: A, p, rest, he, hw, h0, hn, hc, hl, hm => by
    obtain ⟨c1, c2⟩ := hc f (by simp)
    simp only [List.length_cons] at hl
    rw [List.flatMap_cons, List.length_append] at hm
    have hfl := fldL_len f
    have hfl2 := fldl_len f
    rw [List.flatMap_cons, List.append_assoc, fldL_eq, bytes_ln (fldl f) p _ (fldl_no c1) he hw h0 (by omega) (by omega)]
    have e := fld_line (p := { p with read := p.read + (fldl f).length + 2 }) c1 (by dsimp only; omega)
    have e2 : pLine { p with read := p.read + (fldl f).length + 2 } (sS (fldl f)) = (0, { p with read := p.read + (fldl f).length + 2, fs := p.fs ++ [f] }) := by rw [line_fld (p := { p with read := p.read + (fldl f).length + 2 }) hn, e]
    rw [e2]
    dsimp only
    rw [if_neg (by simp), if_neg (by simp [hw])]
    rw [bytes_flds A { p with read := p.read + (fldl f).length + 2, fs := p.fs ++ [f] } rest he hw h0 hn (fun g hg => hc g (List.mem_cons_of_mem _ hg)) (by simp only [List.length_append, List.length_cons, List.length_nil]; omega) (by dsimp only; omega)]
    have e3 : ({ p with read := p.read + (fldl f).length + 2 + (A.flatMap fldL).length, fs := p.fs ++ [f] ++ A } : Pz) = { p with read := p.read + (fldL f ++ A.flatMap fldL).length, fs := p.fs ++ f :: A } := by
      congr 1
      · rw [List.length_append]; omega
      · simp
    dsimp only at e3 ⊢
    rw [e3]
    simp only [sh, Prod.mk.injEq, true_and, and_true, List.length_append]
    omega
/-- Too many bytes. -/
theorem bytes_flds_no : ∀ (A : List (ByteArray × ByteArray)) (p : Pz) (rest : List UInt8), p.ending = false → p.whole = false → p.line = [] → p.fn = fnFld → (∀ f ∈ A, chkF f = 0) → p.fs.length + A.length ≤ 100 → p.read ≤ p.most → ((∃ f ∈ A, 8192 < f.1.size + f.2.size + 2) ∨ p.most < p.read + (A.flatMap fldL).length) → (pBytes p (A.flatMap fldL ++ rest)).1 ≠ 0
  | [], p, rest, _, _, _, _, _, _, hr, h => by
    rcases h with ⟨f, hf, _⟩ | h
    · cases hf
    · simp only [List.flatMap_nil, List.length_nil] at h; omega
  | f :: A, p, rest, he, hw, h0, hn, hc, hl, hr, h => by
    have c1 := hc f (by simp)
    simp only [List.length_cons] at hl
    have hfl := fldL_len f
    have hfl2 := fldl_len f
    rw [List.flatMap_cons, List.append_assoc, fldL_eq]
    by_cases ho : 8192 < (fldl f).length ∨ p.most < p.read + (fldl f).length + 2
    · exact bytes_over2 (fldl f) p _ (fldl_no c1) he hw h0 hr ho
    · rw [bytes_ln (fldl f) p _ (fldl_no c1) he hw h0 (by omega) (by omega)]
      have e := fld_line (p := { p with read := p.read + (fldl f).length + 2 }) c1 (by dsimp only; omega)
      have e2 : pLine { p with read := p.read + (fldl f).length + 2 } (sS (fldl f)) = (0, { p with read := p.read + (fldl f).length + 2, fs := p.fs ++ [f] }) := by rw [line_fld (p := { p with read := p.read + (fldl f).length + 2 }) hn, e]
      rw [e2]
      dsimp only
      rw [if_neg (by simp), if_neg (by simp [hw])]
      refine bytes_flds_no A { p with read := p.read + (fldl f).length + 2, fs := p.fs ++ [f] } rest he hw h0 hn (fun g hg => hc g (List.mem_cons_of_mem _ hg)) (by simp only [List.length_append, List.length_cons, List.length_nil]; omega) (by dsimp only; omega) ?_
      rcases h with ⟨g, hg, h⟩ | h
      · rcases List.mem_cons.1 hg with rfl | hg
        · omega
        · exact .inl ⟨g, hg, h⟩
      · refine .inr ?_
        rw [List.flatMap_cons, List.length_append] at h
        dsimp only
        omega
end Go.Proofs.YtinmpmbicgokpaaGreatDoor
/- What is printed is read as it was: pure. -/
namespace Go.Proofs.YtinmpmbicgokpaaGreatDoor
open Go.ChangeShapes Go.WideShapes Go.ChangeAt Go.RowKit

theorem ver_of {n : Nat} (h : n ≤ 1) : verE (verS (n : Int)).data.toList = 0 ∧ verM (verS (n : Int)).data.toList = n ∧ (∀ c ∈ (verS (n : Int)).data.toList, 32 < c.toNat) := by
  unfold verS
  rw [app_list]
  rcases (show n = 0 ∨ n = 1 by omega) with rfl | rfl
  · rw [show ((0 : Nat) : Int) = 0 from rfl, itoaS0]; decide
  · rw [show ((1 : Nat) : Int) = 1 from rfl, itoa1]; decide
theorem hi_ne {c d : UInt8} (h : 32 < c.toNat) (hd : d.toNat ≤ 32) : c ≠ d := by rintro rfl; omega
/-- A text of three parts. -/
theorem parts {a b c : List UInt8} (ha : ∀ x ∈ a, x ≠ 32) (hb : ∀ x ∈ b, x ≠ 32) {s : ByteArray} (hs : s.data.toList = a ++ 32 :: (b ++ 32 :: c)) :
    k3 32 s = true ∧ k1 32 s = sS a ∧ k3 32 (k2 32 s) = true ∧ k1 32 (k2 32 s) = sS b ∧ k2 32 (k2 32 s) = sS c := by
  obtain ⟨a1, a2, a3⟩ := cu_yes (b := b ++ 32 :: c) ha
  obtain ⟨b1, b2, b3⟩ := cu_yes (b := c) hb
  have e2 : k2 32 s = sS (b ++ 32 :: c) := by unfold k2; rw [hs, a2]
  refine ⟨by unfold k3; rw [hs, a3], by unfold k1; rw [hs, a1], ?_, ?_, ?_⟩
  · rw [e2]; unfold k3; rw [sS_list, b3]
  · rw [e2]; unfold k1; rw [sS_list, b1]
  · rw [e2]
    show sS (cu2 32 (sS (b ++ 32 :: c)).data.toList) = sS c
    rw [sS_list, b2]
theorem dig_hi {n : Nat} (h0 : 100 ≤ n) (h1 : n ≤ 599) : ∀ c ∈ (itoaS (n : Int)).data.toList, 32 < c.toNat := by
  rw [itoaS3 h0 h1]
  intro c hc
  simp only [List.mem_cons, List.not_mem_nil, or_false] at hc
  rcases hc with rfl | rfl | rfl
  · rw [digc_of (by omega)]; omega
  · rw [digc_of (by omega)]; omega
  · rw [digc_of (by omega)]; omega
theorem first_rq {x : Hx} (hr : x.r = true) : (firstS x.hi).data.toList = x.me.data.toList ++ 32 :: (x.ta.data.toList ++ 32 :: (verS (x.mi : Int)).data.toList) := by
  unfold firstS
  rw [if_pos (show x.hi.r = true from hr)]
  simp only [app_list]
  show x.me.data.toList ++ [32] ++ x.ta.data.toList ++ [32] ++ (verS (x.mi : Int)).data.toList = _
  simp
theorem first_rs {x : Hx} (hr : x.r = false) : (firstS x.hi).data.toList = (verS (x.mi : Int)).data.toList ++ 32 :: ((itoaS (x.st : Int)).data.toList ++ 32 :: x.re.data.toList) := by
  unfold firstS
  rw [if_neg (by rw [show x.hi.r = false from hr]; simp)]
  simp only [app_list]
  show (verS (x.mi : Int)).data.toList ++ [32] ++ (itoaS (x.st : Int)).data.toList ++ [32] ++ x.re.data.toList = _
  simp
theorem first_no {x : Hx} (h : Rh x) : ∀ c ∈ (firstS x.hi).data.toList, c ≠ 13 ∧ c ≠ 10 := by
  obtain ⟨v1, v2, v3⟩ := ver_of h.mi
  intro c hc
  cases hr : x.r with
  | true =>
    obtain ⟨r1, r2, r3, r4⟩ := h.rq hr
    rw [first_rq hr] at hc
    simp only [List.mem_append, List.mem_cons] at hc
    rcases hc with hc | rfl | hc | rfl | hc
    · have := tok_all r1 c hc; exact ⟨tokc_ne this (.inl (by decide)), tokc_ne this (.inl (by decide))⟩
    · decide
    · have := tgt_all r2 c hc; exact ⟨tgc_ne this (by decide), tgc_ne this (by decide)⟩
    · decide
    · exact ⟨hi_ne (v3 c hc) (by decide), hi_ne (v3 c hc) (by decide)⟩
  | false =>
    obtain ⟨r1, r2, r3, r4, r5⟩ := h.rs hr
    rw [first_rs hr] at hc
    simp only [List.mem_append, List.mem_cons] at hc
    rcases hc with hc | rfl | hc | rfl | hc
    · exact ⟨hi_ne (v3 c hc) (by decide), hi_ne (v3 c hc) (by decide)⟩
    · decide
    · have := dig_hi r3 r4 c hc; exact ⟨hi_ne this (by decide), hi_ne this (by decide)⟩
    · decide
    · have := List.all_eq_true.1 r5 c hc; exact ⟨valc_ne this (by decide), valc_ne this (by decide)⟩
/-- The parser behind a head's first line. -/
def pAt (x : Hx) (most n : Nat) (A : List (ByteArray × ByteArray)) : Pz := { most := most, read := n, line := [], ending := false, passed := 0, fn := fnFld, req := x.r, me := x.me, ta := x.ta, minor := x.mi, status := x.st, re := x.re, fs := A, whole := false, wrong := 0 }
theorem first_read {x : Hx} (h : Rh x) (most n : Nat) : pLine { pNew x.r most with read := n } (sS (firstS x.hi).data.toList) = (0, pAt x most n []) := by
  obtain ⟨v1, v2, v3⟩ := ver_of h.mi
  rw [sS_of]
  cases hr : x.r with
  | true =>
    obtain ⟨r1, r2, r3, r4⟩ := h.rq hr
    obtain ⟨q1, q2, q3, q4, q5⟩ := parts (fun c hc => tokc_ne (tok_all r1 c hc) (.inl (by decide))) (fun c hc => tgc_ne (tgt_all r2 c hc) (by decide)) (first_rq hr)
    rw [sS_of] at q2 q4 q5
    have hz : (firstS x.hi).size ≠ 0 := by
      rw [← size_len, first_rq hr]
      simp
    have h0 : frE true (firstS x.hi) = 0 := by
      unfold frE
      have hta := r2
      unfold tgtB at hta
      rw [Bool.and_eq_true, isEmpty_size] at hta
      rw [q1, q3, q2, q4, q5, r1, hta.1, hta.2]
      exact v1
    have e := req_eq { pNew true most with read := n } (firstS x.hi) (fun hx => hz hx.1)
    rw [line_req (show ({ pNew true most with read := n } : Pz).fn = fnReq from rfl)]
    have e2 := e.2 h0 rfl
    rw [← Prod.eta (pReq { pNew true most with read := n } (firstS x.hi)), e.1, h0, e2, q2, q4, q5, v2]
    unfold pAt pNew
    rw [hr, r3, r4]
  | false =>
    obtain ⟨r1, r2, r3, r4, r5⟩ := h.rs hr
    obtain ⟨q1, q2, q3, q4, q5⟩ := parts (fun c hc => hi_ne (v3 c hc) (by decide)) (fun c hc => hi_ne (dig_hi r3 r4 c hc) (by decide)) (first_rs hr)
    rw [sS_of] at q2 q4 q5
    obtain ⟨s1, s2⟩ := stat3 r3 r4
    have h0 : frE false (firstS x.hi) = 0 := by
      unfold frE
      rw [q1, q3, q2, q4, q5, s1, v1, r5]
      rfl
    have e := res_eq { pNew false most with read := n } (firstS x.hi)
    rw [line_res (show ({ pNew false most with read := n } : Pz).fn = fnRes from rfl)]
    have e2 := e.2 h0 rfl
    rw [← Prod.eta (pRes { pNew false most with read := n } (firstS x.hi)), e.1, h0, e2, q2, q4, q5, v2, s2]
    unfold pAt pNew
    rw [hr, r1, r2]

/-! ### The whole text -/
def fullL (h : Hi) : List UInt8 := (firstS h).data.toList ++ 13 :: 10 :: (h.fs.flatMap fldL ++ [13, 10])
theorem flat_len : ∀ A : List (ByteArray × ByteArray), (A.flatMap fldL).length = fsum A + A.length
  | [] => rfl
  | f :: A => by rw [List.flatMap_cons, List.length_append, flat_len A, fldL_len, fsum, List.length_cons]; omega
theorem full_len (x : Hx) : (fullL x.hi).length = fsz x + x.fs.length + 2 := by
  unfold fullL fsz
  simp only [List.length_append, List.length_cons, List.length_nil, size_len]
  rw [show x.hi.fs = x.fs from rfl, flat_len]
  omega
theorem txt_form : ∀ (A : List (ByteArray × ByteArray)) (acc : List UInt8), ∃ B C, A = B ++ C ∧ txt acc A = acc ++ B.flatMap fldL ∧ (C ≠ [] → 65536 < (acc ++ B.flatMap fldL).length)
  | [], acc => ⟨[], [], rfl, by simp [txt], fun h => absurd rfl h⟩
  | f :: A, acc => by
    rw [txt]
    by_cases h : 65536 < acc.length
    · rw [if_pos h]
      exact ⟨[], f :: A, rfl, by simp, fun _ => by simpa using h⟩
    · rw [if_neg h]
      obtain ⟨B, C, h1, h2, h3⟩ := txt_form A (acc ++ fldL f)
      refine ⟨f :: B, C, by rw [h1]; rfl, ?_, fun hc => ?_⟩
      · rw [h2, List.flatMap_cons, List.append_assoc]
      · have := h3 hc
        rw [List.flatMap_cons, ← List.append_assoc]
        exact this
theorem empty_line {p : Pz} (hn : p.fn = fnFld) : pLine p (sS []) = (0, { p with whole := true }) := by
  rw [line_fld hn]
  unfold pFld
  rw [if_pos (by rw [sS_size]; rfl)]
theorem full_read {x : Hx} (h : Rh x) (h1 : (firstS x.hi).size ≤ 8192) (h2 : ∀ f ∈ x.fs, f.1.size + f.2.size + 2 ≤ 8192) (h3 : fsz x + x.fs.length + 2 ≤ 65536) : pParse x.r (fullL x.hi) = (x, (fullL x.hi).length, 0) := by
  have hlen := full_len x
  have hfl := flat_len x.fs
  unfold fsz at h3 hlen
  have e1 := bytes_ln (firstS x.hi).data.toList (pNew x.r 65536) (x.hi.fs.flatMap fldL ++ [13, 10]) (first_no h) rfl rfl rfl (by rw [size_len]; exact h1) (by rw [size_len]; show 0 + (firstS x.hi).size + 2 ≤ 65536; omega)
  rw [first_read h] at e1
  rw [if_neg (by simp), if_neg (by unfold pAt; simp)] at e1
  rw [show x.hi.fs = x.fs from rfl, show (pNew x.r 65536).read = 0 from rfl, size_len] at e1
  have e2 := bytes_flds x.fs (pAt x 65536 (0 + (firstS x.hi).size + 2) []) [13, 10] rfl rfl rfl rfl (fun f hf => ⟨h.fs f hf, h2 f hf⟩) (by show 0 + x.fs.length ≤ 100; have := h.fl; omega) (by show 0 + (firstS x.hi).size + 2 + (x.fs.flatMap fldL).length ≤ 65536; omega)
  have e3 := bytes_ln [] ({ pAt x 65536 (0 + (firstS x.hi).size + 2) [] with read := (pAt x 65536 (0 + (firstS x.hi).size + 2) []).read + (x.fs.flatMap fldL).length, fs := (pAt x 65536 (0 + (firstS x.hi).size + 2) []).fs ++ x.fs }) [] (fun c hc => by cases hc) rfl rfl rfl (Nat.zero_le _) (by show 0 + (firstS x.hi).size + 2 + (x.fs.flatMap fldL).length + 0 + 2 ≤ 65536; omega)
  rw [empty_line (by rfl)] at e3
  rw [if_neg (by simp), if_pos rfl] at e3
  rw [List.nil_append] at e3
  rw [e3] at e2
  rw [e2] at e1
  obtain ⟨Q, hQ, hw, hx⟩ : ∃ Q, pBytes (pNew x.r 65536) (fullL x.hi) = (0, (fullL x.hi).length, Q) ∧ Q.whole = true ∧ Q.hx = x := by
    refine ⟨_, e1.trans (Prod.ext rfl (Prod.ext ?_ rfl)), rfl, rfl⟩
    show [].length + 2 + (x.fs.flatMap fldL).length + ((firstS x.hi).size + 2) = (fullL x.hi).length
    simp only [List.length_nil]
    omega
  rw [parse_eq, hQ]
  dsimp only
  rw [if_neg (by simp), if_neg (by simp [hw]), hx]
theorem text_full {x : Hx} (h3 : fsz x + x.fs.length + 2 ≤ 65536) : textL x.hi = fullL x.hi := by
  have hfl := flat_len x.fs
  unfold fsz at h3
  unfold textL
  obtain ⟨B, C, h1, h2, hc⟩ := txt_form x.hi.fs ((firstS x.hi).data.toList ++ [13, 10])
  have hC : C = [] := by
    cases C with
    | nil => rfl
    | cons f C =>
      have h4 := hc (by simp)
      have h5 := flat_len B
      rw [show x.hi.fs = x.fs from rfl] at h1
      rw [h1, fsum_app, List.length_append] at hfl h3
      simp only [List.length_append, List.length_cons, List.length_nil, size_len] at h4
      omega
  subst hC
  rw [List.append_nil] at h1
  rw [h2, ← h1]
  unfold fullL
  simp
/-- What goes through Print is read as it was. -/
theorem print_is {h : Hi} (hp : printB h = true) : ∃ x : Hx, x.hi = h ∧ Rh x ∧ textL h = fullL h ∧ pParse h.r (fullL h) = (x, (fullL h).length, 0) ∧ (fullL h).length ≤ 65536 := by
  unfold printB at hp
  rw [Bool.and_eq_true] at hp
  have hp1 : (pParse h.r (textL h)).2.2 = 0 := of_decide_eq_true hp.1
  have hp2 := hiEq_iff.1 hp.2
  obtain ⟨g1, g2, g3, g4⟩ := parse_good hp1
  obtain ⟨b1, b2, b3⟩ := parse_ok hp1
  generalize hx : (pParse h.r (textL h)).1 = x at hp2 g1 g2 g3 g4
  clear g4 hx b2 b3 hp1
  subst hp2
  rw [show x.hi.r = x.r from rfl] at *
  obtain ⟨B, C, h1, h2, hc⟩ := txt_form x.hi.fs ((firstS x.hi).data.toList ++ [13, 10])
  rw [show x.hi.fs = x.fs from rfl] at h1
  have hBf : ∀ f ∈ B, chkF f = 0 := fun f hf => g1.fs f (by rw [h1]; exact List.mem_append_left _ hf)
  have hBl : B.length ≤ 100 := by have := g1.fl; rw [h1, List.length_append] at this; omega
  have hT : textL x.hi = (firstS x.hi).data.toList ++ 13 :: 10 :: (B.flatMap fldL ++ [13, 10]) := by
    unfold textL
    rw [h2]
    simp
  rw [hT] at b1
  have e1 := bytes_ln (firstS x.hi).data.toList (pNew x.r 65536) (B.flatMap fldL ++ [13, 10]) (first_no g1) rfl rfl rfl (by rw [size_len]; exact g3) (by rw [size_len]; show 0 + (firstS x.hi).size + 2 ≤ 65536; omega)
  rw [first_read g1] at e1
  rw [if_neg (by simp), if_neg (by unfold pAt; simp)] at e1
  rw [show (pNew x.r 65536).read = 0 from rfl, size_len] at e1
  rw [e1] at b1
  simp only [sh] at b1
  have hfit : ¬ ((∃ f ∈ B, 8192 < f.1.size + f.2.size + 2) ∨ 65536 < 0 + (firstS x.hi).size + 2 + (B.flatMap fldL).length) := fun hx =>
    bytes_flds_no B (pAt x 65536 (0 + (firstS x.hi).size + 2) []) [13, 10] rfl rfl rfl rfl hBf (by show 0 + B.length ≤ 100; omega) (by show 0 + (firstS x.hi).size + 2 ≤ 65536; omega) hx b1
  have hf1 : ∀ f ∈ B, f.1.size + f.2.size + 2 ≤ 8192 := fun f hf => by
    apply Nat.le_of_not_lt
    exact fun hx => hfit (.inl ⟨f, hf, hx⟩)
  have hf2 : 0 + (firstS x.hi).size + 2 + (B.flatMap fldL).length ≤ 65536 := Nat.le_of_not_lt fun hx => hfit (.inr hx)
  have hC : C = [] := by
    cases C with
    | nil => rfl
    | cons f C =>
      have h4 := hc (by simp)
      simp only [List.length_append, List.length_cons, List.length_nil, size_len] at h4
      omega
  subst hC
  rw [List.append_nil] at h1
  subst h1
  have e2 := bytes_flds x.fs (pAt x 65536 (0 + (firstS x.hi).size + 2) []) [13, 10] rfl rfl rfl rfl (fun f hf => ⟨hBf f hf, hf1 f hf⟩) (by show 0 + x.fs.length ≤ 100; omega) (by show 0 + (firstS x.hi).size + 2 + (x.fs.flatMap fldL).length ≤ 65536; omega)
  rw [e2] at b1
  simp only [sh] at b1
  have h3 : fsz x + x.fs.length + 2 ≤ 65536 := by
    have hfl := flat_len x.fs
    unfold fsz
    apply Nat.le_of_not_lt
    intro hx
    refine bytes_over2 [] _ [] (fun c hc => by cases hc) ?_ ?_ ?_ ?_ (.inr ?_) b1
    · rfl
    · rfl
    · rfl
    · show 0 + (firstS x.hi).size + 2 + (x.fs.flatMap fldL).length ≤ 65536
      omega
    · show 65536 < 0 + (firstS x.hi).size + 2 + (x.fs.flatMap fldL).length + 0 + 2
      omega
  exact ⟨x, rfl, g1, text_full h3, full_read g1 g3 hf1 h3, by rw [full_len]; exact h3⟩
/-- Whether a head can be printed, told by its whole text. -/
theorem print_iff (h : Hi) : printB h = true ↔ (pParse h.r (fullL h)).2.2 = 0 ∧ (pParse h.r (fullL h)).2.1 = (fullL h).length ∧ (pParse h.r (fullL h)).1.hi = h := by
  constructor
  · intro hp
    obtain ⟨x, rfl, _, _, h2, _⟩ := print_is hp
    rw [h2]
    exact ⟨rfl, rfl, rfl⟩
  · rintro ⟨h1, h2, h3⟩
    obtain ⟨g1, g2, g3, g4⟩ := parse_good h1
    have hle : (pParse h.r (fullL h)).2.1 ≤ 65536 := by
      obtain ⟨b1, b2, b3⟩ := parse_ok h1
      obtain ⟨h4, h5⟩ := jv_bytes (fullL h) _ (fit_new h.r 65536 (Nat.le_refl _)) rfl (jv_new h.r 65536) b1
      have h6 := (fit_bytes (fullL h) (pNew h.r 65536) (fit_new h.r 65536 (Nat.le_refl _)))
      have h7 := h6.read
      have h8 := h6.most
      rw [h5, show (pNew h.r 65536).read = 0 from rfl] at h7
      rw [b3]
      dsimp only
      omega
    generalize hx : (pParse h.r (fullL h)).1 = x at h3 g1 g2 g3 g4
    have hP : pParse h.r (fullL h) = (x, (fullL h).length, 0) := Prod.ext hx (Prod.ext h2 h1)
    clear hx
    subst h3
    rw [h2, full_len] at hle
    unfold printB
    rw [text_full hle, hP]
    exact Bool.and_eq_true_iff.2 ⟨rfl, hiEq_iff.2 rfl⟩
/-- Of a head that was read Print tells a text, but where it is too long. -/
theorem strict_long {rq : Bool} {l : List UInt8} (h : (pParse rq l).2.2 = 0) (hp : printB (pParse rq l).1.hi = false) : 65536 < (pParse rq l).2.1 + (pParse rq l).1.fs.length ∨ ∃ f ∈ (pParse rq l).1.fs, 8190 < f.1.size + f.2.size := by
  obtain ⟨g1, g2, g3, g4⟩ := parse_good h
  generalize (pParse rq l).1 = x at *
  generalize (pParse rq l).2.1 = n at *
  apply Classical.byContradiction
  intro hc
  rw [not_or] at hc
  have h2 : ∀ f ∈ x.fs, f.1.size + f.2.size + 2 ≤ 8192 := fun f hf => by
    have : ¬ 8190 < f.1.size + f.2.size := fun hx => hc.2 ⟨f, hf, hx⟩
    omega
  have h3 : fsz x + x.fs.length + 2 ≤ 65536 := by have := hc.1; omega
  have e := full_read g1 g3 h2 h3
  have : printB x.hi = true := by
    unfold printB
    rw [text_full h3, show x.hi.r = x.r from rfl, e]
    exact Bool.and_eq_true_iff.2 ⟨rfl, hiEq_iff.2 rfl⟩
  rw [this] at hp
  cases hp
theorem hi_inj {x y : Hx} (h : x.hi = y.hi) : x = y := by
  cases x; cases y
  simp only [Hx.hi, Hi.mk.injEq] at h
  obtain ⟨h1, h2, h3, h4, h5, h6, h7⟩ := h
  simp only [Hx.mk.injEq]
  exact ⟨h1, h2, h3, by omega, by omega, h6, h7⟩
theorem strict_back {rq : Bool} {l : List UInt8} (h : (pParse rq l).2.2 = 0) (hp : printB (pParse rq l).1.hi = true) : pParse rq (textL (pParse rq l).1.hi) = ((pParse rq l).1, (textL (pParse rq l).1.hi).length, 0) := by
  obtain ⟨g1, g2, _⟩ := parse_good h
  obtain ⟨x, h1, h2, h3, h4, _⟩ := print_is hp
  rw [h3]
  have e := hi_inj h1
  rw [show (pParse rq l).1.hi.r = (pParse rq l).1.r from rfl, g2, e] at h4
  exact h4
/-- Nothing slips in. -/
def badc (c : UInt8) : Bool := decide (c = 13) || decide (c = 10) || decide (c = 0)
theorem strict_no {rq : Bool} {l : List UInt8} (h : (pParse rq l).2.2 = 0) : (∀ c ∈ (pParse rq l).1.me.data.toList ++ (pParse rq l).1.ta.data.toList ++ (pParse rq l).1.re.data.toList, badc c = false) ∧ ∀ f ∈ (pParse rq l).1.fs, (∀ c ∈ f.1.data.toList, badc c = false ∧ 32 < c.toNat ∧ c ≠ 58) ∧ ∀ c ∈ f.2.data.toList, badc c = false := by
  obtain ⟨g1, g2, _⟩ := parse_good h
  generalize (pParse rq l).1 = x at *
  have hb : ∀ c : UInt8, c ≠ 13 ∧ c ≠ 10 ∧ c ≠ 0 → badc c = false := fun c ⟨h1, h2, h3⟩ => by unfold badc; simp [h1, h2, h3]
  refine ⟨fun c hc => hb c ?_, fun f hf => ?_⟩
  · simp only [List.mem_append] at hc
    cases hr : x.r with
    | true =>
      obtain ⟨r1, r2, r3, r4⟩ := g1.rq hr
      rw [r4] at hc
      rcases hc with (hc | hc) | hc
      · have := tok_all r1 c hc; exact ⟨tokc_ne this (.inl (by decide)), tokc_ne this (.inl (by decide)), tokc_ne this (.inl (by decide))⟩
      · have := tgt_all r2 c hc; exact ⟨tgc_ne this (by decide), tgc_ne this (by decide), tgc_ne this (by decide)⟩
      · cases hc
    | false =>
      obtain ⟨r1, r2, r3, r4, r5⟩ := g1.rs hr
      rw [r1, r2] at hc
      rcases hc with (hc | hc) | hc
      · cases hc
      · cases hc
      · have := List.all_eq_true.1 r5 c hc; exact ⟨valc_ne this (by decide), valc_ne this (by decide), valc_ne this (by decide)⟩
  · obtain ⟨c1, c2⟩ := chk_is (g1.fs f hf)
    refine ⟨fun c hc => ?_, fun c hc => hb c ?_⟩
    · have h1 := tok_all c1 c hc
      obtain ⟨a, b, d⟩ := tokc_is h1
      exact ⟨hb c ⟨tokc_ne h1 (.inl (by decide)), tokc_ne h1 (.inl (by decide)), tokc_ne h1 (.inl (by decide))⟩, a, d⟩
    · have := val_all c2 c hc; exact ⟨valc_ne this (by decide), valc_ne this (by decide), valc_ne this (by decide)⟩
end Go.Proofs.YtinmpmbicgokpaaGreatDoor
/- HeadStrict, walked. -/
namespace Go.Proofs.YtinmpmbicgokpaaGreatDoor
open Go.ChangeShapes Go.WideShapes Go.ChangeAt Go.RowKit

theorem parse_none {rq : Bool} {l : List UInt8} (h : (pParse rq l).2.2 ≠ 0) : (pParse rq l).1 = hx0 := by
  rw [parse_eq] at h ⊢
  split
  · rfl
  · split
    · rfl
    · rename_i h1 h2
      rw [if_neg h1, if_neg h2] at h
      exact absurd rfl h
theorem parse_sz (rq : Bool) (l : List UInt8) : (pParse rq l).1.me.size ≤ 8192 ∧ (pParse rq l).1.ta.size ≤ 8192 ∧ (pParse rq l).1.re.size ≤ 8192 ∧ (∀ f ∈ (pParse rq l).1.fs, f.1.size ≤ 8192 ∧ f.2.size ≤ 8192) ∧ (pParse rq l).1.mi ≤ 1 ∧ (pParse rq l).1.st ≤ 9007199254740992 ∧ (pParse rq l).1.fs.length ≤ 100 := by
  have h1 := (sz_new rq 65536).feed (fit_new rq 65536 (Nat.le_refl _)) l
  have h2 := ((fit_new rq 65536 (Nat.le_refl _)).feed l).fs
  have h0 : hx0.me.size ≤ 8192 ∧ hx0.ta.size ≤ 8192 ∧ hx0.re.size ≤ 8192 ∧ (∀ f ∈ hx0.fs, f.1.size ≤ 8192 ∧ f.2.size ≤ 8192) ∧ hx0.mi ≤ 1 ∧ hx0.st ≤ 9007199254740992 ∧ hx0.fs.length ≤ 100 := ⟨by decide, by decide, by decide, (fun f hf => (by cases hf)), by decide, by decide, by decide⟩
  unfold pParse
  split
  · exact h0
  · split
    · exact h0
    · exact ⟨h1.me, h1.ta, h1.re, h1.fs, h1.minor, h1.status, h2⟩
theorem parse_hb (rq : Bool) (l : List UInt8) : Hb (pParse rq l).1.hi := by
  obtain ⟨a, b, c, d, e, f, g⟩ := parse_sz rq l
  generalize (pParse rq l).1 = x at *
  refine ⟨?_, ?_, ?_, ?_, ?_, ?_, ?_, ?_, ?_⟩
  · show x.me.size ≤ _; omega
  · show x.ta.size ≤ _; omega
  · show x.re.size ≤ _; omega
  · show _ ≤ (x.mi : Int); omega
  · show (x.mi : Int) ≤ _; omega
  · show _ ≤ (x.st : Int); omega
  · show (x.st : Int) ≤ _; omega
  · show x.fs.length ≤ _; omega
  · intro q hq
    have := d q hq
    omega
def lngB (n : Nat) (m k : Nat) (A : List (ByteArray × ByteArray)) : Bool := decide (65536 < n + m) || (A.take k).any fun f => decide (8190 < f.1.size + f.2.size)
theorem lng_snoc {n m k : Nat} {A : List (ByteArray × ByteArray)} (hk : k < A.length) {f : ByteArray × ByteArray} (hf : A[k] = f) : lngB n m (k + 1) A = (lngB n m k A || decide (8190 < f.1.size + f.2.size)) := by
  unfold lngB
  rw [take_snocP A k hk, hf, List.any_append]
  simp [Bool.or_assoc]
/-- What is asked of a head that was read. -/
structure Sk (rq : Bool) (x : Hx) (n : Nat) : Prop where
  r : x.r = rq
  nl : n ≤ 65536
  me : x.me.size ≤ 8192
  ta : x.ta.size ≤ 8192
  re : x.re.size ≤ 8192
  fs : ∀ f ∈ x.fs, f.1.size ≤ 8192 ∧ f.2.size ≤ 8192
  fl : x.fs.length ≤ 100
  hb : Hb x.hi
  no1 : ∀ c ∈ ((x.me ++ x.ta) ++ x.re).data.toList, badc c = false
  no2 : ∀ f ∈ x.fs, (∀ c ∈ f.1.data.toList, badc c = false ∧ 32 < c.toNat ∧ c ≠ 58) ∧ ∀ c ∈ f.2.data.toList, badc c = false
  long : printB x.hi = false → lngB n x.fs.length x.fs.length x.fs = true
  back : printB x.hi = true → pParse rq (textL x.hi) = (x, (textL x.hi).length, 0)
theorem parse_n {rq : Bool} {l : List UInt8} (h1 : (pParse rq l).2.2 = 0) : (pParse rq l).2.1 ≤ 65536 := by
  obtain ⟨b1, b2, b3⟩ := parse_ok h1
  obtain ⟨h4, h5⟩ := jv_bytes l _ (fit_new rq 65536 (Nat.le_refl _)) rfl (jv_new rq 65536) b1
  have h6 := (fit_bytes l (pNew rq 65536) (fit_new rq 65536 (Nat.le_refl _)))
  have h7 := h6.read
  have h8 := h6.most
  rw [h5, show (pNew rq 65536).read = 0 from rfl] at h7
  rw [b3]
  dsimp only
  omega
theorem sk_of {rq : Bool} {l : List UInt8} (h : (pParse rq l).2.2 = 0) : Sk rq (pParse rq l).1 (pParse rq l).2.1 := by
  obtain ⟨a, b, c, d, e, f, g⟩ := parse_sz rq l
  obtain ⟨n1, n2⟩ := strict_no h
  refine ⟨(parse_good h).2.1, parse_n h, a, b, c, d, g, parse_hb rq l, ?_, n2, fun hp => ?_, fun hp => strict_back h hp⟩
  · rw [app_list, app_list]; exact n1
  · unfold lngB
    rw [Bool.or_eq_true]
    rcases strict_long h hp with h1 | ⟨f, hf, h1⟩
    · exact .inl (decide_eq_true h1)
    · refine .inr (List.any_eq_true.2 ⟨f, ?_, decide_eq_true h1⟩)
      rw [List.take_of_length_le (Nat.le_refl _)]
      exact hf
theorem bad_of {c : UInt8} (h : badc c = false) : ((c.toNat : Int) == 13) = false ∧ ((c.toNat : Int) == 10) = false ∧ ((c.toNat : Int) == 0) = false := by
  unfold badc at h
  simp only [Bool.or_eq_false_iff, decide_eq_false_iff_not] at h
  refine ⟨by rw [byte_cr]; exact decide_eq_false h.1.1, by rw [byte_ten]; exact decide_eq_false h.1.2, ?_⟩
  rw [show (0 : Int) = ((0 : UInt8).toNat : Int) from rfl, byte_eqI, beq_eq_false_iff_ne]
  exact h.2
theorem mem_at {s : ByteArray} {j : Nat} (h : j < s.size) : s[j] ∈ s.data.toList := by
  rw [Array.mem_toList_iff]
  exact Array.getElem_mem _
set_option maxHeartbeats 8000000 in
set_option maxRecDepth 100000 in
theorem strict_walk (rq : Bool) (v : Value) (L : List UInt8) (w : World) (hB : Bs w w.heap.size v L) (hl : L.length ≤ 140737488355328) (ht : PT w) (hm : MX w) (he : ET w) :
    Calls Tryz.prog 6 #[.bool rq, v] w fun e w' => e = .returned (.bool true) ∧ Below w.heap.size w w' := by
  have HT := hide ht
  have HM := hide hm
  have HE := hide he
  have HP := hide (parse_any rq v L w hB hl hm he)
  have HNO := hide (fun h => (⟨parse_no (rq := rq) (l := L) h, parse_none (rq := rq) (l := L) h⟩ : _ ∧ _))
  have HOK := hide (fun h => sk_of (rq := rq) (l := L) h)
  obtain ⟨ba, cc, rfl, hcc, hbc⟩ := hB
  generalize hG : pParse rq L = R at HP HNO HOK
  clear hG hbc ht hm he hcc hl
  obtain ⟨⟨xr, xme, xta, xmi, xst, xre, XA⟩, n, er⟩ := R
  dsimp only at HP HNO HOK
  unfold hxV at HP
  dsimp only at HP
  by_cases h0 : er = 0
  · subst h0
    have hsk := HOK.out rfl
    have hr : xr = rq := hsk.r
    subst hr
    have SK := hide hsk
    have hn : n ≤ 65536 := hsk.nl
    have zme : xme.size ≤ 8192 := hsk.me
    have zta : xta.size ≤ 8192 := hsk.ta
    have zre : xre.size ≤ 8192 := hsk.re
    have zfl : XA.length ≤ 100 := hsk.fl
    clear HOK HNO hsk
    go_enter Tryz.func6, Tryz.ntmps6
    go_wp2_with fail
    refine HP.out.mono ?_
    rintro e w1 ⟨u, rfl, hu, bb⟩
    have B1 := hide bb
    have HU1 := hide (Flds.of_row hu)
    obtain ⟨ua, ul, uc, hue⟩ : ∃ a n c, u = .slice a n c := by
      obtain ⟨a, c, h, _⟩ := hu.shape
      exact ⟨a, _, c, h⟩
    subst hue
    have hul : ul = XA.length := by
      obtain ⟨a, c, h, _⟩ := HU1.out
      simp only [Value.slice.injEq] at h
      exact h.2.1
    subst hul
    clear hu bb HP
    go_upto_region 4 with fail
    have U2 := hide (Bl.one w1 #[.bool xr, .string xme, .string xta, .int .i64 (xmi : Int), .int .i64 (xst : Int), .string xre, .slice ua XA.length uc] 25)
    have HU2 := hide (HU1.out.below U2.out.b)
    generalize (w1.alloc (.cells #[.bool xr, .string xme, .string xta, .int .i64 (xmi : Int), .int .i64 (xst : Int), .string xre, .slice ua XA.length uc] 25)) = y at U2 HU2 ⊢
    clear HU1
    obtain ⟨p0, p1, p2, p3, p4, p5, p6⟩ := U2.out.hd 0 w1.heap.size rfl rfl
    have zall : ((xme ++ xta) ++ xre).size ≤ 24576 := by rw [app_size, app_size]; omega
    have HN1 : Hid (∀ c ∈ ((xme ++ xta) ++ xre).data.toList, badc c = false) := hide SK.out.no1
    go_wp2_with fail
    clear p0 p1 p2 p3 p4 p5 p6
    generalize (xme ++ xta) ++ xre = al0 at zall HN1 ⊢
    go_loopw [8, 9, 55] (fun av lv i wr => ∃ (k : Nat) (al : ByteArray) (lg : Bool), k ≤ XA.length ∧ av = .string al ∧ lv = .bool lg ∧ i = .int .i64 k ∧ al.size ≤ 24576 + 16384 * k ∧ Hid (∀ c ∈ al.data.toList, badc c = false) ∧ Hid (lg = lngB n XA.length k XA) ∧ Hid (Bl w1 wr [(#[.bool xr, .string xme, .string xta, .int .i64 (xmi : Int), .int .i64 (xst : Int), .string xre, .slice ua XA.length uc], 25)]) ∧ Hid (Flds wr (.slice ua XA.length uc) XA)) (fun _ _ i _ => XA.length - (intOf i).toNat)
    case atStart => exact ⟨0, al0, _, Nat.zero_le _, rfl, rfl, rfl, by omega, HN1, hide (by unfold lngB; simp; omega), U2, HU2⟩
    case round =>
      obtain ⟨k, al, lg, hk, rfl, rfl, rfl, hal, HA, HL, HT1, HF⟩ := hrel
      clear zall HN1 U2 HU2
      by_cases hlt : k < XA.length
      · obtain ⟨a', c', he, _, hcells⟩ := HF.out
        simp only [Value.slice.injEq] at he
        obtain ⟨rfl, _, rfl⟩ := he
        obtain ⟨gg, oo, rfl, hgg, q1, q2⟩ := hcells k hlt
        clear hcells
        obtain ⟨⟨fa, fb⟩, hf⟩ : ∃ f, XA[k] = f := ⟨_, rfl⟩
        rw [hf] at q1 q2
        dsimp only at q1 q2
        have hmem : (fa, fb) ∈ XA := hf ▸ List.getElem_mem hlt
        obtain ⟨zfa, zfb⟩ := SK.out.fs (fa, fb) hmem
        dsimp only at zfa zfb
        have N2 := hide (SK.out.no2 (fa, fb) hmem)
        have LS := hide (lng_snoc (n := n) (m := XA.length) hlt hf)
        have HA2 : Hid (∀ c ∈ ((al ++ fa) ++ fb).data.toList, badc c = false) := hide (by
          intro c hc
          rw [app_list, app_list] at hc
          rcases List.mem_append.1 hc with hc | hc
          · rcases List.mem_append.1 hc with hc | hc
            · exact HA.out c hc
            · exact (N2.out.1 c hc).1
          · exact N2.out.2 c hc)
        clear hmem hf
        go_upto_region 9 with fail
        have U3 := hide (Bl.one wr #[.string fa, .string fb] 51)
        have HT2 := hide (HT1.out.below U3.out.b)
        have HF2 := hide (HF.out.below U3.out.b)
        generalize (wr.alloc (.cells #[.string fa, .string fb] 51)) = x at U3 HT2 HF2 ⊢
        clear q1 q2
        have d0 : x.cell? ⟨wr.heap.size, 0, none⟩ = some (.string fa) := U3.out.cell 0 rfl 0
        have d1 : x.cell? ⟨wr.heap.size, 1, none⟩ = some (.string fb) := U3.out.cell 0 rfl 1
        cases lg with
        | true =>
          have HL2 : Hid (true = lngB n XA.length (k + 1) XA) := hide (by rw [LS.out, ← HL.out]; rfl)
          go_wp2_with fail
          go_loop [12] (fun i => ∃ j : Nat, j ≤ fa.size ∧ i = .int .i64 j) (fun i => fa.size - (intOf i).toNat)
          case atStart => exact ⟨0, Nat.zero_le _, rfl⟩
          case round =>
            obtain ⟨j, hj, rfl⟩ := hrel
            by_cases hjl : j < fa.size
            · obtain ⟨nb, nc, nd⟩ := N2.out.1 fa[j] (mem_at hjl)
              have t1 : ¬ (fa[j].toNat : Int) ≤ 32 := by omega
              have t2 : ((fa[j].toNat : Int) == 58) = false := by
                rw [show (58 : Int) = ((58 : UInt8).toNat : Int) from rfl, byte_eqI, beq_eq_false_iff_ne]
                exact nd
              clear nb nc nd
              go_wp2
              exact ⟨⟨j + 1, by omega, by go_num⟩, by simp [intOf]; omega⟩
            · go_wp2
              exact ⟨⟨k + 1, (al ++ fa) ++ fb, true, by omega, rfl, rfl, by go_num, by rw [app_size, app_size]; omega, HA2, HL2, HT2, HF2⟩, by simp [intOf]; omega⟩
        | false =>
          by_cases h8 : 8190 < fa.size + fb.size
          · have t8 : (8190 : Int) < (fa.size : Int) + (fb.size : Int) := by omega
            have HL2 : Hid (true = lngB n XA.length (k + 1) XA) := hide (by rw [LS.out, ← HL.out, decide_eq_true h8]; rfl)
            go_wp2_with fail
            go_loop [12] (fun i => ∃ j : Nat, j ≤ fa.size ∧ i = .int .i64 j) (fun i => fa.size - (intOf i).toNat)
            case atStart => exact ⟨0, Nat.zero_le _, rfl⟩
            case round =>
              obtain ⟨j, hj, rfl⟩ := hrel
              by_cases hjl : j < fa.size
              · obtain ⟨nb, nc, nd⟩ := N2.out.1 fa[j] (mem_at hjl)
                have t1 : ¬ (fa[j].toNat : Int) ≤ 32 := by omega
                have t2 : ((fa[j].toNat : Int) == 58) = false := by
                  rw [show (58 : Int) = ((58 : UInt8).toNat : Int) from rfl, byte_eqI, beq_eq_false_iff_ne]
                  exact nd
                clear nb nc nd
                go_wp2
                exact ⟨⟨j + 1, by omega, by go_num⟩, by simp [intOf]; omega⟩
              · go_wp2
                exact ⟨⟨k + 1, (al ++ fa) ++ fb, true, by omega, rfl, rfl, by go_num, by rw [app_size, app_size]; omega, HA2, HL2, HT2, HF2⟩, by simp [intOf]; omega⟩
          · have t8 : ¬ (8190 : Int) < (fa.size : Int) + (fb.size : Int) := by omega
            have HL2 : Hid (false = lngB n XA.length (k + 1) XA) := hide (by rw [LS.out, ← HL.out, decide_eq_false h8]; rfl)
            go_wp2_with fail
            go_loop [12] (fun i => ∃ j : Nat, j ≤ fa.size ∧ i = .int .i64 j) (fun i => fa.size - (intOf i).toNat)
            case atStart => exact ⟨0, Nat.zero_le _, rfl⟩
            case round =>
              obtain ⟨j, hj, rfl⟩ := hrel
              by_cases hjl : j < fa.size
              · obtain ⟨nb, nc, nd⟩ := N2.out.1 fa[j] (mem_at hjl)
                have t1 : ¬ (fa[j].toNat : Int) ≤ 32 := by omega
                have t2 : ((fa[j].toNat : Int) == 58) = false := by
                  rw [show (58 : Int) = ((58 : UInt8).toNat : Int) from rfl, byte_eqI, beq_eq_false_iff_ne]
                  exact nd
                clear nb nc nd
                go_wp2
                exact ⟨⟨j + 1, by omega, by go_num⟩, by simp [intOf]; omega⟩
              · go_wp2
                exact ⟨⟨k + 1, (al ++ fa) ++ fb, false, by omega, rfl, rfl, by go_num, by rw [app_size, app_size]; omega, HA2, HL2, HT2, HF2⟩, by simp [intOf]; omega⟩
      · obtain rfl : k = XA.length := by omega
        clear hlt hk
        go_wp2_with fail
        go_loop [13] (fun i => ∃ j : Nat, j ≤ al.size ∧ i = .int .i64 j) (fun i => al.size - (intOf i).toNat)
        case atStart => exact ⟨0, Nat.zero_le _, rfl⟩
        case round =>
          obtain ⟨j, hj, rfl⟩ := hrel
          by_cases hjl : j < al.size
          · obtain ⟨t1, t2, t3⟩ := bad_of (HA.out al[j] (mem_at hjl))
            go_wp2
            exact ⟨⟨j + 1, by omega, by go_num⟩, by simp [intOf]; omega⟩
          · obtain ⟨p0, p1, p2, p3, p4, p5, p6⟩ := HT1.out.hd 0 w1.heap.size rfl rfl
            have B2 := hide (B1.out.trans (HT1.out.b.mono B1.out.size))
            have HPR := hide (print_any ⟨xr, xme, xta, xmi, xst, xre, XA⟩ (.slice ua XA.length uc) wr HF.out SK.out.hb (HT.out.below B2.out) (HM.out.below B2.out) (HE.out.below B2.out))
            have SKL : Hid (printB ⟨xr, xme, xta, xmi, xst, xre, XA⟩ = false → lngB n XA.length XA.length XA = true) := hide SK.out.long
            have SKB : Hid (printB ⟨xr, xme, xta, xmi, xst, xre, XA⟩ = true → pParse xr (textL ⟨xr, xme, xta, xmi, xst, xre, XA⟩) = (⟨xr, xme, xta, xmi, xst, xre, XA⟩, (textL ⟨xr, xme, xta, xmi, xst, xre, XA⟩).length, 0)) := hide SK.out.back
            have HTL := hide (textS_list ⟨xr, xme, xta, xmi, xst, xre, XA⟩)
            have HLN := hide (textL_len ⟨xr, xme, xta, xmi, xst, xre, XA⟩ SK.out.hb)
            unfold hiV at HPR
            dsimp only at HPR
            generalize textS ⟨xr, xme, xta, xmi, xst, xre, XA⟩ = ts at HPR HTL
            generalize textL ⟨xr, xme, xta, xmi, xst, xre, XA⟩ = tl at SKB HTL HLN
            generalize printB ⟨xr, xme, xta, xmi, xst, xre, XA⟩ = pb at HPR SKL SKB
            cases pb with
            | false =>
              have hlg : lg = true := HL.out.trans (SKL.out rfl)
              subst hlg
              rw [if_neg (by simp), if_neg (by simp)] at HPR
              go_wp2_with fail
              refine HPR.out.mono ?_
              rintro e w2 ⟨rfl, bb⟩
              have B3 := hide (B2.out.trans (bb.mono B2.out.size))
              clear bb
              go_wp2_with fail
              refine (speaks_any w2 (HT.out.below B3.out) (HM.out.below B3.out) (HE.out.below B3.out)).mono ?_
              rintro e w3 ⟨rfl, bb⟩
              have B4 := hide (B3.out.trans (bb.mono B3.out.size))
              clear bb
              go_wp2
              go_ret
              exact ⟨rfl, B4.out⟩
            | true =>
              rw [if_pos rfl, if_pos rfl] at HPR
              go_wp2_with fail
              refine HPR.out.mono ?_
              rintro e w2 ⟨rfl, bb⟩
              have HT3 := hide (HT1.out.below bb)
              have HF3 := hide (HF.out.below bb)
              have B3 := hide (B2.out.trans (bb.mono B2.out.size))
              clear bb p0 p1 p2 p3 p4 p5 p6
              obtain ⟨cap, W, hcv, hbs, hbw⟩ := conv_bs w2 ts
              have HCV := hide hcv
              have HBS := hide hbs
              have HT4 := hide (HT3.out.below hbw)
              have HF4 := hide (HF3.out.below hbw)
              have B4 := hide (B3.out.trans (hbw.mono B3.out.size))
              clear hcv hbs hbw
              have PB := hide (parse_any xr _ ts.data.toList W HBS.out (by rw [HTL.out]; have := HLN.out; omega) (HM.out.below B4.out) (HE.out.below B4.out))
              rw [HTL.out, SKB.out (by simp)] at PB
              unfold hxV at PB
              dsimp only at PB
              have hcv := HCV.out
              go_wp2_with fail
              refine PB.out.mono ?_
              rintro e w3 ⟨u5, rfl, hu5, bb⟩
              have HT5 := hide (HT4.out.below bb)
              have HF5 := hide (HF4.out.below bb)
              have B5 := hide (B4.out.trans (bb.mono B4.out.size))
              have HY5 := hide (Flds.of_row hu5)
              obtain ⟨ya, yl, yc, rfl⟩ : ∃ a n c, u5 = .slice a n c := by
                obtain ⟨a, c, h, _⟩ := hu5.shape
                exact ⟨a, _, c, h⟩
              clear hu5 bb PB hcv
              go_upto_region 26 with fail
              have V8 := hide (Bl.one w3 #[.bool xr, .string xme, .string xta, .int .i64 (xmi : Int), .int .i64 (xst : Int), .string xre, .slice ya yl yc] 25)
              have HT6 := hide (HT5.out.below V8.out.b)
              have HF6 := hide (HF5.out.below V8.out.b)
              have HY6 := hide (HY5.out.below V8.out.b)
              have B6 := hide (B5.out.trans (V8.out.b.mono B5.out.size))
              generalize (w3.alloc (.cells #[.bool xr, .string xme, .string xta, .int .i64 (xmi : Int), .int .i64 (xst : Int), .string xre, .slice ya yl yc] 25)) = q at HT6 HF6 HY6 V8 B6 ⊢
              obtain ⟨p0, p1, p2, p3, p4, p5, p6⟩ := HT6.out.hd 0 w1.heap.size rfl rfl
              obtain ⟨q0, q1, q2, q3, q4, q5, q6⟩ := V8.out.hd 0 w3.heap.size rfl rfl
              have HC := hide (plainH_any q ⟨xr, xme, xta, xmi, xst, xre, XA⟩ ⟨xr, xme, xta, xmi, xst, xre, XA⟩ (.slice ya yl yc) (.slice ua XA.length uc) HY6.out HF6.out (by show XA.length ≤ _; omega) (by show XA.length ≤ _; omega))
              rw [hiEq_iff.2 rfl] at HC
              unfold hiV at HC
              dsimp only at HC
              go_wp2_with fail
              refine HC.out.mono ?_
              rintro e w6 ⟨rfl, bb⟩
              have B7 := hide (B6.out.trans (bb.mono B6.out.size))
              clear bb HC
              go_wp2_with fail
              refine (speaks_any w6 (HT.out.below B7.out) (HM.out.below B7.out) (HE.out.below B7.out)).mono ?_
              rintro e w7 ⟨rfl, bb⟩
              have B8 := hide (B7.out.trans (bb.mono B7.out.size))
              clear bb
              go_wp2
              go_ret
              exact ⟨rfl, B8.out⟩
  · obtain ⟨hn0, hx⟩ := HNO.out h0
    try dsimp only at hn0 hx
    subst hn0
    simp only [hx0, Hx.mk.injEq] at hx
    obtain ⟨rfl, rfl, rfl, rfl, rfl, rfl, rfl⟩ := hx
    have t0 : ((er : Int) != 0) = true := bne_iff_ne.2 (by omega)
    clear HOK HNO h0
    go_enter Tryz.func6, Tryz.ntmps6
    go_wp2_with fail
    refine HP.out.mono ?_
    rintro e w1 ⟨u, rfl, hu, bb⟩
    have B1 := hide bb
    have HU1 := hide (Flds.of_row hu)
    obtain ⟨ua, ul, uc, rfl⟩ : ∃ a n c, u = .slice a n c := by
      obtain ⟨a, c, h, _⟩ := hu.shape
      exact ⟨a, _, c, h⟩
    clear hu bb HP
    go_upto_region 3 with fail
    have U2 := hide (Bl.one w1 #[.bool false, .string ⟨#[]⟩, .string ⟨#[]⟩, .int .i64 0, .int .i64 0, .string ⟨#[]⟩, .slice ua ul uc] 25)
    have HU2 := hide (HU1.out.below U2.out.b)
    have B2 := hide (B1.out.trans (U2.out.b.mono B1.out.size))
    generalize (w1.alloc (.cells #[.bool false, .string ⟨#[]⟩, .string ⟨#[]⟩, .int .i64 0, .int .i64 0, .string ⟨#[]⟩, .slice ua ul uc] 25)) = y at U2 HU2 B2 ⊢
    obtain ⟨p0, p1, p2, p3, p4, p5, p6⟩ := U2.out.hd 0 w1.heap.size rfl rfl
    have HC := hide (plainH_any y hx0.hi hx0.hi (.slice ua ul uc) (.slice none 0 0) HU2.out (flds_nil y) (by simp [hx0, Hx.hi]) (by simp [hx0, Hx.hi]))
    rw [hiEq_iff.2 rfl] at HC
    go_wp2_with fail
    refine HC.out.mono ?_
    rintro e w2 ⟨rfl, b2⟩
    have B3 := hide (B2.out.trans (b2.mono B2.out.size))
    clear b2 HC
    go_wp2_with fail
    refine (speaks_any w2 (HT.out.below B3.out) (HM.out.below B3.out) (HE.out.below B3.out)).mono ?_
    rintro e w3 ⟨rfl, b3⟩
    have B4 := hide (B3.out.trans (b3.mono B3.out.size))
    clear b3
    go_wp2
    go_ret
    exact ⟨rfl, B4.out⟩
end Go.Proofs.YtinmpmbicgokpaaGreatDoor
