/- WB: TPure THost THost2 TPart Blk ZIs ZRow Fld Bcl FNam FCheck FAll AppK FItems FGet. -/
import Derived.Test.YtacnnomkacfdbaaGreatDoorWA
import Derived.Lib.Strings
import Derived.Test.YtacnnomkacfdbaaGreatDoorLib
import Derived.Deep.QuietTactic
import Derived.BigQuiet
import Derived.Laws.AppendOwnNone
import Derived.Deep.RegionWith
import Derived.Handy
import Derived.Deep.Cut
import Derived.Maps.AppendAt
/- Hosts and ports as plain functions on bytes; what great letters change of them: no program in it. -/
namespace Go.Proofs.YtacnnomkacfdbaaGreatDoor

def plainc (marks : List UInt8) (c : UInt8) : Bool := alnum c || marks.contains c
def hx (c : UInt8) : Bool := decide (digv c < 16)
/-- Does a text begin with % and two hex digits? -/
def esc : List UInt8 → Bool
  | c :: a :: b :: _ => decide (c = 37) && (hx a && hx b)
  | _ => false
def holdsB (marks : List UInt8) : List UInt8 → Bool
  | [] => true
  | c :: r => (plainc marks c || esc (c :: r)) && holdsB marks r
def hostMarks : List UInt8 := [45, 46, 95, 126, 33, 36, 38, 39, 40, 41, 42, 43, 59, 61]
def pathMarks : List UInt8 := [45, 46, 95, 126, 33, 36, 38, 39, 40, 41, 42, 43, 44, 59, 61, 58, 64, 47]
def queryMarks : List UInt8 := [45, 46, 95, 126, 33, 36, 38, 39, 40, 41, 42, 43, 44, 59, 61, 58, 64, 47, 63]
def brc (c : UInt8) : Bool := decide (c = 58) || decide (c = 46) || hx c
def bracB (l : List UInt8) : Bool := Lib.hasSuffix (l.drop 1) [93] && ((Lib.trimSuffix (l.drop 1) [93]).all brc && !(Lib.trimSuffix (l.drop 1) [93]).isEmpty)
def hostB (l : List UInt8) : Bool := if Lib.hasPrefix l [91] then bracB l else !l.isEmpty && (decide (l.length ≤ 255) && holdsB hostMarks l)

/-! ### Ports -/
def portBad (d : List UInt8) : Bool := !decide (numE 10 d = 0) || (decide (65535 < numV 10 d) || decide (5 < d.length))
def portV (d : List UInt8) : Int := if d = [] then -1 else if portBad d then 0 else numV 10 d
def portE (d : List UInt8) : Nat := if d = [] then 0 else if portBad d then 62 else 0
theorem portV_le (d : List UInt8) : -1 ≤ portV d ∧ portV d ≤ 65535 := by
  unfold portV
  split
  · omega
  · split
    · omega
    · rename_i h
      simp only [portBad, Bool.or_eq_true, not_or, decide_eq_true_eq] at h
      omega

/-! ### Where the port begins -/
def pstep (i : Int) (a : Int × Int × Bool) (c : UInt8) : Int × Int × Bool :=
  if c = 58 then (i, a.2.1, a.2.2) else if c = 91 then (if a.2.2 then a else (a.1, a.1, true)) else if c = 93 then (if a.2.2 then (a.2.1, a.2.1, false) else a) else a
def pfold (l : List UInt8) : Nat × Int × Int × Bool := l.foldl (fun a c => (a.1 + 1, pstep (a.1 : Int) a.2 c)) (0, -1, -1, false)
def pstate (l : List UInt8) : Int × Int × Bool := (pfold l).2
theorem pfold_len (l : List UInt8) : (pfold l).1 = l.length := by
  induction l using snoc_ind with
  | h0 => rfl
  | h1 l c ih => unfold pfold at *; rw [List.foldl_append]; simp [ih]
theorem pstate_snoc (l : List UInt8) (c : UInt8) : pstate (l ++ [c]) = pstep l.length (pstate l) c := by
  have := pfold_len l
  unfold pstate pfold at *
  rw [List.foldl_append]
  simp only [List.foldl_cons, List.foldl_nil]
  rw [this]
theorem pstate_le (l : List UInt8) : (-1 ≤ (pstate l).1 ∧ (pstate l).1 < l.length) ∧ (-1 ≤ (pstate l).2.1 ∧ (pstate l).2.1 < l.length) := by
  induction l using snoc_ind with
  | h0 => simp [pstate, pfold]
  | h1 l c ih =>
    rw [pstate_snoc, List.length_append, List.length_singleton]
    unfold pstep
    split
    · simp; omega
    · split
      · split
        · omega
        · simp; omega
      · split
        · split
          · simp; omega
          · omega
        · omega

def nameOf (l : List UInt8) : List UInt8 := if (pstate l).1 < 0 then l else l.take (pstate l).1.toNat
def digsOf (l : List UInt8) : List UInt8 := if (pstate l).1 < 0 then [] else l.drop ((pstate l).1.toNat + 1)
def hostOk (l : List UInt8) : Bool := hostB (nameOf l) && decide (portE (digsOf l) = 0)
def hostH (l : List UInt8) : List UInt8 := if hostOk l then lowerB (nameOf l) else []
def hostP (l : List UInt8) : Int := if hostOk l then portV (digsOf l) else 0
def hostE (l : List UInt8) : Nat := if hostB (nameOf l) then portE (digsOf l) else 61

/-! ### Great letters -/
def upc (c : UInt8) : UInt8 := if 97 ≤ c.toNat ∧ c.toNat ≤ 122 then UInt8.ofNat (c.toNat - 32) else c
theorem upc_all : ∀ n : Fin 256, alnum (upc (UInt8.ofNat n.val)) = alnum (UInt8.ofNat n.val) ∧ digv (upc (UInt8.ofNat n.val)) = digv (UInt8.ofNat n.val) ∧ lowc (upc (UInt8.ofNat n.val)) = lowc (UInt8.ofNat n.val) ∧
    hostMarks.contains (upc (UInt8.ofNat n.val)) = hostMarks.contains (UInt8.ofNat n.val) ∧ ∀ k ∈ ([37, 46, 58, 91, 93] : List UInt8), (upc (UInt8.ofNat n.val) = k ↔ UInt8.ofNat n.val = k) := by decide +kernel
theorem upc_at (c : UInt8) : alnum (upc c) = alnum c ∧ digv (upc c) = digv c ∧ lowc (upc c) = lowc c ∧ hostMarks.contains (upc c) = hostMarks.contains c ∧ ∀ k ∈ ([37, 46, 58, 91, 93] : List UInt8), (upc c = k ↔ c = k) := by
  have := upc_all ⟨c.toNat, UInt8.toNat_lt c⟩
  simpa using this
def upB (l : List UInt8) : List UInt8 := l.map upc
theorem up_hx (c : UInt8) : hx (upc c) = hx c := by unfold hx; rw [(upc_at c).2.1]
theorem up_plain (c : UInt8) : plainc hostMarks (upc c) = plainc hostMarks c := by unfold plainc; rw [(upc_at c).1, (upc_at c).2.2.2.1]
theorem up_is (c k : UInt8) (h : k ∈ ([37, 46, 58, 91, 93] : List UInt8)) : (upc c = k) = (c = k) := propext ((upc_at c).2.2.2.2 k h)
theorem up_esc (l : List UInt8) : esc (upB l) = esc l := by
  match l with
  | [] => rfl
  | [_] => rfl
  | [_, _] => rfl
  | c :: a :: b :: r =>
    simp only [upB, List.map_cons, esc, up_hx]
    rw [decide_eq_decide.2 (by rw [up_is c 37 (by decide)])]
theorem up_holds (l : List UInt8) : holdsB hostMarks (upB l) = holdsB hostMarks l := by
  induction l with
  | nil => rfl
  | cons c r ih =>
    have e := up_esc (c :: r)
    simp only [upB, List.map_cons] at e ih ⊢
    rw [holdsB, holdsB, ih, up_plain, e]
theorem up_dec (c k : UInt8) (h : k ∈ ([37, 46, 58, 91, 93] : List UInt8)) : decide (upc c = k) = decide (c = k) := decide_eq_decide.2 (by rw [up_is c k h])
theorem up_brc (c : UInt8) : brc (upc c) = brc c := by
  unfold brc
  rw [up_hx, up_dec c 58 (by decide), up_dec c 46 (by decide)]
theorem suffix_last (l : List UInt8) (c : UInt8) : Lib.hasSuffix l [c] = decide (l.getLast? = some c) := by
  unfold Lib.hasSuffix
  rw [Bool.eq_iff_iff, List.isSuffixOf_iff_suffix, decide_eq_true_eq]
  constructor
  · rintro ⟨r, rfl⟩; simp
  · intro h
    revert h
    induction l using snoc_ind with
    | h0 => intro h; simp at h
    | h1 l a _ =>
      intro h
      simp only [List.getLast?_append, List.getLast?_singleton, Option.some_or, Option.some.injEq] at h
      subst h
      exact ⟨l, rfl⟩
theorem up_last (l : List UInt8) : (upB l).getLast? = l.getLast?.map upc := by unfold upB; rw [List.getLast?_map]
theorem up_suffix (l : List UInt8) : Lib.hasSuffix (upB l) [93] = Lib.hasSuffix l [93] := by
  rw [suffix_last, suffix_last, up_last]
  refine decide_eq_decide.2 ?_
  cases l.getLast? with
  | none => simp
  | some c => simp [up_is c 93 (by decide)]
theorem up_trim (l : List UInt8) : Lib.trimSuffix (upB l) [93] = upB (Lib.trimSuffix l [93]) := by
  unfold Lib.trimSuffix
  rw [up_suffix]
  split
  · simp [upB, List.map_take]
  · rfl
theorem up_all (l : List UInt8) : (upB l).all brc = l.all brc := by
  unfold upB
  rw [List.all_map]
  congr 1
  exact funext up_brc
theorem up_empty (l : List UInt8) : (upB l).isEmpty = l.isEmpty := by cases l <;> rfl
theorem up_len (l : List UInt8) : (upB l).length = l.length := by simp [upB]
theorem prefix_head (l : List UInt8) (c : UInt8) : Lib.hasPrefix l [c] = decide (l.head? = some c) := by
  unfold Lib.hasPrefix
  cases l with
  | nil => rfl
  | cons a r =>
    simp only [List.isPrefixOf, List.head?_cons, Option.some.injEq, Bool.and_true]
    rw [Bool.eq_iff_iff, beq_iff_eq, decide_eq_true_eq]
    exact ⟨fun h => h.symm, fun h => h.symm⟩
theorem up_prefix (l : List UInt8) : Lib.hasPrefix (upB l) [91] = Lib.hasPrefix l [91] := by
  rw [prefix_head, prefix_head]
  refine decide_eq_decide.2 ?_
  cases l with
  | nil => rfl
  | cons a r => simp [upB, up_is a 91 (by decide)]
theorem up_host (l : List UInt8) : hostB (upB l) = hostB l := by
  unfold hostB bracB
  rw [up_prefix, up_empty, up_len, up_holds]
  have : (upB l).drop 1 = upB (l.drop 1) := by simp [upB]
  rw [this, up_suffix, up_trim, up_all, up_empty]
theorem up_pstep (i : Int) (a : Int × Int × Bool) (c : UInt8) : pstep i a (upc c) = pstep i a c := by
  unfold pstep
  simp only [up_is c 58 (by decide), up_is c 91 (by decide), up_is c 93 (by decide)]
theorem up_pstate (l : List UInt8) : pstate (upB l) = pstate l := by
  induction l using snoc_ind with
  | h0 => rfl
  | h1 l c ih =>
    have : upB (l ++ [c]) = upB l ++ [upc c] := by simp [upB]
    rw [this, pstate_snoc, pstate_snoc, ih, up_len, up_pstep]
theorem up_accu (b : Nat) (l : List UInt8) : accu b (upB l) = accu b l := by
  induction l using snoc_ind with
  | h0 => rfl
  | h1 l c ih =>
    have : upB (l ++ [c]) = upB l ++ [upc c] := by simp [upB]
    rw [this, accu_snoc, accu_snoc, ih]
    unfold stp
    rw [(upc_at c).2.1]
theorem up_digs (b : Nat) (l : List UInt8) : (upB l).all (fun c => decide (digv c < b)) = l.all (fun c => decide (digv c < b)) := by
  unfold upB
  rw [List.all_map]
  congr 1
  funext c
  simp only [Function.comp, (upc_at c).2.1]
theorem up_nil (l : List UInt8) : (upB l = []) = (l = []) := by cases l <;> simp [upB]
theorem up_numV (b : Nat) (l : List UInt8) : numV b (upB l) = numV b l := by
  unfold numV
  simp only [up_nil, up_digs, up_accu]
theorem up_numE (b : Nat) (l : List UInt8) : numE b (upB l) = numE b l := by
  unfold numE
  simp only [up_nil, up_digs, up_accu]
theorem up_portBad (l : List UInt8) : portBad (upB l) = portBad l := by
  unfold portBad
  rw [up_numV, up_numE, up_len]
theorem up_portV (l : List UInt8) : portV (upB l) = portV l := by
  unfold portV
  simp only [up_nil, up_portBad, up_numV]
theorem up_portE (l : List UInt8) : portE (upB l) = portE l := by
  unfold portE
  simp only [up_nil, up_portBad]
theorem up_lower (l : List UInt8) : lowerB (upB l) = lowerB l := by
  unfold lowerB upB
  rw [List.map_map]
  congr 1
  funext c
  exact (upc_at c).2.2.1
theorem up_name (l : List UInt8) : nameOf (upB l) = upB (nameOf l) := by
  unfold nameOf
  rw [up_pstate]
  split
  · rfl
  · simp [upB, List.map_take]
theorem up_dig (l : List UInt8) : digsOf (upB l) = upB (digsOf l) := by
  unfold digsOf
  rw [up_pstate]
  split
  · rfl
  · simp [upB, List.map_drop]
theorem up_ok (l : List UInt8) : hostOk (upB l) = hostOk l := by
  unfold hostOk
  rw [up_name, up_dig, up_host, up_portE]
/-- A host's letters may be great or small. -/
theorem up_all3 (l : List UInt8) : hostH (upB l) = hostH l ∧ hostP (upB l) = hostP l ∧ hostE (upB l) = hostE l := by
  refine ⟨?_, ?_, ?_⟩
  · unfold hostH; rw [up_ok, up_name, up_lower]
  · unfold hostP; rw [up_ok, up_dig, up_portV]
  · unfold hostE; rw [up_name, up_dig, up_host, up_portE]
end Go.Proofs.YtacnnomkacfdbaaGreatDoor
/- Hosts and ports, by the program. -/
namespace Go.Proofs.YtacnnomkacfdbaaGreatDoor
open Go.ChangeShapes Go.WideShapes Go.ChangeAt Go.RowKit

theorem plain_yes {c : UInt8} {m : List UInt8} (h : alnum c = true) : true = plainc m c := by unfold plainc; rw [h]; rfl
theorem plain_no {c : UInt8} {m : List UInt8} (h : alnum c = false) : decide (0 ≤ Lib.indexByte m c) = plainc m c := by
  rw [indexByte_mem]; unfold plainc; rw [h]; rfl

set_option maxHeartbeats 400000 in
theorem plain_any (c : UInt8) (m : ByteArray) (w : World) : Calls Tryz.prog 83 #[.int .u8 (c.toNat : Int), .string m] w fun e w' => e = .returned (.bool (plainc m.data.toList c)) ∧ w = w' := by
  have hc := byte_lt c
  go_enter Tryz.func83, Tryz.ntmps83
  go_wp2_with (go_at_call 109; refine (Tryz.strings_IndexByte _ _ _).mono ?_; rintro e w' ⟨rfl, rfl⟩)
  all_goals go_ret
  all_goals first
    | exact ⟨ret_bool (plain_yes (alnum_yes (by omega))), rfl⟩
    | exact ⟨ret_bool (plain_no (alnum_no (by omega))), rfl⟩

def hexdB (l : List UInt8) : Bool := decide (numE 16 l = 0)
theorem hexd_any (s : ByteArray) (w : World) (hs : s.size ≤ maxLen) : Calls Tryz.prog 110 #[.string s] w fun e w' => e = .returned (.bool (hexdB s.data.toList)) ∧ w = w' := by
  have h := Hex_any s
  have he : hexdB s.data.toList = ((numE 16 s.data.toList : Int) == 0) := by
    unfold hexdB
    rw [Bool.eq_iff_iff, beq_iff_eq, decide_eq_true_eq]; omega
  rw [he]
  generalize (numV 16 s.data.toList : Int) = v at h
  generalize (numE 16 s.data.toList : Int) = e at h ⊢
  have H := hide h
  clear h he
  go_enter Tryz.func110, Tryz.ntmps110
  go_wp2_with (go_at_call 136; refine (H.out _ hs).mono ?_; rintro e w' ⟨rfl, rfl⟩)
  go_ret
  exact ⟨rfl, rfl⟩
theorem accu_small (l : List UInt8) (h : l.length ≤ 2) : accu 16 l ≤ top := by
  match l, h with
  | [], _ => simp [accu, top]
  | [a], _ =>
    have := digv_le a
    simp [accu, stp, top]; omega
  | [a, b], _ =>
    have h1 := digv_le a
    have h2 := digv_le b
    have e : accu 16 [a, b] = stp 16 (stp 16 0 a) b := rfl
    rw [e]
    unfold stp top
    split <;> (try split) <;> omega
theorem hexd_short (l : List UInt8) (h0 : l ≠ []) (h : l.length ≤ 2) : hexdB l = l.all hx := by
  have := accu_small l h
  have hn : ¬ top < accu 16 l := by omega
  unfold hexdB numE
  cases e : l.all hx with
  | true =>
    have e2 : (l.all fun c => decide (digv c < 16)) = true := e
    rw [e2]; simp [h0, hn]
  | false =>
    have e2 : (l.all fun c => decide (digv c < 16)) = false := e
    rw [e2]; simp
theorem hexd_one (c : UInt8) : hexdB [c] = hx c := by rw [hexd_short _ (by simp) (by simp)]; simp
theorem hexd_two (a b : UInt8) : hexdB [a, b] = (hx a && hx b) := by rw [hexd_short _ (by simp) (by simp)]; simp

theorem ext_13 (s : ByteArray) (h : 3 ≤ s.size) : (s.extract 1 3).data.toList = [s[1], s[2]] := by
  rw [ext_list]
  have h1 : s.data.toList.drop 1 = s[1] :: s.data.toList.drop 2 := by rw [List.drop_eq_getElem_cons (by simp; omega)]; rfl
  have h2 : s.data.toList.drop 2 = s[2] :: s.data.toList.drop 3 := by rw [List.drop_eq_getElem_cons (by simp; omega)]; rfl
  rw [h1, h2]
  rfl
theorem esc_yes (s : ByteArray) (h : 3 ≤ s.size) : esc s.data.toList = (decide (s[0] = 37) && (hx s[1] && hx s[2])) := by
  have h0 : s.data.toList = s[0] :: s.data.toList.drop 1 := by rw [← List.drop_zero (l := s.data.toList), List.drop_eq_getElem_cons (by simp; omega)]; rfl
  have h1 : s.data.toList.drop 1 = s[1] :: s.data.toList.drop 2 := by rw [List.drop_eq_getElem_cons (by simp; omega)]; rfl
  have h2 : s.data.toList.drop 2 = s[2] :: s.data.toList.drop 3 := by rw [List.drop_eq_getElem_cons (by simp; omega)]; rfl
  rw [h0, h1, h2]
  rfl
theorem esc_no (s : ByteArray) (h : ¬ 3 ≤ s.size) : esc s.data.toList = false := by
  have hl := size_len s
  match e : s.data.toList with
  | [] => rfl
  | [_] => rfl
  | [_, _] => rfl
  | _ :: _ :: _ :: _ => rw [e] at hl; simp at hl; omega
theorem slice_13 (s : ByteArray) (h : 3 ≤ s.size) (W : World) : (Instr.slice 9 (.string s) (some (.int .i64 1)) (some (.int .i64 3)) none).run Tryz.prog W = .ok (.string (s.extract 1 3)) W := by
  rw [run_slice_string (P := Tryz.prog) W 9 s .i64 .i64 1 3 Tryz.underlying9 (by omega) (by omega) (by omega)]
  rfl

set_option maxHeartbeats 400000 in
theorem esc_any (s : ByteArray) (w : World) (_ : s.size ≤ maxLen) : Calls Tryz.prog 84 #[.string s] w fun e w' => e = .returned (.bool (esc s.data.toList)) ∧ w = w' := by
  by_cases h3 : 3 ≤ s.size
  · have HE := hide (esc_yes s h3)
    have hb := byte_lt s[0]
    have hz := ext_size s 1 3
    have hx2 := hexd_any (s.extract 1 3)
    rw [ext_13 s h3, hexd_two] at hx2
    have hsl := slice_13 s h3
    generalize (hx s[1] && hx s[2]) = b at HE hx2
    have HX := hide hx2
    have hzz : (s.extract 1 3).size ≤ maxLen := by unfold maxLen; omega
    clear hx2 hz
    by_cases h37 : s[0].toNat = 37
    · have t : (((s[0].toNat : Int)) == 37) = true := beq_iff_eq.2 (by omega)
      have HB : Hid (esc s.data.toList = b) := hide (HE.out.trans (by rw [decide_eq_true (show s[0] = 37 from byte_is (n := 37) h37 (by decide)), Bool.true_and]))
      go_enter Tryz.func84, Tryz.ntmps84
      go_wp2_with (go_at_call 110; refine (HX.out _ hzz).mono ?_; rintro e w' ⟨rfl, rfl⟩)
      go_ret
      exact ⟨ret_bool HB.out.symm, rfl⟩
    · have t : (((s[0].toNat : Int)) == 37) = false := beq_eq_false_iff_ne.2 (by omega)
      have HB : Hid (esc s.data.toList = false) := hide (HE.out.trans (by rw [decide_eq_false (show ¬ s[0] = 37 from byte_ne (n := 37) h37 (by decide))]; rfl))
      go_enter Tryz.func84, Tryz.ntmps84
      go_wp2
      go_ret
      exact ⟨ret_bool HB.out.symm, rfl⟩
  · have HB := hide (esc_no s h3)
    have h3' : ¬ (3 : Int) ≤ (s.size : Int) := by omega
    go_enter Tryz.func84, Tryz.ntmps84
    go_wp2
    go_ret
    exact ⟨ret_bool HB.out.symm, rfl⟩

theorem holds_step (m : List UInt8) (s : ByteArray) (k : Nat) (h : k < s.size) : holdsB m (s.data.toList.drop k) = ((plainc m s[k] || esc (s.extract k s.size).data.toList) && holdsB m (s.data.toList.drop (k + 1))) := by
  rw [ext_drop, drop_cons s k h, holdsB]

set_option maxHeartbeats 400000 in
theorem holds_any (s m : ByteArray) (w : World) (hs : s.size ≤ maxLen) : Calls Tryz.prog 56 #[.string s, .string m] w fun e w' => e = .returned (.bool (holdsB m.data.toList s.data.toList)) ∧ w = w' := by
  unfold maxLen at hs
  go_enter Tryz.func56, Tryz.ntmps56
  go_wp2
  go_loop [8] (fun i => ∃ k : Nat, k ≤ s.size ∧ i = .int .i64 k ∧ Hid (holdsB m.data.toList s.data.toList = holdsB m.data.toList (s.data.toList.drop k))) (fun i => s.size - (intOf i).toNat)
  case atStart => exact ⟨0, Nat.zero_le _, rfl, hide (by rw [List.drop_zero])⟩
  case round =>
    obtain ⟨k, hk, rfl, H⟩ := hrel
    by_cases hlt : k < s.size
    · have HS := hide (H.out.trans (holds_step m.data.toList s k hlt))
      have hz := ext_size s k s.size
      have HX := hide (esc_any (s.extract k s.size))
      have hzz : (s.extract k s.size).size ≤ maxLen := by unfold maxLen; omega
      clear hz
      generalize esc (s.extract k s.size).data.toList = b at HS HX
      cases hp : plainc m.data.toList s[k] with
      | true =>
        rw [hp] at HS
        go_wp2_with (first | (go_at_call 83; refine (plain_any _ _ _).mono ?_; rintro e w' ⟨rfl, rfl⟩) | (go_at_call 84; refine (HX.out _ hzz).mono ?_; rintro e w' ⟨rfl, rfl⟩))
        exact ⟨⟨k + 1, by omega, by go_num, hide (HS.out.trans rfl)⟩, by simp [intOf]; omega⟩
      | false =>
        rw [hp] at HS
        cases b with
        | true =>
          go_wp2_with (first | (go_at_call 83; refine (plain_any _ _ _).mono ?_; rintro e w' ⟨rfl, rfl⟩) | (go_at_call 84; refine (HX.out _ hzz).mono ?_; rintro e w' ⟨rfl, rfl⟩))
          exact ⟨⟨k + 1, by omega, by go_num, hide (HS.out.trans rfl)⟩, by simp [intOf]; omega⟩
        | false =>
          go_wp2_with (first | (go_at_call 83; refine (plain_any _ _ _).mono ?_; rintro e w' ⟨rfl, rfl⟩) | (go_at_call 84; refine (HX.out _ hzz).mono ?_; rintro e w' ⟨rfl, rfl⟩))
          go_ret
          exact ⟨ret_bool (by rw [HS.out]; rfl), rfl⟩
    · have HE : Hid (holdsB m.data.toList s.data.toList = true) := hide (H.out.trans (by rw [drop_end s k (by omega)]; rfl))
      go_wp2
      go_ret
      exact ⟨ret_bool HE.out.symm, rfl⟩
end Go.Proofs.YtacnnomkacfdbaaGreatDoor
/- A host with a port, by the program. -/
namespace Go.Proofs.YtacnnomkacfdbaaGreatDoor
open Go.ChangeShapes Go.WideShapes Go.ChangeAt Go.RowKit

theorem bytes_ext {a b : ByteArray} (h : a.data.toList = b.data.toList) : a = b := by
  cases a; cases b
  simp only [ByteArray.mk.injEq]
  exact Array.toList_inj.1 h
set_option maxHeartbeats 1000000 in
theorem brac_any (s : ByteArray) (w : World) (h0 : 0 < s.size) (hs : s.size ≤ maxLen) : Calls Tryz.prog 86 #[.string s] w fun e w' => e = .returned (.bool (bracB s.data.toList)) ∧ w = w' := by
  have hz := ext_size s 1 s.size
  have hC := Tryz.strings_CutSuffix (s.extract 1 s.size) ⟨#[93]⟩
  have hle : (Lib.trimSuffix (s.data.toList.drop 1) [93]).length ≤ s.size := by
    have : (Lib.trimSuffix (s.data.toList.drop 1) [93]).length ≤ (s.data.toList.drop 1).length := by
      unfold Lib.trimSuffix
      split
      · rw [List.length_take]; omega
      · exact Nat.le_refl _
    rw [List.length_drop, size_len] at this
    omega
  have HB : Hid (bracB s.data.toList = (Lib.hasSuffix (s.data.toList.drop 1) [93] && ((Lib.trimSuffix (s.data.toList.drop 1) [93]).all brc && !(Lib.trimSuffix (s.data.toList.drop 1) [93]).isEmpty))) := hide rfl
  rw [ext_drop] at hC
  rw [show (⟨#[93]⟩ : ByteArray).data.toList = [93] from rfl] at hC
  generalize Lib.hasSuffix (s.data.toList.drop 1) [93] = cl at hC HB
  obtain ⟨t, ht⟩ : ∃ t : ByteArray, t = ⟨(Lib.trimSuffix (s.data.toList.drop 1) [93]).toArray⟩ := ⟨_, rfl⟩
  have htl : t.data.toList = Lib.trimSuffix (s.data.toList.drop 1) [93] := by rw [ht]
  rw [← ht] at hC
  rw [← htl] at HB hle
  rw [size_len] at hle
  clear ht htl
  have HC := hide hC
  clear hC
  have hzz : (s.extract 1 s.size).size ≤ 9223372036854775807 := by unfold maxLen at hs; omega
  clear hz
  unfold maxLen at hs
  go_enter Tryz.func86, Tryz.ntmps86
  go_wp2_with (go_at_call 111; refine (HC.out _ hzz).mono ?_; rintro e w' ⟨rfl, rfl⟩)
  go_loop [15] (fun i => ∃ k : Nat, k ≤ t.size ∧ i = .int .i64 k ∧ Hid ((t.data.toList.take k).all brc = true)) (fun i => t.size - (intOf i).toNat)
  case atStart => exact ⟨0, Nat.zero_le _, rfl, by simp [Hid]⟩
  case round =>
    obtain ⟨k, hk, rfl, H⟩ := hrel
    by_cases hlt : k < t.size
    · have hb := byte_lt t[k]
      have hsl := slice_one t k hlt
      have hez := ext_one_size t k hlt
      have HX := hexd_any (t.extract k (k + 1))
      rw [ext_one t k hlt, hexd_one] at HX
      have HX2 := hide HX
      clear HX
      have hzm : (t.extract k (k + 1)).size ≤ maxLen := by unfold maxLen; omega
      have HY : brc t[k] = true → Hid ((t.data.toList.take (k + 1)).all brc = true) := fun hq => hide (by rw [all_snoc brc t k hlt, H.out, hq]; rfl)
      have HN : brc t[k] = false → Hid (bracB s.data.toList = false) := fun hq => hide (by rw [HB.out, all_no brc t k hlt hq]; simp)
      by_cases h58 : t[k].toNat = 58
      · have t58 : (((t[k].toNat : Int)) != 58) = false := by rw [bne_eq_false_iff_eq]; omega
        have HQ := HY (by unfold brc; rw [decide_eq_true (show t[k] = 58 from byte_is (n := 58) h58 (by decide))]; rfl)
        clear HY HN
        go_wp2
        exact ⟨⟨k + 1, by omega, by go_num, HQ⟩, by simp [intOf]; omega⟩
      · have t58 : (((t[k].toNat : Int)) != 58) = true := by rw [bne_iff_ne]; omega
        by_cases h46 : t[k].toNat = 46
        · have t46 : (((t[k].toNat : Int)) != 46) = false := by rw [bne_eq_false_iff_eq]; omega
          have HQ := HY (by unfold brc; rw [decide_eq_true (show t[k] = 46 from byte_is (n := 46) h46 (by decide))]; simp)
          clear HY HN
          go_wp2
          exact ⟨⟨k + 1, by omega, by go_num, HQ⟩, by simp [intOf]; omega⟩
        · have t46 : (((t[k].toNat : Int)) != 46) = true := by rw [bne_iff_ne]; omega
          have hbr : brc t[k] = hx t[k] := by
            unfold brc
            rw [decide_eq_false (show ¬ t[k] = 58 from byte_ne (n := 58) h58 (by decide)), decide_eq_false (show ¬ t[k] = 46 from byte_ne (n := 46) h46 (by decide))]
            rfl
          cases hh : hx t[k] with
          | true =>
            have HQ := HY (hbr.trans hh)
            rw [hh] at HX2
            clear HY HN hbr hh
            go_wp2_with (go_at_call 110; refine (HX2.out _ hzm).mono ?_; rintro e w' ⟨rfl, rfl⟩)
            exact ⟨⟨k + 1, by omega, by go_num, HQ⟩, by simp [intOf]; omega⟩
          | false =>
            have HQ := HN (hbr.trans hh)
            rw [hh] at HX2
            clear HY HN hbr hh
            go_wp2_with (go_at_call 110; refine (HX2.out _ hzm).mono ?_; rintro e w' ⟨rfl, rfl⟩)
            go_ret
            exact ⟨ret_bool HQ.out.symm, rfl⟩
    · have HE : Hid (bracB s.data.toList = (cl && !t.toList.isEmpty)) := hide (by
        have := H.out
        rw [take_all t k (by omega)] at this
        rw [HB.out, this, Lib.toList_data]
        rfl)
      cases cl with
      | true =>
        go_wp2
        go_ret
        exact ⟨ret_bool (by rw [HE.out]; rfl), rfl⟩
      | false =>
        go_wp2
        go_ret
        exact ⟨ret_bool (by rw [HE.out]; rfl), rfl⟩

set_option maxHeartbeats 400000 in
theorem ishost_any (s : ByteArray) (w : World) (hs : s.size ≤ maxLen) : Calls Tryz.prog 60 #[.string s] w fun e w' => e = .returned (.bool (hostB s.data.toList)) ∧ w = w' := by
  have hP := Tryz.strings_HasPrefix s ⟨#[91]⟩
  rw [show (⟨#[91]⟩ : ByteArray).data.toList = [91] from rfl] at hP
  cases hh : Lib.hasPrefix s.data.toList [91] with
  | true =>
    have h0 : 0 < s.size := by
      rw [prefix_head] at hh
      have := of_decide_eq_true hh
      rw [← size_len]
      cases e : s.data.toList with
      | nil => rw [e] at this; cases this
      | cons _ _ => simp
    have HB := brac_any s
    have e : hostB s.data.toList = bracB s.data.toList := by unfold hostB; rw [hh]; rfl
    rw [e]
    generalize bracB s.data.toList = b at HB ⊢
    rw [hh] at hP
    have HP := hide hP
    have HB2 := hide HB
    clear hP HB hh e
    go_enter Tryz.func60, Tryz.ntmps60
    go_wp2_with (first | (go_at_call 41; refine (HP.out _).mono ?_; rintro e w' ⟨rfl, rfl⟩) | (go_at_call 86; refine (HB2.out _ h0 hs).mono ?_; rintro e w' ⟨rfl, rfl⟩))
    go_ret
    exact ⟨rfl, rfl⟩
  | false =>
    have HH := holds_any s ⟨#[45, 46, 95, 126, 33, 36, 38, 39, 40, 41, 42, 43, 59, 61]⟩
    have e : hostB s.data.toList = (!decide (s.size = 0) && (decide (s.size ≤ 255) && holdsB hostMarks s.data.toList)) := by
      unfold hostB
      rw [hh, isEmpty_size, size_len]
      rfl
    have e2 : (⟨#[45, 46, 95, 126, 33, 36, 38, 39, 40, 41, 42, 43, 59, 61]⟩ : ByteArray).data.toList = hostMarks := rfl
    rw [e2] at HH
    rw [e]
    generalize holdsB hostMarks s.data.toList = b at HH ⊢
    rw [hh] at hP
    have HP := hide hP
    have HH2 := hide HH
    clear hP HH hh e e2
    by_cases h0 : s.size = 0
    · have he : s.toList.isEmpty = true := by rw [Lib.toList_data, isEmpty_size]; exact decide_eq_true h0
      have H0 := hide h0
      clear h0
      go_enter Tryz.func60, Tryz.ntmps60
      go_wp2_with (go_at_call 41; refine (HP.out _).mono ?_; rintro e w' ⟨rfl, rfl⟩)
      go_ret
      exact ⟨ret_bool (by rw [decide_eq_true H0.out]; rfl), rfl⟩
    · have he : s.toList.isEmpty = false := by rw [Lib.toList_data, isEmpty_size]; exact decide_eq_false h0
      by_cases h2 : s.size ≤ 255
      · have h2' : (s.size : Int) ≤ 255 := by omega
        go_enter Tryz.func60, Tryz.ntmps60
        go_wp2_with (first | (go_at_call 41; refine (HP.out _).mono ?_; rintro e w' ⟨rfl, rfl⟩) | (go_at_call 56; refine (HH2.out _ hs).mono ?_; rintro e w' ⟨rfl, rfl⟩))
        go_ret
        exact ⟨ret_bool (by rw [decide_eq_false h0, decide_eq_true h2]; rfl), rfl⟩
      · have h2' : ¬ (s.size : Int) ≤ 255 := by omega
        go_enter Tryz.func60, Tryz.ntmps60
        go_wp2_with (go_at_call 41; refine (HP.out _).mono ?_; rintro e w' ⟨rfl, rfl⟩)
        go_ret
        exact ⟨ret_bool (by first | rfl | (rw [decide_eq_false h0, decide_eq_false h2]; rfl)), rfl⟩

theorem port_nil : portV [] = -1 ∧ portE [] = 0 := ⟨rfl, rfl⟩
theorem port_bad {d : List UInt8} (h0 : d ≠ []) (h : portBad d = true) : portV d = 0 ∧ portE d = 62 := by
  unfold portV portE; rw [if_neg h0, if_neg h0, h]; exact ⟨rfl, rfl⟩
theorem port_ok {d : List UInt8} (h0 : d ≠ []) (h : portBad d = false) : portV d = numV 10 d ∧ portE d = 0 := by
  unfold portV portE; rw [if_neg h0, if_neg h0, h]; exact ⟨rfl, rfl⟩
theorem ret2i {a b c : Int} {n : Nat} (h : c = a ∧ (n : Int) = b) : Ending.returned (.tuple #[.int .i64 a, .int .i64 b]) = .returned (.tuple #[.int .i64 c, .int .i64 (n : Int)]) := by
  rw [h.1, h.2]

set_option maxHeartbeats 400000 in
theorem port_any (s : ByteArray) (w : World) (hs : s.size ≤ maxLen) : Calls Tryz.prog 61 #[.string s] w fun e w' => e = .returned (.tuple #[.int .i64 (portV s.data.toList), .int .i64 (portE s.data.toList : Nat)]) ∧ w = w' := by
  by_cases h0 : s.size = 0
  · have he : s.toList.isEmpty = true := by rw [Lib.toList_data, isEmpty_size]; exact decide_eq_true h0
    have hn := nil_list s (by omega)
    rw [hn]
    go_enter Tryz.func61, Tryz.ntmps61
    go_wp2
    go_ret2
    exact ⟨rfl, rfl⟩
  · have he : s.toList.isEmpty = false := by rw [Lib.toList_data, isEmpty_size]; exact decide_eq_false h0
    have hn : s.data.toList ≠ [] := fun e => by have := size_len s; rw [e] at this; simp at this; omega
    have hN := Number_any s
    have hb : portBad s.data.toList = (!decide (numE 10 s.data.toList = 0) || (decide (65535 < numV 10 s.data.toList) || decide (5 < s.size))) := by unfold portBad; rw [size_len]
    have HY := hide (fun h => port_ok hn h)
    have HN := hide (fun h => port_bad hn h)
    generalize portV s.data.toList = pv at HY HN ⊢
    generalize portE s.data.toList = pe at HY HN ⊢
    rw [hb] at HY HN
    generalize numV 10 s.data.toList = v at hN HY HN
    generalize numE 10 s.data.toList = ee at hN HY HN
    have HNum := hide hN
    clear hN hb hn
    by_cases h1 : ee = 0
    · have t1 : ((ee : Int) != 0) = false := by rw [bne_eq_false_iff_eq]; omega
      by_cases h2 : 65535 < v
      · have h2' : (65535 : Int) < (v : Int) := by omega
        have HR := hide (HN.out (by rw [decide_eq_true h2]; simp))
        clear HN HY
        go_enter Tryz.func61, Tryz.ntmps61
        go_wp2_with (go_at_call 87; refine (HNum.out _ hs).mono ?_; rintro e w' ⟨rfl, rfl⟩)
        go_ret2
        exact ⟨ret2i ⟨HR.out.1, by rw [HR.out.2]; rfl⟩, rfl⟩
      · have h2' : ¬ (65535 : Int) < (v : Int) := by omega
        by_cases h3 : 5 < s.size
        · have h3' : (5 : Int) < (s.size : Int) := by omega
          have HR := hide (HN.out (by rw [decide_eq_true h3]; simp))
          clear HN HY
          go_enter Tryz.func61, Tryz.ntmps61
          go_wp2_with (go_at_call 87; refine (HNum.out _ hs).mono ?_; rintro e w' ⟨rfl, rfl⟩)
          go_ret2
          exact ⟨ret2i ⟨HR.out.1, by rw [HR.out.2]; rfl⟩, rfl⟩
        · have h3' : ¬ (5 : Int) < (s.size : Int) := by omega
          have HR := hide (HY.out (by rw [decide_eq_true h1, decide_eq_false h2, decide_eq_false h3]; rfl))
          clear HN HY
          go_enter Tryz.func61, Tryz.ntmps61
          go_wp2_with (go_at_call 87; refine (HNum.out _ hs).mono ?_; rintro e w' ⟨rfl, rfl⟩)
          go_ret2
          exact ⟨ret2i ⟨HR.out.1, by rw [HR.out.2]; rfl⟩, rfl⟩
    · have t1 : ((ee : Int) != 0) = true := by rw [bne_iff_ne]; omega
      have HR := hide (HN.out (by rw [decide_eq_false h1]; simp))
      clear HN HY
      go_enter Tryz.func61, Tryz.ntmps61
      go_wp2_with (go_at_call 87; refine (HNum.out _ hs).mono ?_; rintro e w' ⟨rfl, rfl⟩)
      go_ret2
      exact ⟨ret2i ⟨HR.out.1, by rw [HR.out.2]; rfl⟩, rfl⟩
end Go.Proofs.YtacnnomkacfdbaaGreatDoor
/- Where a host's port begins; hosts with ports, whole. -/
namespace Go.Proofs.YtacnnomkacfdbaaGreatDoor
open Go.ChangeShapes Go.WideShapes Go.ChangeAt Go.RowKit

theorem pst_snoc (s : ByteArray) (k : Nat) (h : k < s.size) : pstate (s.data.toList.take (k + 1)) = pstep k (pstate (s.data.toList.take k)) s[k] := by
  rw [take_snoc s k h, pstate_snoc, List.length_take, size_len, Nat.min_eq_left (by omega)]
theorem pst_le (s : ByteArray) (k : Nat) : (-1 ≤ (pstate (s.data.toList.take k)).1 ∧ (pstate (s.data.toList.take k)).1 < s.size) ∧ (-1 ≤ (pstate (s.data.toList.take k)).2.1 ∧ (pstate (s.data.toList.take k)).2.1 < s.size) := by
  have := pstate_le (s.data.toList.take k)
  rw [List.length_take, size_len] at this
  omega
def nameS (s : ByteArray) : ByteArray := sS (nameOf s.data.toList)
def digsS (s : ByteArray) : ByteArray := sS (digsOf s.data.toList)
theorem parts_none {s : ByteArray} (h : (pstate s.data.toList).1 < 0) : nameS s = s ∧ digsS s = ⟨#[]⟩ := by
  constructor
  · apply bytes_ext
    unfold nameS nameOf
    rw [sS_list, if_pos h]
  · unfold digsS digsOf
    rw [if_pos h]
    rfl
theorem parts_some {s : ByteArray} {k : Nat} (h : (pstate s.data.toList).1 = k) : nameS s = s.extract 0 k ∧ digsS s = s.extract (k + 1) s.size := by
  constructor
  · apply bytes_ext
    unfold nameS nameOf
    rw [sS_list, h, if_neg (by omega), ext_take]
    rfl
  · apply bytes_ext
    unfold digsS digsOf
    rw [sS_list, h, if_neg (by omega), ext_drop]
    rfl
theorem ret2ss {a b c d : ByteArray} (h : c = a ∧ d = b) : Ending.returned (.tuple #[.string a, .string b]) = .returned (.tuple #[.string c, .string d]) := by
  rw [h.1, h.2]

set_option maxHeartbeats 1000000 in
theorem parted_any (s : ByteArray) (w : World) (hs : s.size ≤ 4611686018427387904) : Calls Tryz.prog 59 #[.string s] w fun e w' => e = .returned (.tuple #[.string (nameS s), .string (digsS s)]) ∧ Below w.heap.size w w' := by
  go_enter Tryz.func59, Tryz.ntmps59
  go_wp2
  go_loop [4, 5, 6, 10] (fun l o b i => ∃ (k : Nat) (x y : Int) (z : Bool), l = .int .i64 x ∧ o = .int .i64 y ∧ b = .bool z ∧ i = .int .i64 k ∧ k ≤ s.size ∧ -1 ≤ x ∧ x < s.size ∧ -1 ≤ y ∧ y < s.size ∧ Hid (pstate (s.data.toList.take k) = (x, y, z))) (fun _ _ _ i => s.size - (intOf i).toNat)
  case atStart => exact ⟨0, -1, -1, false, rfl, rfl, rfl, rfl, Nat.zero_le _, by omega, by omega, by omega, by omega, hide rfl⟩
  case round =>
    obtain ⟨k, x, y, z, rfl, rfl, rfl, rfl, hk, hx0, hx1, hy0, hy1, H⟩ := hrel
    by_cases hlt : k < s.size
    · have hb := byte_lt s[k]
      have HS := hide (pst_snoc s k hlt)
      rw [H.out] at HS
      by_cases h58 : s[k].toNat = 58
      · have t58 : (((s[k].toNat : Int)) == 58) = true := beq_iff_eq.2 (by omega)
        have HF : Hid (pstate (s.data.toList.take (k + 1)) = ((k : Int), y, z)) := hide (by rw [HS.out]; unfold pstep; rw [if_pos (show s[k] = 58 from byte_is (n := 58) h58 (by decide))])
        go_wp2
        exact ⟨⟨k + 1, k, y, z, rfl, rfl, rfl, by go_num, by omega, by omega, by omega, hy0, hy1, HF⟩, by simp [intOf]; omega⟩
      · have t58 : (((s[k].toNat : Int)) == 58) = false := beq_eq_false_iff_ne.2 (by omega)
        have n58 : ¬ s[k] = 58 := byte_ne (n := 58) h58 (by decide)
        have N58 := hide n58
        clear n58
        by_cases h91 : s[k].toNat = 91
        · have t91 : (((s[k].toNat : Int)) == 91) = true := beq_iff_eq.2 (by omega)
          have E91 : Hid (s[k] = 91) := hide (byte_is (n := 91) h91 (by decide))
          cases z with
          | true =>
            have HF : Hid (pstate (s.data.toList.take (k + 1)) = (x, y, true)) := hide (by rw [HS.out]; unfold pstep; rw [if_neg N58.out, if_pos E91.out]; rfl)
            go_wp2
            exact ⟨⟨k + 1, x, y, true, rfl, rfl, rfl, by go_num, by omega, hx0, hx1, hy0, hy1, HF⟩, by simp [intOf]; omega⟩
          | false =>
            have HF : Hid (pstate (s.data.toList.take (k + 1)) = (x, x, true)) := hide (by rw [HS.out]; unfold pstep; rw [if_neg N58.out, if_pos E91.out]; rfl)
            go_wp2
            exact ⟨⟨k + 1, x, x, true, rfl, rfl, rfl, by go_num, by omega, hx0, hx1, hx0, hx1, HF⟩, by simp [intOf]; omega⟩
        · have t91 : (((s[k].toNat : Int)) == 91) = false := beq_eq_false_iff_ne.2 (by omega)
          have N91 : Hid (¬ s[k] = 91) := hide (byte_ne (n := 91) h91 (by decide))
          by_cases h93 : s[k].toNat = 93
          · have t93 : (((s[k].toNat : Int)) == 93) = true := beq_iff_eq.2 (by omega)
            have E93 : Hid (s[k] = 93) := hide (byte_is (n := 93) h93 (by decide))
            cases z with
            | true =>
              have HF : Hid (pstate (s.data.toList.take (k + 1)) = (y, y, false)) := hide (by rw [HS.out]; unfold pstep; rw [if_neg N58.out, if_neg N91.out, if_pos E93.out]; rfl)
              go_wp2
              exact ⟨⟨k + 1, y, y, false, rfl, rfl, rfl, by go_num, by omega, hy0, hy1, hy0, hy1, HF⟩, by simp [intOf]; omega⟩
            | false =>
              have HF : Hid (pstate (s.data.toList.take (k + 1)) = (x, y, false)) := hide (by rw [HS.out]; unfold pstep; rw [if_neg N58.out, if_neg N91.out, if_pos E93.out]; rfl)
              go_wp2
              exact ⟨⟨k + 1, x, y, false, rfl, rfl, rfl, by go_num, by omega, hx0, hx1, hy0, hy1, HF⟩, by simp [intOf]; omega⟩
          · have t93 : (((s[k].toNat : Int)) == 93) = false := beq_eq_false_iff_ne.2 (by omega)
            have HF : Hid (pstate (s.data.toList.take (k + 1)) = (x, y, z)) := hide (by rw [HS.out]; unfold pstep; rw [if_neg N58.out, if_neg N91.out, if_neg (show ¬ s[k] = 93 from byte_ne (n := 93) h93 (by decide))])
            go_wp2
            exact ⟨⟨k + 1, x, y, z, rfl, rfl, rfl, by go_num, by omega, hx0, hx1, hy0, hy1, HF⟩, by simp [intOf]; omega⟩
    · have HE : Hid ((pstate s.data.toList).1 = x) := hide (by have := H.out; rw [take_all s k (by omega)] at this; rw [this])
      by_cases hneg : x < 0
      · have HP := hide (parts_none (s := s) (by rw [HE.out]; exact hneg))
        go_wp2
        go_ret2
        exact ⟨ret2ss ⟨HP.out.1, HP.out.2⟩, Below.refl _ _⟩
      · obtain ⟨m, rfl⟩ := Int.eq_ofNat_of_zero_le (show 0 ≤ x by omega)
        have HP := hide (parts_some HE.out)
        go_wp2
        go_quiet (fail)
        go_wp2
        go_ret2
        exact ⟨ret2ss ⟨HP.out.1, HP.out.2⟩, ⟨rfl, rfl, rfl, Nat.le_refl _, fun _ _ => rfl⟩⟩

/-! ### Whole -/
def hostS (s : ByteArray) : ByteArray := sS (hostH s.data.toList)
theorem host_no {s : ByteArray} (h : hostB (nameOf s.data.toList) = false) : hostS s = ⟨#[]⟩ ∧ hostP s.data.toList = 0 ∧ hostE s.data.toList = 61 := by
  unfold hostS hostH hostP hostE hostOk
  rw [h]
  exact ⟨rfl, rfl, rfl⟩
theorem host_bad {s : ByteArray} (h : hostB (nameOf s.data.toList) = true) (h2 : portE (digsOf s.data.toList) ≠ 0) : hostS s = ⟨#[]⟩ ∧ hostP s.data.toList = 0 ∧ hostE s.data.toList = portE (digsOf s.data.toList) := by
  unfold hostS hostH hostP hostE hostOk
  rw [h, decide_eq_false h2]
  exact ⟨rfl, rfl, rfl⟩
theorem host_yes {s : ByteArray} (h : hostB (nameOf s.data.toList) = true) (h2 : portE (digsOf s.data.toList) = 0) : hostS s = lowS (nameS s) ∧ hostP s.data.toList = portV (digsOf s.data.toList) ∧ hostE s.data.toList = 0 := by
  unfold hostS hostH hostP hostE hostOk
  rw [h, h2]
  refine ⟨?_, rfl, rfl⟩
  unfold lowS nameS
  rw [sS_list]
  rfl
theorem ret3 {a c : ByteArray} {b d : Int} {x : Int} {n : Nat} (h : c = a ∧ d = b ∧ (n : Int) = x) : Ending.returned (.tuple #[.string a, .int .i64 b, .int .i64 x]) = .returned (.tuple #[.string c, .int .i64 d, .int .i64 (n : Int)]) := by
  rw [h.1, h.2.1, h.2.2]
theorem name_size (s : ByteArray) : (nameS s).size ≤ s.size := by
  unfold nameS nameOf
  rw [sS_size]
  split
  · rw [size_len]; exact Nat.le_refl _
  · rw [List.length_take, size_len]; omega
theorem digs_size (s : ByteArray) : (digsS s).size ≤ s.size := by
  unfold digsS digsOf
  rw [sS_size]
  split
  · simp
  · rw [List.length_drop, size_len]; omega

set_option maxHeartbeats 1000000 in
theorem host_any (s : ByteArray) (w : World) (hs : s.size ≤ 140737488355328) : Calls Tryz.prog 32 #[.string s] w fun e w' => e = .returned (.tuple #[.string (hostS s), .int .i64 (hostP s.data.toList), .int .i64 (hostE s.data.toList : Nat)]) ∧ Below w.heap.size w w' := by
  have hnz := name_size s
  have hdz := digs_size s
  have hP := parted_any s
  have hH := ishost_any (nameS s)
  have hQ := port_any (digsS s)
  have hL := lower_any (nameS s)
  have HN := hide (host_no (s := s))
  have HB := hide (host_bad (s := s))
  have HY := hide (host_yes (s := s))
  have e1 : (nameS s).data.toList = nameOf s.data.toList := sS_list _
  have e2 : (digsS s).data.toList = digsOf s.data.toList := sS_list _
  rw [e1] at hH
  rw [e2] at hQ
  generalize lowS (nameS s) = low at hL HY
  generalize hostS s = r1 at HN HB HY ⊢
  generalize hostP s.data.toList = r2 at HN HB HY ⊢
  generalize hostE s.data.toList = r3 at HN HB HY ⊢
  generalize hostB (nameOf s.data.toList) = b at hH HN HB HY
  generalize portV (digsOf s.data.toList) = pv at hQ HY
  generalize portE (digsOf s.data.toList) = pe at hQ HB HY
  clear e1 e2
  generalize nameS s = nm at hP hH hL hnz
  generalize digsS s = dg at hP hQ hdz
  have hnm : nm.size ≤ maxLen := by unfold maxLen; omega
  have hdg : dg.size ≤ maxLen := by unfold maxLen; omega
  have HPP := hide hP
  have HHH := hide hH
  have HQQ := hide hQ
  have HLL := hide hL
  clear hP hH hQ hL
  go_enter Tryz.func32, Tryz.ntmps32
  go_wp2_with fail
  refine (HPP.out _ (by omega)).mono ?_
  rintro e w1 ⟨rfl, b1⟩
  have B1 := hide b1
  clear b1
  cases b with
  | false =>
    have HR := hide (HN.out rfl)
    go_wp2_with (go_at_call 60; refine (HHH.out _ hnm).mono ?_; rintro e w' ⟨rfl, rfl⟩)
    go_ret3
    exact ⟨ret3 ⟨HR.out.1, HR.out.2.1, by rw [HR.out.2.2]; rfl⟩, B1.out⟩
  | true =>
    by_cases hp : pe = 0
    · have HR := hide (HY.out rfl hp)
      have t : ((pe : Int) != 0) = false := by rw [bne_eq_false_iff_eq]; omega
      clear HN HB HY
      go_wp2_with (first | (go_at_call 60; refine (HHH.out _ hnm).mono ?_; rintro e w' ⟨rfl, rfl⟩) | (go_at_call 61; refine (HQQ.out _ hdg).mono ?_; rintro e w' ⟨rfl, rfl⟩) | (go_at_call 62; refine (HLL.out _ hnm).mono ?_; rintro e w2 ⟨rfl, b2⟩))
      go_ret3
      exact ⟨ret3 ⟨HR.out.1, HR.out.2.1, by rw [HR.out.2.2]; rfl⟩, B1.out.trans (b2.mono B1.out.size)⟩
    · have HR := hide (HB.out rfl hp)
      have t : ((pe : Int) != 0) = true := by rw [bne_iff_ne]; omega
      clear HN HB HY
      go_wp2_with (first | (go_at_call 60; refine (HHH.out _ hnm).mono ?_; rintro e w' ⟨rfl, rfl⟩) | (go_at_call 61; refine (HQQ.out _ hdg).mono ?_; rintro e w' ⟨rfl, rfl⟩))
      go_ret3
      exact ⟨ret3 ⟨HR.out.1, HR.out.2.1, by rw [HR.out.2.2]⟩, B1.out⟩
end Go.Proofs.YtacnnomkacfdbaaGreatDoor
/- Blocks of a call's own, each by what it holds. -/
namespace Go.Proofs.YtacnnomkacfdbaaGreatDoor
open Go.ChangeShapes Go.WideShapes Go.ChangeAt Go.RowKit

/-- The blocks behind those of w, as many as L has, hold what L says; those of w are as they were. -/
structure Bl (w x : World) (L : List (Array Value × TypeId)) : Prop where
  hp : ∀ i c t, L[i]? = some (c, t) → x.heap[w.heap.size + i]? = some (.cells c t)
  b : Below w.heap.size w x
theorem Bl.nil (w : World) : Bl w w [] := ⟨fun i c t h => by simp at h, Below.refl _ w⟩
theorem Bl.add {w x : World} {L : List (Array Value × TypeId)} (h : Bl w x L) (hs : x.heap.size = w.heap.size + L.length) (c : Array Value) (t : TypeId) : Bl w (x.alloc (.cells c t)) (L ++ [(c, t)]) := by
  refine ⟨fun i c' t' hi => ?_, h.b.alloc (by omega) _⟩
  by_cases hl : i < L.length
  · rw [List.getElem?_append_left hl] at hi
    rw [Below.heap_alloc _ _ _ (by omega)]
    exact h.hp i c' t' hi
  · have hi2 : i = L.length := by
      have := (List.getElem?_eq_some_iff.1 hi).1
      simp at this
      omega
    subst hi2
    simp at hi
    obtain ⟨rfl, rfl⟩ := hi
    rw [← hs]
    exact hp_new _ _
theorem Bl.one (w : World) (c : Array Value) (t : TypeId) : Bl w (w.alloc (.cells c t)) [(c, t)] := (Bl.nil w).add rfl c t
theorem Bl.two (w : World) (c : Array Value) (t : TypeId) (c1 : Array Value) (t1 : TypeId) : Bl w ((w.alloc (.cells c t)).alloc (.cells c1 t1)) [(c, t), (c1, t1)] := (Bl.one w c t).add (by simp) c1 t1
theorem Bl.three (w : World) (c : Array Value) (t : TypeId) (c1 : Array Value) (t1 : TypeId) (c2 : Array Value) (t2 : TypeId) : Bl w (((w.alloc (.cells c t)).alloc (.cells c1 t1)).alloc (.cells c2 t2)) [(c, t), (c1, t1), (c2, t2)] := (Bl.two w c t c1 t1).add (by simp) c2 t2
theorem blk_lt {x : World} {b : Nat} {o : Obj} (h : x.heap[b]? = some o) : b < x.heap.size := (Array.getElem?_eq_some_iff.1 h).1
theorem Bl.below {w x y : World} {L : List (Array Value × TypeId)} (h : Bl w x L) (hb : Below x.heap.size x y) : Bl w y L :=
  ⟨fun i c t hi => (hb.block _ (blk_lt (h.hp i c t hi))).trans (h.hp i c t hi), h.b.trans (hb.mono h.b.size)⟩
theorem Bl.drew {w x : World} {L : List (Array Value × TypeId)} (h : Bl w x L) : Bl w x.drew L := h.below (Below.refl _ x).drew
theorem Bl.cell {w x : World} {L : List (Array Value × TypeId)} (h : Bl w x L) (i : Nat) {c : Array Value} {t : TypeId} (hi : L[i]? = some (c, t)) (j : Nat) : x.cell? ⟨w.heap.size + i, j, none⟩ = c[j]? := cell_at (h.hp i c t hi) j
theorem Bl.fr {w x : World} {L : List (Array Value × TypeId)} (h : Bl w x L) (i : Nat) {c : Array Value} {t : TypeId} (hi : L[i]? = some (c, t)) (j : Nat) : x.frozen? ⟨w.heap.size + i, j, none⟩ = false := by
  rw [frozen_at (h.hp i c t hi)]; simp
theorem Bl.set {w x : World} {L : List (Array Value × TypeId)} (h : Bl w x L) (i : Nat) {c : Array Value} {t : TypeId} (hi : L[i]? = some (c, t)) (j : Nat) (v : Value) : Bl w (x.setCell ⟨w.heap.size + i, j, none⟩ v) (L.set i (c.setIfInBounds j v, t)) := by
  have hlen := (List.getElem?_eq_some_iff.1 hi).1
  refine ⟨fun k c' t' hk => ?_, h.b.setCell (by simp) _⟩
  by_cases hki : k = i
  · subst hki
    rw [List.getElem?_set_self hlen] at hk
    simp only [Option.some.injEq, Prod.mk.injEq] at hk
    obtain ⟨rfl, rfl⟩ := hk
    exact hp_set (h.hp k c t hi) j v
  · rw [List.getElem?_set_ne (fun e => hki e.symm)] at hk
    rw [Below.heap_setCell _ _ _ _ (by simp; omega)]
    exact h.hp k c' t' hk
end Go.Proofs.YtacnnomkacfdbaaGreatDoor
/- Config: whether a number is one of a range, whether a text is a host: the program's. -/
namespace Go.Proofs.YtacnnomkacfdbaaGreatDoor
open Go.ChangeShapes Go.WideShapes Go.ChangeAt Go.RowKit

def inB (n a b : Int) : Bool := decide (a ≤ n) && decide (n ≤ b)
theorem hold_any (w : World) (a b n : Int) : Calls Tryz.prog 75 #[.agg #[.int .i64 a, .int .i64 b], .int .i64 n] w fun e w' => e = .returned (.bool (inB n a b)) ∧ Below w.heap.size w w' := by
  unfold inB
  by_cases h : a ≤ n
  · have HD := hide (decide_eq_true h)
    go_enter Tryz.func75, Tryz.ntmps75
    go_wp2
    go_ret
    exact ⟨ret_bool (by rw [HD.out]; rfl), (Bl.one w _ _).b⟩
  · have HD := hide (decide_eq_false h)
    go_enter Tryz.func75, Tryz.ntmps75
    go_wp2
    go_ret
    exact ⟨ret_bool (by rw [HD.out]; rfl), (Bl.one w _ _).b⟩
def isHostB (s : ByteArray) : Bool := decide (hostE s.data.toList = 0) && decide (hostS s = s)
theorem ishostC_any (s : ByteArray) (w : World) (hs : s.size ≤ 140737488355328) : Calls Tryz.prog 44 #[.string s] w fun e w' => e = .returned (.bool (isHostB s)) ∧ Below w.heap.size w w' := by
  have HH := hide (host_any s w hs)
  have hbe := bytes_eq (hostS s) s
  unfold isHostB
  generalize hostS s = t at HH hbe ⊢
  generalize hostE s.data.toList = ee at HH ⊢
  generalize hostP s.data.toList = p at HH
  clear hs
  by_cases h0 : ee = 0
  · subst h0
    go_enter Tryz.func44, Tryz.ntmps44
    go_wp2_with fail
    refine HH.out.mono ?_
    rintro e w1 ⟨rfl, bb⟩
    have B1 := hide bb
    clear bb HH
    go_wp2
    go_ret
    exact ⟨ret_bool (by simp), B1.out⟩
  · have t0 : ((ee : Int) == 0) = false := beq_eq_false_iff_ne.2 (by omega)
    have HD := hide (decide_eq_false h0)
    go_enter Tryz.func44, Tryz.ntmps44
    go_wp2_with fail
    refine HH.out.mono ?_
    rintro e w1 ⟨rfl, bb⟩
    have B1 := hide bb
    clear bb HH
    go_wp2
    go_ret
    exact ⟨ret_bool (by rw [HD.out]; rfl), B1.out⟩
end Go.Proofs.YtacnnomkacfdbaaGreatDoor
/- Rows of texts, wherever they begin; whether one is there; whether one is there twice; whether a text says of which hosts a route takes requests. -/
namespace Go.Proofs.YtacnnomkacfdbaaGreatDoor
open Go.ChangeShapes Go.WideShapes Go.ChangeAt Go.RowKit

/-- The slice v reads as the texts A, wherever it begins. -/
def SRow (W : World) (v : Value) (A : List ByteArray) : Prop := ∃ (a : Option Addr) (c : Nat), v = .slice a A.length c ∧ ∀ j (h : j < A.length), ∃ g o, a = some ⟨g, o, none⟩ ∧ g < W.heap.size ∧ W.cell? ⟨g, o + j, none⟩ = some (.string A[j])
theorem SRow.below {W W' : World} {v : Value} {A : List ByteArray} (h : SRow W v A) (hb : Below W.heap.size W W') : SRow W' v A := by
  obtain ⟨a, c, rfl, hc⟩ := h
  refine ⟨a, c, rfl, fun j hj => ?_⟩
  obtain ⟨g, o, h1, h2, h3⟩ := hc j hj
  exact ⟨g, o, h1, Nat.lt_of_lt_of_le h2 hb.size, (hb.cell (p := ⟨g, o + j, none⟩) h2).trans h3⟩
def memB (A : List ByteArray) (n : ByteArray) : Bool := A.any fun x => decide (n = x)
theorem memB_snoc {A : List ByteArray} {n : ByteArray} {k : Nat} (h : k < A.length) : memB (A.take (k + 1)) n = (memB (A.take k) n || decide (n = A[k])) := by
  unfold memB
  rw [take_snocA A k h, List.any_append]; simp
theorem memB_all {A : List ByteArray} {n : ByteArray} {k : Nat} (h : A.length ≤ k) : memB (A.take k) n = memB A n := by rw [List.take_of_length_le h]
theorem memB_at {A : List ByteArray} {n : ByteArray} {k : Nat} (h : k < A.length) (he : n = A[k]) : memB A n = true := by
  unfold memB
  rw [List.any_eq_true]
  exact ⟨A[k], List.getElem_mem h, decide_eq_true he⟩
set_option maxHeartbeats 1000000 in
theorem index_any (w : World) (v : Value) (A : List ByteArray) (n : ByteArray) (h : SRow w v A) (hA : A.length ≤ maxLen) :
    Calls Tryz.prog 74 #[v, .string n] w fun e w' => (∃ r : Int, e = .returned (.int .i64 r) ∧ decide (0 ≤ r) = memB A n) ∧ w' = w := by
  obtain ⟨a, c, rfl, hc⟩ := h
  have HC := hide hc
  unfold maxLen at hA
  clear hc
  go_enter Tryz.func74, Tryz.ntmps74
  go_wp2
  go_loop [8] (fun i => ∃ k : Nat, k ≤ A.length ∧ i = .int .i64 k ∧ Hid (memB (A.take k) n = false)) (fun i => A.length - (intOf i).toNat)
  case atStart => exact ⟨0, Nat.zero_le _, rfl, hide rfl⟩
  case round =>
    obtain ⟨k, hk, rfl, H⟩ := hrel
    by_cases hlt : k < A.length
    · obtain ⟨g, o, rfl, hg, r1⟩ := HC.out k hlt
      have hbe := bytes_eq n A[k]
      have HM := hide (memB_snoc (A := A) (n := n) hlt)
      by_cases he : n = A[k]
      · have HY : Hid (memB A n = true) := hide (memB_at hlt he)
        rw [decide_eq_true he] at hbe
        generalize A[k] = x at r1 hbe
        clear he hg HM
        go_wp2
        go_ret
        exact ⟨⟨k, rfl, by rw [HY.out]; exact decide_eq_true (by omega)⟩, rfl⟩
      · have HN : Hid (memB (A.take (k + 1)) n = false) := hide (by rw [HM.out, H.out, decide_eq_false he]; rfl)
        rw [decide_eq_false he] at hbe
        generalize A[k] = x at r1 hbe
        clear he hg HM
        go_wp2
        exact ⟨⟨k + 1, by omega, by go_num, HN⟩, by simp [intOf]; omega⟩
    · have HN := hide ((memB_all (Nat.le_of_not_lt hlt)).symm.trans H.out)
      go_wp2
      go_ret
      exact ⟨⟨-1, rfl, by rw [HN.out]; rfl⟩, rfl⟩
theorem contains_any (w : World) (v : Value) (A : List ByteArray) (n : ByteArray) (h : SRow w v A) (hA : A.length ≤ maxLen) :
    Calls Tryz.prog 42 #[v, .string n] w fun e w' => e = .returned (.bool (memB A n)) ∧ w' = w := by
  have HI := hide (index_any w v A n h hA)
  obtain ⟨a, c, rfl, hc⟩ := h
  clear hc
  go_enter Tryz.func42, Tryz.ntmps42
  go_wp2_with fail
  refine HI.out.mono ?_
  rintro e w' ⟨⟨r, rfl, hr⟩, rfl⟩
  have HR := hide hr
  clear hr HI
  go_wp2
  go_ret
  exact ⟨ret_bool HR.out, rfl⟩
def twB (A : List ByteArray) (k : Nat) : Bool := (List.range k).any fun i => memB (A.take i) (A.getD i ⟨#[]⟩)
theorem twB_succ (A : List ByteArray) (k : Nat) (h : k < A.length) : twB A (k + 1) = (twB A k || memB (A.take k) A[k]) := by
  unfold twB
  rw [List.range_succ, List.any_append]
  simp [List.getD_eq_getElem?_getD, h]
theorem twB_yes (A : List ByteArray) (k : Nat) (h : k < A.length) (hm : memB (A.take k) A[k] = true) : twB A A.length = true := by
  unfold twB
  rw [List.any_eq_true]
  exact ⟨k, List.mem_range.2 h, by simpa [List.getD_eq_getElem?_getD, h] using hm⟩
theorem SRow.take {W : World} {a : Option Addr} {c : Nat} {A : List ByteArray} (hc : ∀ j (h : j < A.length), ∃ g o, a = some ⟨g, o, none⟩ ∧ g < W.heap.size ∧ W.cell? ⟨g, o + j, none⟩ = some (.string A[j])) (k : Nat) (hk : k ≤ A.length) : SRow W (.slice a k c) (A.take k) := by
  refine ⟨a, c, by rw [List.length_take, Nat.min_eq_left hk], fun j hj => ?_⟩
  rw [List.length_take] at hj
  obtain ⟨g, o, h1, h2, h3⟩ := hc j (by omega)
  exact ⟨g, o, h1, h2, by rw [h3, List.getElem_take]⟩
set_option maxHeartbeats 1000000 in
theorem twiceS_any (w : World) (v : Value) (A : List ByteArray) (h : SRow w v A) (hcap : ∀ a n c, v = .slice a n c → n ≤ c ∧ c ≤ maxLen) :
    Calls Tryz.prog 46 #[v] w fun e w' => e = .returned (.bool (twB A A.length)) ∧ w' = w := by
  obtain ⟨a, c, rfl, hc⟩ := h
  obtain ⟨hc1, hc2⟩ := hcap _ _ _ rfl
  unfold maxLen at hc2
  have HC := hide hc
  have HT := hide (fun k hk => SRow.take (c := c) hc k hk)
  clear hc hcap
  go_enter Tryz.func46, Tryz.ntmps46
  go_wp2
  go_loop [7] (fun i => ∃ k : Nat, k ≤ A.length ∧ i = .int .i64 k ∧ Hid (twB A k = false)) (fun i => A.length - (intOf i).toNat)
  case atStart => exact ⟨0, Nat.zero_le _, rfl, hide rfl⟩
  case round =>
    obtain ⟨k, hk, rfl, H⟩ := hrel
    by_cases hlt : k < A.length
    · obtain ⟨g, o, rfl, hg, r1⟩ := HC.out k hlt
      have HI := hide (contains_any w (.slice (some ⟨g, o, none⟩) k c) (A.take k) A[k] (HT.out k hk) (by unfold maxLen; rw [List.length_take]; omega))
      have HS := hide (twB_succ A k hlt)
      have HY := hide (twB_yes A k hlt)
      generalize A[k] = x at r1 HI HS HY
      generalize memB (A.take k) x = b at HI HS HY
      clear hg
      cases b
      · have HN : Hid (twB A (k + 1) = false) := hide (by rw [HS.out, H.out]; rfl)
        clear HS HY
        go_wp2_with fail
        refine HI.out.mono ?_
        rintro e w' ⟨rfl, rfl⟩
        go_wp2
        exact ⟨⟨k + 1, by omega, by go_num, HN⟩, by simp [intOf]; omega⟩
      · have HX := hide (HY.out rfl)
        clear HS HY
        go_wp2_with fail
        refine HI.out.mono ?_
        rintro e w' ⟨rfl, rfl⟩
        go_wp2
        go_ret
        exact ⟨ret_bool HX.out.symm, rfl⟩
    · have HN : Hid (twB A A.length = false) := hide (by rw [← H.out]; congr 1; omega)
      go_wp2
      go_ret
      exact ⟨ret_bool HN.out.symm, rfl⟩
def trimW (s : ByteArray) : ByteArray := ⟨(Lib.trimPrefix s.data.toList [42, 46]).toArray⟩
theorem trimW_size (s : ByteArray) : (trimW s).size ≤ s.size := by
  have h : (Lib.trimPrefix s.data.toList [42, 46]).length ≤ s.data.toList.length := by
    unfold Lib.trimPrefix
    split
    · rw [List.length_drop]; omega
    · exact Nat.le_refl _
  rw [size_len] at h
  have e : (trimW s).data.toList = Lib.trimPrefix s.data.toList [42, 46] := by unfold trimW; simp
  rw [← size_len, e]
  exact h
def patB (s : ByteArray) : Bool := decide (s.size = 0) || (isHostB s || isHostB (trimW s))
theorem pattern_any (s : ByteArray) (w : World) (hs : s.size ≤ 140737488355328) : Calls Tryz.prog 76 #[.string s] w fun e w' => e = .returned (.bool (patB s)) ∧ Below w.heap.size w w' := by
  have hz := trimW_size s
  have H1 := hide (fun W => ishostC_any s W hs)
  have H2 := hide (fun W => ishostC_any (trimW s) W (by omega))
  have H3 := hide (fun W => Tryz.strings_TrimPrefix s ⟨#[42, 46]⟩ W)
  unfold patB
  generalize isHostB s = b1 at H1 ⊢
  generalize isHostB (trimW s) = b2 at H2 ⊢
  obtain ⟨bz, hbz⟩ : ∃ b, decide (s.size = 0) = b := ⟨_, rfl⟩
  rw [hbz]
  have HZ := hide hbz
  clear hz hbz
  by_cases h0 : s.size = 0
  · have he : s.toList.isEmpty = true := by rw [Lib.toList_data, isEmpty_size]; exact decide_eq_true h0
    have H0 : Hid (bz = true) := hide (HZ.out.symm.trans (decide_eq_true h0))
    clear h0 hs HZ
    go_enter Tryz.func76, Tryz.ntmps76
    go_wp2
    go_ret
    exact ⟨ret_bool (by rw [H0.out]; rfl), Below.refl _ _⟩
  · have he : s.toList.isEmpty = false := by rw [Lib.toList_data, isEmpty_size]; exact decide_eq_false h0
    have H0 : Hid (bz = false) := hide (HZ.out.symm.trans (decide_eq_false h0))
    clear h0 hs HZ
    go_enter Tryz.func76, Tryz.ntmps76
    go_wp2_with fail
    refine (H1.out _).mono ?_
    rintro e w1 ⟨rfl, bb⟩
    have B1 := hide bb
    clear bb H1
    cases b1
    · go_wp2_with fail
      refine (H3.out _).mono ?_
      rintro e w2 ⟨rfl, rfl⟩
      go_wp2_with fail
      refine (H2.out _).mono ?_
      rintro e w3 ⟨rfl, bb⟩
      have B2 := hide (B1.out.trans (bb.mono B1.out.size))
      clear bb
      go_wp2
      go_ret
      exact ⟨ret_bool (by rw [H0.out]; rfl), B2.out⟩
    · go_wp2
      go_ret
      exact ⟨ret_bool (by rw [H0.out]; rfl), B1.out⟩
end Go.Proofs.YtacnnomkacfdbaaGreatDoor
/- Rows of fields: what a slice of fields reads as; rows of the call's own, to which one is appended. -/
namespace Go.Proofs.YtacnnomkacfdbaaGreatDoor
open Go.ChangeShapes Go.WideShapes Go.ChangeAt Go.RowKit

/-- A field's cells. -/
def fc (f : ByteArray × ByteArray) : List Value := [.string f.1, .string f.2]
def fcs (A : List (ByteArray × ByteArray)) : List Value := A.flatMap fc
theorem fcs_len (A : List (ByteArray × ByteArray)) : (fcs A).length = A.length * 2 := by
  induction A with
  | nil => rfl
  | cons f r ih => simp only [fcs, List.flatMap_cons, List.length_append, List.length_cons] at ih ⊢; rw [ih]; simp [fc]; omega
theorem fcs_snoc (A : List (ByteArray × ByteArray)) (f : ByteArray × ByteArray) : fcs (A ++ [f]) = fcs A ++ fc f := by simp [fcs]
theorem fcs_at : ∀ (A : List (ByteArray × ByteArray)) (j : Nat) (h : j < A.length), (fcs A)[2 * j]? = some (.string A[j].1) ∧ (fcs A)[2 * j + 1]? = some (.string A[j].2)
  | [], j, h => by simp at h
  | f :: r, 0, h => by simp [fcs, fc]
  | f :: r, j + 1, h => by
    have ih := fcs_at r j (by simpa using h)
    have e : fcs (f :: r) = .string f.1 :: .string f.2 :: fcs r := by simp [fcs, fc]
    rw [e]
    constructor
    · rw [show 2 * (j + 1) = 2 * j + 1 + 1 by omega]; simpa using ih.1
    · rw [show 2 * (j + 1) + 1 = 2 * j + 1 + 1 + 1 by omega]; simpa using ih.2
/-- The slice v reads as the fields A. -/
def Flds (W : World) (v : Value) (A : List (ByteArray × ByteArray)) : Prop := ∃ (a : Option Addr) (c : Nat), v = .slice a A.length c ∧ (A.length ≤ c ∧ (a = none → c = 0)) ∧ ∀ j (h : j < A.length), ∃ g o, a = some ⟨g, o, none⟩ ∧ g < W.heap.size ∧ W.cell? ⟨g, o + j * 2, none⟩ = some (.string A[j].1) ∧ W.cell? ⟨g, o + j * 2 + 1, none⟩ = some (.string A[j].2)
theorem Flds.below {W W' : World} {v : Value} {A : List (ByteArray × ByteArray)} (h : Flds W v A) (hb : Below W.heap.size W W') : Flds W' v A := by
  obtain ⟨a, c, rfl, hl, hc⟩ := h
  refine ⟨a, c, rfl, hl, fun j hj => ?_⟩
  obtain ⟨g, o, h1, h2, h3, h4⟩ := hc j hj
  exact ⟨g, o, h1, Nat.lt_of_lt_of_le h2 hb.size, (hb.cell (p := ⟨g, o + j * 2, none⟩) h2).trans h3, (hb.cell (p := ⟨g, o + j * 2 + 1, none⟩) h2).trans h4⟩
/-- A row of fields of the call's own. -/
def FRow (W : World) (base : Nat) (v : Value) (A : List (ByteArray × ByteArray)) : Prop := W.ownsRow base 45 2 v A.length (fcs A)
theorem FRow.nil (W : World) (base : Nat) : FRow W base (.slice none 0 0) [] := ⟨rfl, .inl ⟨rfl, rfl⟩⟩
theorem FRow.lt {W : World} {base : Nat} {v : Value} {A : List (ByteArray × ByteArray)} (h : FRow W base v A) {g : Nat} (hg : v.ownBlock = some g) : base ≤ g ∧ g < W.heap.size := World.ownsRow.lt h g hg
theorem FRow.frame {W W' : World} {base : Nat} {v : Value} {A : List (ByteArray × ByteArray)} (h : FRow W base v A) (hb : ∀ g, v.ownBlock = some g → W'.heap[g]? = W.heap[g]?) : FRow W' base v A := by
  refine ⟨h.1, ?_⟩
  rcases h.2 with x | ⟨g, cap, cur, rfl, h1, hg, hc, hm, hs, ht⟩
  · exact .inl x
  · exact .inr ⟨g, cap, cur, rfl, h1, (hb g rfl).trans hg, hc, hm, hs, ht⟩
theorem FRow.below {W W' : World} {base : Nat} {v : Value} {A : List (ByteArray × ByteArray)} (h : FRow W base v A) (hb : Below W.heap.size W W') : FRow W' base v A := h.frame fun g hg => hb.block g (h.lt hg).2
theorem FRow.shape {W : World} {base : Nat} {v : Value} {A : List (ByteArray × ByteArray)} (h : FRow W base v A) : ∃ a c, v = .slice a A.length c ∧ A.length ≤ c ∧ c ≤ maxLen := by
  rcases h.2 with ⟨rfl, h0⟩ | ⟨g, cap, cur, rfl, h1, hg, hc, hm, hs, ht⟩
  · exact ⟨none, 0, by rw [h0], by omega, Nat.zero_le _⟩
  · exact ⟨_, cap, rfl, hc, hm⟩
theorem Flds.of_row {W : World} {base : Nat} {v : Value} {A : List (ByteArray × ByteArray)} (h : FRow W base v A) : Flds W v A := by
  rcases h.2 with ⟨rfl, h0⟩ | ⟨g, cap, cur, rfl, h1, hg, hc, hm, hs, ht⟩
  · exact ⟨none, 0, by rw [h0], ⟨by omega, fun _ => rfl⟩, fun j hj => by omega⟩
  · refine ⟨_, cap, rfl, ⟨hc, fun h => by cases h⟩, fun j hj => ⟨g, 0, rfl, (h.lt rfl).2, ?_, ?_⟩⟩
    · rw [cell_at hg, Nat.zero_add, Nat.mul_comm, ← (fcs_at A j hj).1, ← ht, List.getElem?_take, if_pos (by omega)]
      simp
    · rw [cell_at hg, Nat.zero_add, Nat.mul_comm j 2, ← (fcs_at A j hj).2, ← ht, List.getElem?_take, if_pos (by omega)]
      simp
theorem infoF : ∃ i, Tryz.prog.info? 45 = some i ∧ i.zero = some (.agg #[.string ByteArray.empty, .string ByteArray.empty]) ∧ i.size = 2 ∧ i.bytes = 32 := by
  have h : (Tryz.prog.info? 45).map (fun i => (i.zero, i.size, i.bytes)) = some (some (.agg #[.string ByteArray.empty, .string ByteArray.empty]), 2, 32) := by kernel_rfl
  obtain ⟨i, hi, hz⟩ := Option.map_eq_some_iff.1 h
  simp only [Prod.mk.injEq] at hz
  exact ⟨i, hi, hz.1, hz.2.1, hz.2.2⟩
theorem two_cells (w : World) (f : ByteArray × ByteArray) (j : Nat) (u : Value) (h : (fc f)[j]? = some u) : (w.alloc (.cells #[.string f.1, .string f.2] 45)).cell? ((⟨w.heap.size, 0, none⟩ : Addr).add j) = some u := by
  have e1 : ((⟨w.heap.size, 0, none⟩ : Addr).add j) = ⟨w.heap.size, j, none⟩ := by unfold Addr.add; split <;> simp_all
  rw [e1, cell_at (hp_new w _)]
  unfold fc at h
  rw [← h]
  simp
theorem append_fld (W : World) (base : Nat) (ty : TypeId) (v : Value) (A : List (ByteArray × ByteArray)) (f : ByteArray × ByteArray) (hown : FRow W base v A) (hn : A.length ≤ 1099511627776) (hbase : base ≤ W.heap.size) :
    ∃ v' W', (Builtin.append_ #[26, 26] ty #[v, .slice (some ⟨W.heap.size, 0, none⟩) 1 1]).run Tryz.prog (W.alloc (.cells #[.string f.1, .string f.2] 45)) = .ok v' W' ∧ FRow W' base v' (A ++ [f]) ∧ Below base W W' := by
  obtain ⟨i, hi, hz, hs1, hb1⟩ := infoF
  have ho : FRow (W.alloc (.cells #[.string f.1, .string f.2] 45)) base v A := hown.frame fun g hg => Below.heap_alloc W _ g (hown.lt hg).2
  obtain ⟨v', W', hr, h1, hg, _⟩ := run_append_own (w := W.alloc (.cells #[.string f.1, .string f.2] 45)) base 26 ty 45 i _ 2 32 Tryz.underlying26 hi hz hs1 hb1 rfl (by omega) v A.length (fcs A) ho ⟨W.heap.size, 0, none⟩ 1 1 (fc f) rfl (two_cells W f) (by intro u hu; simp [fc] at hu; rcases hu with rfl | rfl <;> rfl) (by unfold maxLen; omega) (by omega) (by simp; omega)
  refine ⟨v', W', hr, ?_, ?_⟩
  · unfold FRow
    rw [List.length_append, fcs_snoc]
    exact h1
  · exact ((Below.refl base W).alloc hbase _).grown hg (by simp; omega) (fun k hk => (hown.lt hk).1)
theorem wpList_append_fld {ops : Array Oper} {rest : List Oper} {o : Oper} {a : Act} {Q : Exit → Act → World → Prop} (hgd : o.guard = none) (s x : Operand)
    (ho : o.op = .call { callee := .builtin .append, args := #[s, x], argTypes := #[26, 26] }) (W : World) (base : Nat) (v : Value) (A : List (ByteArray × ByteArray)) (y1 y2 : ByteArray) (hs : a.eval s = v) (hx : a.eval x = .slice (some ⟨W.heap.size, 0, none⟩) 1 1)
    (hown : FRow W base v A) (hn : A.length ≤ 1099511627776) (hbase : base ≤ W.heap.size)
    (h : ∀ v' W', FRow W' base v' (A ++ [(y1, y2)]) → Below base W W' → wpList Tryz.prog ops Q rest (a.put o.dst v') W') : wpList Tryz.prog ops Q (o :: rest) a (W.alloc (.cells #[.string y1, .string y2] 45)) := by
  refine wpList_plain hgd fun K hK => ?_
  obtain ⟨v', W', hr, h2, h3⟩ := append_fld W base o.type v A (y1, y2) hown hn hbase
  unfold Oper.wp execOp
  simp only [ho, resolve, invoke, builtin, Sem.run_bind, Sem.run_pure, Result.andThen_ok, List.map_toArray, List.map_cons, List.map_nil, hs, hx, hr]
  exact hK _ _ (h v' W' h2 h3)
theorem fcs_one (A : List (ByteArray × ByteArray)) : ∀ u ∈ fcs A, u.oneCell' = true := by
  intro u hu
  unfold fcs at hu
  simp only [List.mem_flatMap] at hu
  obtain ⟨f, _, hu⟩ := hu
  unfold fc at hu
  simp only [List.mem_cons, List.not_mem_nil, or_false] at hu
  rcases hu with rfl | rfl <;> rfl
theorem fcs_app (A B : List (ByteArray × ByteArray)) : fcs (A ++ B) = fcs A ++ fcs B := by simp [fcs]
/-- append(v, l...): v nil or of the call's own, l whatever reads as fields. -/
theorem append_flds (W : World) (base : Nat) (ty : TypeId) (v l : Value) (O A : List (ByteArray × ByteArray)) (hown : FRow W base v O) (hA : Flds W l A) (hn : O.length + A.length ≤ 1099511627776) (hbase : base ≤ W.heap.size) :
    ∃ v' W', (Builtin.append_ #[26, 26] ty #[v, l]).run Tryz.prog W = .ok v' W' ∧ FRow W' base v' (O ++ A) ∧ Below base W W' := by
  obtain ⟨i, hi, hz, hs1, hb1⟩ := infoF
  obtain ⟨a, c, rfl, ⟨hc, hnn⟩, hcell⟩ := hA
  cases a with
  | none =>
    have e : A = [] := by
      apply List.eq_nil_of_length_eq_zero
      have := hnn rfl
      omega
    have ec : c = 0 := hnn rfl
    subst e ec
    exact ⟨v, W, run_append_owned_none W base 26 ty 45 i 2 Tryz.underlying26 hi v _ _ hown, by simpa using hown, Below.refl _ _⟩
  | some ad =>
    obtain ⟨v', W', hr, h1, hg, _⟩ := run_append_own (w := W) base 26 ty 45 i _ 2 32 Tryz.underlying26 hi hz hs1 hb1 rfl (by omega) v O.length (fcs O) hown ad A.length c (fcs A) (fcs_len A) (by
      intro j u hj
      have hjl : j < A.length * 2 := by
        rw [← fcs_len]
        exact (List.getElem?_eq_some_iff.1 hj).1
      obtain ⟨b, off, e, _, x1, x2⟩ := hcell (j / 2) (by omega)
      simp only [Option.some.injEq] at e
      subst e
      have e2 : (⟨b, off, none⟩ : Addr).add j = ⟨b, off + j, none⟩ := by unfold Addr.add; split <;> simp_all
      have h2 := fcs_at A (j / 2) (by omega)
      rw [e2]
      rcases Nat.mod_two_eq_zero_or_one j with hm | hm
      · have ej : j = 2 * (j / 2) := by omega
        have ej2 : off + j = off + j / 2 * 2 := by omega
        rw [ej] at hj
        rw [h2.1] at hj
        rw [ej2, x1]
        exact hj
      · have ej : j = 2 * (j / 2) + 1 := by omega
        have ej2 : off + j = off + j / 2 * 2 + 1 := by omega
        rw [ej] at hj
        rw [h2.2] at hj
        rw [ej2, x2]
        exact hj) (fcs_one A) (by unfold maxLen; omega) (by omega) hbase
    refine ⟨v', W', hr, ?_, (Below.refl base W).grown hg hbase (fun k hk => (hown.lt hk).1)⟩
    unfold FRow
    rw [List.length_append, fcs_app]
    exact h1
theorem wpList_append_flds {ops : Array Oper} {rest : List Oper} {o : Oper} {a : Act} {Q : Exit → Act → World → Prop} (hgd : o.guard = none) (s x : Operand)
    (ho : o.op = .call { callee := .builtin .append, args := #[s, x], argTypes := #[26, 26] }) (W : World) (base : Nat) (v l : Value) (O A : List (ByteArray × ByteArray)) (hs : a.eval s = v) (hx : a.eval x = l)
    (hown : FRow W base v O) (hA : Flds W l A) (hn : O.length + A.length ≤ 1099511627776) (hbase : base ≤ W.heap.size)
    (h : ∀ v' W', FRow W' base v' (O ++ A) → Below base W W' → wpList Tryz.prog ops Q rest (a.put o.dst v') W') : wpList Tryz.prog ops Q (o :: rest) a W := by
  refine wpList_plain hgd fun K hK => ?_
  obtain ⟨v', W', hr, h2, h3⟩ := append_flds W base o.type v l O A hown hA hn hbase
  unfold Oper.wp execOp
  simp only [ho, resolve, invoke, builtin, Sem.run_bind, Sem.run_pure, Result.andThen_ok, List.map_toArray, List.map_cons, List.map_nil, hs, hx, hr]
  exact hK _ _ (h v' W' h2 h3)
end Go.Proofs.YtacnnomkacfdbaaGreatDoor
/- A drawn region whose callees make blocks: one walk in the order of the text, over the class of worlds that part in new blocks alone. -/
namespace Go.Proofs.YtacnnomkacfdbaaGreatDoor
open Go.ChangeShapes Go.WideShapes Go.ChangeAt Go.RowKit

/-- Worlds that part in new blocks alone. -/
def Cl (w W : World) : Prop := Below w.heap.size w W
theorem Cl.out {w W : World} (h : Cl w W) : Below w.heap.size w W := h
theorem Cl.cell {w W : World} (h : Cl w W) {a : Addr} {v : Value} (hc : w.cell? a = some v) : W.cell? a = some v :=
  (h.out.cell (World.block_lt_of_cell? w a hc)).trans hc
theorem call_cl {P : Program} {f : Nat} {args : Array Value} {w W : World} {r : Value} (h : Cl w W) (c : Calls P f args W fun e w' => e = .returned r ∧ Below W.heap.size W w') : Calls P f args W fun e w' => e = .returned r ∧ Cl w w' :=
  c.mono fun _ _ ⟨h1, h2⟩ => ⟨h1, h.out.trans (h2.mono h.out.size)⟩
theorem call_cl_same {P : Program} {f : Nat} {args : Array Value} {w W : World} {r : Value} (h : Cl w W) (c : Calls P f args W fun e w' => e = .returned r ∧ W = w') : Calls P f args W fun e w' => e = .returned r ∧ Cl w w' :=
  c.mono fun _ _ ⟨h1, h2⟩ => ⟨h1, h2 ▸ h⟩
theorem wp_region_cl {P : Program} {id : Nat} {Q : Exit → Act → World → Prop} {a : Act} {w : World} {l : List Oper} (hm : P.follows .mixedOrders = true) (hB : Region.lexB .any l.toArray = true)
    (h : wpQuiet P l.toArray (Cl w) (fun a' => ∀ w', Cl w w' → Q .normal a' w') l a) : (Code.region id l.toArray true).wp P Q a w :=
  wp_region_quiet (C := Cl w) hm hB ⟨rfl, rfl, rfl, Nat.le_refl _, fun _ _ => rfl⟩ (by simpa using h)
section
variable {P : Program} {ops : Array Oper} {C : World → Prop} {Q : Act → Prop} {a : Act} {o : Oper} {rest : List Oper}
theorem cl_val {v : Value} (hw : Region.wanted o (yielded ops a.tmps) = true) (h : ∀ W, C W → o.quietAt P a C W v) (hk : wpQuiet P ops C Q rest (a.put o.dst v)) : wpQuiet P ops C Q (o :: rest) a :=
  BigFrame.wpQuiet_want hw (fun _ hK => ⟨v, h, hK _ hk⟩)
theorem cl_move (x : Operand) (hw : Region.wanted o (yielded ops a.tmps) = true) (h : o.op = .move x) (hk : wpQuiet P ops C Q rest (a.put o.dst (a.eval x))) : wpQuiet P ops C Q (o :: rest) a :=
  BigFrame.wpQuiet_want hw (fun _ hK => BigFrame.quiet_move x h (hK _ hk))
theorem cl_assign (x : Operand) (hw : Region.wanted o (yielded ops a.tmps) = true) (h : o.op = .assign x) (hk : wpQuiet P ops C Q rest (a.put o.dst (a.eval x))) : wpQuiet P ops C Q (o :: rest) a :=
  BigFrame.wpQuiet_want hw (fun _ hK => BigFrame.quiet_assign x h (hK _ hk))
theorem cl_skip (hw : Region.wanted o (yielded ops a.tmps) = false) (hk : wpQuiet P ops C Q rest (a.put o.dst undef)) : wpQuiet P ops C Q (o :: rest) a :=
  BigFrame.wpQuiet_skip hw hk
end
end Go.Proofs.YtacnnomkacfdbaaGreatDoor
/- A field's name held against another one: the program's test as a function value. -/
namespace Go.Proofs.YtacnnomkacfdbaaGreatDoor
open Go.ChangeShapes Go.WideShapes Go.ChangeAt Go.RowKit

set_option maxHeartbeats 1000000 in
theorem namedf_any (n v small : ByteArray) (g : Nat) (w : World) (hn : n.size ≤ maxLen) (hc : w.cell? ⟨g, 0, none⟩ = some (.string small)) :
    Calls Tryz.prog 85 #[.agg #[.string n, .string v], .pointer (some ⟨g, 0, none⟩)] w fun e w' => e = .returned (.bool ((lowS n).toList == small.toList)) ∧ Below w.heap.size w w' := by
  have HL := hide (fun W => lower_any n W hn)
  clear hn
  go_enter Tryz.func85, Tryz.ntmps85
  go_wp2_with fail
  have b0 := hide ((Below.refl _ w).alloc (Nat.le_refl _) (.cells #[.string n, .string v] 45))
  have c0 : (w.alloc (.cells #[.string n, .string v] 45)).cell? ⟨w.heap.size, 0, none⟩ = some (.string n) := cell_at (hp_new w _) 0
  have c1 : (w.alloc (.cells #[.string n, .string v] 45)).cell? ⟨g, 0, none⟩ = some (.string small) := by rw [b0.out.cell (p := ⟨g, 0, none⟩) (World.block_lt_of_cell? w _ hc)]; exact hc
  clear hc
  generalize w.alloc (.cells #[.string n, .string v] 45) = w1 at b0 c0 c1 ⊢
  refine wp_region_cl (by kernel_rfl) (by kernel_rfl) ?_
  refine cl_val (v := ?_) (by kernel_rfl) (fun W hW => ?_) ?_
  rotate_left
  · unfold Oper.quietAt; go_simp; try with_reducible rfl
  simp only [Act.put, List.setIfInBounds_toArray, List.set_cons_zero, List.set_cons_succ]
  refine cl_val (v := ?_) (by kernel_rfl) (fun W hW => ?_) ?_
  rotate_left
  · have l0 := hW.cell c0; unfold Oper.quietAt; go_simp; try with_reducible rfl
  simp only [Act.put, List.setIfInBounds_toArray, List.set_cons_zero, List.set_cons_succ]
  refine cl_val (v := .string (lowS n)) (by kernel_rfl) (fun W hW => ?_) ?_
  · unfold Oper.quietAt; go_simp; exact call_cl hW (HL.out W)
  simp only [Act.put, List.setIfInBounds_toArray, List.set_cons_zero, List.set_cons_succ]
  refine cl_val (v := ?_) (by kernel_rfl) (fun W hW => ?_) ?_
  rotate_left
  · have l0 := hW.cell c1; unfold Oper.quietAt; go_simp; try with_reducible rfl
  simp only [Act.put, List.setIfInBounds_toArray, List.set_cons_zero, List.set_cons_succ]
  refine cl_val (v := ?_) (by kernel_rfl) (fun W hW => ?_) ?_
  rotate_left
  · unfold Oper.quietAt; go_simp; try with_reducible rfl
  simp only [Act.put, List.setIfInBounds_toArray, List.set_cons_zero, List.set_cons_succ]
  refine cl_assign _ (by kernel_rfl) rfl ?_
  simp only [Act.put, List.setIfInBounds_toArray, List.set_cons_zero, List.set_cons_succ]
  refine wpQuiet_nil ?_
  intro w2 Hw2
  go_wp2
  go_ret
  exact ⟨rfl, b0.out.trans (Hw2.out.mono b0.out.size)⟩
theorem named_any (n : ByteArray) (w : World) (hn : n.size ≤ maxLen) :
    Calls Tryz.prog 58 #[.string n] w fun e w' => ∃ g, e = .returned (.func (.func 85) #[] #[.pointer (some ⟨g, 0, none⟩)]) ∧ w'.cell? ⟨g, 0, none⟩ = some (.string (lowS n)) ∧ Below w.heap.size w w' := by
  have hmf : ∀ (fn : Fn) (first cap : Array Value) (w : World), (Instr.makeFunc fn first cap).run Tryz.prog w = .ok (.func fn first cap) w := fun _ _ _ _ => rfl
  go_enter Tryz.func58, Tryz.ntmps58
  go_wp2_with (go_at_call 62; refine (lower_any _ _ hn).mono ?_; rintro e w1 ⟨rfl, b1⟩)
  go_ret
  exact ⟨_, rfl, cell_at (hp_new w1 _) 0, b1.alloc b1.size _⟩
end Go.Proofs.YtacnnomkacfdbaaGreatDoor
/- A field: whether it is right; a copy of it. -/
namespace Go.Proofs.YtacnnomkacfdbaaGreatDoor
open Go.ChangeShapes Go.WideShapes Go.ChangeAt Go.RowKit

def chkF (f : ByteArray × ByteArray) : Nat := if tokenB f.1.data.toList then (if valueB f.2.data.toList then 0 else 71) else 70
/-- Two blocks of the call's own: a field that came in, and one that is told. -/
structure FTwo (w x : World) (a b : ByteArray) : Prop where
  h0 : x.heap[w.heap.size]? = some (.cells #[.string a, .string b] 45)
  h1 : x.heap[w.heap.size + 1]? = some (.cells #[.string ⟨#[]⟩, .string ⟨#[]⟩] 45)
  b : Below w.heap.size w x
theorem lt_heap {x : World} {b : Nat} {o : Obj} (h : x.heap[b]? = some o) : b < x.heap.size := (Array.getElem?_eq_some_iff.1 h).1
theorem FTwo.start (w : World) (a b : ByteArray) : FTwo w ((w.alloc (.cells #[.string a, .string b] 45)).alloc (.cells #[.string ⟨#[]⟩, .string ⟨#[]⟩] 45)) a b := by
  have e : (w.alloc (.cells #[.string a, .string b] 45)).heap.size = w.heap.size + 1 := by show (w.heap.push _).size = _; simp
  refine ⟨?_, ?_, ((Below.refl _ w).alloc (Nat.le_refl _) _).alloc (by omega) _⟩
  · rw [Below.heap_alloc _ _ _ (by omega)]; exact hp_new w _
  · rw [← e]; exact hp_new _ _
theorem FTwo.below {w x y : World} {a b : ByteArray} (h : FTwo w x a b) (hb : Below x.heap.size x y) : FTwo w y a b :=
  ⟨(hb.block _ (lt_heap h.h0)).trans h.h0, (hb.block _ (lt_heap h.h1)).trans h.h1, h.b.trans (hb.mono h.b.size)⟩
theorem FTwo.cl {w x : World} {a b s : ByteArray} (h : FTwo w x a b) (hs : s.size ≤ 281474976710656) :
    Calls Tryz.prog 55 #[.string s] x fun e y => e = .returned (.string s) ∧ y.cell? ⟨w.heap.size, 0, none⟩ = some (.string a) ∧ y.cell? ⟨w.heap.size, 1, none⟩ = some (.string b) ∧ y.frozen? ⟨w.heap.size + 1, 0, none⟩ = false ∧ y.frozen? ⟨w.heap.size + 1, 1, none⟩ = false ∧
      y.cell? ⟨w.heap.size + 1, 0, none⟩ = some (.string ⟨#[]⟩) ∧ y.cell? ⟨w.heap.size + 1, 1, none⟩ = some (.string ⟨#[]⟩) ∧ Hid (FTwo w y a b) := by
  refine (clone_any s x hs).mono ?_
  rintro e y ⟨rfl, hb⟩
  have h2 := h.below hb
  exact ⟨rfl, cell_at h2.h0 0, cell_at h2.h0 1, by rw [frozen_at h2.h1]; rfl, by rw [frozen_at h2.h1]; rfl, cell_at h2.h1 0, cell_at h2.h1 1, h2⟩
theorem FTwo.fin {w y : World} {a b c d : ByteArray} (h : FTwo w y a b) : ((y.setCell ⟨w.heap.size + 1, 0, none⟩ (.string c)).setCell ⟨w.heap.size + 1, 1, none⟩ (.string d)).cell? ⟨w.heap.size + 1, 0, none⟩ = some (.string c) ∧
    ((y.setCell ⟨w.heap.size + 1, 0, none⟩ (.string c)).setCell ⟨w.heap.size + 1, 1, none⟩ (.string d)).cell? ⟨w.heap.size + 1, 1, none⟩ = some (.string d) ∧ Below w.heap.size w ((y.setCell ⟨w.heap.size + 1, 0, none⟩ (.string c)).setCell ⟨w.heap.size + 1, 1, none⟩ (.string d)) := by
  have h2 := hp_set (hp_set h.h1 0 (.string c)) 1 (.string d)
  exact ⟨cell_at h2 0, cell_at h2 1, (h.b.setCell (p := ⟨w.heap.size + 1, 0, none⟩) (by show w.heap.size ≤ w.heap.size + 1; omega) _).setCell (p := ⟨w.heap.size + 1, 1, none⟩) (by show w.heap.size ≤ w.heap.size + 1; omega) _⟩
end Go.Proofs.YtacnnomkacfdbaaGreatDoor
/- The values of a name: the program's, the document's. -/
namespace Go.Proofs.YtacnnomkacfdbaaGreatDoor
open Go.ChangeShapes Go.WideShapes Go.ChangeAt Go.RowKit

/-- Has a field the name n? -/
def nmB (n : ByteArray) (f : ByteArray × ByteArray) : Bool := sameB f.1.data.toList n.data.toList
def allS (A : List (ByteArray × ByteArray)) (n : ByteArray) : List ByteArray := (A.filter (nmB n)).map (·.2)
/-- Every text of the list is short, and there are not many. -/
def Sm (A : List (ByteArray × ByteArray)) : Prop := A.length ≤ 1048576 ∧ ∀ f ∈ A, f.1.size ≤ 1048576 ∧ f.2.size ≤ 1048576
theorem Sm.at {A : List (ByteArray × ByteArray)} (h : Sm A) (k : Nat) (hk : k < A.length) : A[k].1.size ≤ 1048576 ∧ A[k].2.size ≤ 1048576 := h.2 _ (List.getElem_mem hk)
theorem take_snocF {α : Type} (A : List α) (k : Nat) (h : k < A.length) : A.take (k + 1) = A.take k ++ [A[k]] := List.take_succ_eq_append_getElem h
theorem allS_snoc (A : List (ByteArray × ByteArray)) (n a b : ByteArray) (f : ByteArray × ByteArray) (hf : f = (a, b)) (k : Nat) (hk : k < A.length) (he : A[k] = f) : allS (A.take (k + 1)) n = if nmB n f then allS (A.take k) n ++ [b] else allS (A.take k) n := by
  subst hf
  rw [take_snocF A k hk, he]
  unfold allS
  rw [List.filter_append]
  by_cases h : nmB n (a, b) = true
  · rw [if_pos h, List.filter_cons_of_pos h]; simp
  · rw [if_neg h, List.filter_cons_of_neg h]; simp
theorem allS_len (A : List (ByteArray × ByteArray)) (n : ByteArray) (k : Nat) : (allS (A.take k) n).length ≤ A.length := by
  unfold allS
  rw [List.length_map]
  exact Nat.le_trans (List.length_filter_le _ _) (by rw [List.length_take]; omega)
theorem low_beq (a n : ByteArray) (v : ByteArray) : ((lowS a).toList == (lowS n).toList) = nmB n (a, v) := same_eq a n

theorem Row.lower {W : World} {base base2 : Nat} {e : TypeId} {v : Value} {xs : List Value} (h : Row W base e v xs) (hb : base2 ≤ base) : Row W base2 e v xs := by
  refine ⟨h.1, ?_⟩
  rcases h.2 with x | ⟨g, cap, cur, rfl, h1, r⟩
  · exact .inl x
  · exact .inr ⟨g, cap, cur, rfl, Nat.le_trans hb h1, r⟩
set_option maxHeartbeats 2000000 in
theorem all_any (w : World) (l : Value) (A : List (ByteArray × ByteArray)) (n : ByteArray) (hA : Flds w l A) (hs : Sm A) (hn : n.size ≤ 1048576) :
    Calls Tryz.prog 31 #[l, .string n] w fun e w' => ∃ v, e = .returned v ∧ Row w' w.heap.size 9 v (sc (allS A n)) ∧ Below w.heap.size w w' := by
  obtain ⟨a0, c0, rfl, hc0, hcells⟩ := hA
  have HF := hide hcells
  have HS := hide hs
  have hl : A.length ≤ 1048576 := hs.1
  clear hcells hs hc0
  have HN := hide (named_any n w (by unfold maxLen; omega))
  go_enter Tryz.func31, Tryz.ntmps31
  go_wp2_with fail
  refine HN.out.mono ?_
  rintro e w1 ⟨g, rfl, hg, b1⟩
  have HG := hide hg
  have B1 := hide b1
  clear hg b1 HN
  go_wp2
  go_loopw [13, 6] (fun i v wr => ∃ (k : Nat) (O : List ByteArray), k ≤ A.length ∧ i = .int .i64 k ∧ O.length ≤ A.length ∧ Hid (allS (A.take k) n = O) ∧ Hid (Row wr w1.heap.size 9 v (sc O)) ∧ Hid (Below w1.heap.size w1 wr)) (fun i _ _ => A.length - (intOf i).toNat)
  case atStart => exact ⟨0, [], Nat.zero_le _, rfl, Nat.zero_le _, hide rfl, hide (Row.nil _ _ _), hide (Below.refl _ _)⟩
  case round =>
    obtain ⟨k, O, hk, rfl, hO, HO, HR, HB⟩ := hrel
    obtain ⟨a6, c6, rfl, _, _⟩ := HR.out.shape
    rw [sc_len] at *
    by_cases hlt : k < A.length
    · have HNX := hide (fun f he => allS_snoc A n f.1 f.2 f rfl k hlt he)
      have HLN := hide (allS_len A n (k + 1))
      obtain ⟨g1, o1, rfl, hgl, q1, q2⟩ := HF.out k hlt
      obtain ⟨z1, z2⟩ := HS.out.at k hlt
      obtain ⟨fa, fb, hf⟩ : ∃ fa fb, A[k] = (fa, fb) := ⟨_, _, rfl⟩
      rw [hf] at q1 q2 z1 z2
      have HE := hide hf
      clear hf
      have BW := hide (B1.out.trans (HB.out.mono B1.out.size))
      have r1 : wr.cell? ⟨g1, o1 + k * 2, none⟩ = some (.string fa) := (BW.out.cell (p := ⟨g1, o1 + k * 2, none⟩) hgl).trans q1
      have r2 : wr.cell? ⟨g1, o1 + k * 2 + 1, none⟩ = some (.string fb) := (BW.out.cell (p := ⟨g1, o1 + k * 2 + 1, none⟩) hgl).trans q2
      clear q1 q2 hgl
      go_upto_region 6 with fail
      have HB2 := hide (HB.out.alloc HB.out.size (.cells #[.string fa, .string fb] 45))
      have HR2 := hide (HR.out.below ((Below.refl _ wr).alloc (Nat.le_refl _) (.cells #[.string fa, .string fb] 45)))
      have HD := hide (hp_new wr (.cells #[.string fa, .string fb] 45))
      clear r1 r2 BW HB HR
      generalize wr.alloc (.cells #[.string fa, .string fb] 45) = x at HB2 HR2 HD ⊢
      generalize wr.heap.size = b at HD ⊢
      have d0 : x.cell? ⟨b, 0, none⟩ = some (.string fa) := cell_at HD.out 0
      have d1 : x.cell? ⟨b, 1, none⟩ = some (.string fb) := cell_at HD.out 1
      have hgx : x.cell? ⟨g, 0, none⟩ = some (.string (lowS n)) := (HB2.out.cell (p := ⟨g, 0, none⟩) (World.block_lt_of_cell? w1 _ HG.out)).trans HG.out
      go_wp2_with fail
      refine (namedf_any fa fb (lowS n) g x (by unfold maxLen; omega) hgx).mono ?_
      rintro e w2 ⟨rfl, bb⟩
      have HB3 := hide (HB2.out.trans (bb.mono HB2.out.size))
      have HR3 := hide (HR2.out.below bb)
      have HD' := hide ((bb.block _ (lt_heap HD.out)).trans HD.out)
      clear HD d0 d1 HB2 HR2 bb
      have HD := HD'
      clear HD'
      have d0 : w2.cell? ⟨b, 0, none⟩ = some (.string fa) := cell_at HD.out 0
      have d1 : w2.cell? ⟨b, 1, none⟩ = some (.string fb) := cell_at HD.out 1
      rw [low_beq fa n fb]
      have HX := hide (HNX.out (fa, fb) HE.out)
      cases hb : nmB n (fa, fb) with
      | true =>
        have HO2 : Hid (allS (A.take (k + 1)) n = O ++ [fb]) := hide (by rw [HX.out, if_pos (show nmB n (fa, fb) = true from hb), HO.out])
        have hO2 : (O ++ [fb]).length ≤ A.length := by rw [← HO2.out]; exact HLN.out
        clear hb HX
        go_wp2_with fail
        refine (clone_any fb w2 (by omega)).mono ?_
        rintro e w3 ⟨rfl, bb⟩
        have HB4 := hide (HB3.out.trans (bb.mono HB3.out.size))
        have HR4 := hide (HR3.out.below bb)
        have HD' := hide ((bb.block _ (lt_heap HD.out)).trans HD.out)
        clear HD d0 d1 HB3 HR3 bb
        have HD := HD'
        clear HD'
        have d0 : w3.cell? ⟨b, 0, none⟩ = some (.string fa) := cell_at HD.out 0
        have d1 : w3.cell? ⟨b, 1, none⟩ = some (.string fb) := cell_at HD.out 1
        go_wp2_with (at_builtin; apply Hid.out)
        unfold Hid
        refine wpList_append_one elS rfl _ _ rfl w3 w1.heap.size (.slice a6 O.length c6) (sc O) (.string fb) rfl rfl HR4.out rfl (by rw [sc_len]; omega) (by rw [sc_len]; omega) HB4.out.size ?_
        intro v' w4 O' B'
        have O5 := hide O'
        have B5 := hide (HB4.out.trans B')
        clear O' B'
        go_wp2
        exact ⟨⟨k + 1, O ++ [fb], by omega, by go_num, hO2, HO2, hide (by rw [sc_snoc]; exact O5.out), B5⟩, by simp [intOf]; omega⟩
      | false =>
        have HO2 : Hid (allS (A.take (k + 1)) n = O) := hide (by rw [HX.out, if_neg (show ¬ nmB n (fa, fb) = true from fun h => by rw [show nmB n (fa, fb) = nmB n (fa, fb) from rfl, hb] at h; cases h), HO.out])
        clear hb HX
        go_wp2
        exact ⟨⟨k + 1, O, by omega, by go_num, hO, HO2, HR3, HB3⟩, by simp [intOf]; omega⟩
    · have HE : Hid (allS A n = O) := hide (by rw [← HO.out, List.take_of_length_le (by omega)])
      go_wp2
      go_ret
      exact ⟨_, rfl, by rw [HE.out]; exact HR.out.lower B1.out.size, B1.out.trans (HB.out.mono B1.out.size)⟩
end Go.Proofs.YtacnnomkacfdbaaGreatDoor
/- An append to a row of the call's own: which blocks stay as they were, and where the new row lies. -/
namespace Go.Proofs.YtacnnomkacfdbaaGreatDoor
open Go.ChangeShapes Go.WideShapes Go.ChangeAt Go.RowKit

/-- From W and the row v to W' and the row v': all blocks but v's own are as they were, and v' lies in none of them. -/
structure Kept (W W' : World) (v v' : Value) : Prop where
  size : W.heap.size ≤ W'.heap.size
  block : ∀ g, g < W.heap.size → v.ownBlock ≠ some g → W'.heap[g]? = W.heap[g]?
  apart : ∀ g, g < W.heap.size → v.ownBlock ≠ some g → v'.ownBlock ≠ some g
theorem Kept.refl (W : World) (v : Value) : Kept W W v v := ⟨Nat.le_refl _, fun _ _ _ => rfl, fun _ _ h => h⟩
theorem Kept.trans {A B C : World} {u v x : Value} (h : Kept A B u v) (k : Kept B C v x) : Kept A C u x :=
  ⟨Nat.le_trans h.size k.size, fun g hg hn => (k.block g (Nat.lt_of_lt_of_le hg h.size) (h.apart g hg hn)).trans (h.block g hg hn), fun g hg hn => k.apart g (Nat.lt_of_lt_of_le hg h.size) (h.apart g hg hn)⟩
theorem Kept.below {A B C : World} {u v : Value} (h : Kept A B u v) (hb : Below B.heap.size B C) : Kept A C u v :=
  ⟨Nat.le_trans h.size hb.size, fun g hg hn => (hb.block g (Nat.lt_of_lt_of_le hg h.size)).trans (h.block g hg hn), h.apart⟩
theorem Kept.cell {W W' : World} {v v' : Value} (h : Kept W W' v v') {g j : Nat} (hg : g < W.heap.size) (hn : v.ownBlock ≠ some g) : W'.cell? ⟨g, j, none⟩ = W.cell? ⟨g, j, none⟩ := by
  unfold World.cell?
  rw [h.block g hg hn]
theorem append_one_k {t e : TypeId} {z : Value} {bts : Nat} (E : El t e z bts) (W : World) (base : Nat) (ty : TypeId) (v : Value) (xs : List Value) (y : Value) (hown : Row W base e v xs) (hy : y.oneCell' = true) (hn : (xs.length + 1) * bts ≤ 140737488355328) (hn2 : xs.length + 1 ≤ 140737488355328) (hbase : base ≤ W.heap.size) :
    ∃ v' W', (Builtin.append_ #[t, t] ty #[v, .slice (some ⟨W.heap.size, 0, none⟩) 1 1]).run Tryz.prog (W.alloc (.cells #[y] e)) = .ok v' W' ∧ Row W' base e v' (xs ++ [y]) ∧ Below base W W' ∧ Kept W W' v v' := by
  obtain ⟨i, hi, hz, hs1, hb1⟩ := E.i
  have ho : Row (W.alloc (.cells #[y] e)) base e v xs := hown.frame fun g hg => Below.heap_alloc W _ g (hown.lt hg).2
  have hsz : (W.alloc (.cells #[y] e)).heap.size = W.heap.size + 1 := by show (W.heap.push _).size = _; simp
  obtain ⟨v', W', hr, h1, hg, _, hloc⟩ := run_append_own_at (w := W.alloc (.cells #[y] e)) base t ty e i z 1 bts E.u hi hz hs1 hb1 E.z1 (by omega) v xs.length xs ho ⟨W.heap.size, 0, none⟩ 1 1 [y] rfl (one_cell W y e) (by intro u hu; simp at hu; subst hu; exact hy) (by unfold maxLen; omega) hn (by rw [hsz]; omega)
  refine ⟨v', W', hr, ?_, ?_, ?_⟩
  · unfold Row
    rw [List.length_append]
    exact h1
  · exact ((Below.refl base W).alloc hbase _).grown hg (by rw [hsz]; omega) (fun k hk => (hown.lt hk).1)
  · have hs2 := hg.size
    refine ⟨by rw [hsz] at hs2; omega, fun g h2 h3 => ?_, fun g h2 h3 h4 => ?_⟩
    · rw [hg.block g (by rw [hsz]; omega) (fun h => h3 h.symm)]
      exact Below.heap_alloc W _ g h2
    · rcases hloc with h5 | h5
      · exact h3 (h5.symm.trans h4)
      · rw [h5, hsz] at h4
        simp only [Option.some.injEq] at h4
        omega
theorem wpList_append_one_k {t e : TypeId} {z : Value} {bts : Nat} (E : El t e z bts) {ops : Array Oper} {rest : List Oper} {o : Oper} {a : Act} {Q : Exit → Act → World → Prop} (hgd : o.guard = none) (s x : Operand)
    (ho : o.op = .call { callee := .builtin .append, args := #[s, x], argTypes := #[t, t] }) (W : World) (base : Nat) (v : Value) (xs : List Value) (y : Value) (hs : a.eval s = v) (hx : a.eval x = .slice (some ⟨W.heap.size, 0, none⟩) 1 1)
    (hown : Row W base e v xs) (hy : y.oneCell' = true) (hn : (xs.length + 1) * bts ≤ 140737488355328) (hn2 : xs.length + 1 ≤ 140737488355328) (hbase : base ≤ W.heap.size)
    (h : ∀ v' W', Row W' base e v' (xs ++ [y]) → Below base W W' → Kept W W' v v' → wpList Tryz.prog ops Q rest (a.put o.dst v') W') : wpList Tryz.prog ops Q (o :: rest) a (W.alloc (.cells #[y] e)) := by
  refine wpList_plain hgd fun K hK => ?_
  obtain ⟨v', W', hr, h2, h3, h4⟩ := append_one_k E W base o.type v xs y hown hy hn hn2 hbase
  unfold Oper.wp execOp
  simp only [ho, resolve, invoke, builtin, Sem.run_bind, Sem.run_pure, Result.andThen_ok, List.map_toArray, List.map_cons, List.map_nil, hs, hx, hr]
  exact hK _ _ (h v' W' h2 h3 h4)
end Go.Proofs.YtacnnomkacfdbaaGreatDoor
/- The elements of a name: the program's, the document's. -/
namespace Go.Proofs.YtacnnomkacfdbaaGreatDoor
open Go.ChangeShapes Go.WideShapes Go.ChangeAt Go.RowKit

theorem elem_mem {p x : List UInt8} (h : x ∈ elem p) : x.length ≤ p.length := by
  unfold elem at h
  split at h
  · cases h
  · simp at h; subst h; exact trimB_le p
theorem listB_mem (l : List UInt8) : ∀ x ∈ listB l, x.length ≤ l.length := by
  induction h : l.length using Nat.strongRecOn generalizing l with
  | ind n ih =>
    intro x hx
    by_cases h0 : l = []
    · subst h0; rw [listB_nil] at hx; cases hx
    · have hp : 0 < l.length := List.length_pos_iff.2 h0
      rw [listB_cons h0] at hx
      rcases List.mem_append.1 hx with hx | hx
      · have := elem_mem hx
        rw [List.length_take] at this
        omega
      · have := ih _ (by rw [List.length_drop]; omega) (l.drop (pend false false l + 1)) rfl x hx
        rw [List.length_drop] at this
        omega

/-- A value's elements, in small letters. -/
def smallS (v : ByteArray) : List ByteArray := (listS v.data.toList).map lowS
def itemsV (V : List ByteArray) : List ByteArray := V.flatMap smallS
def itemsS (A : List (ByteArray × ByteArray)) (n : ByteArray) : List ByteArray := itemsV (allS A n)
theorem itemsV_snoc (V : List ByteArray) (k : Nat) (hk : k < V.length) (x : ByteArray) (hx : V[k] = x) : itemsV (V.take (k + 1)) = itemsV (V.take k) ++ smallS x := by
  rw [take_snocF V k hk, hx]
  simp [itemsV]
theorem smallS_len (v : ByteArray) : (smallS v).length ≤ v.size := by
  unfold smallS
  rw [List.length_map, ← size_len]
  exact listS_len _
theorem smallS_mem {v x : ByteArray} (h : x ∈ smallS v) : x.size ≤ v.size := by
  unfold smallS listS at h
  simp only [List.mem_map] at h
  obtain ⟨_, ⟨y, hy, rfl⟩, rfl⟩ := h
  have := listB_mem _ y hy
  rw [size_len] at this
  rw [lowS_size, sS_size]
  exact this
theorem listS_mem {v x : ByteArray} (h : x ∈ listS v.data.toList) : x.size ≤ v.size := by
  unfold listS at h
  simp only [List.mem_map] at h
  obtain ⟨y, hy, rfl⟩ := h
  have := listB_mem _ y hy
  rw [size_len] at this
  rw [sS_size]
  exact this
theorem allS_mem {A : List (ByteArray × ByteArray)} {n x : ByteArray} (hs : Sm A) (h : x ∈ allS A n) : x.size ≤ 1048576 := by
  unfold allS at h
  simp only [List.mem_map, List.mem_filter] at h
  obtain ⟨f, ⟨h1, _⟩, rfl⟩ := h
  exact (hs.2 f h1).2
theorem allS_le {A : List (ByteArray × ByteArray)} {n : ByteArray} (hs : Sm A) : (allS A n).length ≤ 1048576 := by
  unfold allS
  rw [List.length_map]
  exact Nat.le_trans (List.length_filter_le _ _) hs.1
theorem itemsV_len (V : List ByteArray) (hV : ∀ x ∈ V, x.size ≤ 1048576) : (itemsV V).length ≤ V.length * 1048576 := by
  induction V with
  | nil => simp [itemsV]
  | cons a r ih =>
    have h1 := ih (fun x hx => hV x (List.mem_cons_of_mem _ hx))
    have h2 := smallS_len a
    have h3 := hV a (List.mem_cons_self ..)
    simp only [itemsV, List.flatMap_cons, List.length_append, List.length_cons] at h1 ⊢
    omega
theorem itemsV_mem (V : List ByteArray) (hV : ∀ x ∈ V, x.size ≤ 1048576) : ∀ x ∈ itemsV V, x.size ≤ 1048576 := by
  intro x hx
  unfold itemsV at hx
  simp only [List.mem_flatMap] at hx
  obtain ⟨v, hv, hx⟩ := hx
  exact Nat.le_trans (smallS_mem hx) (hV v hv)
end Go.Proofs.YtacnnomkacfdbaaGreatDoor
/- A name's values in one text: the program's, the document's. -/
namespace Go.Proofs.YtacnnomkacfdbaaGreatDoor
open Go.ChangeShapes Go.WideShapes Go.ChangeAt Go.RowKit

def getS (V : List ByteArray) : ByteArray := sS (joinB (V.map fun x => x.data.toList))
theorem join_eq : ∀ L : List (List UInt8), Lib.join L [44, 32] = joinB L
  | [] => rfl
  | [x] => by rw [Lib.join_one]; rfl
  | x :: y :: r => by
    have h := join_eq (y :: r)
    rw [joinB, ← h]
    simp [Lib.join, List.intercalate, List.intersperse]
theorem joinB_len : ∀ (V : List ByteArray), (∀ x ∈ V, x.size ≤ 1048576) → (joinB (V.map fun x => x.data.toList)).length ≤ V.length * 1048578
  | [], _ => by simp [joinB]
  | [x], h => by
    have := h x (by simp)
    simp only [List.map_cons, List.map_nil, joinB, size_len, List.length_cons, List.length_nil]
    omega
  | x :: y :: r, h => by
    have h1 := joinB_len (y :: r) (fun z hz => h z (List.mem_cons_of_mem _ hz))
    have h2 := h x (by simp)
    simp only [List.map_cons, joinB, List.length_append, size_len, List.length_cons, List.length_nil] at h1 ⊢
    omega
theorem getS_size (V : List ByteArray) (h : ∀ x ∈ V, x.size ≤ 1048576) : (getS V).size ≤ V.length * 1048578 := by
  unfold getS
  rw [sS_size]
  exact joinB_len V h
theorem get_step (V : List ByteArray) (k : Nat) (h : k < V.length) (t x : ByteArray) (ht : t = getS (V.take k)) (hx : V[k] = x) : (if k = 0 then t ++ x else (t ++ ⟨#[44, 32]⟩) ++ x) = getS (V.take (k + 1)) := by
  have e : ∀ a b : ByteArray, a.data.toList = b.data.toList → a = b := by
    intro a b hab
    cases a; cases b
    simp only [ByteArray.mk.injEq]
    exact Array.toList_inj.1 hab
  apply e
  unfold getS
  rw [sS_list, take_snocF V k h, List.map_append, List.map_cons, List.map_nil, joinB_snoc]
  subst ht hx
  by_cases h0 : k = 0
  · subst h0
    simp [getS, sS_list, joinB]
  · have hn : (V.take k).map (fun x => x.data.toList) ≠ [] := by
      intro hh
      have := congrArg List.length hh
      rw [List.length_map, List.length_take] at this
      simp only [List.length_nil] at this
      omega
    rw [if_neg h0, if_neg hn, app_list, app_list]
    unfold getS
    rw [sS_list]
theorem join_any (g c : Nat) (V : List ByteArray) (w : World) (hc : ∀ (j : Nat) x, V[j]? = some x → w.cell? ⟨g, 0 + j, none⟩ = some (.string x)) (hg : g < w.heap.size) (hV : V.length ≤ 1048576) (hcap : V.length ≤ c) (hz : (joinB (V.map fun x => x.data.toList)).length ≤ V.length * 1048578) :
    Calls Tryz.prog 63 #[.slice (some ⟨g, 0, none⟩) V.length c, .string ⟨#[44, 32]⟩] w fun e w' => e = .returned (.string (getS V)) ∧ Below w.heap.size w w' := by
  have hj : Lib.join (V.map fun x => x.data.toList) (⟨#[44, 32]⟩ : ByteArray).data.toList = joinB (V.map fun x => x.data.toList) := join_eq _
  have h := Tryz.strings_Join g 0 c V ⟨#[44, 32]⟩ w hc hg (by omega) hcap (by rw [hj]; omega)
  rw [hj] at h
  exact h
set_option maxHeartbeats 1000000 in
theorem get_any (w : World) (l : Value) (A : List (ByteArray × ByteArray)) (n : ByteArray) (hA : Flds w l A) (hs : Sm A) (hn : n.size ≤ 1048576) :
    Calls Tryz.prog 43 #[l, .string n] w fun e w' => e = .returned (.tuple #[.string (getS (allS A n)), .bool (decide (0 < (allS A n).length))]) ∧ Below w.heap.size w w' := by
  have HAL := hide (all_any w l A n hA hs hn)
  have HVM := hide (fun x (hx : x ∈ allS A n) => allS_mem hs hx)
  have hVl := allS_le (n := n) hs
  clear hA hs hn
  generalize allS A n = V at HAL HVM hVl ⊢
  have HSZ := hide (joinB_len V HVM.out)
  by_cases h0 : V.length = 0
  · have hV0 : V = [] := List.eq_nil_of_length_eq_zero h0
    subst hV0
    clear h0 hVl
    go_enter Tryz.func43, Tryz.ntmps43
    go_wp2_with fail
    refine HAL.out.mono ?_
    rintro e w1 ⟨v1, rfl, hV, b1⟩
    obtain ⟨a1, c1, rfl, _, _⟩ := hV.shape
    have B1 := hide b1
    clear hV b1 HAL
    go_wp2_with fail
    refine (Tryz.strings_Join_none _ _ _ _).mono ?_
    rintro e w2 ⟨rfl, rfl⟩
    go_wp2
    go_ret2
    exact ⟨rfl, B1.out⟩
  · have hpos : 0 < V.length := by omega
    have td : decide (0 < V.length) = true := decide_eq_true hpos
    rw [td]
    have hpi : (0 : Int) < (V.length : Int) := by omega
    clear h0 td
    go_enter Tryz.func43, Tryz.ntmps43
    go_wp2_with fail
    refine HAL.out.mono ?_
    rintro e w1 ⟨v1, rfl, hV, b1⟩
    obtain ⟨a1, c1, rfl, hcv⟩ := Strs.of_row hV
    have hcap : V.length ≤ c1 := by
      obtain ⟨a2, c2, he, h2, _⟩ := hV.shape
      simp only [Value.slice.injEq] at he
      rw [sc_len] at h2
      rw [he.2.2]
      exact h2
    obtain ⟨g, rfl, hg, _⟩ := hcv 0 hpos
    have HC : Hid (∀ (j : Nat) x, V[j]? = some x → w1.cell? ⟨g, 0 + j, none⟩ = some (.string x)) := hide (fun j x hx => by
      obtain ⟨hj, rfl⟩ := List.getElem?_eq_some_iff.1 hx
      obtain ⟨g', hg', _, hc⟩ := hcv j hj
      simp only [Option.some.injEq, Addr.mk.injEq, and_true] at hg'
      rw [Nat.zero_add, hg']
      exact hc)
    have B1 := hide b1
    have HCP := hide hcap
    clear hV hcv b1 HAL hcap
    go_wp2_with fail
    refine (join_any g c1 V w1 HC.out hg hVl HCP.out HSZ.out).mono ?_
    rintro e w2 ⟨rfl, b2⟩
    go_wp2
    go_ret2
    exact ⟨rfl, B1.out.trans (b2.mono B1.out.size)⟩
end Go.Proofs.YtacnnomkacfdbaaGreatDoor
