/- Hosts and ports as plain functions on bytes; what great letters change of them: no program in it. -/
import Derived.Test.YtekkhjlipijmcaaGreatDoorQZ1
import Derived.Lib.Strings
namespace Go.Proofs.YtekkhjlipijmcaaGreatDoor

def plainc (marks : List UInt8) (c : UInt8) : Bool := alnum c || marks.contains c
def hx (c : UInt8) : Bool := decide (digv c < 16)
/-- Does a text begin with % and two hex digits? -/
def esc : List UInt8 → Bool
  | c :: a :: b :: _ => decide (c = 37) && (hx a && hx b)
  | _ => false
def holdsB (marks : List UInt8) : List UInt8 → Bool
  | [] => true
  | c :: r => (plainc marks c || esc (c :: r)) && holdsB marks r
def hostMarks : List UInt8 := [45, 46, 95, 126, 33, 36, 38, 39, 40, 41, 42, 43, 59, 61]
def pathMarks : List UInt8 := [45, 46, 95, 126, 33, 36, 38, 39, 40, 41, 42, 43, 44, 59, 61, 58, 64, 47]
def queryMarks : List UInt8 := [45, 46, 95, 126, 33, 36, 38, 39, 40, 41, 42, 43, 44, 59, 61, 58, 64, 47, 63]
def brc (c : UInt8) : Bool := decide (c = 58) || decide (c = 46) || hx c
def bracB (l : List UInt8) : Bool := Lib.hasSuffix (l.drop 1) [93] && ((Lib.trimSuffix (l.drop 1) [93]).all brc && !(Lib.trimSuffix (l.drop 1) [93]).isEmpty)
def hostB (l : List UInt8) : Bool := if Lib.hasPrefix l [91] then bracB l else !l.isEmpty && (decide (l.length ≤ 255) && holdsB hostMarks l)

/-! ### Ports -/
def portBad (d : List UInt8) : Bool := !decide (numE 10 d = 0) || (decide (65535 < numV 10 d) || decide (5 < d.length))
def portV (d : List UInt8) : Int := if d = [] then -1 else if portBad d then 0 else numV 10 d
def portE (d : List UInt8) : Nat := if d = [] then 0 else if portBad d then 62 else 0
theorem portV_le (d : List UInt8) : -1 ≤ portV d ∧ portV d ≤ 65535 := by
  unfold portV
  split
  · omega
  · split
    · omega
    · rename_i h
      simp only [portBad, Bool.or_eq_true, not_or, decide_eq_true_eq] at h
      omega

/-! ### Where the port begins -/
def pstep (i : Int) (a : Int × Int × Bool) (c : UInt8) : Int × Int × Bool :=
  if c = 58 then (i, a.2.1, a.2.2) else if c = 91 then (if a.2.2 then a else (a.1, a.1, true)) else if c = 93 then (if a.2.2 then (a.2.1, a.2.1, false) else a) else a
def pfold (l : List UInt8) : Nat × Int × Int × Bool := l.foldl (fun a c => (a.1 + 1, pstep (a.1 : Int) a.2 c)) (0, -1, -1, false)
def pstate (l : List UInt8) : Int × Int × Bool := (pfold l).2
theorem pfold_len (l : List UInt8) : (pfold l).1 = l.length := by
  induction l using snoc_ind with
  | h0 => rfl
  | h1 l c ih => unfold pfold at *; rw [List.foldl_append]; simp [ih]
theorem pstate_snoc (l : List UInt8) (c : UInt8) : pstate (l ++ [c]) = pstep l.length (pstate l) c := by
  have := pfold_len l
  unfold pstate pfold at *
  rw [List.foldl_append]
  simp only [List.foldl_cons, List.foldl_nil]
  rw [this]
theorem pstate_le (l : List UInt8) : (-1 ≤ (pstate l).1 ∧ (pstate l).1 < l.length) ∧ (-1 ≤ (pstate l).2.1 ∧ (pstate l).2.1 < l.length) := by
  induction l using snoc_ind with
  | h0 => simp [pstate, pfold]
  | h1 l c ih =>
    rw [pstate_snoc, List.length_append, List.length_singleton]
    unfold pstep
    split
    · simp; omega
    · split
      · split
        · omega
        · simp; omega
      · split
        · split
          · simp; omega
          · omega
        · omega

def nameOf (l : List UInt8) : List UInt8 := if (pstate l).1 < 0 then l else l.take (pstate l).1.toNat
def digsOf (l : List UInt8) : List UInt8 := if (pstate l).1 < 0 then [] else l.drop ((pstate l).1.toNat + 1)
def hostOk (l : List UInt8) : Bool := hostB (nameOf l) && decide (portE (digsOf l) = 0)
def hostH (l : List UInt8) : List UInt8 := if hostOk l then lowerB (nameOf l) else []
def hostP (l : List UInt8) : Int := if hostOk l then portV (digsOf l) else 0
def hostE (l : List UInt8) : Nat := if hostB (nameOf l) then portE (digsOf l) else 61

/-! ### Great letters -/
def upc (c : UInt8) : UInt8 := if 97 ≤ c.toNat ∧ c.toNat ≤ 122 then UInt8.ofNat (c.toNat - 32) else c
theorem upc_all : ∀ n : Fin 256, alnum (upc (UInt8.ofNat n.val)) = alnum (UInt8.ofNat n.val) ∧ digv (upc (UInt8.ofNat n.val)) = digv (UInt8.ofNat n.val) ∧ lowc (upc (UInt8.ofNat n.val)) = lowc (UInt8.ofNat n.val) ∧
    hostMarks.contains (upc (UInt8.ofNat n.val)) = hostMarks.contains (UInt8.ofNat n.val) ∧ ∀ k ∈ ([37, 46, 58, 91, 93] : List UInt8), (upc (UInt8.ofNat n.val) = k ↔ UInt8.ofNat n.val = k) := by decide +kernel
theorem upc_at (c : UInt8) : alnum (upc c) = alnum c ∧ digv (upc c) = digv c ∧ lowc (upc c) = lowc c ∧ hostMarks.contains (upc c) = hostMarks.contains c ∧ ∀ k ∈ ([37, 46, 58, 91, 93] : List UInt8), (upc c = k ↔ c = k) := by
  have := upc_all ⟨c.toNat, UInt8.toNat_lt c⟩
  simpa using this
def upB (l : List UInt8) : List UInt8 := l.map upc
theorem up_hx (c : UInt8) : hx (upc c) = hx c := by unfold hx; rw [(upc_at c).2.1]
theorem up_plain (c : UInt8) : plainc hostMarks (upc c) = plainc hostMarks c := by unfold plainc; rw [(upc_at c).1, (upc_at c).2.2.2.1]
theorem up_is (c k : UInt8) (h : k ∈ ([37, 46, 58, 91, 93] : List UInt8)) : (upc c = k) = (c = k) := propext ((upc_at c).2.2.2.2 k h)
theorem up_esc (l : List UInt8) : esc (upB l) = esc l := by
  match l with
  | [] => rfl
  | [_] => rfl
  | [_, _] => rfl
  | c :: a :: b :: r =>
    simp only [upB, List.map_cons, esc, up_hx]
    rw [decide_eq_decide.2 (by rw [up_is c 37 (by decide)])]
theorem up_holds (l : List UInt8) : holdsB hostMarks (upB l) = holdsB hostMarks l := by
  induction l with
  | nil => rfl
  | cons c r ih =>
    have e := up_esc (c :: r)
    simp only [upB, List.map_cons] at e ih ⊢
    rw [holdsB, holdsB, ih, up_plain, e]
theorem up_dec (c k : UInt8) (h : k ∈ ([37, 46, 58, 91, 93] : List UInt8)) : decide (upc c = k) = decide (c = k) := decide_eq_decide.2 (by rw [up_is c k h])
theorem up_brc (c : UInt8) : brc (upc c) = brc c := by
  unfold brc
  rw [up_hx, up_dec c 58 (by decide), up_dec c 46 (by decide)]
theorem suffix_last (l : List UInt8) (c : UInt8) : Lib.hasSuffix l [c] = decide (l.getLast? = some c) := by
  unfold Lib.hasSuffix
  rw [Bool.eq_iff_iff, List.isSuffixOf_iff_suffix, decide_eq_true_eq]
  constructor
  · rintro ⟨r, rfl⟩; simp
  · intro h
    revert h
    induction l using snoc_ind with
    | h0 => intro h; simp at h
    | h1 l a _ =>
      intro h
      simp only [List.getLast?_append, List.getLast?_singleton, Option.some_or, Option.some.injEq] at h
      subst h
      exact ⟨l, rfl⟩
theorem up_last (l : List UInt8) : (upB l).getLast? = l.getLast?.map upc := by unfold upB; rw [List.getLast?_map]
theorem up_suffix (l : List UInt8) : Lib.hasSuffix (upB l) [93] = Lib.hasSuffix l [93] := by
  rw [suffix_last, suffix_last, up_last]
  refine decide_eq_decide.2 ?_
  cases l.getLast? with
  | none => simp
  | some c => simp [up_is c 93 (by decide)]
theorem up_trim (l : List UInt8) : Lib.trimSuffix (upB l) [93] = upB (Lib.trimSuffix l [93]) := by
  unfold Lib.trimSuffix
  rw [up_suffix]
  split
  · simp [upB, List.map_take]
  · rfl
theorem up_all (l : List UInt8) : (upB l).all brc = l.all brc := by
  unfold upB
  rw [List.all_map]
  congr 1
  exact funext up_brc
theorem up_empty (l : List UInt8) : (upB l).isEmpty = l.isEmpty := by cases l <;> rfl
theorem up_len (l : List UInt8) : (upB l).length = l.length := by simp [upB]
theorem prefix_head (l : List UInt8) (c : UInt8) : Lib.hasPrefix l [c] = decide (l.head? = some c) := by
  unfold Lib.hasPrefix
  cases l with
  | nil => rfl
  | cons a r =>
    simp only [List.isPrefixOf, List.head?_cons, Option.some.injEq, Bool.and_true]
    rw [Bool.eq_iff_iff, beq_iff_eq, decide_eq_true_eq]
    exact ⟨fun h => h.symm, fun h => h.symm⟩
theorem up_prefix (l : List UInt8) : Lib.hasPrefix (upB l) [91] = Lib.hasPrefix l [91] := by
  rw [prefix_head, prefix_head]
  refine decide_eq_decide.2 ?_
  cases l with
  | nil => rfl
  | cons a r => simp [upB, up_is a 91 (by decide)]
theorem up_host (l : List UInt8) : hostB (upB l) = hostB l := by
  unfold hostB bracB
  rw [up_prefix, up_empty, up_len, up_holds]
  have : (upB l).drop 1 = upB (l.drop 1) := by simp [upB]
  rw [this, up_suffix, up_trim, up_all, up_empty]
theorem up_pstep (i : Int) (a : Int × Int × Bool) (c : UInt8) : pstep i a (upc c) = pstep i a c := by
  unfold pstep
  simp only [up_is c 58 (by decide), up_is c 91 (by decide), up_is c 93 (by decide)]
theorem up_pstate (l : List UInt8) : pstate (upB l) = pstate l := by
  induction l using snoc_ind with
  | h0 => rfl
  | h1 l c ih =>
    have : upB (l ++ [c]) = upB l ++ [upc c] := by simp [upB]
    rw [this, pstate_snoc, pstate_snoc, ih, up_len, up_pstep]
theorem up_accu (b : Nat) (l : List UInt8) : accu b (upB l) = accu b l := by
  induction l using snoc_ind with
  | h0 => rfl
  | h1 l c ih =>
    have : upB (l ++ [c]) = upB l ++ [upc c] := by simp [upB]
    rw [this, accu_snoc, accu_snoc, ih]
    unfold stp
    rw [(upc_at c).2.1]
theorem up_digs (b : Nat) (l : List UInt8) : (upB l).all (fun c => decide (digv c < b)) = l.all (fun c => decide (digv c < b)) := by
  unfold upB
  rw [List.all_map]
  congr 1
  funext c
  simp only [Function.comp, (upc_at c).2.1]
theorem up_nil (l : List UInt8) : (upB l = []) = (l = []) := by cases l <;> simp [upB]
theorem up_numV (b : Nat) (l : List UInt8) : numV b (upB l) = numV b l := by
  unfold numV
  simp only [up_nil, up_digs, up_accu]
theorem up_numE (b : Nat) (l : List UInt8) : numE b (upB l) = numE b l := by
  unfold numE
  simp only [up_nil, up_digs, up_accu]
theorem up_portBad (l : List UInt8) : portBad (upB l) = portBad l := by
  unfold portBad
  rw [up_numV, up_numE, up_len]
theorem up_portV (l : List UInt8) : portV (upB l) = portV l := by
  unfold portV
  simp only [up_nil, up_portBad, up_numV]
theorem up_portE (l : List UInt8) : portE (upB l) = portE l := by
  unfold portE
  simp only [up_nil, up_portBad]
theorem up_lower (l : List UInt8) : lowerB (upB l) = lowerB l := by
  unfold lowerB upB
  rw [List.map_map]
  congr 1
  funext c
  exact (upc_at c).2.2.1
theorem up_name (l : List UInt8) : nameOf (upB l) = upB (nameOf l) := by
  unfold nameOf
  rw [up_pstate]
  split
  · rfl
  · simp [upB, List.map_take]
theorem up_dig (l : List UInt8) : digsOf (upB l) = upB (digsOf l) := by
  unfold digsOf
  rw [up_pstate]
  split
  · rfl
  · simp [upB, List.map_drop]
theorem up_ok (l : List UInt8) : hostOk (upB l) = hostOk l := by
  unfold hostOk
  rw [up_name, up_dig, up_host, up_portE]
/-- A host's letters may be great or small. -/
theorem up_all3 (l : List UInt8) : hostH (upB l) = hostH l ∧ hostP (upB l) = hostP l ∧ hostE (upB l) = hostE l := by
  refine ⟨?_, ?_, ?_⟩
  · unfold hostH; rw [up_ok, up_name, up_lower]
  · unfold hostP; rw [up_ok, up_dig, up_portV]
  · unfold hostE; rw [up_name, up_dig, up_host, up_portE]
end Go.Proofs.YtekkhjlipijmcaaGreatDoor
