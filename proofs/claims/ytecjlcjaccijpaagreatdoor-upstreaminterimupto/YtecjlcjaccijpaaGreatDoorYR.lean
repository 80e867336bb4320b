/- YR. -/
import Derived.Test.YtecjlcjaccijpaaGreatDoorYH2
import Derived.Test.YtecjlcjaccijpaaGreatDoorYG
import Derived.Test.YtecjlcjaccijpaaGreatDoorYQ
import Derived.Test.YtecjlcjaccijpaaGreatDoorYK
import Derived.Test.YtecjlcjaccijpaaGreatDoorYB2
import Derived.Test.YtecjlcjaccijpaaGreatDoorYF2
namespace Go.Proofs.YtecjlcjaccijpaaGreatDoor
open Go.ChangeShapes Go.WideShapes Go.ChangeAt Go.RowKit
set_option linter.unusedVariables false
set_option maxHeartbeats 16000000
set_option maxRecDepth 100000
inductive UR where
 | bad (n : Nat) (e : Int)
 | cut (n : Nat)
 | got (n : Nat) (p : Pz) (o : Fo)
def uO (me : ByteArray) (p : Pz) : Fo := resO p.fs p.req (p.minor : Int) (p.status : Int) me
def uHd (me : ByteArray) (most : Nat) : Nat -> Nat -> List UInt8 -> UR
 | 0, N, _ => .bad N 80
 | f + 1, N, l =>
  if (pBytes (pNew false most) l).1 ≠ 0 then .bad (N + (pBytes (pNew false most) l).2.1) ((pBytes (pNew false most) l).1 : Int)
  else if (pBytes (pNew false most) l).2.2.whole = false then .cut (N + (pBytes (pNew false most) l).2.1)
  else if 200 <= (pBytes (pNew false most) l).2.2.status then
   if (uO me (pBytes (pNew false most) l).2.2).e ≠ 0 then .bad (N + (pBytes (pNew false most) l).2.1) (uO me (pBytes (pNew false most) l).2.2).e
   else .got (N + (pBytes (pNew false most) l).2.1) (pBytes (pNew false most) l).2.2 (uO me (pBytes (pNew false most) l).2.2)
  else if (pBytes (pNew false most) l).2.2.status = 101 ∨ f = 0 then .bad (N + (pBytes (pNew false most) l).2.1) 80
  else uHd me most f (N + (pBytes (pNew false most) l).2.1) (l.drop (pBytes (pNew false most) l).2.1)
section
variable {me : ByteArray} {most f N n e : Nat} {l : List UInt8} {p : Pz}
theorem uHd_bad (h : pBytes (pNew false most) l = (e, n, p)) (h0 : e ≠ 0) : uHd me most (f + 1) N l = .bad (N + n) (e : Int) := by
 unfold uHd; rw [h]; dsimp only; rw [if_pos h0]
theorem uHd_cut (h : pBytes (pNew false most) l = (0, n, p)) (h0 : p.whole = false) : uHd me most (f + 1) N l = .cut (N + n) := by
 unfold uHd; rw [h]; dsimp only; rw [if_neg (by omega), if_pos h0]
theorem uHd_refused (h : pBytes (pNew false most) l = (0, n, p)) (h0 : p.whole = true) (h1 : 200 <= p.status) (h2 : (uO me p).e ≠ 0) : uHd me most (f + 1) N l = .bad (N + n) (uO me p).e := by
 unfold uHd; rw [h]; dsimp only; rw [if_neg (by omega), if_neg (by simp [h0]), if_pos h1, if_pos h2]
theorem uHd_got (h : pBytes (pNew false most) l = (0, n, p)) (h0 : p.whole = true) (h1 : 200 <= p.status) (h2 : (uO me p).e = 0) : uHd me most (f + 1) N l = .got (N + n) p (uO me p) := by
 unfold uHd; rw [h]; dsimp only; rw [if_neg (by omega), if_neg (by simp [h0]), if_pos h1, if_neg (by simp [h2])]
theorem uHd_start (h : pBytes (pNew false most) l = (0, n, p)) (h0 : p.whole = true) (h1 : p.status < 200) (h2 : p.status = 101 ∨ f = 0) : uHd me most (f + 1) N l = .bad (N + n) 80 := by
 unfold uHd; rw [h]; dsimp only; rw [if_neg (by omega), if_neg (by simp [h0]), if_neg (by omega), if_pos h2]
theorem uHd_on (h : pBytes (pNew false most) l = (0, n, p)) (h0 : p.whole = true) (h1 : p.status < 200) (h2 : p.status ≠ 101) (h3 : f ≠ 0) : uHd me most (f + 1) N l = uHd me most f (N + n) (l.drop n) := by
 rw [uHd, h]; dsimp only; rw [if_neg (by omega), if_neg (by simp [h0]), if_neg (by omega), if_neg (by omega)]
end
theorem by_le : ∀ (l : List UInt8) (p : Pz), (pBytes p l).2.1 <= l.length
 | [], p => Nat.le_refl _
 | c :: r, p => by
  unfold pBytes
  split
  ·simp
  ·split
   ·simp
   ·have := by_le r (pNext p c).2
    simpa using this
structure Sn where
 n : Int
 r : Bool
 me : ByteArray
 ta : ByteArray
 mi : Int
 st : Int
 re : ByteArray
 u : Value
 th : Bool
 fk : Int
 fl : Int
 fp : Bool
 ov : Value
 wh : Bool
 e : Int
def sn0 : Sn := ⟨0, false, ⟨#[]⟩, ⟨#[]⟩, 0, 0, ⟨#[]⟩, .slice none 0 0, false, 0, 0, false, .slice none 0 0, false, 0⟩
def snC (s : Sn) : Array Value := #[.int .i64 s.n, .bool s.r, .string s.me, .string s.ta, .int .i64 s.mi, .int .i64 s.st, .string s.re, s.u, .bool s.th, .int .i64 s.fk, .int .i64 s.fl, .bool s.fp, s.ov, .bool s.wh, .int .i64 s.e]
def snV (s : Sn) : Value := .agg #[.int .i64 s.n, .bool s.r, .string s.me, .string s.ta, .int .i64 s.mi, .int .i64 s.st, .string s.re, s.u, .bool s.th, .int .i64 s.fk, .int .i64 s.fl, .bool s.fp, s.ov, .bool s.wh, .int .i64 s.e]
abbrev SnB (w : World) (b : Nat) (s : Sn) : Prop := w.heap[b]? = some (.cells (snC s) 31 (0, 0))
/-! ### A head's bytes -/
theorem ub_all : ∀ (l : List UInt8) (p : Pz), p.whole = false -> (pBytes p l).1 = 0 -> (pBytes p l).2.2.whole = false -> (pBytes p l).2.1 = l.length
 | [], _, _, _, _ => rfl
 | c :: r, p, hp, h1, h2 => by
  rw [pBytes] at h1 h2 |-
  by_cases he : (pNext p c).1 ≠ 0
  ·rw [if_pos he] at h1
   exact absurd h1 he
  ·rw [if_neg he] at h1 h2 |-
   by_cases hw : (pNext p c).2.whole = true
   ·rw [if_pos hw] at h2
    rw [h2] at hw
    cases hw
   ·rw [if_neg hw] at h1 h2 |-
    have := ub_all r _ (by simpa using hw) h1 h2
    simp only [List.length_cons]
    omega
theorem ub_pos : ∀ (l : List UInt8) (p : Pz), p.whole = false -> (pBytes p l).2.2.whole = true -> 1 <= (pBytes p l).2.1
 | [], p, hp, h => by rw [pBytes] at h; rw [hp] at h; cases h
 | c :: r, p, _, _ => by
  rw [pBytes]
  split
  ·exact Nat.le_refl _
  ·split
   ·exact Nat.le_refl _
   ·exact Nat.succ_le_succ (Nat.zero_le _)
theorem ub_cut : ∀ (l : List UInt8) (p : Pz) (k : Nat), p.whole = false -> (pBytes p l).1 = 0 -> k < (pBytes p l).2.1 -> (pBytes p (l.take k)).1 = 0 /\ (pBytes p (l.take k)).2.2.whole = false
 | [], p, k, _, _, hk => by rw [pBytes] at hk; simp at hk
 | c :: r, p, 0, hp, _, _ => ⟨rfl, hp⟩
 | c :: r, p, k + 1, hp, h1, hk => by
  rw [List.take_succ_cons, pBytes]
  rw [pBytes] at h1 hk
  by_cases he : (pNext p c).1 ≠ 0
  ·rw [if_pos he] at h1
   exact absurd h1 he
  ·rw [if_neg he] at h1 hk |-
   by_cases hw : (pNext p c).2.whole = true
   ·rw [if_pos hw] at hk
    simp at hk
   ·rw [if_neg hw] at h1 hk |-
    exact ub_cut r _ k (by simpa using hw) h1 (by dsimp only at hk; omega)
theorem ub_more : ∀ (l m : List UInt8) (p : Pz), p.whole = false -> (pBytes p l).1 = 0 -> (pBytes p l).2.2.whole = true -> pBytes p (l.take (pBytes p l).2.1 ++ m) = pBytes p l
 | [], m, p, hp, _, h2 => by rw [pBytes] at h2; rw [hp] at h2; cases h2
 | c :: r, m, p, hp, h1, h2 => by
  rw [pBytes] at h1 h2 |-
  by_cases he : (pNext p c).1 ≠ 0
  ·rw [if_pos he] at h1
   exact absurd h1 he
  ·rw [if_neg he] at h1 h2 |-
   by_cases hw : (pNext p c).2.whole = true
   ·rw [if_pos hw]
    rw [List.take_succ_cons, List.take_zero, List.cons_append, pBytes, if_neg he, if_pos hw]
   ·rw [if_neg hw] at h1 h2 |-
    have := ub_more r m _ (by simpa using hw) h1 h2
    rw [List.take_succ_cons, List.cons_append, pBytes, if_neg he, if_neg hw, this]
theorem unew_open (rq : Bool) (most : Nat) : (pNew rq most).whole = false := rfl
structure Hw (rq : Bool) (most : Nat) (l : List UInt8) (k : Nat) (q : Pz) : Prop where
 pos : 1 <= k
 le : k <= l.length
 more : ∀ m, pBytes (pNew rq most) (l ++ m) = (0, k, q)
 from' : ∀ x, k <= x -> pBytes (pNew rq most) (l.take x) = (0, k, q)
 cut : ∀ c, c < k -> ∃ q', pBytes (pNew rq most) (l.take c) = (0, c, q') /\ q'.whole = false
theorem hw_of {rq : Bool} {most k : Nat} {l : List UInt8} {q : Pz} (h : pBytes (pNew rq most) l = (0, k, q)) (hw : q.whole = true) : Hw rq most l k q := by
 have h1 : (pBytes (pNew rq most) l).1 = 0 := by rw [h]
 have h2 : (pBytes (pNew rq most) l).2.1 = k := by rw [h]
 have h3 : (pBytes (pNew rq most) l).2.2.whole = true := by rw [h]; exact hw
 have hle : k <= l.length := by rw [<- h2]; exact by_le l _
 have hm := fun m => ub_more l m _ (unew_open rq most) h1 h3
 rw [h2, h] at hm
 refine ⟨?_, hle, fun m => ?_, fun x hx => ?_, fun c hc => ?_⟩
 ·rw [<- h2]; exact ub_pos l _ (unew_open rq most) h3
 ·have := hm (l.drop k ++ m)
  rwa [<- List.append_assoc, List.take_append_drop] at this
 ·have := hm ((l.drop k).take (x - k))
  have e : l.take x = l.take k ++ (l.drop k).take (x - k) := by
   rw [<- List.take_add]; congr 1; omega
  rw [e]; exact this
 ·obtain ⟨a, b⟩ := ub_cut l _ c (unew_open rq most) h1 (by rw [h2]; exact hc)
  have d := ub_all (l.take c) _ (unew_open rq most) a b
  rw [List.length_take, Nat.min_eq_left (by omega)] at d
  exact ⟨_, Prod.ext a (Prod.ext d rfl), b⟩
/-! ### The heads of a response -/
section
variable {me : ByteArray} {most : Nat}
theorem uHd_first {f N n : Nat} {l : List UInt8} {p : Pz} {o : Fo} (h : uHd me most (f + 1) N l = .got n p o) :
  ∃ k q, Hw false most l k q /\ q.whole = true /\ pBytes (pNew false most) l = (0, k, q) /\ ((200 <= q.status /\ (uO me q).e = 0 /\ n = N + k /\ p = q /\ o = uO me q) ∨ (q.status < 200 /\ q.status ≠ 101 /\ f ≠ 0 /\ uHd me most f (N + k) (l.drop k) = .got n p o)) := by
 obtain ⟨e, k, q, hP⟩ : ∃ e k q, pBytes (pNew false most) l = (e, k, q) := ⟨_, _, _, rfl⟩
 by_cases he : e = 0
 ·subst he
  cases hw : q.whole with
  | false => rw [uHd_cut hP hw] at h; cases h
  | true =>
   refine ⟨k, q, hw_of hP hw, hw, hP, ?_⟩
   by_cases h200 : 200 <= q.status
   ·by_cases h0 : (uO me q).e = 0
    ·rw [uHd_got hP hw h200 h0] at h
     injection h with a b c
     exact .inl ⟨h200, h0, a.symm, b.symm, c.symm⟩
    ·rw [uHd_refused hP hw h200 h0] at h; cases h
   ·by_cases h101 : q.status = 101 ∨ f = 0
    ·rw [uHd_start hP hw (by omega) h101] at h; cases h
    ·rw [not_or] at h101
     rw [uHd_on hP hw (by omega) h101.1 h101.2] at h
     exact .inr ⟨by omega, h101.1, h101.2, h⟩
 ·rw [uHd_bad hP he] at h; cases h
theorem uHd_le : ∀ {f N n : Nat} {l : List UInt8} {p : Pz} {o : Fo}, uHd me most f N l = .got n p o -> N < n /\ n <= N + l.length /\ p.whole = true /\ 200 <= p.status /\ o = uO me p /\ o.e = 0
 | 0, _, _, _, _, _, h => by rw [uHd] at h; cases h
 | f + 1, N, n, l, p, o, h => by
  obtain ⟨k, q, H, hw, _, ⟨a1, a2, a3, a4, a5⟩ | ⟨a1, a2, a3, a4⟩⟩ := uHd_first h
  ·subst a3 a4 a5
   have := H.pos
   have := H.le
   exact ⟨by omega, by omega, hw, a1, rfl, a2⟩
  ·obtain ⟨b1, b2, b3⟩ := uHd_le a4
   rw [List.length_drop] at b2
   have := H.pos
   have := H.le
   exact ⟨by omega, by omega, b3⟩
end
/-! ### A body -/
structure Bo where
 n : Nat
 o : List UInt8
 e : Nat
 w : Bool
def bdY (k n : Int) (b : List UInt8) : Bo :=
 if k = 1 then ⟨0, [], 0, true⟩
 else if k = 2 then ⟨tkN b n.toNat 0, b.take (tkN b n.toNat 0), 0, decide (tkN b n.toNat 0 = n.toNat)⟩
 else if k = 3 then ⟨(dBytes (dNew 9007199254740992) b).2.1, (dBytes (dNew 9007199254740992) b).2.2.1, (dBytes (dNew 9007199254740992) b).1, (dBytes (dNew 9007199254740992) b).2.2.2.whole⟩
 else ⟨b.length, b, 0, false⟩
theorem fin_bd {N E : Nat} {b o : List UInt8} {t : List (ByteArray × ByteArray)} {wh : Bool} {n : Int} (h : Fin' 9007199254740992 b o t N wh E) : bdY 3 n b = ⟨N, o, E, wh⟩ := by
 obtain ⟨d', h1, h2, h3⟩ := h
 unfold bdY
 rw [if_neg (by decide), if_neg (by decide), if_pos rfl, h1]
 simp [h2]
theorem uO_ok {me : ByteArray} {p : Pz} (h : (uO me p).e = 0) : ((uO me p).k = 1 /\ (uO me p).n = 0) ∨ ((uO me p).k = 2 /\ ∃ L : Nat, (uO me p).n = (L : Int) /\ L <= 9007199254740992) ∨ ((uO me p).k = 3 /\ (uO me p).n = 0) ∨ ((uO me p).k = 4 /\ (uO me p).n = 0) := by
 have hl : ∀ I, lenN I <= 9007199254740992 := by
  intro I
  unfold lenN
  split
  ·cases I with
   | nil => simp [firstN]
   | cons x r => exact num_topH _
  ·omega
 unfold uO resO toldO at h |-
 split at h
 ·cases h
 ·rename_i g1
  rw [if_neg g1]
  split at h
  ·rename_i g2
   rw [if_pos g2]
   exact .inl ⟨rfl, rfl⟩
  ·rename_i g2
   rw [if_neg g2]
   repeat' split at h
   all_goals first | (exact absurd h (by decide)) | skip
   ·rename_i g3 g4 g5 g6
    rw [if_neg g3, if_neg g4, if_neg g5, if_pos g6]
    exact .inr (.inr (.inl ⟨rfl, rfl⟩))
   ·rename_i g3 g4 g5 g6 g7
    rw [if_neg g3, if_neg g4, if_neg g5, if_neg g6, if_pos g7]
    exact .inr (.inl ⟨rfl, _, rfl, hl _⟩)
   ·rename_i g3 g4 g5 g6 g7
    rw [if_neg g3, if_neg g4, if_neg g5, if_neg g6, if_neg g7]
    exact .inr (.inr (.inr ⟨rfl, rfl⟩))
/-! ### Interim heads ahead -/
def s103 : List UInt8 := [72, 84, 84, 80, 47, 49, 46, 49, 32, 49, 48, 51, 32, 88, 13, 10, 13, 10]
def setM (m : Nat) (p : Pz) : Pz := { p with most := m }
theorem begun_m (m : Nat) (p : Pz) (v : ByteArray) : pBegun (setM m p) v = ((pBegun p v).1, setM m (pBegun p v).2) := by
 unfold pBegun setM
 repeat' split
 all_goals rfl
theorem line_m (m : Nat) (p : Pz) (s : ByteArray) : pLine (setM m p) s = ((pLine p s).1, setM m (pLine p s).2) := by
 unfold pLine
 rw [show (setM m p).fn = p.fn from rfl]
 split
 ·unfold pReq
  rw [show (setM m p).passed = p.passed from rfl]
  split
  ·rfl
  ·split
   ·exact begun_m m { p with me := k1 32 s, ta := k1 32 (k2 32 s) } _
   ·rfl
 ·split
  ·unfold pRes
   split
   ·exact begun_m m { p with status := numV 10 (k1 32 (k2 32 s)).data.toList, re := k2 32 (k2 32 s) } _
   ·rfl
  ·unfold pFld
   repeat' split
   all_goals first | rfl | (simp_all [setM]; done)
theorem next_m (m : Nat) (p : Pz) (c : UInt8) (h1 : p.read ≠ p.most) (h2 : p.read ≠ m) : pNext (setM m p) c = ((pNext p c).1, setM m (pNext p c).2) := by
 unfold pNext
 rw [show (setM m p).ending = p.ending from rfl, show (setM m p).read = p.read from rfl, show (setM m p).line = p.line from rfl, show (setM m p).most = m from rfl, if_neg h1, if_neg h2]
 split
 ·rfl
 ·split
  ·rfl
  ·split
   ·exact line_m m { p with read := p.read + 1, ending := false, line := [] } _
   ·split
    ·rfl
    ·rfl
theorem pb_m : ∀ (l : List UInt8) (m : Nat) (p : Pz), Fit p -> p.read + l.length <= p.most -> p.read + l.length <= m -> pBytes (setM m p) l = ((pBytes p l).1, (pBytes p l).2.1, setM m (pBytes p l).2.2)
 | [], m, p, _, _, _ => rfl
 | c :: r, m, p, hf, h1, h2 => by
  rw [List.length_cons] at h1 h2
  have hn := next_m m p c (by omega) (by omega)
  rw [pBytes, pBytes, hn]
  dsimp only
  by_cases he : (pNext p c).1 ≠ 0
  ·rw [if_pos he, if_pos he]
  ·rw [if_neg he, if_neg he, show (setM m (pNext p c).2).whole = (pNext p c).2.whole from rfl]
   by_cases hw : (pNext p c).2.whole = true
   ·rw [if_pos hw, if_pos hw]
   ·rw [if_neg hw, if_neg hw]
    have hr : (pNext p c).2.read <= p.read + 1 /\ (pNext p c).2.most = p.most := by
     unfold pNext
     split
     ·exact ⟨Nat.le_succ _, rfl⟩
     ·split
      ·exact ⟨Nat.le_succ _, rfl⟩
      ·split
       ·exact ⟨Nat.le_refl _, rfl⟩
       ·split
        ·have := ok_line { p with read := p.read + 1, ending := false, line := [] } (sS p.line) hf.fs
         exact ⟨Nat.le_of_eq this.read, this.most⟩
        ·split
         ·exact ⟨Nat.le_refl _, rfl⟩
         ·exact ⟨Nat.le_refl _, rfl⟩
    rw [pb_m r m (pNext p c).2 (hf.next c) (by omega) (by omega)]
def p103 : Pz := (pBytes (pNew false 30) s103).2.2
theorem b103_30 : pBytes (pNew false 30) s103 = (0, 18, p103) /\ p103.whole = true /\ p103.status = 103 := by
 refine ⟨Prod.ext ?_ (Prod.ext ?_ rfl), ?_, ?_⟩ <;> decide +kernel
theorem b103 {most : Nat} (h : 18 <= most) : pBytes (pNew false most) s103 = (0, 18, setM most p103) := by
 have := pb_m s103 most (pNew false 30) (fit_new false 30 (by omega)) (by decide) (by unfold s103 pNew; simpa using h)
 rw [b103_30.1] at this
 exact this
theorem uHd_103 {me : ByteArray} {most f N : Nat} (l : List UInt8) (h : 18 <= most) (hf : f ≠ 0) : uHd me most (f + 1) N (s103 ++ l) = uHd me most f (N + 18) l := by
 have hw : (setM most p103).whole = true := b103_30.2.1
 have hs : (setM most p103).status = 103 := b103_30.2.2
 have H := hw_of (b103 h) hw
 rw [uHd_on (H.more l) hw (by omega) (by omega) hf]
 rfl
def s103s : Nat -> List UInt8
 | 0 => []
 | k + 1 => s103s k ++ s103
theorem s103s_len : ∀ k, (s103s k).length = 18 * k
 | 0 => rfl
 | k + 1 => by rw [s103s, List.length_append, s103s_len k, show s103.length = 18 from rfl]; omega
theorem uHd_103s {me : ByteArray} {most : Nat} (h : 18 <= most) : ∀ (k : Nat) {f N : Nat} (l : List UInt8), k < f -> uHd me most f N (s103s k ++ l) = uHd me most (f - k) (N + 18 * k) l
 | 0, f, N, l, _ => by simp [s103s]
 | k + 1, f, N, l, hk => by
  rw [s103s, List.append_assoc, uHd_103s h k (s103 ++ l) (by omega)]
  obtain ⟨g, hg⟩ : ∃ g, f - k = g + 1 := ⟨f - k - 1, by omega⟩
  rw [hg, uHd_103 l h (by omega)]
  rw [show g = f - (k + 1) by omega, show N + 18 * k + 18 = N + 18 * (k + 1) by omega]
theorem Rdr.keepU {w w' : World} {base gr g : Nat} {it ct : TypeId} {t : Tal} {X : List Value} (h : Rdr w base gr g it ct t X) (b : ∀ k, base <= k -> k < w.heap.size -> w'.heap[k]? = w.heap[k]?) : Rdr w' base gr g it ct t X :=
 ⟨(b gr h.rb (lt_heap' h.rd)).trans h.rd, (b g h.fb (lt_heap' h.fr)).trans h.fr, h.ne, h.rb, h.fb⟩
theorem PRd.keepU {w w' : World} {base gr g gd : Nat} {lv tv : Value} {t : Tal} {d : Dz} (h : PRd w base gr g gd lv tv t d) (b : ∀ k, base <= k -> k < w.heap.size -> w'.heap[k]? = w.heap[k]?) : PRd w' base gr g gd lv tv t d := by
 refine ⟨h.rdr.keepU b, ⟨?_, h.pt.dec.frame fun k e => ?_, h.pt.fb, h.pt.gd, h.pt.gl, h.pt.gt⟩, h.rd, h.rl, h.rt⟩
 ·exact ⟨(b g h.rdr.fb (lt_heap' h.rdr.fr)).trans h.pt.fr.fr⟩
 ·rcases e with rfl | e | e
  ·exact b _ h.pt.dec.gb h.pt.dec.lt
  ·exact b k (h.pt.dec.line.lt e).1 (h.pt.dec.line.lt e).2
  ·exact b k (h.pt.dec.trs.lt e).1 (h.pt.dec.trs.lt e).2
def FrmOk (k n : Int) : Prop := (k = 1 /\ n = 0) ∨ (k = 2 /\ ∃ L : Nat, n = (L : Int) /\ L <= 9007199254740992) ∨ (k = 3 /\ n = 0) ∨ (k = 4 /\ n = 0)
def bW0 (k n : Int) : Bool := decide (k = 1) || (decide (k = 2) && decide (n = 0))
def BNw (w : World) (base gr : Nat) (k n : Int) : Prop :=
 (k = 1 /\ ∃ g, Rdr w base gr g 123 125 ⟨0, true, 0⟩ []) ∨
 (k = 2 /\ n = 0 /\ ∃ g, Rdr w base gr g 123 125 ⟨0, true, 0⟩ []) ∨
 (k = 2 /\ ∃ L : Nat, n = (L : Int) /\ L ≠ 0 /\ L <= 9007199254740992 /\ ∃ g, Rdr w base gr g 188 190 ⟨0, false, 0⟩ [.int .i64 (L : Int)]) ∨
 (k = 3 /\ n = 0 /\ ∃ g gd, PRd w base gr g gd (.slice none 0 0) (.slice none 0 0) ⟨0, false, 0⟩ (dNew 9007199254740992)) ∨
 (k = 4 /\ n = 0 /\ ∃ g, Rdr w base gr g 197 199 ⟨0, false, 0⟩ [.int .i64 ((9007199254740992 : Nat) : Int)])
def BSt (w : World) (base gr : Nat) (k : Int) (wh : Bool) (er : Nat) : Prop :=
 ∃ t : Tal, t.whole = wh /\ t.wrong = er /\ ((overT t = true /\ ∃ g, Rdr w base gr g 123 125 t []) ∨
  (overT t = false /\ ((k = 2 /\ ∃ g L : Nat, Rdr w base gr g 188 190 t [.int .i64 (L : Int)]) ∨ (k = 3 /\ ∃ g gd lv tv d, PRd w base gr g gd lv tv t d) ∨ (k = 4 /\ ∃ g L : Nat, Rdr w base gr g 197 199 t [.int .i64 (L : Int)]))))
section
variable {w w' : World} {base gr : Nat} {k n : Int} {wh : Bool} {er : Nat}
theorem BNw.keep (h : BNw w base gr k n) (b : ∀ i, base <= i -> i < w.heap.size -> w'.heap[i]? = w.heap[i]?) : BNw w' base gr k n := by
 rcases h with ⟨a, g, h⟩ | ⟨a, a2, g, h⟩ | ⟨a, L, a2, a3, a4, g, h⟩ | ⟨a, a2, g, gd, h⟩ | ⟨a, a2, g, h⟩
 ·exact .inl ⟨a, g, h.keepU b⟩
 ·exact .inr (.inl ⟨a, a2, g, h.keepU b⟩)
 ·exact .inr (.inr (.inl ⟨a, L, a2, a3, a4, g, h.keepU b⟩))
 ·exact .inr (.inr (.inr (.inl ⟨a, a2, g, gd, h.keepU b⟩)))
 ·exact .inr (.inr (.inr (.inr ⟨a, a2, g, h.keepU b⟩)))
theorem BSt.keep (h : BSt w base gr k wh er) (b : ∀ i, base <= i -> i < w.heap.size -> w'.heap[i]? = w.heap[i]?) : BSt w' base gr k wh er := by
 obtain ⟨t, a1, a2, ⟨a3, g, h⟩ | ⟨a3, ⟨a4, g, L, h⟩ | ⟨a4, g, gd, lv, tv, d, h⟩ | ⟨a4, g, L, h⟩⟩⟩ := h
 ·exact ⟨t, a1, a2, .inl ⟨a3, g, h.keepU b⟩⟩
 ·exact ⟨t, a1, a2, .inr ⟨a3, .inl ⟨a4, g, L, h.keepU b⟩⟩⟩
 ·exact ⟨t, a1, a2, .inr ⟨a3, .inr (.inl ⟨a4, g, gd, lv, tv, d, h.keepU b⟩)⟩⟩
 ·exact ⟨t, a1, a2, .inr ⟨a3, .inr (.inr ⟨a4, g, L, h.keepU b⟩)⟩⟩
theorem BSt.rdr (h : BSt w base gr k wh er) : ∃ g it ct t X, Rdr w base gr g it ct t X /\ KT it /\ t.whole = wh /\ t.wrong = er := by
 obtain ⟨t, a1, a2, ⟨a3, g, h⟩ | ⟨a3, ⟨a4, g, L, h⟩ | ⟨a4, g, gd, lv, tv, d, h⟩ | ⟨a4, g, L, h⟩⟩⟩ := h
 ·exact ⟨g, _, _, t, _, h, .inr (.inr (.inr rfl)), a1, a2⟩
 ·exact ⟨g, _, _, t, _, h, .inl rfl, a1, a2⟩
 ·exact ⟨g, _, _, t, _, h.rdr, .inr (.inl rfl), a1, a2⟩
 ·exact ⟨g, _, _, t, _, h, .inr (.inr (.inl rfl)), a1, a2⟩
theorem BNw.st (h : BNw w base gr k n) : BSt w base gr k (bW0 k n) 0 := by
 rcases h with ⟨a, g, h⟩ | ⟨a, a2, g, h⟩ | ⟨a, L, a2, a3, a4, g, h⟩ | ⟨a, a2, g, gd, h⟩ | ⟨a, a2, g, h⟩
 ·subst a
  exact ⟨_, rfl, rfl, .inl ⟨rfl, g, h⟩⟩
 ·subst a a2
  exact ⟨_, rfl, rfl, .inl ⟨rfl, g, h⟩⟩
 ·subst a a2
  have e : bW0 2 (L : Int) = false := by unfold bW0; simp [a3]
  rw [e]
  exact ⟨_, rfl, rfl, .inr ⟨rfl, .inl ⟨rfl, g, L, h⟩⟩⟩
 ·subst a a2
  exact ⟨_, rfl, rfl, .inr ⟨rfl, .inr (.inl ⟨rfl, g, gd, _, _, _, h⟩)⟩⟩
 ·subst a a2
  exact ⟨_, rfl, rfl, .inr ⟨rfl, .inr (.inr ⟨rfl, g, _, h⟩)⟩⟩
end
theorem bd_nil (k n : Int) (h : FrmOk k n) : bdY k n [] = ⟨0, [], 0, bW0 k n⟩ := by
 rcases h with ⟨rfl, rfl⟩ | ⟨rfl, L, rfl, _⟩ | ⟨rfl, rfl⟩ | ⟨rfl, rfl⟩
 ·rfl
 ·unfold bdY bW0 tkN
  simp
  omega
 ·rfl
 ·rfl
theorem bd_w0 (k n : Int) (b : List UInt8) (h : FrmOk k n) (hw : bW0 k n = true) : bdY k n b = ⟨0, [], 0, true⟩ := by
 rcases h with ⟨rfl, rfl⟩ | ⟨rfl, L, rfl, _⟩ | ⟨rfl, rfl⟩ | ⟨rfl, rfl⟩
 ·rfl
 ·have hL : L = 0 := by unfold bW0 at hw; simpa using hw
  subst hL
  unfold bdY tkN
  simp
 ·cases hw
 ·cases hw
theorem bnew_all {k n : Int} (x : Bool) (hk : FrmOk k n) (W : World) :
  Calls Tryz.prog 88 #[frV k n x, .int .i64 9007199254740992] W fun e w' => ∃ ro, e = .returned (.tuple #[.pointer ro, .int .i64 0]) /\ (∃ gr, ro = some ⟨gr, 0, none⟩ /\ W.heap.size <= gr /\ BNw w' W.heap.size gr k n) /\ Below W.heap.size W w' := by
 rcases hk with ⟨rfl, rfl⟩ | ⟨rfl, L, rfl, hL⟩ | ⟨rfl, rfl⟩ | ⟨rfl, rfl⟩
 ·refine (new_of (it := 123) (ct := 125) (t := ⟨0, true, 0⟩) (X := []) (k := 1) (len := 0) (x := x) (most := 9007199254740992) (w := W) (.inr (.inr (.inr rfl))) (by decide) (by decide) (by decide) (by decide) (fun V => framed_none 0 x _ V)).mono ?_
  rintro e w' ⟨gr, g2, rfl, a1, a2, a3, a4, -⟩
  obtain ⟨g', b1, b2⟩ := a4 rfl
  exact ⟨_, rfl, ⟨gr, rfl, a1, .inl ⟨rfl, g', b2⟩⟩, a3⟩
 ·refine (new_of (it := 188) (ct := 190) (t := ⟨0, decide (L = 0), 0⟩) (X := [.int .i64 (L : Int)]) (k := 2) (len := (L : Int)) (x := x) (most := 9007199254740992) (w := W) (.inl rfl) (by decide) (by decide) (by unfold isR; rw [if_pos rfl]; exact decide_eq_true ⟨by omega, by omega⟩) (by omega) (fun V => framed_len L x _ V)).mono ?_
  rintro e w' ⟨gr, g2, rfl, a1, a2, a3, a4, a5⟩
  by_cases h0 : L = 0
  ·subst h0
   obtain ⟨g', b1, b2⟩ := a4 rfl
   exact ⟨_, rfl, ⟨gr, rfl, a1, .inr (.inl ⟨rfl, rfl, g', b2⟩)⟩, a3⟩
  ·have e0 : decide (L = 0) = false := decide_eq_false h0
   rw [e0] at a5
   exact ⟨_, rfl, ⟨gr, rfl, a1, .inr (.inr (.inl ⟨rfl, L, rfl, h0, hL, g2, a5 rfl⟩))⟩, a3⟩
 ·refine (new_part x 9007199254740992 W (Nat.le_refl _)).mono ?_
  rintro e w' ⟨gr, g2, gd, rfl, a1, a2, a3⟩
  exact ⟨_, rfl, ⟨gr, rfl, a2.rdr.rb, .inr (.inr (.inr (.inl ⟨rfl, rfl, g2, gd, a2⟩)))⟩, a3⟩
 ·refine (new_of (it := 197) (ct := 199) (t := ⟨0, false, 0⟩) (X := [.int .i64 ((9007199254740992 : Nat) : Int)]) (k := 4) (len := 0) (x := x) (most := 9007199254740992) (w := W) (.inr (.inr (.inl rfl))) (by decide) (by decide) (by decide) (by decide) (fun V => framed_clos 0 x 9007199254740992 V)).mono ?_
  rintro e w' ⟨gr, g2, rfl, a1, a2, a3, -, a5⟩
  exact ⟨_, rfl, ⟨gr, rfl, a1, .inr (.inr (.inr (.inr ⟨rfl, rfl, g2, a5 rfl⟩)))⟩, a3⟩
theorem feed_all {w : World} {base gr : Nat} {k n : Int} (h : BNw w base gr k n) (hw : bW0 k n = false) (hb : base <= w.heap.size) (h3 : 3 <= base) (hm : MX w) (va : Option Addr) (vc : Nat) (b : List UInt8) (hB : Bs w base (.slice va b.length vc) b) (hS : Shp (.slice va b.length vc)) (hl : b.length <= 70368744177664) :
  Calls Tryz.prog 109 #[.pointer (some ⟨gr, 0, none⟩), .slice va b.length vc] w fun e w' => ∃ ua uc, e = .returned (.tuple #[.slice ua (bdY k n b).o.length uc, .int .i64 ((bdY k n b).n : Int), .bool (bdY k n b).w, .int .i64 ((bdY k n b).e : Int)]) /\ Row w' w.heap.size 5 (.slice ua (bdY k n b).o.length uc) (bc (bdY k n b).o) /\ BSt w' base gr k (bdY k n b).w (bdY k n b).e /\ Below base w w' := by
 have hB2 := hB.below hb (Below.refl w.heap.size w)
 rcases h with ⟨a, g, h⟩ | ⟨a, a2, g, h⟩ | ⟨a, L, a2, a3, a4, g, h⟩ | ⟨a, a2, g, gd, h⟩ | ⟨a, a2, g, h⟩
 ·subst a; cases hw
 ·subst a a2; cases hw
 ·subst a a2
  refine (feed_meas h hb _ b hB2 hS a4 (Nat.zero_le _) (by omega)).mono ?_
  rintro e w' ⟨ua, uc, rfl, r1, r2⟩
  dsimp only at r1 r2 |-
  have e0 : bdY 2 (L : Int) b = ⟨tkN b L 0, b.take (tkN b L 0), 0, decide (tkN b L 0 = L)⟩ := by
   unfold bdY
   rw [if_neg (by decide), if_pos rfl, Int.toNat_natCast]
  have el : (b.take (tkN b L 0)).length = tkN b L 0 := by rw [List.length_take]; unfold tkN; omega
  rw [e0]
  dsimp only
  rw [el]
  rw [Nat.zero_add] at r2 |-
  refine ⟨ua, uc, rfl, r1, ?_, r2.2.2.low h.rb h.fb hb⟩
  cases ho : overT ⟨tkN b L 0, decide (tkN b L 0 = L), 0⟩ with
  | true => obtain ⟨g', -, q⟩ := r2.1 ho; exact ⟨_, rfl, rfl, .inl ⟨ho, g', q⟩⟩
  | false => exact ⟨_, rfl, rfl, .inr ⟨ho, .inl ⟨rfl, g, L, r2.2.1 ho⟩⟩⟩
 ·subst a a2
  refine (feed_part h (fit_dnew _ (Nat.le_refl _)) rfl rfl hm h3 (A := fun i => i < base) va vc b ?_ hS (by have := h.pt.dec.gb; omega) (by simp [Value.ownBlock]) (by simp [Value.ownBlock]) (fun i hi => by omega) hl (by decide)).mono ?_
  ·obtain ⟨a, c, e, q1, q2⟩ := hB
   exact ⟨a, c, e, q1, fun j hj => by obtain ⟨g', o', p1, p2, p3, p4⟩ := q2 j hj; exact ⟨g', o', p1, p2, p3, p4⟩⟩
  ·rintro e w' ⟨ua, uc, lv', tv', rfl, r1, r2, r3, r4⟩
   have e0 : bdY 3 0 b = ⟨(dBytes (dNew 9007199254740992) b).2.1, (dBytes (dNew 9007199254740992) b).2.2.1, (dBytes (dNew 9007199254740992) b).1, (dBytes (dNew 9007199254740992) b).2.2.2.whole⟩ := by
    unfold bdY
    rw [if_neg (by decide), if_neg (by decide), if_pos rfl]
   rw [e0]
   dsimp only at r2 r3 |-
   refine ⟨ua, uc, rfl, r1, ?_, r4⟩
   rw [Nat.zero_add] at r2 r3
   cases ho : overT ⟨(dBytes (dNew 9007199254740992) b).2.2.1.length, (dBytes (dNew 9007199254740992) b).2.2.2.whole, (dBytes (dNew 9007199254740992) b).1⟩ with
   | true => obtain ⟨g', -, q⟩ := r2 ho; exact ⟨_, rfl, rfl, .inl ⟨ho, g', q⟩⟩
   | false => exact ⟨_, rfl, rfl, .inr ⟨ho, .inr (.inl ⟨rfl, g, gd, _, _, _, r3 ho⟩)⟩⟩
 ·subst a a2
  refine (feed_clos h hb _ b hB2 hS (Nat.le_refl _) (Nat.zero_le _) (by omega)).mono ?_
  rintro e w' ⟨ua, uc, rfl, r1, r2⟩
  have e1 : tkN b 9007199254740992 0 = b.length := by unfold tkN; omega
  rw [e1] at r1 r2
  rw [e1]
  rw [if_pos rfl, Nat.zero_add] at r2
  rw [if_pos rfl, if_pos rfl]
  rw [List.take_length] at r1
  dsimp only at r1 r2 |-
  have e0 : bdY 4 0 b = ⟨b.length, b, 0, false⟩ := rfl
  rw [e0]
  dsimp only
  refine ⟨ua, uc, rfl, r1, ?_, r2.2.2.low h.rb h.fb hb⟩
  exact ⟨_, rfl, rfl, .inr ⟨rfl, .inr (.inr ⟨rfl, g, _, r2.2.1 rfl⟩)⟩⟩
theorem bd_le (k n : Int) (b : List UInt8) : (bdY k n b).n <= b.length := by
 unfold bdY
 split
 ·exact Nat.zero_le _
 ·split
  ·unfold tkN; dsimp only; omega
  ·split
   ·exact bytes_len b _
   ·exact Nat.le_refl _
theorem bd_out (k n : Int) (b : List UInt8) : (bdY k n b).o.length <= b.length := by
 unfold bdY
 split
 ·exact Nat.zero_le _
 ·split
  ·dsimp only; rw [List.length_take]; omega
  ·split
   ·exact Nat.le_trans (bytes_out b _) (bytes_len b _)
   ·exact Nat.le_refl _
theorem bd_pos {k n : Int} {c : UInt8} {r : List UInt8} (h : FrmOk k n) (hw : bW0 k n = false) : 1 <= (bdY k n (c :: r)).n := by
 rcases h with ⟨rfl, rfl⟩ | ⟨rfl, L, rfl, _⟩ | ⟨rfl, rfl⟩ | ⟨rfl, rfl⟩
 ·cases hw
 ·have h0 : L ≠ 0 := by intro e; subst e; cases hw
  unfold bdY
  rw [if_neg (by decide), if_pos rfl, Int.toNat_natCast]
  unfold tkN
  rw [List.length_cons]
  dsimp only
  omega
 ·unfold bdY
  rw [if_neg (by decide), if_neg (by decide), if_pos rfl]
  dsimp only
  rw [dBytes]
  split
  ·exact Nat.le_refl _
  ·split
   ·exact Nat.le_refl _
   ·exact Nat.succ_le_succ (Nat.zero_le _)
 ·exact Nat.succ_le_succ (Nat.zero_le _)
theorem bd_full (k n : Int) (b : List UInt8) (h : FrmOk k n) : (bdY k n b).n = b.length ∨ (bdY k n b).e ≠ 0 ∨ (bdY k n b).w = true := by
 rcases h with ⟨rfl, rfl⟩ | ⟨rfl, L, rfl, _⟩ | ⟨rfl, rfl⟩ | ⟨rfl, rfl⟩
 ·exact .inr (.inr rfl)
 ·unfold bdY
  rw [if_neg (by decide), if_pos rfl, Int.toNat_natCast]
  dsimp only
  unfold tkN
  by_cases h1 : b.length <= L
  ·exact .inl (by omega)
  ·exact .inr (.inr (decide_eq_true (by omega)))
 ·unfold bdY
  rw [if_neg (by decide), if_neg (by decide), if_pos rfl]
  exact bytes_full b _
 ·exact .inl rfl
theorem uO_fr {me : ByteArray} {p : Pz} (h : (uO me p).e = 0) : FrmOk (uO me p).k (uO me p).n := uO_ok h
theorem readBody_all {w : World} {c b2 gr : Nat} {k : Uk} {pv : Value} {wr kd n : Int} (h : ClB w c k (uB c) pv (.pointer (some ⟨gr, 0, none⟩)) wr) (hr : BNw w b2 gr kd n) (hw : bW0 kd n = false) (hcb : c < b2) (hb : b2 <= w.heap.size) (h3 : 3 <= b2) (hm : MX w) (va : Option Addr) (vn vc : Nat) (b : List UInt8) (hvn : vn = b.length) (hB : Bs w b2 (.slice va vn vc) b) (hS : Shp (.slice va vn vc)) (hl : b.length <= 70368744177664) :
  Calls Tryz.prog 89 #[.pointer (some ⟨c, 0, none⟩), .slice va vn vc] w fun e w' => ∃ ua uc, e = .returned (.tuple #[.int .i64 ((bdY kd n b).n : Int), .slice ua (bdY kd n b).o.length uc]) /\ Row w' w.heap.size 5 (.slice ua (bdY kd n b).o.length uc) (bc (bdY kd n b).o) /\ ClB w' c k (uB c) pv (.pointer (some ⟨gr, 0, none⟩)) ((bdY kd n b).e : Int) /\ BSt w' b2 gr kd (bdY kd n b).w (bdY kd n b).e /\ Below c w w' /\ (∀ i, i < b2 -> i ≠ c -> w'.heap[i]? = w.heap[i]?) := by
 subst hvn
 have hF := feed_all hr hw hb h3 hm va vc b hB hS hl
 obtain ⟨N, o, er, wh, hbo⟩ : ∃ N o er wh, bdY kd n b = ⟨N, o, er, wh⟩ := ⟨_, _, _, _, rfl⟩
 rw [hbo] at hF |-
 dsimp only at hF |-
 have hcl : c < w.heap.size := lt_heap h
 have HF := hide hF
 have HH := hide h
 have k9 := (cl_cells h).2.2.2.2.2.2.2.2.2.1
 clear h hr hB hS hF hbo hw
 go_enter Tryz.func89, Tryz.ntmps89
 go_upto_region 3 with (go_at_call 109; refine HF.out.mono ?_; rintro e w1 ⟨ua, uc, rfl, r1, r2, r3⟩; have H1 := hide ((r3.block c hcb).trans HH.out); have HR1 := hide r1; have HR2 := hide r2; have HR3 := hide r3; have k11 := (cl_cells H1.out).2.2.2.2.2.2.2.2.2.2.2; have z11 := cl_fz H1.out 11; have hs1 := r3.size; clear r1 r2 r3)
 have H2 : Hid (ClB (w1.setCell ⟨c, 11, none⟩ (.int .i64 (er : Int))) c k (uB c) pv (.pointer (some ⟨gr, 0, none⟩)) (er : Int)) := hide (hp_set H1.out 11 _)
 have C2 := hide (CK.set w1 c 11 (.int .i64 (er : Int)))
 have R2 := hide (HR1.out.frame (W' := w1.setCell ⟨c, 11, none⟩ (.int .i64 (er : Int))) fun i hi => Below.heap_setCell w1 ⟨c, 11, none⟩ _ i (fun e => by have := (HR1.out.lt hi).1; have e3 : i = c := e; omega))
 have hk2 : ∀ i, i ≠ c -> (w1.setCell ⟨c, 11, none⟩ (.int .i64 (er : Int))).heap[i]? = w1.heap[i]? := fun i hi => Below.heap_setCell w1 ⟨c, 11, none⟩ _ i hi
 have hs2 : w1.heap.size = (w1.setCell ⟨c, 11, none⟩ (.int .i64 (er : Int))).heap.size := by simp
 have HZ : Hid (BSt (w1.setCell ⟨c, 11, none⟩ (.int .i64 (er : Int))) b2 gr kd wh er /\ Below c w (w1.setCell ⟨c, 11, none⟩ (.int .i64 (er : Int))) /\ (∀ i, i < b2 -> i ≠ c -> (w1.setCell ⟨c, 11, none⟩ (.int .i64 (er : Int))).heap[i]? = w.heap[i]?)) := by
  have q := HR3.out
  refine hide ⟨HR2.out.keep fun i h1 _ => hk2 i (by omega), ?_, fun i h1 h2 => (hk2 i h2).trans (q.block i h1)⟩
  exact ⟨(C2.out.os).trans q.os, (C2.out.tape).trans q.tape, (C2.out.output).trans q.output, by omega, fun i hi => (hk2 i (by omega)).trans (q.block i (by omega))⟩
 clear k9 k11 z11 H1 C2 HR1 HR2 HR3 HF HH
 generalize w1.setCell ⟨c, 11, none⟩ (.int .i64 (er : Int)) = w2 at *
 go_wp2_with fail
 go_ret2
 exact ⟨_, _, rfl, R2.out, H2.out, HZ.out.1, HZ.out.2.1, HZ.out.2.2⟩
theorem feed_new {most : Nat} {l : List UInt8} {n : Nat} {q : Pz} (h : pBytes (pNew false most) l = (0, n, q)) : pFeed (pNew false most) l = (n, q.whole, 0, if q.whole then pShut q else q) := by
 unfold pFeed
 rw [if_neg (by simp [pNew]), h]
 simp
structure GW (W : World) (bk B o vc : Nat) (l : List UInt8) : Prop where
 mx : MX W
 et : ET W
 input : Bf W (fun i => i = bk) (.slice (some ⟨bk, o, none⟩) l.length vc) l
 low : B <= W.heap.size
 bl : bk < W.heap.size
theorem GW.below {W W' : World} {bk B o vc : Nat} {l : List UInt8} (h : GW W bk B o vc l) (b : Below W.heap.size W W') : GW W' bk B o vc l := ⟨h.mx.below b, h.et.below b, h.input.below b, Nat.le_trans h.low b.size, Nat.lt_of_lt_of_le h.bl b.size⟩
theorem GW.turn {W W' : World} {bk B o vc : Nat} {l : List UInt8} (h : GW W bk B o vc l) (b : Below B W W') (hB : 3 <= B) (e : W'.heap[bk]? = W.heap[bk]?) : GW W' bk B o vc l := by
 obtain ⟨h0, m, hm⟩ := h.mx
 exact ⟨⟨Nat.lt_of_lt_of_le h0 b.size, m, (cell_blk (b.block _ (by omega))).trans hm⟩, (cell_blk (b.block 0 (by omega))).trans h.et, h.input.keep b.size fun k hk _ => by rw [hk]; exact e, Nat.le_trans h.low b.size, Nat.lt_of_lt_of_le h.bl b.size⟩
def gk (me : ByteArray) (most i : Nat) : Uk := ⟨me, most, i, false, 0, 0, false, false⟩
def gkb (me : ByteArray) (most i : Nat) (fo : Fo) : Uk := ⟨me, most, i, true, fo.k, fo.n, fo.b, false⟩
section
variable (me : ByteArray) (most c bk B : Nat)
def GH (W : World) (i : Nat) : Prop := ∃ g, B <= g /\ Par W g g (.slice none 0 0) (.slice none 0 0) (pNew false most) /\ ClB W c (gk me most i) (uH c) (.pointer (some ⟨g, 0, none⟩)) (.pointer none) 0 /\ c ≠ g /\ bk ≠ g
def GS (W : World) : Prop := ∃ g i, ClB W c (gk me most i) (uH c) (.pointer (some ⟨g, 0, none⟩)) (.pointer none) 0
def GB (W : World) (p : Pz) (fo : Fo) : Prop := ∃ base gr gp i, ClB W c (gkb me most i fo) (uB c) (.pointer (some ⟨gp, 0, none⟩)) (.pointer (some ⟨gr, 0, none⟩)) 0 /\ BNw W base gr fo.k fo.n /\ c < base /\ bk < base /\ B <= base /\ base <= W.heap.size /\ ParB W c base gp (pShut p)
def GE (W : World) (p : Pz) (fo : Fo) (wh : Bool) (er : Nat) : Prop := ∃ base gr gp i, ClB W c (gkb me most i fo) (uB c) (.pointer (some ⟨gp, 0, none⟩)) (.pointer (some ⟨gr, 0, none⟩)) (er : Int) /\ BSt W base gr fo.k wh er /\ c < base /\ base <= W.heap.size /\ ParB W c base gp (pShut p)
end
section
variable {me : ByteArray} {most c bk B o vc : Nat} {l : List UInt8} {W W' : World}
theorem GH.below {i : Nat} (h : GH me most c bk B W i) (b : Below W.heap.size W W') : GH me most c bk B W' i := by
 obtain ⟨g, h1, h2, h3, h4⟩ := h
 exact ⟨g, h1, h2.below b, (b.block c (lt_heap h3)).trans h3, h4⟩
theorem GS.below (h : GS me most c W) (b : Below W.heap.size W W') : GS me most c W' := by
 obtain ⟨g, i, h3⟩ := h
 exact ⟨g, i, (b.block c (lt_heap h3)).trans h3⟩
theorem GB.below {p : Pz} {fo : Fo} (h : GB me most c bk B W p fo) (b : Below W.heap.size W W') : GB me most c bk B W' p fo := by
 obtain ⟨base, gr, gp, i, h1, h2, h3, h4, h5, h6, h7⟩ := h
 exact ⟨base, gr, gp, i, (b.block c (lt_heap h1)).trans h1, h2.keep fun i _ hi => b.block i hi, h3, h4, h5, Nat.le_trans h6 b.size, h7.keep fun i hi _ => b.block i (by omega)⟩
theorem GE.below {p : Pz} {fo : Fo} {wh : Bool} {er : Nat} (h : GE me most c W p fo wh er) (b : Below W.heap.size W W') : GE me most c W' p fo wh er := by
 obtain ⟨base, gr, gp, i, h1, h2, h3, h4, h5⟩ := h
 exact ⟨base, gr, gp, i, (b.block c (lt_heap h1)).trans h1, h2.keep fun i _ hi => b.block i hi, h3, Nat.le_trans h4 b.size, h5.keep fun i hi _ => b.block i (by omega)⟩
end
def gI (me : ByteArray) (most c bk B o vc : Nat) (l : List UInt8) (R : UR) (W : World) (k : Nat) : Prop :=
 GW W bk B o vc l /\ ((∃ i, i <= 8 /\ k <= l.length /\ GH me most c bk B W i /\ uHd me most (9 - i) k (l.drop k) = R) ∨ (k = l.length /\ GS me most c W /\ R = .cut l.length) ∨ (∃ p fo, R = .got k p fo /\ GB me most c bk B W p fo))
def gE (me : ByteArray) (most c bk B o vc : Nat) (l : List UInt8) (R : UR) (W : World) (k : Nat) (lo : List UInt8) : Prop :=
 GW W bk B o vc l /\ ∃ n p fo, R = .got n p fo /\ k = n + (bdY fo.k fo.n (l.drop n)).n /\ lo = (bdY fo.k fo.n (l.drop n)).o /\ GE me most c W p fo (bdY fo.k fo.n (l.drop n)).w (bdY fo.k fo.n (l.drop n)).e
def gOv (R : UR) (c : Nat) (W : World) (_ : Nat) : Bool :=
 match W.cell? ⟨c, 9, none⟩ with
 | some (.pointer none) => false
 | _ => match R with
  | .got _ _ fo => bW0 fo.k fo.n
  | _ => false
section
variable {me : ByteArray} {most c bk B o vc : Nat} {l : List UInt8} {W' : World}
theorem head_round_any (hm1 : 16 <= most) (hm2 : most <= 65536) (hl : l.length <= 70368744177664) (hB : 3 <= B) (hBc : B <= c) (hbc : bk ≠ c) {R : UR} (hR : ∀ n e, R ≠ .bad n e) {i k : Nat} (hi : i <= 8) (hk : k < l.length) (hW : GW W' bk B o vc l) (h : GH me most c bk B W' i) (hU : uHd me most (9 - i) k (l.drop k) = R) :
  Calls Tryz.prog 26 #[.pointer (some ⟨c, 0, none⟩), .slice (some ⟨bk, o + k, none⟩) (l.length - k) (vc - k)] W' fun e w' => ∃ r, e = .returned r /\ StR B (gI me most c bk B o vc l R) (gE me most c bk B o vc l R) k W' w' r := by
 obtain ⟨g, hg, hp, hc, hcg, hbg⟩ := h
 have hcl := lt_heap hc
 obtain ⟨f, hf⟩ : ∃ f, 9 - i = f + 1 := ⟨8 - i, by omega⟩
 rw [hf] at hU
 obtain ⟨er, n, q, hP⟩ : ∃ er n q, pBytes (pNew false most) (l.drop k) = (er, n, q) := ⟨_, _, _, rfl⟩
 have hn : k + n <= l.length := by have := by_le (l.drop k) (pNew false most); rw [hP, List.length_drop] at this; dsimp only at this; omega
 have her : er = 0 := by
  by_cases h0 : er = 0
  ·exact h0
  ·rw [uHd_bad hP h0] at hU; exact absurd hU.symm (hR _ _)
 subst her
 have hfd := feed_new hP
 have hbf : Bf W' (Ap g (.slice none 0 0) (.slice none 0 0)) (.slice (some ⟨bk, o + k, none⟩) (l.length - k) (vc - k)) (l.drop k) := (hW.input.drop k (by omega)).imp fun j e => by subst e; exact ap_nil hbg
 have hsz : Sz q := by have := sz_bytes (l.drop k) _ (fit_new false most hm2) (sz_new false most); rw [hP] at this; exact this
 have hft : Fit q := by have := fit_bytes (l.drop k) _ (fit_new false most hm2); rw [hP] at this; exact this
 have hn1 : q.whole = true -> 1 <= n := fun hw => by have := ub_pos (l.drop k) _ (unew_open false most) (by rw [hP]; exact hw); rw [hP] at this; exact this
 cases hw : q.whole with
 | false =>
  rw [hw] at hfd
  rw [uHd_cut hP hw] at hU
  have ha := ub_all (l.drop k) _ (unew_open false most) (by rw [hP]) (by rw [hP]; exact hw)
  rw [hP, List.length_drop] at ha
  dsimp only at ha
  refine (readHead_still hc hp (fit_new false most hm2) hW.mx hW.et (by omega) (ap_nil hcg) _ (l.drop k) hbf (by rw [List.length_drop]; omega) hfd).mono ?_
  rintro e w' ⟨rfl, q1, -, q4⟩
  have hlow := q4.low hp hBc hg hW.low
  exact ⟨_, rfl, hlow, n, by omega, none, 0, 0, rfl, .inl ⟨rfl, rfl, rfl, hW.turn hlow hB (q4.block bk hW.bl hbc (ap_nil hbg)), .inr (.inl ⟨by omega, ⟨g, i, q1⟩, by rw [<- hU]; congr 1; omega⟩)⟩⟩
 | true =>
  rw [hw, if_pos rfl] at hfd
  have hws : (pShut q).whole = true := hw
  by_cases h200 : 200 <= q.status
  ·by_cases h0 : (uO me q).e = 0
   ·rw [uHd_got hP hw h200 h0] at hU
    have hq0 : resO q.fs q.req (q.minor : Int) (q.status : Int) me = ⟨(uO me q).k, (uO me q).n, (uO me q).b, 0⟩ := by
     show uO me q = _
     rw [<- h0]
    refine (readHead_of hc hp (fit_new false most hm2) (sz_new false most) hW.mx hW.et (by omega) (ap_nil hcg) _ (l.drop k) hbf (by rw [List.length_drop]; omega) hfd hws (fun w' => GB me most c bk B w' q (uO me q)) (fun X lv' fv' la lc b0 hs y1 y2 y3 y4 y5 => ?_)).mono ?_
    ·refine (hr_final (k := gk me most i) (p := pShut q) h200 y1 y4 y5 ⟨by have := hft.fs; show q.fs.length <= _; omega, fun f hf => by have := hsz.fs f hf; omega⟩ hq0 (fun V y ro => (∃ gr, ro = some ⟨gr, 0, none⟩ /\ V.heap.size <= gr /\ BNw y V.heap.size gr (uO me q).k (uO me q).n) /\ V.heap.size <= y.heap.size) (fun V => ?_)).mono ?_
     ·refine (bnew_all (uO me q).b (uO_fr h0) V).mono ?_
      rintro e w' ⟨ro, rfl, a1, a2⟩
      exact ⟨ro, rfl, ⟨a1, a2.size⟩, a2⟩
     ·rintro e w' ⟨rfl, ⟨V, y, ro, q1, ⟨⟨gr, rfl, q2, q2b⟩, q2s⟩, q3, q4, q5⟩, q6⟩
      have hpw := y2.ck q6 y3
      have hgl := y2.lt
      refine ⟨rfl, ⟨V.heap.size, gr, g, i, q5, q2b.keep fun j j1 j2 => q3.block j j2 (by omega), q4, by have := hW.bl; omega, by have := hW.low; omega, by have := q3.size; omega, ?_⟩, q6⟩
      exact ⟨_, lv', fv', hpw, y3, by omega, fun i e => by have := (y2.line.lt e).2; omega, fun i e => by have := (y2.flds.lt e).2; omega⟩
    ·rintro e w' ⟨rfl, q1, q4⟩
     have hlow := q4.low hp hBc hg hW.low
     exact ⟨_, rfl, hlow, n, hn1 hw, none, 0, 0, rfl, .inl ⟨rfl, rfl, rfl, hW.turn hlow hB (q4.block bk hW.bl hbc (ap_nil hbg)), .inr (.inr ⟨q, uO me q, hU.symm, q1⟩)⟩⟩
   ·rw [uHd_refused hP hw h200 h0] at hU; exact absurd hU.symm (hR _ _)
  ·by_cases h101 : q.status = 101 ∨ f = 0
   ·rw [uHd_start hP hw (by omega) h101] at hU; exact absurd hU.symm (hR _ _)
   ·rw [not_or] at h101
    rw [uHd_on hP hw (by omega) h101.1 h101.2] at hU
    refine (readHead_of hc hp (fit_new false most hm2) (sz_new false most) hW.mx hW.et (by omega) (ap_nil hcg) _ (l.drop k) hbf (by rw [List.length_drop]; omega) hfd hws (fun w' => ∃ g2, W'.heap.size <= g2 /\ Par w' g2 g2 (.slice none 0 0) (.slice none 0 0) (pNew false most) /\ ClB w' c (gk me most (i + 1)) (uH c) (.pointer (some ⟨g2, 0, none⟩)) (.pointer none) 0) (fun X lv' fv' la lc b0 hs y1 y2 y3 y4 y5 => ?_)).mono ?_
    ·refine (hr_inter y1 (p := pShut q) (by show q.status < 200; omega) h101.1 (by show i < 8; omega) hm1 hm2).mono ?_
     rintro e w' ⟨rfl, g2, q1, q2, q3, q4⟩
     exact ⟨rfl, ⟨g2, by omega, q2, q3⟩, q4⟩
    ·rintro e w' ⟨rfl, ⟨g2, q1, q2, q3⟩, q4⟩
     have hlow := q4.low hp hBc hg hW.low
     exact ⟨_, rfl, hlow, n, hn1 hw, none, 0, 0, rfl, .inl ⟨rfl, rfl, rfl, hW.turn hlow hB (q4.block bk hW.bl hbc (ap_nil hbg)), .inl ⟨i + 1, by omega, by omega, ⟨g2, by have := hW.low; omega, q2, q3, by omega, by have := hW.bl; omega⟩, by rw [List.drop_drop] at hU; rw [show 9 - (i + 1) = f by omega]; exact hU⟩⟩⟩
theorem body_round_any (hl : l.length <= 70368744177664) (hB : 3 <= B) (hBc : B <= c) (hbc : bk ≠ c) {n : Nat} {p : Pz} {fo : Fo} (hfo : FrmOk fo.k fo.n) (hk : n < l.length) (hw0 : bW0 fo.k fo.n = false) (hW : GW W' bk B o vc l) (h : GB me most c bk B W' p fo) :
  Calls Tryz.prog 89 #[.pointer (some ⟨c, 0, none⟩), .slice (some ⟨bk, o + n, none⟩) (l.length - n) (vc - n)] W' fun e w' => ∃ r, e = .returned r /\ StR B (gI me most c bk B o vc l (.got n p fo)) (gE me most c bk B o vc l (.got n p fo)) n W' w' r := by
 obtain ⟨base, gr, gp, i, hc, hr, h3, h4, h5, h6, h7⟩ := h
 have hbs : Bs W' base (.slice (some ⟨bk, o + n, none⟩) (l.length - n) (vc - n)) (l.drop n) := by
  obtain ⟨a, cc, e, q1, q2⟩ := hW.input.drop n (by omega)
  exact ⟨a, cc, e, q1, fun j hj => by obtain ⟨g', o', p1, p2, p3, p4⟩ := q2 j hj; exact ⟨g', o', p1, by omega, p3, p4⟩⟩
 have hd : l.drop n = l[n] :: l.drop (n + 1) := List.drop_eq_getElem_cons hk
 have hpos : 1 <= (bdY fo.k fo.n (l.drop n)).n := by rw [hd]; exact bd_pos hfo hw0
 refine (readBody_all hc hr hw0 h3 h6 (by omega) hW.mx _ _ _ (l.drop n) (by rw [List.length_drop]) hbs (.inr ⟨_, _, _, rfl⟩) (by rw [List.length_drop]; omega)).mono ?_
 rintro e w' ⟨ua, uc, rfl, r1, r2, r3, r5, r6⟩
 have hlow : Below B W' w' := r5.mono hBc
 have ho := bd_out fo.k fo.n (l.drop n)
 rw [List.length_drop] at ho
 exact ⟨_, rfl, hlow, _, hpos, ua, _, uc, rfl, .inr ⟨_, rfl, Bs.of_row r1, Shp.of_row r1, by omega, hW.turn hlow hB (r6 bk h4 hbc), n, p, fo, rfl, rfl, rfl, base, gr, gp, i, r2, r3, h3, Nat.le_trans h6 r5.size, h7.keep r6⟩⟩
theorem g_rounds (hm1 : 16 <= most) (hm2 : most <= 65536) (hl : l.length <= 70368744177664) (hB : 3 <= B) (hBc : B <= c) (hbc : bk ≠ c) {R : UR} (hR : uHd me most 9 0 l = R) (hnb : ∀ n e, R ≠ .bad n e) : Rounds c l.length bk o vc B (gOv R c) (gI me most c bk B o vc l R) (gE me most c bk B o vc l R) where
 keep := by
  rintro W W' k ⟨h1, h2⟩ b
  refine ⟨h1.below b, ?_⟩
  rcases h2 with ⟨i, hi, hk, h, hu⟩ | ⟨hk, h, hu⟩ | ⟨p, fo, hu, h⟩
  ·exact .inl ⟨i, hi, hk, h.below b, hu⟩
  ·exact .inr (.inl ⟨hk, h.below b, hu⟩)
  ·exact .inr (.inr ⟨p, fo, hu, h.below b⟩)
 keepE := by
  rintro W W' k lo ⟨h1, n, p, fo, h2, h3, h4, h5⟩ b
  exact ⟨h1.below b, n, p, fo, h2, h3, h4, h5.below b⟩
 leE := by
  rintro W k lo ⟨h1, n, p, fo, h2, h3, h4, h5⟩
  have hg := uHd_le (hR.trans h2)
  obtain ⟨base, gr, gp, i, q1, q2, -⟩ := h5
  have hle := bd_le fo.k fo.n (l.drop n)
  rw [List.length_drop] at hle
  refine ⟨by omega, ⟨_, (cl_cells q1).2.2.2.2.2.2.2.2.2.2.2⟩, fun hk => ?_⟩
  have hfo : FrmOk fo.k fo.n := by rw [hg.2.2.2.2.1]; exact uO_fr (by rw [<- hg.2.2.2.2.1]; exact hg.2.2.2.2.2)
  rcases bd_full fo.k fo.n (l.drop n) hfo with a | a | a
  ·rw [List.length_drop] at a; omega
  ·exact over_wrong q1 (by omega)
  ·by_cases h0 : (bdY fo.k fo.n (l.drop n)).e = 0
   ·obtain ⟨g, it, ct, t, X, s1, s2, s3, s4⟩ := q2.rdr
    rw [h0] at q1
    have := over_rdr q1 s1 s2
    rw [s3, a] at this
    exact this
   ·exact over_wrong q1 (by omega)
 stp := by
  rintro W k ⟨h1, h2⟩
  rcases h2 with ⟨i, hi, hk, h, hu⟩ | ⟨hk, h, hu⟩ | ⟨p, fo, hu, h⟩
  ·obtain ⟨g, -, -, q, -⟩ := id h
   have hov : gOv R c W k = false := by unfold gOv; rw [(cl_cells q).2.2.2.2.2.2.2.2.2.1]
   rw [hov]
   exact ⟨hk, 26, 0, (cl_cells q).2.2.1, enters_of Tryz.func26 (by kernel_rfl) rfl, (cl_cells q).2.2.2.2.2.2.2.2.2.2.2, over_none q, fun _ hkl W' b => head_round_any hm1 hm2 hl hB hBc hbc hnb hi hkl (h1.below b) (h.below b) hu⟩
  ·obtain ⟨g, i, q⟩ := id h
   have hov : gOv R c W k = false := by unfold gOv; rw [(cl_cells q).2.2.2.2.2.2.2.2.2.1]
   rw [hov]
   exact ⟨by omega, 26, 0, (cl_cells q).2.2.1, enters_of Tryz.func26 (by kernel_rfl) rfl, (cl_cells q).2.2.2.2.2.2.2.2.2.2.2, over_none q, fun _ hkl W' b => by omega⟩
  ·obtain ⟨base, gr, gp, i, q1, q2, -⟩ := id h
   have hg := uHd_le (hR.trans hu)
   have hfo : FrmOk fo.k fo.n := by rw [hg.2.2.2.2.1]; exact uO_fr (by rw [<- hg.2.2.2.2.1]; exact hg.2.2.2.2.2)
   have hov : gOv R c W k = bW0 fo.k fo.n := by unfold gOv; rw [(cl_cells q1).2.2.2.2.2.2.2.2.2.1, hu]
   obtain ⟨g, it, ct, t, X, s1, s2, s3, s4⟩ := q2.st.rdr
   have hO := over_rdr q1 s1 s2
   rw [s3] at hO
   rw [hov]
   subst hu
   exact ⟨by omega, 89, 0, (cl_cells q1).2.2.1, enters_of Tryz.func89 (by kernel_rfl) rfl, (cl_cells q1).2.2.2.2.2.2.2.2.2.2.2, hO, fun h0 hkl W' b => body_round_any hl hB hBc hbc hfo hkl h0 (h1.below b) (h.below b)⟩
theorem uread_any {w : World} {g : Nat} {R : UR} (hm1 : 16 <= most) (hm2 : most <= 65536) (hl : l.length <= 70368744177664) (hB : 3 <= B) (hBc : B <= c) (hBg : B <= g) (hgc : g ≠ c) (hbc : bk ≠ c) (hbg : bk ≠ g) (hvc : l.length <= vc) (hbl : bk < w.heap.size) (hR : uHd me most 9 0 l = R) (hnb : ∀ n e, R ≠ .bad n e) (hp : Par w g g (.slice none 0 0) (.slice none 0 0) (pNew false most)) (hc : ClB w c (gk me most 0) (uH c) (.pointer (some ⟨g, 0, none⟩)) (.pointer none) 0) (hmx : MX w) (het : ET w) (hBw : B <= w.heap.size) (hin : Bf w (fun i => i = bk) (.slice (some ⟨bk, o, none⟩) l.length vc) l) :
  Calls Tryz.prog 11 #[.pointer (some ⟨c, 0, none⟩), .slice (some ⟨bk, o, none⟩) l.length vc] w fun e w' => Below B w w' /\ match R with
   | .bad _ _ => True
   | .cut _ => e = .returned (.tuple #[.int .i64 (l.length : Int), .slice none 0 0, .int .i64 0]) /\ GS me most c w'
   | .got n p fo => ∃ tv b, e = .returned (.tuple #[.int .i64 ((n + (bdY fo.k fo.n (l.drop n)).n : Nat) : Int), tv, .int .i64 ((bdY fo.k fo.n (l.drop n)).e : Int)]) /\ Row w' b 5 tv (bc (bdY fo.k fo.n (l.drop n)).o) /\ GE me most c w' p fo (bdY fo.k fo.n (l.drop n)).w (bdY fo.k fo.n (l.drop n)).e := by
 have hI : gI me most c bk B o vc l R w 0 := ⟨⟨hmx, het, hin, hBw, hbl⟩, .inl ⟨0, by omega, by omega, ⟨g, hBg, hp, hc, fun e => hgc e.symm, hbg⟩, hR⟩⟩
 refine (read_of (g_rounds hm1 hm2 hl hB hBc hbc hR hnb) hI (by omega) hvc hBw (isNoneU_any hc)).mono ?_
 rintro e w' ⟨k, tv, wr, rfl, hb, hcell, hcase⟩
 refine ⟨hb, ?_⟩
 rcases hcase with ⟨rfl, hI', hk⟩ | ⟨lo, b2, hrow, -, n, p, fo, hu, hk, rfl, hE⟩
 ·rcases hI'.2 with ⟨i, hi, hkl, h, hu⟩ | ⟨hkl, h, hu⟩ | ⟨p, fo, hu, h⟩
  ·obtain ⟨f, hf⟩ : ∃ f, 9 - i = f + 1 := ⟨8 - i, by omega⟩
   rw [hf] at hu
   obtain ⟨g2, -, -, q, -⟩ := h
   have ew : wr = 0 := by
    have e0 := (cl_cells q).2.2.2.2.2.2.2.2.2.2.2
    rw [hcell] at e0
    simpa using e0
   subst ew
   rcases hk with rfl | ⟨W, hIW, hov⟩
   ·have hd : l.drop l.length = [] := List.drop_length
    rw [hd] at hu
    have hP : pBytes (pNew false most) [] = (0, 0, pNew false most) := rfl
    rw [uHd_cut hP rfl] at hu
    subst hu
    exact ⟨rfl, g2, i, q⟩
   ·exfalso
    rcases hIW.2 with ⟨i2, _, _, ⟨g3, -, -, q3, -⟩, _⟩ | ⟨_, ⟨g3, i3, q3⟩, _⟩ | ⟨p, fo, hu2, _⟩
    ·unfold gOv at hov; rw [(cl_cells q3).2.2.2.2.2.2.2.2.2.1] at hov; cases hov
    ·unfold gOv at hov; rw [(cl_cells q3).2.2.2.2.2.2.2.2.2.1] at hov; cases hov
    ·rw [hu2] at hu
     have := uHd_le hu
     omega
  ·subst hu
   obtain ⟨g2, i, q⟩ := h
   have e0 := (cl_cells q).2.2.2.2.2.2.2.2.2.2.2
   rw [hcell] at e0
   simp only [Option.some.injEq, Value.int.injEq, true_and] at e0
   subst e0 hkl
   exact ⟨rfl, g2, i, q⟩
  ·have hg := uHd_le (hR.trans hu)
   have hfo : FrmOk fo.k fo.n := by rw [hg.2.2.2.2.1]; exact uO_fr (by rw [<- hg.2.2.2.2.1]; exact hg.2.2.2.2.2)
   have hbd : bdY fo.k fo.n (l.drop k) = ⟨0, [], 0, bW0 fo.k fo.n⟩ := by
    rcases hk with hk | ⟨W, hIW, hov⟩
    ·rw [hk, List.drop_length]; exact bd_nil _ _ hfo
    ·have h0 : bW0 fo.k fo.n = true := by
      unfold gOv at hov
      rw [hu] at hov
      split at hov
      ·cases hov
      ·exact hov
     rw [bd_w0 _ _ _ hfo h0, h0]
   subst hu
   obtain ⟨base, gr, gp, i, q1, q2, q3, q4, q5, q6, q7⟩ := h
   have e0 := (cl_cells q1).2.2.2.2.2.2.2.2.2.2.2
   rw [hcell] at e0
   simp only [Option.some.injEq, Value.int.injEq, true_and] at e0
   subst e0
   dsimp only
   rw [hbd]
   exact ⟨.slice none 0 0, 0, rfl, Row.nil _ _ _, base, gr, gp, i, q1, q2.st, q3, q6, q7⟩
 ·subst hu
  have e0 : wr = ((bdY fo.k fo.n (l.drop n)).e : Int) := by
   obtain ⟨base, gr, gp, i, q1, -⟩ := hE
   have e0 := (cl_cells q1).2.2.2.2.2.2.2.2.2.2.2
   rw [hcell] at e0
   simpa using e0
  subst e0 hk
  exact ⟨tv, b2, rfl, hrow, hE⟩
end
section
variable {w : World} {c : Nat} {k : Uk} {st pv bv : Value} {wr : Int}
end
section
variable {me : ByteArray} {most c B : Nat} {w : World}
theorem BSt.whole {w : World} {base gr c : Nat} {k : Uk} {st pv : Value} {wr kd : Int} {wh : Bool} {er : Nat} (h : ClB w c k st pv (.pointer (some ⟨gr, 0, none⟩)) wr) (hr : BSt w base gr kd wh er) : Calls Tryz.prog 12 #[.pointer (some ⟨c, 0, none⟩)] w fun e w' => e = .returned (.bool wh) /\ w = w' := by
 obtain ⟨g, it, ct, t, X, s1, s2, s3, s4⟩ := hr.rdr
 have := uwhole_rdr h s1 s2
 rw [s3] at this
 exact this
end
section
variable {me : ByteArray} {most c B : Nat} {w : World}
theorem read_got {g bk o cp n : Nat} {l : List UInt8} {p : Pz} {fo : Fo} (hm1 : 16 <= most) (hm2 : most <= 65536) (hl : l.length <= 70368744177664) (hB : 3 <= B) (hBc : B <= c) (hBg : B <= g) (hgc : g ≠ c) (hbc : bk ≠ c) (hbg : bk ≠ g) (hbl : bk < w.heap.size) (hvc : l.length <= cp) (hU : uHd me most 9 0 l = .got n p fo) (hp : Par w g g (.slice none 0 0) (.slice none 0 0) (pNew false most)) (hc : ClB w c (gk me most 0) (uH c) (.pointer (some ⟨g, 0, none⟩)) (.pointer none) 0) (hmx : MX w) (het : ET w) (hBw : B <= w.heap.size) (hin : Bf w (fun i => i = bk) (.slice (some ⟨bk, o, none⟩) l.length cp) l) :
  Calls Tryz.prog 11 #[.pointer (some ⟨c, 0, none⟩), .slice (some ⟨bk, o, none⟩) l.length cp] w fun e w' => ∃ ta tc b, e = .returned (.tuple #[.int .i64 ((n + (bdY fo.k fo.n (l.drop n)).n : Nat) : Int), .slice ta (bdY fo.k fo.n (l.drop n)).o.length tc, .int .i64 ((bdY fo.k fo.n (l.drop n)).e : Int)]) /\ Row w' b 5 (.slice ta (bdY fo.k fo.n (l.drop n)).o.length tc) (bc (bdY fo.k fo.n (l.drop n)).o) /\ GE me most c w' p fo (bdY fo.k fo.n (l.drop n)).w (bdY fo.k fo.n (l.drop n)).e /\ Below B w w' := by
 refine (uread_any (vc := cp) hm1 hm2 hl hB hBc hBg hgc hbc hbg hvc hbl hU (by simp) hp hc hmx het hBw hin).mono ?_
 rintro e w' ⟨hb, tv, b, rfl, h1, h2⟩
 obtain ⟨ta, tc, rfl, -⟩ := h1.shape
 rw [bc_len] at h1 |-
 exact ⟨ta, tc, b, rfl, h1, h2, hb⟩
theorem GE.whole {p : Pz} {fo : Fo} {wh : Bool} {er : Nat} (h : GE me most c w p fo wh er) : Calls Tryz.prog 12 #[.pointer (some ⟨c, 0, none⟩)] w fun e w' => e = .returned (.bool wh) /\ w = w' := by
 obtain ⟨base, gr, gp, i, q1, q2, -⟩ := h
 exact q2.whole q1
theorem GE.head {p : Pz} {fo : Fo} {wh : Bool} {er : Nat} (h : GE me most c w p fo wh er) (hw : p.whole = true) (hz : Sz p) (hf : Fit p) : Calls Tryz.prog 15 #[.pointer (some ⟨c, 0, none⟩)] w fun e w' => ∃ la lc, e = .returned (.tuple #[hdV p (.slice la p.fs.length lc), .bool true]) /\ Flds w' (.slice la p.fs.length lc) p.fs /\ Below w.heap.size w w' := by
 obtain ⟨base, gr, gp, i, q1, q2, q3, q4, q5⟩ := h
 obtain ⟨pb, lv, fv, hp, -, -⟩ := q5.ex
 exact head_known (p := pShut p) q1 rfl hp hw ⟨hz.me, hz.ta, hz.re, hz.fs, hz.minor, hz.status⟩ ⟨hf.fn, hf.most, hf.read, Nat.zero_le _, hf.passed, hf.fs⟩
end
end Go.Proofs.YtecjlcjaccijpaaGreatDoor
