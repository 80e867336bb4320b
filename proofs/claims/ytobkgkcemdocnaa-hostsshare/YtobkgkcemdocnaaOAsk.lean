/- What a set of hosts tells of one of them, and what it is told. -/
import Derived.Test.YtobkgkcemdocnaaOBr
namespace Go.Proofs.Ytobkgkcemdocnaa
open Go.ChangeShapes Go.WideShapes Go.ChangeAt Go.RowKit

/-- What is wrong with a question. -/
def askE (n : Nat) (now host : Int) : Int := if mom now then (if hasB n host then 0 else 6) else 1
theorem brS_len (m : Int) (L : List HR) : (brS m L).length = L.length := by unfold brS; simp

set_option maxHeartbeats 1000000 in
theorem asked_bad (w : World) (fl bs lo sh la now host : Int) (L : List HR) (b g : Nat) (h : Hp fl bs lo sh la L b g w) (hb : askE L.length now host ≠ 0) :
    Calls Try.prog 28 #[.pointer (some ⟨b, 0, none⟩), .int .i64 now, .int .i64 host] w fun e w' => e = .returned (.tuple #[.pointer none, .int .i64 (askE L.length now host)]) ∧ w = w' := by
  have HU := hide (until_any 0 now w)
  rw [untE_eq (by omega) (by omega)] at HU
  have HH := hide (has_any w fl bs lo sh la L b g host h)
  unfold askE at hb ⊢
  clear h
  cases hm : mom now with
  | false =>
    have e0 : bE now = 1 := by unfold bE; rw [hm]; rfl
    rw [e0] at HU
    rw [if_neg (by simp)]
    clear hb e0
    go_enter Try.func28, Try.ntmps28
    go_wp2_with (go_at_call 31; refine HU.out.mono ?_; rintro e w' ⟨rfl, rfl⟩)
    go_ret2
    exact ⟨rfl, rfl⟩
  | true =>
    have e0 : bE now = 0 := by unfold bE; rw [hm]; rfl
    rw [e0] at HU
    rw [hm, if_pos rfl] at hb
    rw [if_pos rfl]
    cases hh : hasB L.length host with
    | true => rw [hh] at hb; exact absurd rfl hb
    | false =>
      rw [hh] at HH
      rw [if_neg (by simp)]
      clear hb e0 hm hh
      go_enter Try.func28, Try.ntmps28
      go_wp2_with (first | (go_at_call 31; refine HU.out.mono ?_; rintro e w' ⟨rfl, rfl⟩) | (go_at_call 26; refine HH.out.mono ?_; rintro e w' ⟨rfl, rfl⟩))
      go_ret2
      exact ⟨rfl, rfl⟩
theorem asked_nil (w : World) (now host : Int) :
    Calls Try.prog 28 #[.pointer none, .int .i64 now, .int .i64 host] w fun e w' => e = .returned (.tuple #[.pointer none, .int .i64 (if mom now then 6 else 1)]) ∧ w = w' := by
  have HU := hide (until_any 0 now w)
  rw [untE_eq (by omega) (by omega)] at HU
  cases hm : mom now with
  | false =>
    have e0 : bE now = 1 := by unfold bE; rw [hm]; rfl
    rw [e0] at HU
    rw [if_neg (by simp)]
    go_enter Try.func28, Try.ntmps28
    go_wp2_with (go_at_call 31; refine HU.out.mono ?_; rintro e w' ⟨rfl, rfl⟩)
    go_ret2
    exact ⟨rfl, rfl⟩
  | true =>
    have e0 : bE now = 0 := by unfold bE; rw [hm]; rfl
    rw [e0] at HU
    rw [if_pos rfl]
    go_enter Try.func28, Try.ntmps28
    go_wp2_with (first | (go_at_call 31; refine HU.out.mono ?_; rintro e w' ⟨rfl, rfl⟩) | (go_at_call 26; refine (has_nil _ _).mono ?_; rintro e w' ⟨rfl, rfl⟩))
    go_ret2
    exact ⟨rfl, rfl⟩
set_option maxHeartbeats 1000000 in
theorem asked_any (w : World) (P : Nat → Prop) (fl bs lo sh la now : Int) (i : Nat) (L : List HR) (b g : Nat) (h : Hs fl bs lo sh la L b g w P) (hl : L.length ≤ 16) (hm : mom now = true) (hi : i < L.length) :
    Calls Try.prog 28 #[.pointer (some ⟨b, 0, none⟩), .int .i64 now, .int .i64 (i : Int)] w fun e w' => e = .returned (.tuple #[.pointer (some ⟨g, i * 5, none⟩), .int .i64 0]) ∧ Does (Hs fl bs lo sh (mx la now) (brS (mx la now) L) b g) P w w' := by
  have HU := hide (until_any 0 now w)
  have e0 : bE now = 0 := by unfold bE; rw [hm]; rfl
  rw [untE_eq (by omega) (by omega), e0] at HU
  have HH := hide (has_any w fl bs lo sh la L b g i h.1)
  rw [show hasB L.length (i : Int) = true by unfold hasB; simp; omega] at HH
  have HB := hide (bring_any w P fl bs lo sh la now L b g h hl hm)
  clear h hm e0
  obtain ⟨n, Hn⟩ : ∃ n, Hid (L.length = n) := ⟨_, hide rfl⟩
  rw [Hn.out] at hi
  have hi2 : (i : Int) < (n : Int) := by omega
  go_enter Try.func28, Try.ntmps28
  go_wp2_with (first | (go_at_call 31; refine HU.out.mono ?_; rintro e w' ⟨rfl, rfl⟩) | (go_at_call 26; refine HH.out.mono ?_; rintro e w' ⟨rfl, rfl⟩))
  refine HB.out.mono ?_
  rintro e w1 ⟨v, rfl, d⟩
  have HD := hide d.snd
  obtain ⟨a, cap, rfl, q1, q2⟩ : ∃ a cap, v = .slice a (nums (rst (mx la now)) L L.length).length cap ∧ _ := by obtain ⟨_, x⟩ := d.fst_of; exact x.get
  obtain ⟨_, x, -, -⟩ := HD.out
  obtain ⟨c0, c1, c2, c3, c4, c5, f4⟩ := x.1.cB
  rw [brS_len, Hn.out] at c5
  clear d x HB HH HU q1
  go_wp2_with fail
  go_ret2
  exact ⟨rfl, HD.out⟩

/-- Until when a host is ejected. -/
def untN (L : List HR) (host : Int) : Int := if 0 ≤ host then (match L[host.toNat]? with | some r => if r.e then r.u else 0 | none => 0) else 0
def untB (L : List HR) (host : Int) : Bool := if 0 ≤ host then (match L[host.toNat]? with | some r => r.e | none => false) else false
theorem has_ex {L : List HR} {host : Int} (h : hasB L.length host = true) : ∃ (i : Nat) (hi : i < L.length), host = (i : Int) ∧ L[host.toNat]? = some L[i] := by
  unfold hasB at h
  rw [decide_eq_true_eq] at h
  obtain ⟨i, rfl⟩ := Int.eq_ofNat_of_zero_le h.1
  exact ⟨i, by omega, rfl, get_take (by omega)⟩
theorem has_no {L : List HR} {host : Int} (h : hasB L.length host = false) : untN L host = 0 ∧ untB L host = false := by
  unfold hasB at h
  rw [decide_eq_false_iff_not] at h
  unfold untN untB
  by_cases h0 : 0 ≤ host
  · rw [if_pos h0, if_pos h0, List.getElem?_eq_none (by omega)]
    exact ⟨rfl, rfl⟩
  · rw [if_neg h0, if_neg h0]; exact ⟨rfl, rfl⟩
set_option maxHeartbeats 1000000 in
theorem until_h (w : World) (fl bs lo sh la host : Int) (L : List HR) (b g : Nat) (h : Hp fl bs lo sh la L b g w) :
    Calls Try.prog 12 #[.pointer (some ⟨b, 0, none⟩), .int .i64 host] w fun e w' => e = .returned (.tuple #[.int .i64 (untN L host), .bool (untB L host)]) ∧ w = w' := by
  have HH := hide (has_any w fl bs lo sh la L b g host h)
  cases hh : hasB L.length host with
  | false =>
    rw [hh] at HH
    rw [(has_no hh).1, (has_no hh).2]
    clear hh h
    go_enter Try.func12, Try.ntmps12
    go_wp2_with (go_at_call 26; refine HH.out.mono ?_; rintro e w' ⟨rfl, rfl⟩)
    go_ret2
    exact ⟨rfl, rfl⟩
  | true =>
    rw [hh] at HH
    obtain ⟨i, hi, rfl, e2⟩ := has_ex hh
    have e3 : untN L (i : Int) = (if L[i].e then L[i].u else 0) := by unfold untN; rw [if_pos (by omega), e2]
    have e4 : untB L (i : Int) = L[i].e := by unfold untB; rw [if_pos (by omega), e2]
    rw [e3, e4]
    obtain ⟨c0, c1, c2, c3, c4, c5, f4⟩ := h.cB
    obtain ⟨g0, g1, g2, g3, g4⟩ := h.cG (get_take hi)
    clear hh h e2 e3 e4
    generalize L[i] = r at *
    obtain ⟨n, Hn⟩ : ∃ n, Hid (L.length = n) := ⟨_, hide rfl⟩
    rw [Hn.out] at hi c5
    have hi2 : (i : Int) < (n : Int) := by omega
    cases he : r.e with
    | true =>
      rw [he] at g1
      rw [if_pos rfl]
      go_enter Try.func12, Try.ntmps12
      go_wp2_with (go_at_call 26; refine HH.out.mono ?_; rintro e w' ⟨rfl, rfl⟩)
      go_ret2
      exact ⟨rfl, rfl⟩
    | false =>
      rw [he] at g1
      rw [if_neg (by simp)]
      go_enter Try.func12, Try.ntmps12
      go_wp2_with (go_at_call 26; refine HH.out.mono ?_; rintro e w' ⟨rfl, rfl⟩)
      go_ret2
      exact ⟨rfl, rfl⟩

/-- Marked. -/
def mrkR (r : HR) (x : Bool) : HR := ⟨x, r.e, r.u, r.f, r.t⟩
set_option maxHeartbeats 1000000 in
theorem mark_any (w : World) (P : Nat → Prop) (fl bs lo sh la now : Int) (x : Bool) (i : Nat) (r : HR) (L : List HR) (b g : Nat) (h : Hs fl bs lo sh la L b g w P) (hl : L.length ≤ 16) (hm : mom now = true) (hr : (brS (mx la now) L)[i]? = some r) :
    Calls Try.prog 20 #[.pointer (some ⟨b, 0, none⟩), .int .i64 now, .int .i64 (i : Int), .bool x] w fun e w' => e = .returned (.tuple #[.bool (r.h != x), .int .i64 0]) ∧ Does (Hs fl bs lo sh (mx la now) ((brS (mx la now) L).set i (mrkR r x)) b g) P w w' := by
  have hi : i < L.length := by obtain ⟨q, _⟩ := List.getElem?_eq_some_iff.1 hr; rwa [brS_len] at q
  have HA := hide (asked_any w P fl bs lo sh la now i L b g h hl hm hi)
  have HR := hide hr
  clear h hl hm hr hi
  generalize brS (mx la now) L = L1 at *
  generalize mx la now = m at *
  go_enter Try.func20, Try.ntmps20
  go_wp2_with fail
  refine HA.out.mono ?_
  rintro e w1 ⟨rfl, d⟩
  have HD := hide d
  obtain ⟨P2, y, -, -⟩ := d
  obtain ⟨g0, g1, g2, g3, g4⟩ := y.1.cG HR.out
  rw [Bool.false_xor] at g0
  have z0 := y.1.fz (i * 5)
  have T1 : Hid (Does (Hs fl bs lo sh m (L1.set i (mrkR r x)) b g) P w (w1.setCell ⟨g, i * 5, none⟩ (.bool x))) := hide (HD.out.trans (fun _ y => HsT.set2 (j := 0) y HR.out (by omega) (by simp [enc, mrkR])))
  clear y HA HD
  go_wp2_with fail
  go_ret2
  exact ⟨ret2_bi (by generalize r.h = y; cases y <;> cases x <;> rfl) rfl, T1.out⟩
end Go.Proofs.Ytobkgkcemdocnaa
