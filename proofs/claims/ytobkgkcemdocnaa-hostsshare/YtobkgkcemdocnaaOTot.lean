/- Whatever is asked: what is told, and what the set is behind it. -/
import Derived.Test.YtobkgkcemdocnaaOSay
namespace Go.Proofs.Ytobkgkcemdocnaa
open Go.ChangeShapes Go.WideShapes Go.ChangeAt Go.RowKit

def rowAt (L : List HR) (host : Int) : HR := L.getD host.toNat (z0 true)
/-- The moment, the hosts and the answer behind an attempt's end. -/
def rsA (L : List HR) (la now host : Int) : Int := if askE L.length now host = 0 then mx la now else la
def rsL (fl bs lo sh la : Int) (L : List HR) (now host : Int) (ok : Bool) : List HR :=
  if askE L.length now host = 0 then (brS (mx la now) L).set host.toNat (resR fl bs lo sh (mx la now) (brS (mx la now) L) (rowAt (brS (mx la now) L) host) ok) else L
def rsB (fl sh la : Int) (L : List HR) (now host : Int) (ok : Bool) : Bool := decide (askE L.length now host = 0) && resB fl sh (brS (mx la now) L) (rowAt (brS (mx la now) L) host) ok
def mkL (la : Int) (L : List HR) (now host : Int) (x : Bool) : List HR := if askE L.length now host = 0 then (brS (mx la now) L).set host.toNat (mrkR (rowAt (brS (mx la now) L) host) x) else L
def mkB (la : Int) (L : List HR) (now host : Int) (x : Bool) : Bool := decide (askE L.length now host = 0) && ((rowAt (brS (mx la now) L) host).h != x)
theorem ask_ok {n : Nat} {now host : Int} (h : askE n now host = 0) : mom now = true ∧ ∃ i : Nat, i < n ∧ host = (i : Int) := by
  unfold askE at h
  split at h
  · rename_i hm
    refine ⟨hm, ?_⟩
    split at h
    · rename_i hh
      unfold hasB at hh
      rw [decide_eq_true_eq] at hh
      obtain ⟨i, rfl⟩ := Int.eq_ofNat_of_zero_le hh.1
      exact ⟨i, by omega, rfl⟩
    · omega
  · omega
theorem row_at {L : List HR} {m : Int} {i : Nat} (hi : i < L.length) : (brS m L)[i]? = some (rowAt (brS m L) (i : Int)) := by
  unfold rowAt
  rw [Int.toNat_natCast, List.getD_eq_getElem?_getD]
  have : i < (brS m L).length := by rw [brS_len]; exact hi
  rw [List.getElem?_eq_getElem this]
  rfl
theorem result_u (w : World) (P : Nat → Prop) (fl bs lo sh la now host K : Int) (ok : Bool) (L : List HR) (b g : Nat) (h : Hs fl bs lo sh la L b g w P) (k : HOk fl bs lo sh la K L) (hK : K < 8796093022207) :
    Calls Try.prog 16 #[.pointer (some ⟨b, 0, none⟩), .int .i64 now, .int .i64 host, .bool ok] w fun e w' => e = .returned (.tuple #[.bool (rsB fl sh la L now host ok), .int .i64 (askE L.length now host)]) ∧ Does (Hs fl bs lo sh (rsA L la now host) (rsL fl bs lo sh la L now host ok) b g) P w w' := by
  by_cases hb : askE L.length now host = 0
  · obtain ⟨hm, i, hi, rfl⟩ := ask_ok hb
    have := result_any w P fl bs lo sh la now K ok i _ L b g h k hK hm (row_at hi)
    unfold rsB rsA rsL
    rw [hb, if_pos rfl, if_pos rfl, decide_eq_true rfl, Bool.true_and, Int.toNat_natCast]
    exact this
  · refine (result_bad w fl bs lo sh la now host ok L b g h.1 hb).mono ?_
    rintro e w' ⟨rfl, rfl⟩
    unfold rsB rsA rsL
    rw [if_neg hb, if_neg hb, decide_eq_false hb, Bool.false_and]
    exact ⟨rfl, Does.refl h⟩
theorem mark_u (w : World) (P : Nat → Prop) (fl bs lo sh la now host : Int) (x : Bool) (L : List HR) (b g : Nat) (h : Hs fl bs lo sh la L b g w P) (hl : L.length ≤ 16) :
    Calls Try.prog 20 #[.pointer (some ⟨b, 0, none⟩), .int .i64 now, .int .i64 host, .bool x] w fun e w' => e = .returned (.tuple #[.bool (mkB la L now host x), .int .i64 (askE L.length now host)]) ∧ Does (Hs fl bs lo sh (rsA L la now host) (mkL la L now host x) b g) P w w' := by
  by_cases hb : askE L.length now host = 0
  · obtain ⟨hm, i, hi, rfl⟩ := ask_ok hb
    have := mark_any w P fl bs lo sh la now x i _ L b g h hl hm (row_at hi)
    unfold mkB rsA mkL
    rw [hb, if_pos rfl, if_pos rfl, decide_eq_true rfl, Bool.true_and, Int.toNat_natCast]
    exact this
  · refine (mark_bad w fl bs lo sh la now host x L b g h.1 hb).mono ?_
    rintro e w' ⟨rfl, rfl⟩
    unfold mkB rsA mkL
    rw [if_neg hb, if_neg hb, decide_eq_false hb, Bool.false_and]
    exact ⟨rfl, Does.refl h⟩
def brA (la now : Int) : Int := if mom now then mx la now else la
def brL (la : Int) (L : List HR) (now : Int) : List HR := if mom now then brS (mx la now) L else L
def brN (la : Int) (L : List HR) (now : Int) : List Int := if mom now then nums (rst (mx la now)) L L.length else []
def usN (la : Int) (L : List HR) (now : Int) : List Int := if mom now then nums usa (brS (mx la now) L) L.length else []
theorem bring_u (w : World) (P : Nat → Prop) (fl bs lo sh la now : Int) (L : List HR) (b g : Nat) (h : Hs fl bs lo sh la L b g w P) (hl : L.length ≤ 16) :
    Calls Try.prog 18 #[.pointer (some ⟨b, 0, none⟩), .int .i64 now] w fun e w' => ∃ v, e = .returned (.tuple #[v, .int .i64 (bE now)]) ∧ Does (Two (Row v (brN la L now)) (Hs fl bs lo sh (brA la now) (brL la L now) b g)) P w w' := by
  unfold brN brA brL bE
  cases hm : mom now with
  | true => exact bring_any w P fl bs lo sh la now L b g h hl hm
  | false =>
    refine (bring_bad w b now hm).mono ?_
    rintro e w' ⟨rfl, rfl⟩
    exact ⟨_, rfl, (Does.refl h).nilrow⟩
theorem usable_u (w : World) (P : Nat → Prop) (fl bs lo sh la now : Int) (L : List HR) (b g : Nat) (h : Hs fl bs lo sh la L b g w P) (hl : L.length ≤ 16) :
    Calls Try.prog 17 #[.pointer (some ⟨b, 0, none⟩), .int .i64 now] w fun e w' => ∃ v, e = .returned (.tuple #[v, .int .i64 (bE now)]) ∧ Does (Two (Row v (usN la L now)) (Hs fl bs lo sh (brA la now) (brL la L now) b g)) P w w' := by
  unfold usN brA brL bE
  cases hm : mom now with
  | true => exact usable_any w P fl bs lo sh la now L b g h hl hm
  | false =>
    refine (usable_bad w b now hm).mono ?_
    rintro e w' ⟨rfl, rfl⟩
    exact ⟨_, rfl, (Does.refl h).nilrow⟩
section
variable {fl bs lo sh la K : Int} {L : List HR}
theorem HOk.rs (h : HOk fl bs lo sh la K L) (hK : K < 8796093022207) (now host : Int) (ok : Bool) : HOk fl bs lo sh (rsA L la now host) (K + 1) (rsL fl bs lo sh la L now host ok) := by
  unfold rsA rsL
  by_cases hb : askE L.length now host = 0
  · obtain ⟨hm, i, hi, rfl⟩ := ask_ok hb
    rw [if_pos hb, if_pos hb, Int.toNat_natCast]
    exact (h.bring hm).res (by omega) (row_at hi) ok
  · rw [if_neg hb, if_neg hb]; exact h.more (by omega)
theorem HOk.mrk (h : HOk fl bs lo sh la K L) (now host : Int) (x : Bool) : HOk fl bs lo sh (rsA L la now host) (K + 1) (mkL la L now host x) := by
  unfold rsA mkL
  by_cases hb : askE L.length now host = 0
  · obtain ⟨hm, i, hi, rfl⟩ := ask_ok hb
    rw [if_pos hb, if_pos hb, Int.toNat_natCast]
    refine (h.bring hm).set (by omega) ?_
    have := (h.bring hm).rows _ (List.mem_of_getElem? (row_at hi))
    unfold mrkR
    refine ⟨?_, ?_, this.2.2⟩
    · show 0 ≤ (rowAt (brS (mx la now) L) (i : Int)).f ∧ (rowAt (brS (mx la now) L) (i : Int)).f ≤ K + 1; omega
    · show 0 ≤ (rowAt (brS (mx la now) L) (i : Int)).t ∧ (rowAt (brS (mx la now) L) (i : Int)).t ≤ K + 1; omega
  · rw [if_neg hb, if_neg hb]; exact h.more (by omega)
theorem HOk.br (h : HOk fl bs lo sh la K L) (now : Int) : HOk fl bs lo sh (brA la now) K (brL la L now) := by
  unfold brA brL
  cases hm : mom now with
  | true => exact h.bring hm
  | false => exact h
theorem rsL_len (now host : Int) (ok : Bool) : (rsL fl bs lo sh la L now host ok).length = L.length := by
  unfold rsL; split
  · rw [List.length_set, brS_len]
  · rfl
theorem mkL_len (now host : Int) (x : Bool) : (mkL la L now host x).length = L.length := by
  unfold mkL; split
  · rw [List.length_set, brS_len]
  · rfl
theorem brL_len (now : Int) : (brL la L now).length = L.length := by
  unfold brL; split
  · rw [brS_len]
  · rfl
end
theorem okN.ok {n : Nat} {fl bs lo sh : Int} (h : okN n fl bs lo sh) : HOk fl bs lo sh 0 0 (List.replicate n (z0 true)) := by
  obtain ⟨⟨n0, n1⟩, ⟨a0, a1⟩, ⟨b0, b1⟩, ⟨c0, c1⟩, d0, d1⟩ := h
  exact ⟨a0, a1, b0, b1, c0, c1, d0, d1, by omega, by omega, by rw [List.length_replicate]; omega, by rw [List.length_replicate]; omega, by omega, fun r hr => by rw [List.eq_of_mem_replicate hr]; decide⟩
abbrev askO (n fl bs lo sh : Int) : Obj := .cells #[.int .i64 n, .int .i64 fl, .int .i64 bs, .int .i64 lo, .int .i64 sh] 23 (0, 0)
abbrev stO (kd nw ho : Int) : Obj := .cells #[.int .i64 kd, .int .i64 nw, .int .i64 ho] 34 (0, 0)
end Go.Proofs.Ytobkgkcemdocnaa
