/- Feed, in all its ways; how great what a parser holds may be. -/
import Derived.Test.YtcagjipdldlehaaGreatDoorHFeed2
import Derived.Test.YtcagjipdldlehaaGreatDoorHFeed3
namespace Go.Proofs.YtcagjipdldlehaaGreatDoor
open Go.ChangeShapes Go.WideShapes Go.ChangeAt Go.RowKit

theorem hfeed_any {w : World} {base g : Nat} {lv fv : Value} {p : Pz} (h : Par w base g lv fv p) (hf : Fit p) (hm : MX w) (he : ET w) (hb : 3 ≤ base) (v : Value) (l : List UInt8) (hv : Bf w (Ap g lv fv) v l) (hl : l.length ≤ 140737488355328) :
    Calls Tryz.prog 46 #[.pointer (some ⟨g, 0, none⟩), v] w fun e w' => e = .returned (fdV (pFeed p l)) ∧ ∃ lv' fv', Par w' base g lv' fv' (pFeed p l).2.2.2 ∧ PKh w w' g lv fv lv' fv' := by
  unfold pFeed
  by_cases ho : p.whole = true ∨ p.wrong ≠ 0
  · rw [if_pos ho]
    refine (hfeed_over h ho v).mono ?_
    rintro e w' ⟨rfl, b⟩
    exact ⟨rfl, lv, fv, h.below b, PKh.of_below g lv fv b⟩
  · rw [if_neg ho]
    have h0 : p.whole = false := by
      cases hw : p.whole with
      | false => rfl
      | true => exact absurd (.inl hw) ho
    have h1 : p.wrong = 0 := Decidable.byContradiction fun hn => ho (.inr hn)
    by_cases hR : (pBytes p l).1 = 0
    · rw [if_pos hR]
      exact feed_ok h hf hm hb v l hv hl h0 h1 hR
    · rw [if_neg hR]
      exact feed_bad h hf hm he hb v l hv hl h0 h1 hR
theorem hfeed_nil (v : Value) (w : World) : Calls Tryz.prog 46 #[.pointer none, v] w fun e w' => e = .returned (.tuple #[.int .i64 0, .bool false, .int .i64 7]) ∧ w = w' := by
  go_enter Tryz.func46, Tryz.ntmps46
  go_wp2
  go_ret3
  exact ⟨rfl, rfl⟩
theorem fit_bytes : ∀ (l : List UInt8) (p : Pz), Fit p → Fit (pBytes p l).2.2
  | [], _, h => h
  | c :: r, p, h => by
    rw [pBytes]
    split
    · exact h.next c
    · split
      · exact h.next c
      · exact fit_bytes r _ (h.next c)
theorem Fit.feed {p : Pz} (h : Fit p) (l : List UInt8) : Fit (pFeed p l).2.2.2 := by
  have hb := fit_bytes l p h
  unfold pFeed
  split
  · exact h
  · split
    · dsimp only
      split
      · exact ⟨hb.fn, hb.most, hb.read, Nat.zero_le _, hb.passed, hb.fs⟩
      · exact hb
    · exact ⟨hb.fn, hb.most, hb.read, Nat.zero_le _, hb.passed, Nat.zero_le _⟩
/-- The texts that a parser holds are no longer than a line. -/
structure Sz (p : Pz) : Prop where
  me : p.me.size ≤ 8192
  ta : p.ta.size ≤ 8192
  re : p.re.size ≤ 8192
  fs : ∀ f ∈ p.fs, f.1.size ≤ 8192 ∧ f.2.size ≤ 8192
  minor : p.minor ≤ 1
  status : p.status ≤ 9007199254740992
theorem sz_begun {p : Pz} (h : Sz p) (v : ByteArray) : Sz (pBegun p v).2 := by
  unfold pBegun
  split
  · split
    · exact ⟨h.me, h.ta, h.re, h.fs, Nat.le_refl _, h.status⟩
    · split
      · exact ⟨h.me, h.ta, h.re, h.fs, h.minor, h.status⟩
      · exact h
  · exact h
theorem num_topH (l : List UInt8) : numV 10 l ≤ 9007199254740992 := by
  unfold numV
  split
  · exact Nat.zero_le _
  · have := accu_le 10 (by decide) l
    unfold top at *
    omega
theorem trimS_size (s : ByteArray) : (trimS s).size ≤ s.size := by
  have h1 : (trimS s).data.toList = trimB s.data.toList := by simp [trimS]
  rw [← size_len, h1, ← size_len s]
  exact trimB_le _
theorem sz_line {p : Pz} (h : Sz p) (s : ByteArray) (hs : s.size ≤ 8192) : Sz (pLine p s).2 := by
  have a1 := k1_size 32 s
  have a2 := k2_size 32 s
  have a3 := k1_size 32 (k2 32 s)
  have a4 := k2_size 32 (k2 32 s)
  unfold pLine
  split
  · unfold pReq
    split
    · exact ⟨h.me, h.ta, h.re, h.fs, h.minor, h.status⟩
    · split
      · exact sz_begun (p := { p with me := k1 32 s, ta := k1 32 (k2 32 s) }) ⟨by show (k1 32 s).size ≤ 8192; omega, by show (k1 32 (k2 32 s)).size ≤ 8192; omega, h.re, h.fs, h.minor, h.status⟩ _
      · exact h
  · split
    · unfold pRes
      split
      · exact sz_begun (p := { p with status := numV 10 (k1 32 (k2 32 s)).data.toList, re := k2 32 (k2 32 s) }) ⟨h.me, h.ta, by show (k2 32 (k2 32 s)).size ≤ 8192; omega, h.fs, h.minor, num_topH _⟩ _
      · exact h
    · unfold pFld
      repeat' split
      all_goals first
        | exact h
        | exact ⟨h.me, h.ta, h.re, h.fs, h.minor, h.status⟩
        | (refine ⟨h.me, h.ta, h.re, ?_, h.minor, h.status⟩
           intro f hf
           rcases List.mem_append.1 hf with hf | hf
           · exact h.fs f hf
           · simp only [List.mem_singleton] at hf
             subst hf
             have b1 := k1_size 58 s
             have b2 := k2_size 58 s
             have b3 := trimS_size (k2 58 s)
             unfold fldFh
             exact ⟨by show (k1 58 s).size ≤ 8192; omega, by show (trimS (k2 58 s)).size ≤ 8192; omega⟩)
theorem Sz.next {p : Pz} (h : Sz p) (hf : Fit p) (c : UInt8) : Sz (pNext p c).2 := by
  unfold pNext
  split
  · exact h
  · split
    · exact h
    · split
      · exact ⟨h.me, h.ta, h.re, h.fs, h.minor, h.status⟩
      · split
        · exact sz_line (p := { p with read := p.read + 1, ending := false, line := [] }) ⟨h.me, h.ta, h.re, h.fs, h.minor, h.status⟩ _ (by rw [sS_size]; exact hf.line)
        · split <;> exact ⟨h.me, h.ta, h.re, h.fs, h.minor, h.status⟩
theorem sz_bytes : ∀ (l : List UInt8) (p : Pz), Fit p → Sz p → Sz (pBytes p l).2.2
  | [], _, _, h => h
  | c :: r, p, hf, h => by
    rw [pBytes]
    split
    · exact h.next hf c
    · split
      · exact h.next hf c
      · exact sz_bytes r _ (hf.next c) (h.next hf c)
theorem Sz.feed {p : Pz} (h : Sz p) (hf : Fit p) (l : List UInt8) : Sz (pFeed p l).2.2.2 := by
  have hb := sz_bytes l p hf h
  unfold pFeed
  split
  · exact h
  · split
    · dsimp only
      split
      · exact ⟨hb.me, hb.ta, hb.re, hb.fs, hb.minor, hb.status⟩
      · exact hb
    · exact ⟨Nat.zero_le _, Nat.zero_le _, Nat.zero_le _, (fun f hf => by cases hf), Nat.zero_le _, Nat.zero_le _⟩
theorem sz_new (rq : Bool) (most : Nat) : Sz (pNew rq most) := ⟨Nat.zero_le _, Nat.zero_le _, Nat.zero_le _, (fun f hf => by cases hf), Nat.zero_le _, Nat.zero_le _⟩
end Go.Proofs.YtcagjipdldlehaaGreatDoor
