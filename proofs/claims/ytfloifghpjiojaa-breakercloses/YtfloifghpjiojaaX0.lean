/- BreakerNil, walked. -/
import Derived.Test.YtfloifghpjiojaaOpn
namespace Go.Proofs.Ytfloifghpjiojaa
open Go.ChangeShapes Go.WideShapes Go.ChangeAt Go.RowKit

/-- Two blocks of the call's own. -/
structure G2 (W wr : World) (b c : Nat) (ob oc : Obj) : Prop where
  B : wr.heap[b]? = some ob
  C : wr.heap[c]? = some oc
  F : Fr none' W wr
  ab : b ≠ c ∧ W.heap.size ≤ b ∧ W.heap.size ≤ c
/-- And a third one. -/
structure G3 (W wr : World) (b c e : Nat) (ob oc oe : Obj) : Prop where
  B : wr.heap[b]? = some ob
  C : wr.heap[c]? = some oc
  E : wr.heap[e]? = some oe
  F : Fr none' W wr
  ab : b ≠ c ∧ b ≠ e ∧ c ≠ e ∧ W.heap.size ≤ b ∧ W.heap.size ≤ c ∧ W.heap.size ≤ e
theorem G2.b {W wr w2 : World} {b c : Nat} {ob oc ob' : Obj} (h : G2 W wr b c ob oc) (B : w2.heap[b]? = some ob') (F : Fr (fun k => k = b) wr w2) : G2 W w2 b c ob' oc :=
  ⟨B, F.hd (fun e => h.ab.1 e.symm) h.C, h.F.trans F (fun i hi e => by have := h.ab; omega), h.ab⟩
theorem G2.c {W wr w2 : World} {b c : Nat} {ob oc oc' : Obj} (h : G2 W wr b c ob oc) (C : w2.heap[c]? = some oc') (F : Fr (fun k => k = c) wr w2) : G2 W w2 b c ob oc' :=
  ⟨F.hd h.ab.1 h.B, C, h.F.trans F (fun i hi e => by have := h.ab; omega), h.ab⟩
theorem G2.take {W wr : World} {b c : Nat} {ob oc : Obj} (h : G2 W wr b c ob oc) (o : Obj) : G3 W (wr.alloc o) b c wr.heap.size ob oc o := by
  have hb := hp_lt h.B
  have hc := hp_lt h.C
  have hf := h.F.size
  have F := Fr.alloc none' wr o
  exact ⟨F.hd id h.B, F.hd id h.C, hp_new _ _, h.F.trans F (fun _ _ x => x), h.ab.1, by omega, by omega, h.ab.2.1, h.ab.2.2, hf⟩
theorem G3.drop {W wr : World} {b c e : Nat} {ob oc oe : Obj} (h : G3 W wr b c e ob oc oe) : G2 W wr b c ob oc := ⟨h.B, h.C, h.F, h.ab.1, h.ab.2.2.2.1, h.ab.2.2.2.2.1⟩
theorem G3.b {W wr w2 : World} {b c e : Nat} {ob oc oe ob' : Obj} (h : G3 W wr b c e ob oc oe) (B : w2.heap[b]? = some ob') (F : Fr (fun k => k = b) wr w2) : G3 W w2 b c e ob' oc oe :=
  ⟨B, F.hd (fun x => h.ab.1 x.symm) h.C, F.hd (fun x => h.ab.2.1 x.symm) h.E, h.F.trans F (fun i hi x => by have := h.ab; omega), h.ab⟩
theorem G3.c {W wr w2 : World} {b c e : Nat} {ob oc oe oc' : Obj} (h : G3 W wr b c e ob oc oe) (C : w2.heap[c]? = some oc') (F : Fr (fun k => k = c) wr w2) : G3 W w2 b c e ob oc' oe :=
  ⟨F.hd h.ab.1 h.B, C, F.hd (fun x => h.ab.2.2.1 x.symm) h.E, h.F.trans F (fun i hi x => by have := h.ab; omega), h.ab⟩
abbrev brO (fa co pr : Int) (s : Bs) : Obj := .cells #[.int .i64 fa, .int .i64 co, .int .i64 pr, .int .i64 s.st, .int .i64 s.la, .int .i64 s.en, .int .i64 s.fl, .int .i64 s.sr, .int .i64 s.gd] 50 (0, 0)
abbrev rbO (fa co pr : Int) (s : Bs) : Obj := .cells #[.int .i64 fa, .int .i64 co, .int .i64 pr, .int .i64 s.st, .int .i64 s.fl, .int .i64 s.en, .int .i64 s.la, .int .i64 s.sr, .int .i64 s.gd] 52 (0, 0)
abbrev nmO (fa co pr : Int) : Obj := .cells #[.int .i64 fa, .int .i64 co, .int .i64 pr] 23 (0, 0)
abbrev stO (kd nw : Int) : Obj := .cells #[.int .i64 kd, .int .i64 nw] 34 (0, 0)

set_option maxHeartbeats 2000000 in
set_option maxRecDepth 100000 in
theorem nil_walk (W : World) (now : Int) (ok : Bool) : Calls Try.prog 6 #[.int .i64 now, .bool ok] W fun e w' => e = .returned (.bool true) ∧ Below W.heap.size W w' := by
  have H1 := hide (fun V => allow_nil V now)
  have H2 := hide (fun V => done_nil V now ok)
  have H3 := hide (fun V => state_nil V now)
  have H4 := hide (fun V => moment_any now V)
  obtain ⟨x, y, HE, HM, hxy⟩ : ∃ (x : Int) (y : Bool), Hid (bE now = x) ∧ Hid (mom now = y) ∧ ((x = 0 ∧ y = true) ∨ (x = 1 ∧ y = false)) := by
    refine ⟨_, _, hide rfl, hide rfl, ?_⟩
    unfold bE
    by_cases hm : mom now = true
    · left; simp [hm]
    · right; simp [hm]
  rw [HE.out] at H1 H2 H3
  rw [HM.out] at H4
  rcases hxy with ⟨rfl, rfl⟩ | ⟨rfl, rfl⟩
  all_goals
    go_enter Try.func6, Try.ntmps6
    go_wp2_with (first | (go_at_call 13; refine (H1.out _).mono ?_; rintro e w' ⟨rfl, rfl⟩) | (go_at_call 15; refine (H2.out _).mono ?_; rintro e w' ⟨rfl, rfl⟩) | (go_at_call 17; refine (H3.out _).mono ?_; rintro e w' ⟨rfl, rfl⟩) | (go_at_call 19; refine (H4.out _).mono ?_; rintro e w' ⟨rfl, rfl⟩) | (go_at_call 10; refine (speaks_any _).mono ?_; rintro e w3 ⟨rfl, HG⟩))
    go_ret
    exact ⟨rfl, HG.below (Nat.le_refl _) (fun _ _ x => x)⟩
end Go.Proofs.Ytfloifghpjiojaa
