/- A breaker's calls, the program's: what each tells, and what it leaves. -/
import Derived.Test.YtfloifghpjiojaaBase
import Derived.Deep.RegionWith
namespace Go.Proofs.Ytfloifghpjiojaa
open Go.ChangeShapes Go.WideShapes Go.ChangeAt Go.RowKit

/-- A breaker's state. -/
structure Bs where
  st : Int
  la : Int
  en : Int
  fl : Int
  sr : Int
  gd : Int
/-- The program's block. -/
def Br (w : World) (b : Nat) (fa co pr : Int) (s : Bs) : Prop := w.heap[b]? = some (.cells #[.int .i64 fa, .int .i64 co, .int .i64 pr, .int .i64 s.st, .int .i64 s.la, .int .i64 s.en, .int .i64 s.fl, .int .i64 s.sr, .int .i64 s.gd] 50 (0, 0))
/-- The document's block. -/
def Rb (w : World) (b : Nat) (fa co pr : Int) (s : Bs) : Prop := w.heap[b]? = some (.cells #[.int .i64 fa, .int .i64 co, .int .i64 pr, .int .i64 s.st, .int .i64 s.fl, .int .i64 s.en, .int .i64 s.la, .int .i64 s.sr, .int .i64 s.gd] 52 (0, 0))
structure Num (fa co pr : Int) : Prop where
  f0 : 0 ≤ fa
  f1 : fa ≤ 1000
  c0 : 1 ≤ co
  c1 : co ≤ 1000000
  p0 : 1 ≤ pr
  p1 : pr ≤ 100
structure Ok (fa pr n : Int) (s : Bs) : Prop where
  st : s.st = 1 ∨ s.st = 2 ∨ s.st = 3
  l0 : 0 ≤ s.la
  l1 : s.la ≤ 4611686018427387904
  e0 : 0 ≤ s.en
  e1 : s.en ≤ 4611686018427387904
  f0 : 0 ≤ s.fl
  f1 : s.fl ≤ n
  s0 : 0 ≤ s.sr
  s1 : s.sr ≤ pr
  g0 : 0 ≤ s.gd
  g1 : s.gd ≤ pr
  half : s.st = 3 → s.gd < pr
  shut : s.st = 1 → 0 < fa → s.fl < fa
def bE (now : Int) : Int := if mom now then 0 else 1
def askS (s : Bs) (now : Int) : Bs := ⟨s.st, max s.la now, s.en, s.fl, s.sr, s.gd⟩
def clS (s : Bs) : Bs := if s.st = 2 ∧ s.en ≤ s.la then ⟨3, s.la, s.en, s.fl, 0, 0⟩ else s
def atS (s : Bs) (now : Int) : Bs := if mom now then clS (askS s now) else s
def canB (pr : Int) (s : Bs) (now : Int) : Bool := mom now && (decide ((atS s now).st = 1) || (decide ((atS s now).st = 3) && decide ((atS s now).sr < pr)))
def alwS (pr : Int) (s : Bs) (now : Int) : Bs := if canB pr s now ∧ (atS s now).st = 3 then ⟨(atS s now).st, (atS s now).la, (atS s now).en, (atS s now).fl, (atS s now).sr + 1, (atS s now).gd⟩ else atS s now
def stN (s : Bs) (now : Int) : Int := if mom now then (atS s now).st else 0
def opS (co : Int) (s : Bs) : Bs := ⟨2, s.la, later s.la co, s.fl, s.sr, s.gd⟩
def prS (co pr : Int) (ok : Bool) (s : Bs) : Bs := if ok then (if s.gd + 1 < pr then ⟨s.st, s.la, s.en, s.fl, s.sr, s.gd + 1⟩ else ⟨1, s.la, s.en, 0, s.sr, s.gd + 1⟩) else opS co s
def prN (pr : Int) (ok : Bool) (s : Bs) : Int := if ok then (if s.gd + 1 < pr then 0 else 1) else 2
def ctS (fa co : Int) (ok : Bool) (s : Bs) : Bs := if ok then ⟨s.st, s.la, s.en, 0, s.sr, s.gd⟩ else if s.fl + 1 = fa then ⟨2, s.la, later s.la co, s.fl + 1, s.sr, s.gd⟩ else ⟨s.st, s.la, s.en, s.fl + 1, s.sr, s.gd⟩
def ctN (fa : Int) (ok : Bool) (s : Bs) : Int := if ok then 0 else if s.fl + 1 = fa then 2 else 0
def dnS (fa co pr : Int) (s : Bs) (now : Int) (ok : Bool) : Bs := if mom now then (if (atS s now).st = 2 then atS s now else if (atS s now).st = 3 then prS co pr ok (atS s now) else ctS fa co ok (atS s now)) else s
def dnN (fa pr : Int) (s : Bs) (now : Int) (ok : Bool) : Int := if mom now then (if (atS s now).st = 2 then 0 else if (atS s now).st = 3 then prN pr ok (atS s now) else ctN fa ok (atS s now)) else 0

theorem mom_iff {t : Int} : mom t = true ↔ (0 ≤ t ∧ t ≤ 4611686018427387904) := by simp [mom]
theorem bE_mom {t : Int} (h : mom t = true) : bE t = 0 := by unfold bE; rw [if_pos h]
theorem bE_no {t : Int} (h : ¬ mom t = true) : bE t = 1 := by unfold bE; rw [if_neg h]
theorem later_bd {t d : Int} (h0 : 0 ≤ t) (hd : 0 ≤ d) : 0 ≤ later t d ∧ later t d ≤ 4611686018427387904 := by unfold later; split <;> omega

theorem Br.cs {w : World} {b : Nat} {fa co pr : Int} {s : Bs} (h : Br w b fa co pr s) : w.cell? ⟨b, 0, none⟩ = some (.int .i64 fa) ∧ w.cell? ⟨b, 1, none⟩ = some (.int .i64 co) ∧ w.cell? ⟨b, 2, none⟩ = some (.int .i64 pr) ∧ w.cell? ⟨b, 3, none⟩ = some (.int .i64 s.st) ∧ w.cell? ⟨b, 4, none⟩ = some (.int .i64 s.la) ∧ w.cell? ⟨b, 5, none⟩ = some (.int .i64 s.en) ∧ w.cell? ⟨b, 6, none⟩ = some (.int .i64 s.fl) ∧ w.cell? ⟨b, 7, none⟩ = some (.int .i64 s.sr) ∧ w.cell? ⟨b, 8, none⟩ = some (.int .i64 s.gd) :=
  ⟨cell_of h 0, cell_of h 1, cell_of h 2, cell_of h 3, cell_of h 4, cell_of h 5, cell_of h 6, cell_of h 7, cell_of h 8⟩
theorem Br.zs {w : World} {b : Nat} {fa co pr : Int} {s : Bs} (h : Br w b fa co pr s) : w.frozen? ⟨b, 3, none⟩ = false ∧ w.frozen? ⟨b, 4, none⟩ = false ∧ w.frozen? ⟨b, 5, none⟩ = false ∧ w.frozen? ⟨b, 6, none⟩ = false ∧ w.frozen? ⟨b, 7, none⟩ = false ∧ w.frozen? ⟨b, 8, none⟩ = false :=
  ⟨frozen_of h 3, frozen_of h 4, frozen_of h 5, frozen_of h 6, frozen_of h 7, frozen_of h 8⟩
theorem Br.fr {w w' : World} {b : Nat} {fa co pr : Int} {s : Bs} {S : Nat → Prop} (h : Br w b fa co pr s) (f : Fr S w w') (hs : ¬ S b) : Br w' b fa co pr s := f.hd hs h
theorem Br.s3 {w : World} {b : Nat} {fa co pr st la en fl sr gd : Int} (h : Br w b fa co pr ⟨st, la, en, fl, sr, gd⟩) (x : Int) : Br (w.setCell ⟨b, 3, none⟩ (.int .i64 x)) b fa co pr ⟨x, la, en, fl, sr, gd⟩ := hp_set h 3 _
theorem Br.s4 {w : World} {b : Nat} {fa co pr st la en fl sr gd : Int} (h : Br w b fa co pr ⟨st, la, en, fl, sr, gd⟩) (x : Int) : Br (w.setCell ⟨b, 4, none⟩ (.int .i64 x)) b fa co pr ⟨st, x, en, fl, sr, gd⟩ := hp_set h 4 _
theorem Br.s5 {w : World} {b : Nat} {fa co pr st la en fl sr gd : Int} (h : Br w b fa co pr ⟨st, la, en, fl, sr, gd⟩) (x : Int) : Br (w.setCell ⟨b, 5, none⟩ (.int .i64 x)) b fa co pr ⟨st, la, x, fl, sr, gd⟩ := hp_set h 5 _
theorem Br.s6 {w : World} {b : Nat} {fa co pr st la en fl sr gd : Int} (h : Br w b fa co pr ⟨st, la, en, fl, sr, gd⟩) (x : Int) : Br (w.setCell ⟨b, 6, none⟩ (.int .i64 x)) b fa co pr ⟨st, la, en, x, sr, gd⟩ := hp_set h 6 _
theorem Br.s7 {w : World} {b : Nat} {fa co pr st la en fl sr gd : Int} (h : Br w b fa co pr ⟨st, la, en, fl, sr, gd⟩) (x : Int) : Br (w.setCell ⟨b, 7, none⟩ (.int .i64 x)) b fa co pr ⟨st, la, en, fl, x, gd⟩ := hp_set h 7 _
theorem Br.s8 {w : World} {b : Nat} {fa co pr st la en fl sr gd : Int} (h : Br w b fa co pr ⟨st, la, en, fl, sr, gd⟩) (x : Int) : Br (w.setCell ⟨b, 8, none⟩ (.int .i64 x)) b fa co pr ⟨st, la, en, fl, sr, x⟩ := hp_set h 8 _
theorem Fr.s {S : World} {w : World} {b i : Nat} {v : Value} (h : Fr (fun k => k = b) S w) : Fr (fun k => k = b) S (w.setCell ⟨b, i, none⟩ v) := h.trans (Fr.set _ _ _ _) (fun _ _ x => x)

theorem ask_yes (w : World) (b : Nat) (fa co pr : Int) (s : Bs) (now : Int) (h : Br w b fa co pr s) (hm : mom now = true) :
    Calls Try.prog 20 #[.pointer (some ⟨b, 0, none⟩), .int .i64 now] w fun e w' => e = .returned (.int .i64 0) ∧ Br w' b fa co pr (askS s now) ∧ Fr (fun k => k = b) w w' := by
  obtain ⟨st, la, en, fl, sr, gd⟩ := s
  obtain ⟨-, -, -, -, k4, -, -, -, -⟩ := h.cs
  obtain ⟨-, z4, -, -, -, -⟩ := h.zs
  have HK := hide h
  have e0 : untE 0 now = 0 := by unfold untE; rw [if_pos ⟨⟨by omega, by omega⟩, mom_iff.1 hm⟩]
  clear h hm
  simp only at k4
  by_cases hl : la < now
  · have HE : Hid (askS ⟨st, la, en, fl, sr, gd⟩ now = ⟨st, now, en, fl, sr, gd⟩) := hide (by unfold askS; rw [show max la now = now by omega])
    rw [HE.out]
    go_enter Try.func20, Try.ntmps20
    go_wp2_with (go_at_call 25; refine (until_any _ _ _).mono ?_; rintro e w' ⟨rfl, rfl⟩)
    go_ret
    exact ⟨rfl, HK.out.s4 _, Fr.set _ _ _ _⟩
  by_cases hl2 : now < la
  · have HE : Hid (askS ⟨st, la, en, fl, sr, gd⟩ now = ⟨st, la, en, fl, sr, gd⟩) := hide (by unfold askS; rw [show max la now = la by omega])
    rw [HE.out]
    go_enter Try.func20, Try.ntmps20
    go_wp2_with (go_at_call 25; refine (until_any _ _ _).mono ?_; rintro e w' ⟨rfl, rfl⟩)
    go_ret
    exact ⟨rfl, HK.out.s4 _, Fr.set _ _ _ _⟩
  · obtain rfl : la = now := by omega
    have HE : Hid (askS ⟨st, la, en, fl, sr, gd⟩ la = ⟨st, la, en, fl, sr, gd⟩) := hide (by unfold askS; rw [show max la la = la by omega])
    rw [HE.out]
    go_enter Try.func20, Try.ntmps20
    go_wp2_with (go_at_call 25; refine (until_any _ _ _).mono ?_; rintro e w' ⟨rfl, rfl⟩)
    go_ret
    exact ⟨rfl, HK.out.s4 _, Fr.set _ _ _ _⟩
theorem ask_no (w : World) (p : Option Addr) (now : Int) (hm : ¬ mom now = true) :
    Calls Try.prog 20 #[.pointer p, .int .i64 now] w fun e w' => e = .returned (.int .i64 1) ∧ w = w' := by
  have e0 : untE 0 now = 1 := by unfold untE; rw [if_neg (fun x => hm (mom_iff.2 x.2))]
  clear hm
  go_enter Try.func20, Try.ntmps20
  go_wp2_with (go_at_call 25; refine (until_any _ _ _).mono ?_; rintro e w' ⟨rfl, rfl⟩)
  go_ret
  exact ⟨rfl, rfl⟩
theorem ask_nil (w : World) (now : Int) (hm : mom now = true) :
    Calls Try.prog 20 #[.pointer none, .int .i64 now] w fun e w' => e = .returned (.int .i64 0) ∧ w = w' := by
  have e0 : untE 0 now = 0 := by unfold untE; rw [if_pos ⟨⟨by omega, by omega⟩, mom_iff.1 hm⟩]
  clear hm
  go_enter Try.func20, Try.ntmps20
  go_wp2_with (go_at_call 25; refine (until_any _ _ _).mono ?_; rintro e w' ⟨rfl, rfl⟩)
  go_ret
  exact ⟨rfl, rfl⟩

theorem cooled_yes (w : World) (b : Nat) (fa co pr st la en fl sr gd : Int) (h : Br w b fa co pr ⟨st, la, en, fl, sr, gd⟩) (hq : en ≤ la) :
    Calls Try.prog 21 #[.pointer (some ⟨b, 0, none⟩)] w fun e w' => e = .returned (.bool true) ∧ Br w' b fa co pr ⟨3, la, en, fl, 0, 0⟩ ∧ Fr (fun k => k = b) w w' := by
  obtain ⟨-, -, -, k3, k4, k5, k6, k7, k8⟩ := h.cs
  obtain ⟨z3, -, -, -, z7, z8⟩ := h.zs
  have HK := hide h
  have hd : decide (la < en) = false := decide_eq_false (by omega)
  simp only at k3 k4 k5 k6 k7 k8
  clear h
  go_enter Try.func21, Try.ntmps21
  go_wp2_with fail
  go_quiet (fail)
  go_wp2_with fail
  go_ret
  exact ⟨rfl, ((Br.s3 (w := w.drewN _) HK.out _).s7 _).s8 _, (((Fr.refl _ _).d _).s).s.s⟩
theorem cooled_no (w : World) (b : Nat) (fa co pr st la en fl sr gd : Int) (h : Br w b fa co pr ⟨st, la, en, fl, sr, gd⟩) (hq : ¬ en ≤ la) :
    Calls Try.prog 21 #[.pointer (some ⟨b, 0, none⟩)] w fun e w' => e = .returned (.bool false) ∧ Br w' b fa co pr ⟨st, la, en, fl, sr, gd⟩ ∧ Fr (fun k => k = b) w w' := by
  obtain ⟨-, -, -, k3, k4, k5, k6, k7, k8⟩ := h.cs
  have HK := hide h
  have hd : decide (la < en) = true := decide_eq_true (by omega)
  simp only at k3 k4 k5 k6 k7 k8
  clear h
  go_enter Try.func21, Try.ntmps21
  go_wp2_with fail
  go_quiet (fail)
  go_wp2_with fail
  go_ret
  exact ⟨rfl, HK.out, (Fr.refl _ _).d _⟩

set_option maxHeartbeats 2000000 in
set_option maxRecDepth 100000 in
theorem opens_any (w : World) (b : Nat) (fa co pr st la en fl sr gd : Int) (h : Br w b fa co pr ⟨st, la, en, fl, sr, gd⟩) (l0 : 0 ≤ la) (l1 : la ≤ 4611686018427387904) (c0 : 1 ≤ co) (c1 : co ≤ 1000000) :
    Calls Try.prog 26 #[.pointer (some ⟨b, 0, none⟩)] w fun e w' => e = .returned (.int .i64 2) ∧ Br w' b fa co pr ⟨2, la, later la co, fl, sr, gd⟩ ∧ Fr (fun k => k = b) w w' := by
  obtain ⟨-, k1, -, k3, k4, k5, k6, k7, k8⟩ := h.cs
  obtain ⟨z3, -, z5, -, -, -⟩ := h.zs
  have HK := hide h
  simp only at k3 k4 k5 k6 k7 k8
  have HA : Hid (∀ V, Calls Try.prog 29 #[.int .i64 la, .int .i64 co] V fun e w' => e = .returned (.tuple #[.int .i64 (later la co), .int .i64 0]) ∧ V = w') := hide (fun V => by
    have := add_any la co V (by omega)
    rwa [show addR la co = later la co by unfold addR; rw [if_pos ⟨l0, l1, by omega⟩], show addE la co = 0 by unfold addE; rw [if_pos ⟨l0, l1, by omega⟩]] at this)
  clear h
  generalize later la co = x at *
  go_enter Try.func26, Try.ntmps26
  go_wp2_with fail
  have K1 := hide (HK.out.s3 2)
  have F1 := hide (Fr.set w b 3 (.int .i64 2))
  generalize w.setCell ⟨b, 3, none⟩ (.int .i64 2) = w1 at *
  clear k1 k3 k4 k5 k6 k7 k8 z3 z5
  obtain ⟨-, k1, -, k3, k4, k5, k6, k7, k8⟩ := K1.out.cs
  obtain ⟨-, -, z5, -, -, -⟩ := K1.out.zs
  simp only at k3 k4 k5 k6 k7 k8
  go_region_with (go_at_call 29; refine (HA.out _).mono ?_; rintro e w' ⟨rfl, rfl⟩)
  all_goals
    go_wp2_with fail
    go_ret
    exact ⟨rfl, K1.out.s5 _, F1.out.s.e⟩

theorem probed_any (w : World) (b : Nat) (fa co pr : Int) (s : Bs) (ok : Bool) (n : Int) (h : Br w b fa co pr s) (N : Num fa co pr) (O : Ok fa pr n s) :
    Calls Try.prog 22 #[.pointer (some ⟨b, 0, none⟩), .bool ok] w fun e w' => e = .returned (.int .i64 (prN pr ok s)) ∧ Br w' b fa co pr (prS co pr ok s) ∧ Fr (fun k => k = b) w w' := by
  obtain ⟨st, la, en, fl, sr, gd⟩ := s
  have l0 := O.l0
  have l1 := O.l1
  have g0 := O.g0
  have g1 := O.g1
  have p1 := N.p1
  simp only at l0 l1 g0 g1
  cases ok with
  | false =>
    have e1 : Hid (prN pr false ⟨st, la, en, fl, sr, gd⟩ = 2) := hide rfl
    have e2 : Hid (prS co pr false ⟨st, la, en, fl, sr, gd⟩ = ⟨2, la, later la co, fl, sr, gd⟩) := hide rfl
    rw [e1.out, e2.out]
    have HO := hide (opens_any w b fa co pr st la en fl sr gd h l0 l1 N.c0 N.c1)
    clear h
    go_enter Try.func22, Try.ntmps22
    go_wp2_with fail
    refine HO.out.mono ?_
    rintro e w1 ⟨rfl, K1, F1⟩
    have HK := hide K1
    have HF := hide F1
    clear K1 F1
    go_wp2_with fail
    go_ret
    exact ⟨rfl, HK.out, HF.out⟩
  | true =>
    obtain ⟨-, -, k2, k3, -, -, k6, -, k8⟩ := h.cs
    obtain ⟨z3, -, -, z6, -, z8⟩ := h.zs
    have HK := hide h
    simp only at k2 k3 k6 k8
    clear h
    have K1 := hide (HK.out.s8 (gd + 1))
    have F1 := hide (Fr.set w b 8 (.int .i64 (gd + 1)))
    by_cases hq : gd + 1 < pr
    · have e1 : Hid (prN pr true ⟨st, la, en, fl, sr, gd⟩ = 0) := hide (by unfold prN; simp [hq])
      have e2 : Hid (prS co pr true ⟨st, la, en, fl, sr, gd⟩ = ⟨st, la, en, fl, sr, gd + 1⟩) := hide (by unfold prS; simp [hq])
      rw [e1.out, e2.out]
      have hd : decide (gd + 1 < pr) = true := decide_eq_true hq
      clear e1 e2
      go_enter Try.func22, Try.ntmps22
      go_wp2_with fail
      generalize w.setCell ⟨b, 8, none⟩ (.int .i64 (gd + 1)) = w1 at K1 F1 ⊢
      clear k2 k3 k6 k8
      obtain ⟨-, -, k2, k3, -, -, k6, -, k8⟩ := K1.out.cs
      simp only at k2 k3 k6 k8
      go_quiet (fail)
      go_wp2_with fail
      go_ret
      exact ⟨rfl, K1.out, F1.out.d _⟩
    · have e1 : Hid (prN pr true ⟨st, la, en, fl, sr, gd⟩ = 1) := hide (by unfold prN; simp [hq])
      have e2 : Hid (prS co pr true ⟨st, la, en, fl, sr, gd⟩ = ⟨1, la, en, 0, sr, gd + 1⟩) := hide (by unfold prS; simp [hq])
      rw [e1.out, e2.out]
      have hd : decide (gd + 1 < pr) = false := decide_eq_false hq
      clear e1 e2
      go_enter Try.func22, Try.ntmps22
      go_wp2_with fail
      generalize w.setCell ⟨b, 8, none⟩ (.int .i64 (gd + 1)) = w1 at K1 F1 ⊢
      clear k2 k3 k6 k8 z3 z6 z8
      obtain ⟨-, -, k2, k3, -, -, k6, -, k8⟩ := K1.out.cs
      obtain ⟨z3, -, -, z6, -, z8⟩ := K1.out.zs
      simp only at k2 k3 k6 k8
      go_quiet (fail)
      go_wp2_with fail
      go_ret
      exact ⟨rfl, (Br.s3 (w := w1.drewN _) K1.out _).s6 _, (F1.out.d _).s.s⟩

theorem counted_any (w : World) (b : Nat) (fa co pr : Int) (s : Bs) (ok : Bool) (n : Int) (hn : n ≤ 1152921504606846976) (h : Br w b fa co pr s) (N : Num fa co pr) (O : Ok fa pr n s) :
    Calls Try.prog 23 #[.pointer (some ⟨b, 0, none⟩), .bool ok] w fun e w' => e = .returned (.int .i64 (ctN fa ok s)) ∧ Br w' b fa co pr (ctS fa co ok s) ∧ Fr (fun k => k = b) w w' := by
  obtain ⟨st, la, en, fl, sr, gd⟩ := s
  have l0 := O.l0
  have l1 := O.l1
  have f0 := O.f0
  have f1 := O.f1
  have c0 := N.c0
  have c1 := N.c1
  simp only at l0 l1 f0 f1
  obtain ⟨k0, -, -, k3, -, -, k6, -, -⟩ := h.cs
  obtain ⟨z3, -, -, z6, -, -⟩ := h.zs
  have HK := hide h
  simp only at k3 k6
  clear h O
  cases ok with
  | true =>
    have e1 : Hid (ctN fa true ⟨st, la, en, fl, sr, gd⟩ = 0) := hide rfl
    have e2 : Hid (ctS fa co true ⟨st, la, en, fl, sr, gd⟩ = ⟨st, la, en, 0, sr, gd⟩) := hide rfl
    rw [e1.out, e2.out]
    go_enter Try.func23, Try.ntmps23
    go_wp2_with fail
    go_ret
    exact ⟨rfl, HK.out.s6 _, Fr.set _ _ _ _⟩
  | false =>
    have K1 := hide (HK.out.s6 (fl + 1))
    have F1 := hide (Fr.set w b 6 (.int .i64 (fl + 1)))
    by_cases hq : fl + 1 = fa
    · have e1 : Hid (ctN fa false ⟨st, la, en, fl, sr, gd⟩ = 2) := hide (by unfold ctN; simp [hq])
      have e2 : Hid (ctS fa co false ⟨st, la, en, fl, sr, gd⟩ = ⟨2, la, later la co, fl + 1, sr, gd⟩) := hide (by unfold ctS; simp [hq])
      rw [e1.out, e2.out]
      have hd : (fl + 1 != fa) = false := by simpa using hq
      clear e1 e2 hq
      go_enter Try.func23, Try.ntmps23
      go_wp2_with fail
      generalize w.setCell ⟨b, 6, none⟩ (.int .i64 (fl + 1)) = w1 at K1 F1 ⊢
      clear k0 k3 k6
      obtain ⟨k0, -, -, k3, -, -, k6, -, -⟩ := K1.out.cs
      simp only at k3 k6
      go_quiet (fail)
      go_wp2_with fail
      refine (opens_any (w1.drewN nq) b fa co pr st la en (fl + 1) sr gd K1.out l0 l1 c0 c1).mono ?_
      rintro e w2 ⟨rfl, K2, F2⟩
      have HK2 := hide K2
      have HF2 := hide ((F1.out.d nq).trans F2 (fun _ _ x => x))
      clear K2 F2
      go_wp2_with fail
      go_ret
      exact ⟨rfl, HK2.out, HF2.out⟩
    · have e1 : Hid (ctN fa false ⟨st, la, en, fl, sr, gd⟩ = 0) := hide (by unfold ctN; simp [hq])
      have e2 : Hid (ctS fa co false ⟨st, la, en, fl, sr, gd⟩ = ⟨st, la, en, fl + 1, sr, gd⟩) := hide (by unfold ctS; simp [hq])
      rw [e1.out, e2.out]
      have hd : (fl + 1 != fa) = true := by simpa using hq
      clear e1 e2
      go_enter Try.func23, Try.ntmps23
      go_wp2_with fail
      generalize w.setCell ⟨b, 6, none⟩ (.int .i64 (fl + 1)) = w1 at K1 F1 ⊢
      clear k0 k3 k6
      obtain ⟨k0, -, -, k3, -, -, k6, -, -⟩ := K1.out.cs
      simp only at k3 k6
      go_quiet (fail)
      go_wp2_with fail
      go_ret
      exact ⟨rfl, K1.out, F1.out.d _⟩
end Go.Proofs.Ytfloifghpjiojaa
