/- YU. -/
import Derived.Test.YtecjlcjaccijpaaGreatDoorYW
import Derived.Test.YtecjlcjaccijpaaGreatDoorYS
import Derived.Test.YtecjlcjaccijpaaGreatDoorYR
import Derived.Test.YtecjlcjaccijpaaGreatDoorYH3
import Derived.Test.YtecjlcjaccijpaaGreatDoorYK
import Derived.Test.YtecjlcjaccijpaaGreatDoorYT
namespace Go.Proofs.YtecjlcjaccijpaaGreatDoor
open Go.ChangeShapes Go.WideShapes Go.ChangeAt Go.RowKit
set_option linter.unusedVariables false
set_option maxHeartbeats 16000000
set_option maxRecDepth 100000
theorem ubody_any {k n : Int} (x : Bool) (hk : FrmOk k n) (v : Value) (b : List UInt8) (W : World) (hB : Bs W W.heap.size v b) (hl : b.length <= 70368744177664) :
  Calls Tryz.prog 20 #[frV k n x, .int .i64 9007199254740992, v, .bool false] W fun e w' => BAllP W (bdY k n b).o (bdY k n b).n (bdY k n b).w (bdY k n b).e e w' := by
 rcases hk with ⟨rfl, rfl⟩ | ⟨rfl, L, rfl, hL⟩ | ⟨rfl, rfl⟩ | ⟨rfl, rfl⟩
 ·exact ball_none 0 x _ v false (hide rfl) W
 ·have e0 : bdY 2 (L : Int) b = ⟨tkN b L 0, b.take (tkN b L 0), 0, decide (tkN b L 0 = L)⟩ := by
   unfold bdY
   rw [if_neg (by decide), if_pos rfl, Int.toNat_natCast]
  rw [e0]
  refine (ball_len (L : Int) x _ v b false (hide rfl) W hB hl (tkN b L 0) (by unfold tkN; rw [Int.toNat_natCast]; rfl) (decide (tkN b L 0 = L)) ?_).mono ?_
  ·rw [Bool.eq_iff_iff]; simp only [beq_iff_eq, decide_eq_true_eq]; omega
  ·intro e w' h
   simpa using h
 ·refine (ball_part 0 x 9007199254740992 v b false (hide rfl) W hB hl (Nat.le_refl _)).mono ?_
  rintro e w' ⟨o, t, N, wh, E, E', h1, h2, h3⟩
  have h4 := fin_bd (n := 0) h1
  rw [h4]
  have h5 : E' = E := by rw [h2]; simp
  rw [h5] at h3
  exact h3
 ·refine (ball_fit 4 0 x 9007199254740992 v b false (hide rfl) W rfl rfl rfl hB hl (by omega)).mono ?_
  intro e w' h
  exact h
def UT (w w' : World) (e : Ending) (l : List UInt8) : UR -> Prop
 | .bad n er => e = .returned (snV ⟨(n : Int), false, ⟨#[]⟩, ⟨#[]⟩, 0, 0, ⟨#[]⟩, (.slice none 0 0), false, 0, 0, false, (.slice none 0 0), false, er⟩) /\ Below w.heap.size w w'
 | .cut n => e = .returned (snV ⟨(n : Int), false, ⟨#[]⟩, ⟨#[]⟩, 0, 0, ⟨#[]⟩, (.slice none 0 0), false, 0, 0, false, (.slice none 0 0), false, 0⟩) /\ Below w.heap.size w w'
 | .got n p fo => ∃ ov la lc, e = .returned (snV ⟨((n : Int) + ((bdY fo.k fo.n (l.drop n)).n : Int)), p.req, p.me, p.ta, (p.minor : Int), (p.status : Int), p.re, (.slice la p.fs.length lc), true, fo.k, fo.n, fo.b, ov, (bdY fo.k fo.n (l.drop n)).w, ((bdY fo.k fo.n (l.drop n)).e : Int)⟩) /\ Row w' w.heap.size 5 ov (bc (bdY fo.k fo.n (l.drop n)).o) /\ FRow w' w.heap.size (.slice la p.fs.length lc) p.fs /\ Below w.heap.size w w'
theorem uall_any (w : World) (me : ByteArray) (most : Nat) (hm : most <= 65536) (v : Value) (l : List UInt8) (hv : Bs w w.heap.size v l) (hS : Shp v) (hl : l.length <= 70368744177664) :
  Calls Tryz.prog 7 #[.string me, .int .i64 (most : Int), v, .bool false] w fun e w' => UT w w' e l (uHd me most 9 0 l) := by
 have hread : ∀ W N v er n p, N <= l.length -> Below w.heap.size w W -> Bs W w.heap.size v (l.drop N) -> pBytes (pNew false most) (l.drop N) = (er, n, p) -> Calls Tryz.prog 17 #[.bool false, .int .i64 (most : Int), v] W fun e w' => ∃ (h : Hx) (u : Value), e = .returned (.tuple #[hxV h u, .int .i64 (n : Int), .bool (decide (er = 0) && p.whole), .int .i64 (er : Int)]) /\ FRow w' W.heap.size u h.fs /\ ((decide (er = 0) && p.whole) = true -> h = p.hx) /\ Below W.heap.size W w' := by
  intro W N v er n p hN hb hB hP
  refine (rread_any W false most hm v (l.drop N) (hB.below hb.size (Below.refl _ _)) (by rw [List.length_drop]; omega)).mono ?_
  rintro e w' ⟨u, rfl, h1, h2⟩
  rw [hP] at h1 |-
  refine ⟨_, u, rfl, h1, fun h => ?_, h2⟩
  unfold rdH rdW
  rw [h, if_pos rfl]
 obtain ⟨a, cp, rfl, hcp, hcells⟩ := id hv
 have hz : l = [] -> ∀ e w', (e = .returned (snV ⟨0, false, ⟨#[]⟩, ⟨#[]⟩, 0, 0, ⟨#[]⟩, (.slice none 0 0), false, 0, 0, false, (.slice none 0 0), false, 0⟩) /\ Below w.heap.size w w') -> UT w w' e l (uHd me most 9 0 l) := by
  rintro rfl e w' ⟨rfl, h⟩
  have hP : pBytes (pNew false most) [] = (0, 0, pNew false most) := rfl
  rw [uHd_cut hP rfl]
  exact ⟨rfl, h⟩
 have hread0 : ∀ W v, l = [] -> Below w.heap.size w W -> Bs W w.heap.size v [] -> Calls Tryz.prog 17 #[.bool false, .int .i64 (most : Int), v] W fun e w' => ∃ (h : Hx) (u : Value), e = .returned (.tuple #[hxV h u, .int .i64 0, .bool false, .int .i64 0]) /\ FRow w' W.heap.size u h.fs /\ Below W.heap.size W w' := by
  rintro W v rfl hb hB
  refine (hread W 0 v 0 0 (pNew false most) (Nat.le_refl _) hb hB rfl).mono ?_
  rintro e w' ⟨h, u, rfl, h1, -, h2⟩
  exact ⟨h, u, rfl, h1, h2⟩
 rcases hS with hS | ⟨ad, n0, c0, hS⟩
 ·simp only [Value.slice.injEq] at hS
  obtain ⟨rfl, h0, rfl⟩ := hS
  have hl0 : l = [] := List.eq_nil_of_length_eq_zero h0
  rw [h0]
  exact (uall_z0 w me most (fun W v => hread0 W v hl0)).mono (hz hl0)
 ·simp only [Value.slice.injEq] at hS
  obtain ⟨rfl, rfl, rfl⟩ := hS
  by_cases hl0 : l = []
  ·have h0 : l.length = 0 := by rw [hl0]; rfl
   rw [h0]
   cases cp with
   | zero => exact (uall_z1 w me most ad (fun W v => hread0 W v hl0)).mono (hz hl0)
   | succ cp => exact (uall_z2 w me most ad cp (fun W v => hread0 W v hl0)).mono (hz hl0)
  ·have hpos : 0 < l.length := by cases l with | nil => exact absurd rfl hl0 | cons => simp
   obtain ⟨bk, o, hx, -, -, -⟩ := hcells 0 hpos
   simp only [Option.some.injEq] at hx
   subst hx
   refine (uall_some w me most hm bk o cp l hv hl false (fun n fo bo bN bw bE => (⟨bN, bo, bE, bw⟩ : Bo) = bdY fo.k fo.n (l.drop n)) hread (fun n p fo W v hu hn hb hB => ?_)).mono ?_
   ·have hg := uHd_le hu
    have hfo : FrmOk fo.k fo.n := by rw [hg.2.2.2.2.1]; exact uO_fr (by rw [<- hg.2.2.2.2.1]; exact hg.2.2.2.2.2)
    refine (ubody_any fo.b hfo v (l.drop n) W (hB.below hb.size (Below.refl _ _)) (by rw [List.length_drop]; omega)).mono ?_
    intro e w' h
    have := bd_le fo.k fo.n (l.drop n)
    rw [List.length_drop] at this
    exact ⟨(bdY fo.k fo.n (l.drop n)).o, (bdY fo.k fo.n (l.drop n)).n, (bdY fo.k fo.n (l.drop n)).w, (bdY fo.k fo.n (l.drop n)).e, rfl, by omega, h⟩
   ·intro e w' h
    generalize hu : uHd me most 9 0 l = R at h |-
    cases R with
    | bad n er => exact h
    | cut n => exact h
    | got n p fo =>
     obtain ⟨bo, bN, bw, bE, ov, la, lc, hb, h1, h2, h3, h4⟩ := h
     unfold UT
     dsimp only
     rw [<- hb]
     exact ⟨ov, la, lc, h1, h2, h3, h4⟩
def UsR (me : ByteArray) (most : Nat) (l : List UInt8) (w' : World) (b : Nat) (n : Int) (r : Bool) (m2 ta : ByteArray) (mi st : Int) (re : ByteArray) (ua : Option Addr) (un uc : Nat) (th : Bool) (fk fl : Int) (fp : Bool) (oa : Option Addr) (on oc : Nat) (wh : Bool) (er : Int) : Prop :=
 (th = false /\ wh = false) ∨ ∃ N p fo, uHd me most 9 0 l = .got N p fo /\ th = true /\ n = ((N + (bdY fo.k fo.n (l.drop N)).n : Nat) : Int) /\ wh = (bdY fo.k fo.n (l.drop N)).w /\ er = ((bdY fo.k fo.n (l.drop N)).e : Int) /\ fk = fo.k /\ on = (bdY fo.k fo.n (l.drop N)).o.length /\ Row w' b 5 (.slice oa on oc) (bc (bdY fo.k fo.n (l.drop N)).o) /\ r = p.req /\ m2 = p.me /\ ta = p.ta /\ mi = (p.minor : Int) /\ st = (p.status : Int) /\ re = p.re /\ un = p.fs.length /\ FRow w' b (.slice ua un uc) p.fs
theorem us_any (w : World) (me : ByteArray) (most : Nat) (hm : most <= 65536) (v : Value) (l : List UInt8) (hv : Bs w w.heap.size v l) (hS : Shp v) (hl : l.length <= 70368744177664) :
  Calls Tryz.prog 7 #[.string me, .int .i64 (most : Int), v, .bool false] w fun e w' => ∃ n r m2 ta mi st re ua un uc th fk fl fp oa on oc wh er, e = .returned (.agg #[.int .i64 n, .bool r, .string m2, .string ta, .int .i64 mi, .int .i64 st, .string re, .slice ua un uc, .bool th, .int .i64 fk, .int .i64 fl, .bool fp, .slice oa on oc, .bool wh, .int .i64 er]) /\ Below w.heap.size w w' /\ UsR me most l w' w.heap.size n r m2 ta mi st re ua un uc th fk fl fp oa on oc wh er := by
 refine (uall_any w me most hm v l hv hS hl).mono ?_
 intro e w' h
 generalize hu : uHd me most 9 0 l = R at h
 cases R with
 | bad n er =>
  obtain ⟨rfl, hb⟩ := h
  exact ⟨_, _, _, _, _, _, _, _, _, _, _, _, _, _, _, _, _, _, _, rfl, hb, .inl ⟨rfl, rfl⟩⟩
 | cut n =>
  obtain ⟨rfl, hb⟩ := h
  exact ⟨_, _, _, _, _, _, _, _, _, _, _, _, _, _, _, _, _, _, _, rfl, hb, .inl ⟨rfl, rfl⟩⟩
 | got N p fo =>
  obtain ⟨ov, la, lc, rfl, h1, h2, hb⟩ := h
  obtain ⟨oa, oc, rfl, -⟩ := h1.shape
  exact ⟨_, _, _, _, _, _, _, _, _, _, _, _, _, _, _, _, _, _, _, rfl, hb, .inr ⟨N, p, fo, hu, rfl, by dsimp only; omega, rfl, rfl, rfl, bc_len _, h1, rfl, rfl, rfl, rfl, rfl, rfl, rfl, h2⟩⟩
theorem Bs.bf {w : World} {base bk o n c : Nat} {l : List UInt8} (h : Bs w base (.slice (some ⟨bk, o, none⟩) n c) l) : Bf w (fun i => i = bk) (.slice (some ⟨bk, o, none⟩) n c) l := by
 obtain ⟨a, cc, e, h1, h2⟩ := h
 simp only [Value.slice.injEq] at e
 obtain ⟨rfl, rfl, rfl⟩ := e
 refine ⟨_, _, rfl, h1, fun j hj => ?_⟩
 obtain ⟨g', o', p1, p2, p3, p4⟩ := h2 j hj
 simp only [Option.some.injEq, Addr.mk.injEq, and_true] at p1
 exact ⟨g', o', by rw [p1.1, p1.2], p1.1.symm, p3, p4⟩
theorem ask8_any (mo : Int) (w : World) : Calls Tryz.prog 22 #[.int .i64 mo] w fun e w' => e = .returned (.bool (decide (16 <= mo) && decide (mo <= 65536))) /\ w = w' := by
 by_cases h1 : 16 <= mo <;> by_cases h2 : mo <= 65536
 all_goals
  go_enter Tryz.func22, Tryz.ntmps22
  go_wp2
  go_ret
  exact ⟨by simp [h1, h2], rfl⟩
def askE (me : ByteArray) (mo : Int) : Int := if tokenB me.data.toList = true then (if (decide (16 <= mo) && decide (mo <= 65536)) = true then 0 else 1) else 70
theorem asked_any (me : ByteArray) (mo : Int) (w : World) (hs : me.size <= 1048576) : Calls Tryz.prog 8 #[.string me, .int .i64 mo] w fun e w' => e = .returned (.int .i64 (askE me mo)) /\ Below w.heap.size w w' := by
 have HT := hide (rtoken_any me w (by unfold maxLen; omega))
 have H8 := hide (fun W => ask8_any mo W)
 unfold askE
 cases ht : tokenB me.data.toList with
 | false =>
  rw [ht] at HT
  go_enter Tryz.func8, Tryz.ntmps8
  go_wp2_with (go_at_call 21; refine HT.out.mono ?_; rintro e w1 ⟨rfl, y⟩; have B1 := hide y; clear y)
  go_ret
  exact ⟨rfl, B1.out⟩
 | true =>
  rw [ht] at HT
  cases h8 : (decide (16 <= mo) && decide (mo <= 65536)) with
  | false =>
   rw [h8] at H8
   go_enter Tryz.func8, Tryz.ntmps8
   go_wp2_with (first | (go_at_call 21; refine HT.out.mono ?_; rintro e w1 ⟨rfl, y⟩; have B1 := hide y; clear y) | (go_at_call 22; refine (H8.out _).mono ?_; rintro e w2 ⟨rfl, rfl⟩))
   go_ret
   exact ⟨rfl, B1.out⟩
  | true =>
   rw [h8] at H8
   go_enter Tryz.func8, Tryz.ntmps8
   go_wp2_with (first | (go_at_call 21; refine HT.out.mono ?_; rintro e w1 ⟨rfl, y⟩; have B1 := hide y; clear y) | (go_at_call 22; refine (H8.out _).mono ?_; rintro e w2 ⟨rfl, rfl⟩))
   go_ret
   exact ⟨rfl, B1.out⟩
end Go.Proofs.YtecjlcjaccijpaaGreatDoor
