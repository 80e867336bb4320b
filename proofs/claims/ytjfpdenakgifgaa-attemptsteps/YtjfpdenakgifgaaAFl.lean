/- An attempt fails; one wins; a hedge is made. -/
import Derived.Test.YtjfpdenakgifgaaAGa
namespace Go.Proofs.Ytjfpdenakgifgaa
open Go.ChangeShapes Go.WideShapes Go.ChangeAt Go.RowKit
set_option linter.unusedVariables false

set_option maxHeartbeats 4000000 in
set_option maxRecDepth 100000 in
theorem fail_any (p : Rq) (b : Nat) (w : World) (P : Nat → Prop) (now id why : Int) (al : Bool) (h : QX p b w P) (k0 : QOk p) :
    Calls Try.prog 48 #[.pointer (some ⟨b, 0, none⟩), .int .i64 now, .int .i64 id, .int .i64 why, .bool al] w fun e w' => ∃ v, e = .returned v ∧ Does (Two (RA v (flA p id why al)) (QX (flP p now id why al) b)) P w w' := by
  have HFG := hide (forget_any p b w P id h k0.r9)
  have HK := hide (k0.fg id)
  clear h k0
  unfold flA flP
  generalize fgP p id = q at *
  by_cases hr : q.R = []
  · have hl : q.R.length = 0 := by rw [hr]; rfl
    rw [if_pos hr]
    cases hm : mayB q why al with
    | true =>
      rw [if_pos rfl, if_pos ⟨hr, rfl⟩]
      clear hr
      go_enter Try.func48, Try.ntmps48
      go_wp2_with fail
      refine HFG.out.mono ?_
      rintro e w1 ⟨rfl, d⟩
      have T1 := hide d
      clear d HFG
      obtain ⟨P2, ⟨vr, x⟩, hx⟩ := T1.out.foc
      obtain ⟨c0, c1, c2, c3, c4, c5, c6, c7, c8, c9, c10, c11⟩ := x.v.c
      obtain ⟨a, cap, rfl, -, -⟩ := x.v.r
      rw [hl] at c11
      have HM := hide (may_any q b _ w1 why al x.v)
      rw [hm] at HM
      clear x hx hl hm
      go_wp2_with fail
      refine HM.out.mono ?_
      rintro e w2 ⟨rfl, F⟩
      have T2 := hide (T1.out.e F)
      clear F HM T1 c0 c1 c2 c3 c4 c5 c6 c7 c8 c9 c10 c11
      obtain ⟨P3, x, hx⟩ := T2.out.foc
      have HX := hide hx
      have HB := hide (begin_any q b w2 P3 now 1 x HK.out (.inr (.inl rfl)))
      clear x hx T2
      go_wp2_with fail
      refine HB.out.mono ?_
      rintro e w3 ⟨v, rfl, d⟩
      have T3 := hide (HX.out _ _ d)
      clear d HX HB
      go_wp2_with fail
      go_ret
      exact ⟨_, rfl, T3.out⟩
    | false =>
      rw [if_neg (by decide), if_neg (fun x => by simp at x)]
      clear hr
      go_enter Try.func48, Try.ntmps48
      go_wp2_with fail
      refine HFG.out.mono ?_
      rintro e w1 ⟨rfl, d⟩
      have T1 := hide d
      clear d HFG
      obtain ⟨P2, ⟨vr, x⟩, hx⟩ := T1.out.foc
      obtain ⟨c0, c1, c2, c3, c4, c5, c6, c7, c8, c9, c10, c11⟩ := x.v.c
      obtain ⟨a, cap, rfl, -, -⟩ := x.v.r
      rw [hl] at c11
      have HM := hide (may_any q b _ w1 why al x.v)
      rw [hm] at HM
      clear x hx hl hm
      go_wp2_with fail
      refine HM.out.mono ?_
      rintro e w2 ⟨rfl, F⟩
      have T2 := hide (T1.out.e F)
      clear F HM T1 c0 c1 c2 c3 c4 c5 c6 c7 c8 c9 c10 c11
      have HA := hide (answered_any w2 id (failC why))
      go_wp2_with (first | (go_at_call 60; refine (failure_any _ _).mono ?_; rintro e w' ⟨rfl, rfl⟩))
      refine HA.out.mono ?_
      rintro e w3 ⟨v, rfl, d⟩
      have T3 := hide (T2.out.put d)
      clear d HA T2
      go_wp2_with fail
      go_ret
      exact ⟨_, rfl, T3.out⟩
  · have hl : 0 < q.R.length := List.length_pos_iff.2 hr
    rw [if_neg hr, if_neg (fun x => hr x.1)]
    clear hr
    go_enter Try.func48, Try.ntmps48
    go_wp2_with fail
    refine HFG.out.mono ?_
    rintro e w1 ⟨rfl, d⟩
    have T1 := hide d
    clear d HFG
    obtain ⟨P2, ⟨vr, x⟩, hx⟩ := T1.out.foc
    obtain ⟨c0, c1, c2, c3, c4, c5, c6, c7, c8, c9, c10, c11⟩ := x.v.c
    obtain ⟨a, cap, rfl, -, -⟩ := x.v.r
    have T2 := hide T1.out.nilRA
    clear x hx T1 HK
    generalize q.R.length = n at *
    have hl2 : (0 : Int) < (n : Int) := by omega
    go_wp2_with fail
    go_ret
    exact ⟨_, rfl, T2.out⟩
set_option maxHeartbeats 4000000 in
set_option maxRecDepth 100000 in
theorem win_any (p : Rq) (b : Nat) (w : World) (P : Nat → Prop) (id : Int) (h : QX p b w P) (k0 : QOk p) :
    Calls Try.prog 52 #[.pointer (some ⟨b, 0, none⟩), .int .i64 id] w fun e w' => ∃ v, e = .returned v ∧ Does (Two (RA v (wnA p id)) (QX (wnP p id) b)) P w w' := by
  have HFG := hide (forget_any p b w P id h k0.r9)
  have HK := hide (k0.fg id)
  clear h k0
  unfold wnA wnP
  generalize fgP p id = q at *
  have H9 := hide HK.out.r9
  go_enter Try.func52, Try.ntmps52
  go_wp2_with fail
  refine HFG.out.mono ?_
  rintro e w1 ⟨rfl, d⟩
  have T1 := hide d
  clear d HFG
  obtain ⟨P2, ⟨vr, x⟩, hx⟩ := T1.out.foc
  have HR := hide (running_any q b _ w1 x.v H9.out)
  clear x hx
  go_wp2_with fail
  refine HR.out.mono ?_
  rintro e w2 ⟨v, rfl, d⟩
  have T2 := hide (T1.out.put d)
  clear d HR T1
  obtain ⟨P1, P3, x1, x3, xd, hx⟩ := T2.out.focD
  have HX := hide hx
  have HL := hide (letGo_any q b w2 P3 v (ids q.R) x3 HK.out x1.1 (fun k hk => xd k ((x1.2 k).2 hk)) (by have := H9.out; rw [ids_len]; omega))
  clear x1 x3 xd hx T2
  go_wp2_with fail
  refine HL.out.mono ?_
  rintro e w3 ⟨u, rfl, d⟩
  have T3 := hide (HX.out _ _ d).snd
  clear d HX HL
  have T4 := hide (T3.out.right (fun _ x => (Does.refl x).newRA ⟨3, id, 0⟩))
  dsimp only at T4
  obtain ⟨_, z⟩ := T3.out.fst_of
  obtain ⟨ua, uc, rfl⟩ := RA.sh z
  have hln : Hid ((lgA (ids q.R)).length = q.R.length) := hide (by rw [lgA_len, ids_len])
  clear z T3
  obtain ⟨HS, HG⟩ := gath2 T4.out
  have HS := hide HS
  have HG := hide HG
  have HC := hide (gathered_any _ 2 _ _ HS.out rfl (by omega) (by rw [sum2, hln.out]; have := H9.out; simp; omega))
  rw [hln.out] at HG HC T4 ⊢
  rw [show (w3.alloc (.cells #[.int .i64 3, .int .i64 id, .int .i64 0] 53)).heap.size = w3.heap.size + 1 by simp] at HC
  clear HS
  go_wp2_with fail
  refine HC.out.mono ?_
  rintro e w5 ⟨v5, rfl, d⟩
  have T5 := hide (HG.out _ _ d)
  clear d HG HC T4
  go_wp2_with fail
  go_ret
  exact ⟨_, rfl, T5.out⟩
end Go.Proofs.Ytjfpdenakgifgaa
