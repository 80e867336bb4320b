/- The document's request: Fail. -/
import Derived.Test.YtjfpdenakgifgaaADo4
namespace Go.Proofs.Ytjfpdenakgifgaa
open Go.ChangeShapes Go.WideShapes Go.ChangeAt Go.RowKit
set_option linter.unusedVariables false

theorem Does.nilRB {B : Thing} {P : Nat → Prop} {w w1 : World} (h : Does B P w w1) : Does (Two (RB (.slice none 0 0) []) B) P w w1 := by
  obtain ⟨P', h1, h2, h3⟩ := h
  exact ⟨P', ⟨fun _ => False, P', ⟨Rw.nil _ _ _, fun _ => by simp [Value.ownBlock]⟩, h1, fun _ x => x.elim, fun _ => by simp⟩, h2, h3⟩
/-- As it is between two calls. -/
def RX (x : Ex) (p : Rq) (b : Nat) : Thing := DX x p (numP p) [] p.R.isEmpty b
instance RX.ob (x : Ex) (p : Rq) (b : Nat) : Ob (RX x p b) := DX.ob _ _ _ _ _ _
theorem rtold_x {x : Ex} {p : Rq} {mk : Int} {A : List Ac} {ov : Bool} {b : Nat} {w : World} {P : Nat → Prop} (h : DX x p mk A ov b w P) : Calls Try.prog 32 #[.pointer (some ⟨b, 0, none⟩)] w fun e w' => ∃ v, e = .returned v ∧ Does (Two (RB v A) (DX x p mk [] ov b)) P w w' := by
  obtain ⟨vi, vb, vo, y⟩ := h
  refine (rtold_any y).mono ?_
  rintro e w' ⟨rfl, d⟩
  exact ⟨_, rfl, d.right (fun _ z => (Does.refl z).dx)⟩
theorem rruns_x {x : Ex} {p : Rq} {b : Nat} {w : World} {P : Nat → Prop} (id : Int) (h : RX x p b w P) (h9 : p.R.length ≤ 9) : Calls Try.prog 33 #[.pointer (some ⟨b, 0, none⟩), .int .i64 id] w fun e w' => e = .returned (.bool (hasB p id)) ∧ w = w' := by
  obtain ⟨vi, vb, vo, y⟩ := h
  refine (rruns_any id y.pt (by rw [ids_len]; omega)).mono ?_
  rintro e w' ⟨rfl, rfl⟩
  refine ⟨ret_bool ?_, rfl⟩
  unfold hasB
  by_cases hr : p.R = []
  · rw [hr]; rfl
  · rw [show p.R.isEmpty = false by rw [List.isEmpty_eq_false_iff]; exact hr]; simp
theorem has_ne {p : Rq} {id : Int} (h : hasB p id = true) : p.R ≠ [] := fun e => by
  unfold hasB at h
  rw [e] at h
  simp [ids] at h
set_option maxHeartbeats 4000000 in
set_option maxRecDepth 100000 in
theorem rfailed_any (x : Ex) (p : Rq) (b : Nat) (w : World) (P : Nat → Prop) (now id why : Int) (al : Bool) (h : RX x p b w P) (k0 : QOk p) :
    Calls Try.prog 14 #[.pointer (some ⟨b, 0, none⟩), .int .i64 now, .int .i64 id, .int .i64 why, .bool al] w fun e w' => ∃ v, e = .returned (.tuple #[v, .int .i64 (faE p now id why)]) ∧ Does (Two (RB v (faA p now id why al)) (RX x (faP p now id why al) b)) P w w' := by
  have HM := hide (moment_any now w)
  have T := hide (Does.refl h)
  have H9 := hide k0.r9
  have HK := hide k0
  have HH := hide (rruns_x id h H9.out)
  clear h k0
  by_cases hall : mom now = true ∧ 1 ≤ why ∧ why ≤ 4
  · obtain ⟨hm, h1, h4⟩ := hall
    have hall : mom now = true ∧ 1 ≤ why ∧ why ≤ 4 := ⟨hm, h1, h4⟩
    rw [hm] at HM
    cases hh : hasB p id with
    | false =>
      have e0 : faE p now id why = 6 := by unfold faE; rw [if_pos hall, hh, if_neg (by decide)]
      have e2 : faA p now id why al = [] := by unfold faA; rw [e0, if_neg (by decide)]
      have e3 : faP p now id why al = p := by unfold faP; rw [e0, if_neg (by decide)]
      rw [e0, e2, e3]
      rw [hh] at HH
      have T1 := hide T.out.nilRB
      clear hall e0 e2 e3 hm hh T
      go_enter Try.func14, Try.ntmps14
      go_wp2_with (first | (go_at_call 25; refine HM.out.mono ?_; rintro e w' ⟨rfl, rfl⟩) | (go_at_call 33; refine HH.out.mono ?_; rintro e w' ⟨rfl, rfl⟩))
      go_ret2
      exact ⟨_, rfl, T1.out⟩
    | true =>
      have e0 : faE p now id why = 0 := by unfold faE; rw [if_pos hall, hh, if_pos rfl]
      have e2 : faA p now id why al = flA p id why al := by unfold faA; rw [e0, if_pos rfl]
      have e3 : faP p now id why al = flP p now id why al := by unfold faP; rw [e0, if_pos rfl]
      rw [e0, e2, e3]
      rw [hh] at HH
      have hne := has_ne hh
      have hie : p.R.isEmpty = false := by rw [List.isEmpty_eq_false_iff]; exact hne
      clear hall e0 e2 e3 hm hh
      go_enter Try.func14, Try.ntmps14
      go_wp2_with (first | (go_at_call 25; refine HM.out.mono ?_; rintro e w' ⟨rfl, rfl⟩) | (go_at_call 33; refine HH.out.mono ?_; rintro e w' ⟨rfl, rfl⟩))
      obtain ⟨P3, y, hx⟩ := T.out.foc
      have HX := hide hx
      unfold RX at y
      rw [hie] at y
      obtain ⟨vi, vb, vo, y⟩ := y
      have HC := hide (rfails_any now id why al y HK.out (by simp))
      rw [List.nil_append] at HC
      clear y hx T hne hie HH HM
      go_wp2_with fail
      refine HC.out.mono ?_
      rintro e w1 ⟨rfl, d⟩
      have T1 := hide (HX.out _ _ d).snd.snd
      clear d HX HC
      obtain ⟨P4, y, hy⟩ := T1.out.foc
      have HY := hide hy
      have HTD := hide (rtold_x y)
      clear y hy T1
      go_wp2_with fail
      refine HTD.out.mono ?_
      rintro e w2 ⟨v, rfl, d⟩
      have T2 := hide (HY.out _ _ d)
      clear d HY HTD
      go_wp2_with fail
      go_ret2
      exact ⟨_, rfl, T2.out⟩
  · have e0 : faE p now id why = 1 := by unfold faE; rw [if_neg hall]
    have e2 : faA p now id why al = [] := by unfold faA; rw [e0, if_neg (by decide)]
    have e3 : faP p now id why al = p := by unfold faP; rw [e0, if_neg (by decide)]
    rw [e0, e2, e3]
    have T1 := hide T.out.nilRB
    clear e0 e2 e3 HH T HK
    cases hm : mom now with
    | false =>
      rw [hm] at HM
      clear hall hm
      go_enter Try.func14, Try.ntmps14
      go_wp2_with (first | (go_at_call 25; refine HM.out.mono ?_; rintro e w' ⟨rfl, rfl⟩))
      go_ret2
      exact ⟨_, rfl, T1.out⟩
    | true =>
      rw [hm] at HM
      by_cases h1 : why < 1
      · have hd : decide (why < 1) = true := decide_eq_true h1
        clear hall hm
        go_enter Try.func14, Try.ntmps14
        go_wp2_with (first | (go_at_call 25; refine HM.out.mono ?_; rintro e w' ⟨rfl, rfl⟩))
        go_ret2
        exact ⟨_, rfl, T1.out⟩
      · have h4 : 4 < why := by
          have : ¬ why ≤ 4 := fun y => hall ⟨hm, by omega, y⟩
          omega
        have hd : decide (why < 1) = false := decide_eq_false h1
        have hd2 : decide (4 < why) = true := decide_eq_true h4
        clear hall hm
        go_enter Try.func14, Try.ntmps14
        go_wp2_with (first | (go_at_call 25; refine HM.out.mono ?_; rintro e w' ⟨rfl, rfl⟩))
        go_ret2
        exact ⟨_, rfl, T1.out⟩
end Go.Proofs.Ytjfpdenakgifgaa
