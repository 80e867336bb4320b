/- WorldBytes returns true for all pieces and all sizes whose bytes are together at most 1048576, and changes nothing that was there. -/
import Derived.Test.YtpgbpfdgbajhlaaRoomWalk
namespace Go.Proofs.Ytpgbpfdgbajhlaa
open Go.ChangeShapes Go.WideShapes Go.ChangeAt Go.RowKit

theorem Mine.other {W0 W W' : World} {own : Nat → Option Tag} {q : IntKind} {v : Value} {l : List Int} {go go2 : Option Nat} (h : Mine W0 W own q v l go) (hg : W.grownBy W' go2) (hne : ∀ g, go = some g → go2 ≠ some g) : Mine W0 W' own q v l go := by
  have hl : ∀ g, go = some g → g < W.heap.size := fun g e => by have h1 := h.row; rw [e] at h1; exact h1.lt
  exact ⟨h.row.frame hg.size (fun g e => hg.block g (hl g e) (fun e2 => hne g e e2.symm)), h.off, h.new⟩
theorem Mine.apart {W0 W : World} {own : Nat → Option Tag} {q : IntKind} {v : Value} {l : List Int} {go : Option Nat} (h : Mine W0 W own q v l go) {go2 go2' : Option Nat} (hd : ∀ g, go = some g → go2 ≠ some g) (hgo : go2' = go2 ∨ ∃ g, go2' = some g ∧ W.heap.size ≤ g) : ∀ g, go = some g → go2' ≠ some g := by
  intro g e e2
  rcases hgo with rfl | ⟨g', rfl, hg⟩
  · exact hd g e e2
  · cases e2
    have h1 := h.row
    rw [e] at h1
    have := h1.lt
    omega
def cnQ (Q : List Int) : Cn := ⟨3, true, false, Q, [], 0⟩
structure ByInv (W0 : World) (c n : Nat) (v6 v7 : Value) (wr : World) (C Rd Q : List Int) (own : Nat → Option Tag) (go6 go7 : Option Nat) : Prop where
  wd : Wd wr c [cnQ Q] [] own
  kp : Kp (fun _ => none) own W0 wr
  m6 : Mine W0 wr own .u8 v6 C go6
  m7 : Mine W0 wr own .u8 v7 Rd go7
  apart : ∀ g, go6 = some g → go7 ≠ some g
  eq : C = Rd ++ Q
  len : C.length ≤ n

set_option maxHeartbeats 4000000 in
set_option maxRecDepth 100000 in
theorem bytes_walk (ar ap : Option Addr) (capr lenp capp : Nat) (R : List Int) (Xf : Nat → List Int) (W : World) (hR : Hid (Sl W .i64 (.slice ar R.length capr) R)) (hRl : R.length ≤ 1048576) (hlen : lenp ≤ 1048576)
    (hst : Hid (∀ i, i < lenp → ∃ b off a c, ap = some ⟨b, off, none⟩ ∧ PieceAt W b off i a c (Xf i))) (htot : Hid (∀ j, j ≤ lenp → total Xf j ≤ 1048576)) :
    Calls Try.prog 4 #[.slice ap lenp capp, .slice ar R.length capr] W fun e w' => e = .returned (.bool true) ∧ Below W.heap.size W w' := by
  go_enter Try.func4, Try.ntmps4
  go_wp2_with fail
  refine (does_new W).mono ?_
  rintro e w1 ⟨rfl, rfl⟩
  have D1 := hide (Wd.begin W)
  have K1 := hide (Kp.begin W)
  obtain ⟨w1, hw1⟩ : ∃ w1, w1 = W.alloc (.cells #[.map none, .map none, .slice none 0 0] 61) := ⟨_, rfl⟩
  rw [← hw1] at D1 K1 ⊢
  have o1 := hide (does_open D1.out (k := 3) (by omega) (by omega) nofun (by simp) (by simp))
  clear hw1 D1
  unfold ptr at o1 ⊢
  go_wp2_with fail
  refine o1.out.mono ?_
  rintro e w2 ⟨rfl, own2, D2, K2⟩
  have I0 : Hid (∃ C Rd Q own go6 go7, ByInv W W.heap.size (total Xf 0) (.slice none 0 0) (.slice none 0 0) w2 C Rd Q own go6 go7) := hide ⟨[], [], [], own2, none, none, D2, K1.out.trans K2, Mine.nil _ _ _ _, Mine.nil _ _ _ _, nofun, rfl, Nat.zero_le _⟩
  clear K1 K2 o1 D2
  go_wp2_with fail
  go_loopw [6, 7, 26] (fun u6 u7 v wr => ∃ (j : Nat), j ≤ lenp ∧ v = .int .i64 (j : Int) ∧ Hid (∃ C Rd Q own go6 go7, ByInv W W.heap.size (total Xf j) u6 u7 wr C Rd Q own go6 go7)) (fun _ _ v _ => lenp - (intOf v).toNat)
  case atStart => exact ⟨0, Nat.zero_le _, rfl, I0⟩
  case round =>
    clear I0
    obtain ⟨j, hj, rfl, HI⟩ := hrel
    obtain ⟨C, Rd, Q, own, go6, go7, HI⟩ := HI.out
    have hCl := HI.len
    have hEq := hide HI.eq
    have hAp := hide HI.apart
    have hQl : Q.length ≤ 1048576 := HI.wd.ok.wlen (cnQ Q) (by simp)
    obtain ⟨a6, c6, e6, _⟩ := HI.m6.row.sl
    subst e6
    obtain ⟨a7, c7, e7, _⟩ := HI.m7.row.sl
    subst e7
    have hRdl : Rd.length ≤ C.length := by have := hEq.out; rw [this]; simp
    have D := hide HI.wd
    have K := hide HI.kp
    have M6 := hide HI.m6
    have M7 := hide HI.m7
    clear HI
    by_cases hlt : j < lenp
    · have ht1 := htot.out (j + 1) (by omega)
      have ht2 : total Xf (j + 1) = total Xf j + (Xf j).length := rfl
      obtain ⟨T0, hT0⟩ : ∃ T0, T0 = total Xf j := ⟨_, rfl⟩
      obtain ⟨T1, hT1⟩ : ∃ T1, T1 = total Xf (j + 1) := ⟨_, rfl⟩
      rw [← hT0] at hCl ht2
      rw [← hT1] at ht1 ht2
      replace hT1 := hide hT1
      obtain ⟨pb, po, xa, xc, rfl, P0⟩ := hst.out j hlt
      have P1 := P0.frame K.out.old
      have cp := P1.c0
      obtain ⟨X, HX⟩ : ∃ X, Hid (Xf j = X) := ⟨_, hide rfl⟩
      rw [HX.out] at P1 cp P0 ht2
      have hXl : X.length ≤ 1048576 := by omega
      have hSl := hide P0
      clear P1 P0 hst HX htot hT0
      by_cases hjR : j < R.length
      · obtain ⟨rb, ro, hra, cr0⟩ := (Sl.cells hR.out) j hjR
        subst hra
        obtain ⟨n, Hn⟩ : ∃ n, Hid (R.getD j 0 = n) := ⟨_, hide rfl⟩
        rw [Hn.out] at cr0
        replace cr0 := hide cr0
        clear hR Hn
        by_cases hfit : Q.length + X.length ≤ 1048576
        · have hS0 := (hSl.out.frame K.out.old).sl
          go_wp2_with fail
          refine (does_arrive D.out (i := 0) (x := cnQ Q) rfl rfl rfl hS0 hfit).mono ?_
          rintro e w3 ⟨rfl, own3, D3, K3⟩
          replace D3 : Hid (Wd w3 W.heap.size [cnQ (Q ++ X)] [] own3) := hide D3
          replace M6 := hide (M6.out.through K3)
          replace M7 := hide (M7.out.through K3)
          replace K := hide (K.out.trans K3)
          have hsz := K.out.fr.size
          have hT := hide ((hSl.out.frame K.out.old).sl)
          clear D K3 hS0
          have hCl2 : C.length + X.length ≤ T1 := by omega
          go_wp2_with (first
            | (at_builtin; refine wpList_append_bytes rfl _ _ rfl _ (.slice a6 C.length c6) (.slice xa X.length xc) C X go6 rfl rfl M6.out.row hT.out (by omega) ?_
               intro v' W1 go6' h1 h2 h3
               have D5 := hide (D3.out.grown h2 M6.out.off)
               have K5 := hide (K.out.grown h2 M6.out.new)
               have M65 := hide (M6.out.append D3.out hsz h1 h3)
               have M75 := hide (M7.out.other h2 (fun g e e2 => hAp.out g e2 e))
               have hAp5 := hide (fun g (e : go6' = some g) (e2 : go7 = some g) => M7.out.apart (fun g e e2 => hAp.out g e2 e) h3 g e2 e)
               obtain ⟨a65, d65, hv1, _⟩ := h1.sl
               subst hv1
               have hEq5 : Hid (C ++ X = Rd ++ (Q ++ X)) := hide (by rw [hEq.out, List.append_assoc])
               have hlC : (C ++ X).length ≤ T1 := by simp; omega
               obtain ⟨C5, HC5⟩ : ∃ C5, C5 = C ++ X := ⟨_, rfl⟩
               obtain ⟨Q5, HQ5⟩ : ∃ Q5, Q5 = Q ++ X := ⟨_, rfl⟩
               rw [← HC5] at M65 hEq5 hlC ⊢
               rw [← HQ5] at D5 hEq5
               have hRl5 : Rd.length ≤ C5.length := by rw [HC5]; simp; omega
               have hQ5 : Q5.length ≤ 1048576 := D5.out.ok.wlen (cnQ Q5) (by simp)
               have cr := K5.out.old.cellOld cr0.out
               clear h1 h2 h3 HC5 HQ5)
            | (go_at_call 20; apply Hid.out)
            | go_in)
          unfold Hid
          refine (does_read D5.out (i := 0) (x := cnQ Q5) rfl rfl n).mono ?_
          rintro e w8 ⟨v8, go8, own8, rfl, R8, G8, D8, K8⟩
          obtain ⟨m, hm⟩ : ∃ m, m = clip n Q5 := ⟨_, rfl⟩
          replace D8 : Hid (Wd w8 W.heap.size [cnQ (Q5.drop m)] [] own8) := hide (by rw [hm]; exact D8)
          replace R8 : Row w8 .u8 v8 (Q5.take m) go8 := by rw [hm]; exact R8
          have hml : m ≤ Q5.length := by rw [hm]; exact clip_le _ _
          have hmn : 0 ≤ n → (m : Int) ≤ n := by intro h; rw [hm]; unfold clip; omega
          clear hm
          have hlt8 : (Q5.take m).length = m := by simp; omega
          obtain ⟨a8, c8, e8, _⟩ := R8.sl
          rw [hlt8] at e8
          subst e8
          have H68 := hide (M65.out.through K8)
          have H78 := hide (M75.out.through K8)
          have K9 := hide (K5.out.trans K8)
          have hsz8 := K9.out.fr.size
          have S8 := hide R8.sl
          have cr8 := K9.out.old.cellOld cr0.out
          have hRQ : Rd.length + Q5.length ≤ 1048576 := by have := congrArg List.length hEq5.out; rw [List.length_append] at this; omega
          clear K8 R8 G8 cr cr0
          by_cases hn0 : 0 ≤ n
          · have hmn2 := hmn hn0
            clear hmn
            go_wp2_with (first
              | (at_builtin; refine wpList_append_bytes rfl _ _ rfl _ (.slice a7 Rd.length c7) (.slice a8 m c8) Rd (Q5.take m) go7 rfl rfl H78.out.row S8.out (by omega) ?_
                 intro v' W9 go7' h1 h2 h3
                 have D10 := hide (D8.out.grown h2 H78.out.off)
                 have K10 := hide (K9.out.grown h2 H78.out.new)
                 have M710 := hide (H78.out.append D8.out hsz8 h1 h3)
                 have M610 := hide (H68.out.other h2 hAp5.out)
                 have hAp10 := hide (H68.out.apart hAp5.out h3)
                 obtain ⟨a10, d10, hv1, _⟩ := h1.sl
                 rw [List.length_append, hlt8] at hv1
                 subst hv1
                 clear h1 h2 h3)
              | go_in)
            go_roundw
            case rel => exact ⟨j + 1, by omega, by go_num, hide ⟨_, _, _, own8, go6', go7', D10.out, K10.out, M610.out, M710.out, hAp10.out, by rw [hEq5.out, List.append_assoc, List.take_append_drop], by rw [← hT1.out]; exact hlC⟩⟩
            case measure => simp [intOf]; omega
          · have hn1 : n < 0 := by omega
            clear hn0 hmn
            go_wp2_with (first
              | (at_builtin; refine wpList_append_bytes rfl _ _ rfl _ (.slice a7 Rd.length c7) (.slice a8 m c8) Rd (Q5.take m) go7 rfl rfl H78.out.row S8.out (by omega) ?_
                 intro v' W9 go7' h1 h2 h3
                 have D10 := hide (D8.out.grown h2 H78.out.off)
                 have K10 := hide (K9.out.grown h2 H78.out.new)
                 have M710 := hide (H78.out.append D8.out hsz8 h1 h3)
                 have M610 := hide (H68.out.other h2 hAp5.out)
                 have hAp10 := hide (H68.out.apart hAp5.out h3)
                 obtain ⟨a10, d10, hv1, _⟩ := h1.sl
                 rw [List.length_append, hlt8] at hv1
                 subst hv1
                 clear h1 h2 h3)
              | go_in)
            go_roundw
            case rel => exact ⟨j + 1, by omega, by go_num, hide ⟨_, _, _, own8, go6', go7', D10.out, K10.out, M610.out, M710.out, hAp10.out, by rw [hEq5.out, List.append_assoc, List.take_append_drop], by rw [← hT1.out]; exact hlC⟩⟩
            case measure => simp [intOf]; omega
        · have hS0 := (hSl.out.frame K.out.old).sl
          go_wp2_with fail
          refine (does_arrive_long D.out (i := 0) (x := cnQ Q) rfl rfl rfl hS0 (by omega) (by simp only [cnQ]; omega)).mono ?_
          rintro e w3 ⟨rfl, rfl⟩
          have hlC : C.length ≤ T1 := by omega
          have cr := K.out.old.cellOld cr0.out
          clear hS0
          go_wp2_with (first | (go_at_call 20; apply Hid.out) | go_in)
          unfold Hid
          refine (does_read D.out (i := 0) (x := cnQ Q) rfl rfl n).mono ?_
          rintro e w8 ⟨v8, go8, own8, rfl, R8, G8, D8, K8⟩
          obtain ⟨m, hm⟩ : ∃ m, m = clip n Q := ⟨_, rfl⟩
          replace D8 : Hid (Wd w8 W.heap.size [cnQ (Q.drop m)] [] own8) := hide (by rw [hm]; exact D8)
          replace R8 : Row w8 .u8 v8 (Q.take m) go8 := by rw [hm]; exact R8
          have hml : m ≤ Q.length := by rw [hm]; exact clip_le _ _
          have hmn : 0 ≤ n → (m : Int) ≤ n := by intro h; rw [hm]; unfold clip; omega
          clear hm
          have hlt8 : (Q.take m).length = m := by simp; omega
          obtain ⟨a8, c8, e8, _⟩ := R8.sl
          rw [hlt8] at e8
          subst e8
          have H68 := hide (M6.out.through K8)
          have H78 := hide (M7.out.through K8)
          have K9 := hide (K.out.trans K8)
          have hsz8 := K9.out.fr.size
          have S8 := hide R8.sl
          have cr8 := K9.out.old.cellOld cr0.out
          have hRQ : Rd.length + Q.length ≤ 1048576 := by have := congrArg List.length hEq.out; rw [List.length_append] at this; omega
          clear K8 R8 G8 cr cr0
          by_cases hn0 : 0 ≤ n
          · have hmn2 := hmn hn0
            clear hmn
            go_wp2_with (first
              | (at_builtin; refine wpList_append_bytes rfl _ _ rfl _ (.slice a7 Rd.length c7) (.slice a8 m c8) Rd (Q.take m) go7 rfl rfl H78.out.row S8.out (by omega) ?_
                 intro v' W9 go7' h1 h2 h3
                 have D10 := hide (D8.out.grown h2 H78.out.off)
                 have K10 := hide (K9.out.grown h2 H78.out.new)
                 have M710 := hide (H78.out.append D8.out hsz8 h1 h3)
                 have M610 := hide (H68.out.other h2 hAp.out)
                 have hAp10 := hide (H68.out.apart hAp.out h3)
                 obtain ⟨a10, d10, hv1, _⟩ := h1.sl
                 rw [List.length_append, hlt8] at hv1
                 subst hv1
                 clear h1 h2 h3)
              | go_in)
            go_roundw
            case rel => exact ⟨j + 1, by omega, by go_num, hide ⟨_, _, _, own8, go6, go7', D10.out, K10.out, M610.out, M710.out, hAp10.out, by rw [hEq.out, List.append_assoc, List.take_append_drop], by rw [← hT1.out]; exact hlC⟩⟩
            case measure => simp [intOf]; omega
          · have hn1 : n < 0 := by omega
            clear hn0 hmn
            go_wp2_with (first
              | (at_builtin; refine wpList_append_bytes rfl _ _ rfl _ (.slice a7 Rd.length c7) (.slice a8 m c8) Rd (Q.take m) go7 rfl rfl H78.out.row S8.out (by omega) ?_
                 intro v' W9 go7' h1 h2 h3
                 have D10 := hide (D8.out.grown h2 H78.out.off)
                 have K10 := hide (K9.out.grown h2 H78.out.new)
                 have M710 := hide (H78.out.append D8.out hsz8 h1 h3)
                 have M610 := hide (H68.out.other h2 hAp.out)
                 have hAp10 := hide (H68.out.apart hAp.out h3)
                 obtain ⟨a10, d10, hv1, _⟩ := h1.sl
                 rw [List.length_append, hlt8] at hv1
                 subst hv1
                 clear h1 h2 h3)
              | go_in)
            go_roundw
            case rel => exact ⟨j + 1, by omega, by go_num, hide ⟨_, _, _, own8, go6, go7', D10.out, K10.out, M610.out, M710.out, hAp10.out, by rw [hEq.out, List.append_assoc, List.take_append_drop], by rw [← hT1.out]; exact hlC⟩⟩
            case measure => simp [intOf]; omega
      · have hjR2 : R.length ≤ j := by omega
        clear hjR hR
        by_cases hfit : Q.length + X.length ≤ 1048576
        · have hS0 := (hSl.out.frame K.out.old).sl
          go_wp2_with fail
          refine (does_arrive D.out (i := 0) (x := cnQ Q) rfl rfl rfl hS0 hfit).mono ?_
          rintro e w3 ⟨rfl, own3, D3, K3⟩
          replace D3 : Hid (Wd w3 W.heap.size [cnQ (Q ++ X)] [] own3) := hide D3
          replace M6 := hide (M6.out.through K3)
          replace M7 := hide (M7.out.through K3)
          replace K := hide (K.out.trans K3)
          have hsz := K.out.fr.size
          have hT := hide ((hSl.out.frame K.out.old).sl)
          clear D K3 hS0
          have hCl2 : C.length + X.length ≤ T1 := by omega
          go_wp2_with (first
            | (at_builtin; refine wpList_append_bytes rfl _ _ rfl _ (.slice a6 C.length c6) (.slice xa X.length xc) C X go6 rfl rfl M6.out.row hT.out (by omega) ?_
               intro v' W1 go6' h1 h2 h3
               have D5 := hide (D3.out.grown h2 M6.out.off)
               have K5 := hide (K.out.grown h2 M6.out.new)
               have M65 := hide (M6.out.append D3.out hsz h1 h3)
               have M75 := hide (M7.out.other h2 (fun g e e2 => hAp.out g e2 e))
               have hAp5 := hide (fun g (e : go6' = some g) (e2 : go7 = some g) => M7.out.apart (fun g e e2 => hAp.out g e2 e) h3 g e2 e)
               obtain ⟨a65, d65, hv1, _⟩ := h1.sl
               subst hv1
               have hEq5 : Hid (C ++ X = Rd ++ (Q ++ X)) := hide (by rw [hEq.out, List.append_assoc])
               have hlC : (C ++ X).length ≤ T1 := by simp; omega
               obtain ⟨C5, HC5⟩ : ∃ C5, C5 = C ++ X := ⟨_, rfl⟩
               obtain ⟨Q5, HQ5⟩ : ∃ Q5, Q5 = Q ++ X := ⟨_, rfl⟩
               rw [← HC5] at M65 hEq5 hlC ⊢
               rw [← HQ5] at D5 hEq5
               have hRl5 : Rd.length ≤ C5.length := by rw [HC5]; simp; omega
               have hQ5 : Q5.length ≤ 1048576 := D5.out.ok.wlen (cnQ Q5) (by simp)
               clear h1 h2 h3 HC5 HQ5)
            | (go_at_call 20; apply Hid.out)
            | go_in)
          go_roundw
          case rel => exact ⟨j + 1, by omega, by go_num, hide ⟨_, _, _, own3, go6', go7, D5.out, K5.out, M65.out, M75.out, hAp5.out, hEq5.out, by rw [← hT1.out]; exact hlC⟩⟩
          case measure => simp [intOf]; omega
        · have hS0 := (hSl.out.frame K.out.old).sl
          go_wp2_with fail
          refine (does_arrive_long D.out (i := 0) (x := cnQ Q) rfl rfl rfl hS0 (by omega) (by simp only [cnQ]; omega)).mono ?_
          rintro e w3 ⟨rfl, rfl⟩
          have hlC : C.length ≤ T1 := by omega
          clear hS0
          go_wp2_with (first | (go_at_call 20; apply Hid.out) | go_in)
          go_roundw
          case rel => exact ⟨j + 1, by omega, by go_num, hide ⟨_, _, _, own, go6, go7, D.out, K.out, M6.out, M7.out, hAp.out, hEq.out, by rw [← hT1.out]; exact hlC⟩⟩
          case measure => simp [intOf]; omega
    · have ej : j = lenp := by omega
      subst ej
      have hCl9 : C.length ≤ 1048576 := Nat.le_trans hCl (htot.out j (Nat.le_refl _))
      clear hst htot hR hCl
      go_wp2_with fail
      refine (does_read D.out (i := 0) (x := cnQ Q) rfl rfl 1048576).mono ?_
      rintro e w8 ⟨v8, go8, own8, rfl, R8, G8, D8, K8⟩
      have hm : clip 1048576 Q = Q.length := by unfold clip; omega
      have eD : Q.drop (clip 1048576 Q) = [] := by rw [hm]; simp
      have eD2 : cnQ (Q.drop (clip 1048576 Q)) = cnQ [] := by rw [eD]
      replace D8 : Hid (Wd w8 W.heap.size [cnQ []] [] own8) := hide (by rw [← eD2]; exact D8)
      clear eD eD2
      replace R8 : Row w8 .u8 v8 Q go8 := by
        have e : Q.take (clip 1048576 Q) = Q := by rw [hm]; simp
        rw [← e]; exact R8
      obtain ⟨a8, c8, e8, _⟩ := R8.sl
      subst e8
      have H68 := hide (M6.out.through K8)
      have H78 := hide (M7.out.through K8)
      have K9 := hide (K.out.trans K8)
      have hsz8 := K9.out.fr.size
      have S8 := hide R8.sl
      have hRQ : Rd.length + Q.length ≤ 1048576 := by have := congrArg List.length hEq.out; rw [List.length_append] at this; omega
      clear K8 R8 G8 D K M6 M7 hm
      go_wp2_with (first
        | (at_builtin; refine wpList_append_bytes rfl _ _ rfl _ (.slice a7 Rd.length c7) (.slice a8 Q.length c8) Rd Q go7 rfl rfl H78.out.row S8.out (by omega) ?_
           intro v' W9 go7' h1 h2 h3
           have D10 := hide (D8.out.grown h2 H78.out.off)
           have K10 := hide (K9.out.grown h2 H78.out.new)
           have M710 := hide (H78.out.append D8.out hsz8 h1 h3)
           have M610 := hide (H68.out.other h2 hAp.out)
           obtain ⟨a10, d10, hv1, _⟩ := h1.sl
           rw [List.length_append] at hv1
           subst hv1
           clear h1 h2 h3)
        | (go_at_call 10; apply Hid.out)
        | go_in)
      unfold Hid
      refine (does_waits D10.out (i := 0) (x := cnQ []) rfl rfl).mono ?_
      rintro e w11 ⟨rfl, D11, K11⟩
      have t6 := (M610.out.through K11).row.sl.text
      have t7 := (M710.out.through K11).row.sl.text
      rw [← hEq.out] at t7
      have F := hide (K10.out.trans K11)
      have el : ((cnQ []).waits.length : Int) = 0 := rfl
      rw [el]
      simp only [cnQ]
      clear D10 D11 K11 M610 M710 K10 H68 H78 K9 S8 D8 el
      go_wp2_with (go_at_call 17; refine (speaks_any _).mono ?_; rintro e w7 ⟨rfl, F7⟩; have F8 := hide F7; clear F7)
      go_ret
      exact ⟨rfl, ((F.out.fr.mono (T := fun _ => False) (fun _ _ e => e rfl)).trans F8.out (fun _ _ e => e)).below (Nat.le_refl _) (fun _ _ e => e)⟩
end Go.Proofs.Ytpgbpfdgbajhlaa
