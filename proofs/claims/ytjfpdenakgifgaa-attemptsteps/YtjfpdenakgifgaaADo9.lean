/- When time does something, as the document tells it. -/
import Derived.Test.YtjfpdenakgifgaaADo8
import Derived.Shelf.Abstract
namespace Go.Proofs.Ytjfpdenakgifgaa
open Go.ChangeShapes Go.WideShapes Go.ChangeAt Go.RowKit
set_option linter.unusedVariables false

set_option maxHeartbeats 4000000 in
set_option maxRecDepth 100000 in
theorem rnext_any {x : Ex} {p : Rq} {b : Nat} {w : World} {P : Nat → Prop} (h : RX x p b w P) (k0 : QOk p) (xo : XOk x p) :
    Calls Try.prog 18 #[.pointer (some ⟨b, 0, none⟩)] w fun e w' => e = .returned (.tuple #[.int .i64 (nxF p).1, .bool (nxF p).2]) ∧ Fr none' w w' := by
  unfold RX at h
  obtain ⟨vi, vb, vo, y⟩ := h
  by_cases hr : p.R = []
  · have e9 : nxF p = (0, false) := by unfold nxF; rw [if_pos hr]
    rw [e9]
    rw [show p.R.isEmpty = true by rw [hr]; rfl] at y
    obtain ⟨c0, c1, c2, c3, c4, c5, c6, c7, c8, c9, c10, c11, c12, c13, c14, c15⟩ := y.pt.c
    clear y hr e9 xo k0 c0 c1 c2 c3 c4 c5 c6 c7 c8 c9 c10 c11 c12 c14 c15
    go_enter Try.func18, Try.ntmps18
    go_wp2_with fail
    go_ret2
    exact ⟨rfl, Fr.refl _ _⟩
  rw [show p.R.isEmpty = false by rw [List.isEmpty_eq_false_iff]; exact hr] at y
  have hov : Hid (false = p.R.isEmpty) := hide (by rw [eq_comm, List.isEmpty_eq_false_iff]; exact hr)
  have HP := hide y.pt
  have h9 := k0.r9
  have HK := hide k0
  have HXO := hide xo
  obtain ⟨FZ, Hx⟩ : ∃ FZ, Hid (nxF p = FZ) := ⟨_, hide rfl⟩
  rw [Hx.out]
  have Hx : Hid (firstR (nxL p) = FZ) := hide (by rw [← Hx.out]; unfold nxF; rw [if_neg hr])
  have HLA := hide (fun V => (rlater_any x.si p.to V xo.s0 xo.s1 (by have := xo.t0; omega) xo.t1).mono (R' := fun e w' => ∃ r, e = .returned r ∧ (r = .int .i64 p.en ∧ w' = V)) (fun e w' ⟨a, z⟩ => ⟨.int .i64 p.en, by rw [a, xo.en], rfl, z.symm⟩))
  obtain ⟨c0, c1, c2, c3, c4, c5, c6, c7, c8, c9, c10, c11, c12, c13, c14, c15⟩ := y.pt.c
  clear k0 hr xo y
  obtain ⟨n, Hn⟩ : ∃ n, Hid (p.R.length = n) := ⟨_, hide rfl⟩
  rw [Hn.out] at h9
  have Hs : Hid ((sis p.R).length = n) := hide (by rw [sis_len, Hn.out])
  obtain ⟨ab, cb, rfl, hb0, hb1⟩ := HP.out.B.shape
  rw [Hs.out] at hb0
  have T0 : Hid (Does (RI (.slice (some ⟨w.heap.size, 0, none⟩) 1 1) (nxK p 0)) none' w ((w.alloc (.cells #[.int .i64 p.en] 3)).drew)) := hide ((RI.new0 p w).e (Fr.drew none' _))
  have q1 := (HP.out.fr T0.out.fr).c.2.2.2.2.2.2.2.2.2.2.2.2.1
  rw [Hs.out] at q1
  go_enter Try.func18, Try.ntmps18
  go_wp2_with fail
  go_region_law (refine step_callg rfl 38 _ _ rfl (enters_of Try.func38 (by kernel_rfl) rfl) #[.int .i64 x.si, .int .i64 p.to] (by simp [Act.eval]) _ (HLA.out _) ?_; rintro r z ⟨rfl, rfl⟩)
  all_goals
    clear c0 c1 c2 c3 c4 c5 c6 c7 c8 c9 c10 c11 c12 c13 c14 c15 HLA
    generalize (w.alloc _).drew = w1 at *
    generalize w.heap.size = g0 at *
    go_wp2_with fail
    clear q1
    go_loopw [4, 26] (fun s v wr => ∃ k : Nat, k ≤ n ∧ v = .int .i64 (k : Int) ∧ Hid (Does (RI s (nxK p k)) none' w wr)) (fun _ v _ => n - (intOf v).toNat)
    case atStart => exact ⟨0, Nat.zero_le _, rfl, T0⟩
    case round =>
      clear T0
      obtain ⟨k, hk, rfl, HI⟩ := hrel
      obtain ⟨sa, sc, rfl, hs0, hs1⟩ := HI.out.ri.shape
      have hl : Hid ((nxK p k).length = k + 1) := hide (nxK_len (by rw [Hn.out]; exact hk))
      rw [hl.out] at hs0 ⊢
      have HPr := hide (HP.out.fr HI.out.fr)
      by_cases hlt : k < n
      · have hkl : k < p.R.length := by rw [Hn.out]; exact hlt
        have hr := get_ok hkl
        have HT := hide (nxK_next hr)
        obtain ⟨s0, s1⟩ := HK.out.rs _ (List.getElem_mem hkl)
        have hrs : (sis p.R)[k]? = some p.R[k].si := by unfold sis; rw [List.getElem?_map, hr]; rfl
        obtain ⟨g2, off2, cap2, e, -, -, r1⟩ := int_cell HPr.out.B hrs
        rw [Hs.out] at e
        simp only [Value.slice.injEq] at e
        obtain ⟨rfl, -, rfl⟩ := e
        have c3 := HPr.out.c.2.2.2.1
        have HLT := hide (rlater_any p.R[k].si p.pt wr s0 s1 (by have := HK.out.pt0; omega) HK.out.pt1)
        generalize p.R[k] = r at *
        clear hr hkl hrs s0 s1
        generalize latI r.si p.pt = lt at *
        have HS : Hid (Rw 3 1 wr (.slice sa (k + 1) sc) (k + 1) (nxK p k)) := hide (by have := HI.out.ri; rw [hl.out] at this; exact this)
        go_wp2_with (first | (go_at_call 38; refine HLT.out.mono ?_; rintro e w' ⟨rfl, rfl⟩) | (at_builtin; apply Hid.out))
        unfold Hid
        refine wpList_append_rw infInt rfl _ _ rfl wr (.slice sa (k + 1) sc) (k + 1) _ [lt] rfl (by simp [Act.eval, go_sem]) HS.out rfl (by omega) (by omega) ?_
        intro v' W6 q1 F o
        have T6 : Hid (Does (RI v' (nxK p (k + 1))) none' w W6) := hide (by
          rw [HT.out]
          exact HI.out.trans (fun _ y => y.app (by rw [List.length_append, hl.out]; exact q1) (by rw [hl.out]; exact F) (by rw [hl.out]; exact o)))
        clear q1 F o HS HI HPr r1 c3 HLT
        go_wp2_with fail
        go_roundw
        case rel => exact ⟨k + 1, by omega, by go_num, T6⟩
        case measure => simp [intOf]; omega
      · obtain rfl : k = n := by omega
        have HG := hide (rhedging_any HPr.out rfl hov.out HXO.out.hg HK.out.m20)
        cases hnh : nhB p with
        | false =>
          have e9 : Hid (nxL p = nxK p k) := hide (by unfold nxL; rw [hnh, if_neg (by decide), List.append_nil, Hn.out])
          rw [hnh] at HG
          clear hnh
          go_wp2_with fail
          refine HG.out.mono ?_
          rintro e w4 ⟨rfl, F4⟩
          have HF := hide (HI.out.fr.trans F4 (fun _ _ x => x))
          have HS : Hid (Rw 3 1 w4 (.slice sa (k + 1) sc) (k + 1) (nxK p k)) := hide (by have := (HI.out.e F4).ri; rw [hl.out] at this; exact this)
          have HR := hide (row_firstn HS.out hl.out (by omega)).2
          clear F4 HG HI HS HPr
          go_wp2_with (go_at_call 43; refine HR.out.mono ?_; rintro e w' ⟨rfl, rfl⟩)
          go_ret2
          exact ⟨ret2_ib (by rw [← Hx.out, e9.out]) (by rw [← Hx.out, e9.out]), HF.out⟩
        | true =>
          have e9 : Hid (nxL p = nxK p k ++ [latI p.la p.ha]) := hide (by unfold nxL; rw [hnh, if_pos rfl, Hn.out])
          rw [hnh] at HG
          clear hnh
          have HLT := hide (fun V => (rlater_any p.la p.ha V HK.out.la0 HK.out.la1 (by have := HK.out.ha0; omega) HK.out.ha1).mono (R' := fun e w' => ∃ r, e = .returned r ∧ (r = .int .i64 (latI p.la p.ha) ∧ w' = V)) (fun e w' ⟨a, z⟩ => ⟨_, a, rfl, z.symm⟩))
          go_wp2_with fail
          refine HG.out.mono ?_
          rintro e w4 ⟨rfl, F4⟩
          have T2 := hide (HI.out.e F4)
          have HS : Hid (Rw 3 1 w4.drew (.slice sa (k + 1) sc) (k + 1) (nxK p k)) := hide (by have := (T2.out.e (Fr.drew none' _)).ri; rw [hl.out] at this; exact this)
          obtain ⟨c0, c1, c2, c3, c4, c5, c6, c7, c8, c9, c10, c11, c12, c13, c14, c15⟩ := (HPr.out.fr F4).c
          clear c0 c1 c3 c4 c5 c6 c8 c9 c10 c11 c12 c13 c14 c15
          generalize latI p.la p.ha = t at *
          obtain ⟨v5, w5, hrun, s', F', o'⟩ := append_rw infInt w4.drew 45 _ _ _ [t] HS.out rfl (by omega) (by omega)
          simp only [ints, List.map_cons, List.map_nil] at hrun
          have HF : Hid (Fr none' w w5) := hide (Does.fr ((T2.out.e (Fr.drew none' _)).trans (fun _ y => y.app (n' := k + 1 + 1) (l' := nxK p k ++ [t]) s' (by rw [hl.out]; exact F') (by rw [hl.out]; exact o'))))
          have HR := hide (row_firstn s' (by rw [List.length_append, hl.out]; rfl) (by omega)).2
          clear F4 HG HI HPr s' F' o' HS T2
          go_wp2_with fail
          go_region_law (first | (refine step_append_is rfl (.tmp 42) (.tmp 52) 45 rfl _ _ _ (by simp [Act.eval]) (by simp [Act.eval]) hrun ?_) | (refine step_callg rfl 38 _ _ rfl (enters_of Try.func38 (by kernel_rfl) rfl) #[.int .i64 p.la, .int .i64 p.ha] (by simp [Act.eval]) _ (HLT.out _) ?_; rintro r z ⟨rfl, rfl⟩))
          all_goals
            clear c7 c2 hrun HLT
            go_wp2_with (go_at_call 43; refine HR.out.mono ?_; rintro e w' ⟨rfl, rfl⟩)
            go_ret2
            exact ⟨ret2_ib (by rw [← Hx.out, e9.out]) (by rw [← Hx.out, e9.out]), HF.out⟩
end Go.Proofs.Ytjfpdenakgifgaa
