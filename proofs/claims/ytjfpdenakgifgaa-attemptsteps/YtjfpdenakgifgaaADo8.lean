/- When time does something: as the program tells it, and as the document does. -/
import Derived.Test.YtjfpdenakgifgaaADo7
namespace Go.Proofs.Ytjfpdenakgifgaa
open Go.ChangeShapes Go.WideShapes Go.ChangeAt Go.RowKit
set_option linter.unusedVariables false

def nxK (p : Rq) (k : Nat) : List Int := [p.en] ++ (p.R.take k).map (fun r => latI r.si p.pt)
def nxL (p : Rq) : List Int := nxK p p.R.length ++ (if nhB p = true then [latI p.la p.ha] else [])
def nxF (p : Rq) : Int × Bool := if p.R = [] then (0, false) else firstR (nxL p)
theorem nxK_len {p : Rq} {k : Nat} (h : k ≤ p.R.length) : (nxK p k).length = k + 1 := by
  unfold nxK
  rw [List.length_append, List.length_map, List.length_take]
  simp; omega
theorem nxK_next {p : Rq} {k : Nat} {r : Rn} (h : p.R[k]? = some r) : nxK p (k + 1) = nxK p k ++ [latI r.si p.pt] := by
  unfold nxK
  rw [take_next h, List.map_append, List.append_assoc]; rfl
theorem row_firstn {w : World} {v : Value} {zs : List Int} {n : Nat} (h : Rw 3 1 w v n zs) (hn : zs.length = n) (hl : n ≤ 64) :
    (Calls Try.prog 42 #[v] w fun e w' => e = .returned (.tuple #[.int .i64 (firstR zs).1, .bool (firstR zs).2]) ∧ w = w') ∧ (Calls Try.prog 43 #[v] w fun e w' => e = .returned (.tuple #[.int .i64 (firstR zs).1, .bool (firstR zs).2]) ∧ w = w') := by
  subst hn; exact row_first h hl
theorem RI.new0 (p : Rq) (w : World) : Does (RI (.slice (some ⟨w.heap.size, 0, none⟩) 1 1) (nxK p 0)) none' w (w.alloc (.cells #[.int .i64 p.en] 3)) := RI.new w p.en
set_option maxHeartbeats 4000000 in
set_option maxRecDepth 100000 in
theorem next_any {p : Rq} {b : Nat} {vr : Value} {w : World} (h : QV p b vr w) (k0 : QOk p) :
    Calls Try.prog 17 #[.pointer (some ⟨b, 0, none⟩)] w fun e w' => e = .returned (.tuple #[.int .i64 (nxF p).1, .bool (nxF p).2]) ∧ Fr none' w w' := by
  by_cases hr : p.R = []
  · refine (next_over p b vr w h hr).mono ?_
    rintro e w' ⟨rfl, rfl⟩
    unfold nxF
    rw [if_pos hr]
    exact ⟨rfl, Fr.refl _ _⟩
  have HV := hide h
  have h9 := k0.r9
  have HK := hide k0
  have HO := hide (over_any p b vr w h)
  rw [show p.R.isEmpty = false by rw [List.isEmpty_eq_false_iff]; exact hr] at HO
  obtain ⟨FZ, Hx⟩ : ∃ FZ, Hid (nxF p = FZ) := ⟨_, hide rfl⟩
  rw [Hx.out]
  have Hx : Hid (firstR (nxL p) = FZ) := hide (by rw [← Hx.out]; unfold nxF; rw [if_neg hr])
  obtain ⟨c0, c1, c2, c3, c4, c5, c6, c7, c8, c9, c10, c11⟩ := h.c
  obtain ⟨a, cap, rfl, hc0, hc1⟩ := h.r
  have q1 := (h.fr (Fr.alloc none' w (.cells #[.int .i64 p.en] 3))).c.2.2.2.2.2.2.2.2.2.2.2
  clear h k0 hr
  obtain ⟨n, Hn⟩ : ∃ n, Hid (p.R.length = n) := ⟨_, hide rfl⟩
  rw [Hn.out] at c11 hc0 h9 q1
  have T0 := hide (RI.new0 p w)
  go_enter Try.func17, Try.ntmps17
  go_upto_region 4 with (go_at_call 19; refine HO.out.mono ?_; rintro e w' ⟨rfl, rfl⟩)
  clear c0 c1 c2 c3 c4 c5 c6 c7 c8 c9 c10 c11 HO
  generalize w.alloc _ = w1 at *
  generalize w.heap.size = g0 at *
  go_wp2_with fail
  clear q1
  go_loopw [4, 21] (fun s v wr => ∃ k : Nat, k ≤ n ∧ v = .int .i64 (k : Int) ∧ Hid (Does (RI s (nxK p k)) none' w wr)) (fun _ v _ => n - (intOf v).toNat)
  case atStart => exact ⟨0, Nat.zero_le _, rfl, T0⟩
  case round =>
    clear T0
    obtain ⟨k, hk, rfl, HI⟩ := hrel
    obtain ⟨sa, sc, rfl, hs0, hs1⟩ := HI.out.ri.shape
    have hl : Hid ((nxK p k).length = k + 1) := hide (nxK_len (by rw [Hn.out]; exact hk))
    rw [hl.out] at hs0 ⊢
    by_cases hlt : k < n
    · have hkl : k < p.R.length := by rw [Hn.out]; exact hlt
      have hr := get_ok hkl
      have HT := hide (nxK_next hr)
      obtain ⟨s0, s1⟩ := HK.out.rs _ (List.getElem_mem hkl)
      obtain ⟨g1, off, cap1, e, -, -, r0, r1, -, -⟩ := run_cells (HV.out.fr HI.out.fr).R hr
      simp only [Value.slice.injEq] at e
      obtain ⟨rfl, -, rfl⟩ := e
      generalize p.R[k] = r at *
      clear hr hkl
      have HF := hide (Fr.alloc none' wr (rnO r))
      have HB : Hid ((wr.alloc (rnO r)).heap[wr.heap.size]? = some (rnO r)) := hide (hp_new _ _)
      have HI2 := hide (HI.out.e HF.out)
      unfold rnO at HF HB HI2
      go_upto_region 7 with fail
      clear r0 r1 HF HI
      generalize wr.alloc _ = w4 at *
      generalize wr.heap.size = gg at *
      have r0 : w4.cell? ⟨gg, 0, none⟩ = some (.int .i64 r.id) := cell_of HB.out 0
      have r1 : w4.cell? ⟨gg, 1, none⟩ = some (.int .i64 r.si) := cell_of HB.out 1
      have HC := hide (tired_any p b _ w4 r (HV.out.fr HI2.out.fr) HK.out s0 s1)
      unfold rnV at HC
      clear s0 s1
      generalize latI r.si p.pt = lt at *
      go_wp2_with fail
      refine HC.out.mono ?_
      rintro e w2 ⟨rfl, F2⟩
      have T2 := hide (HI2.out.e F2)
      clear HC F2 HI2 r0 r1 HB
      have HS : Hid (Rw 3 1 w2 (.slice sa (k + 1) sc) (k + 1) (nxK p k)) := hide (by have := T2.out.ri; rw [hl.out] at this; exact this)
      go_wp2_with (at_builtin; apply Hid.out)
      unfold Hid
      refine wpList_append_rw infInt rfl _ _ rfl w2 (.slice sa (k + 1) sc) (k + 1) _ [lt] rfl (by simp [Act.eval, go_sem]) HS.out rfl (by omega) (by omega) ?_
      intro v' W6 q1 F o
      have T6 : Hid (Does (RI v' (nxK p (k + 1))) none' w W6) := hide (by
        rw [HT.out]
        exact T2.out.trans (fun _ y => y.app (by rw [List.length_append, hl.out]; exact q1) (by rw [hl.out]; exact F) (by rw [hl.out]; exact o)))
      clear q1 F o HS T2
      go_wp2_with fail
      go_roundw
      case rel => exact ⟨k + 1, by omega, by go_num, T6⟩
      case measure => simp [intOf]; omega
    · obtain rfl : k = n := by omega
      have HNH := hide (nextHedge_any p b _ wr (HV.out.fr HI.out.fr) HK.out)
      cases hnh : nhB p with
      | false =>
        have e9 : Hid (nxL p = nxK p k) := hide (by unfold nxL; rw [hnh, if_neg (by decide), List.append_nil, Hn.out])
        rw [hnh] at HNH
        clear hnh
        go_wp2_with fail
        refine HNH.out.mono ?_
        rintro e w4 ⟨rfl, F4⟩
        have HF := hide (HI.out.fr.trans F4 (fun _ _ x => x))
        have HS : Hid (Rw 3 1 w4 (.slice sa (k + 1) sc) (k + 1) (nxK p k)) := hide (by have := (HI.out.e F4).ri; rw [hl.out] at this; exact this)
        have HR := hide (row_firstn HS.out hl.out (by omega)).1
        clear F4 HNH HI HS
        go_wp2_with (go_at_call 42; refine HR.out.mono ?_; rintro e w' ⟨rfl, rfl⟩)
        go_ret2
        exact ⟨ret2_ib (by rw [← Hx.out, e9.out]) (by rw [← Hx.out, e9.out]), HF.out⟩
      | true =>
        have e9 : Hid (nxL p = nxK p k ++ [nhT p]) := hide (by unfold nxL nhT; rw [hnh, if_pos rfl, if_pos rfl, Hn.out])
        rw [hnh] at HNH
        clear hnh
        generalize nhT p = t at *
        go_wp2_with fail
        refine HNH.out.mono ?_
        rintro e w4 ⟨rfl, F4⟩
        have T2 := hide (HI.out.e F4)
        have HS : Hid (Rw 3 1 w4 (.slice sa (k + 1) sc) (k + 1) (nxK p k)) := hide (by have := T2.out.ri; rw [hl.out] at this; exact this)
        clear F4 HNH HI
        go_wp2_with (at_builtin; apply Hid.out)
        unfold Hid
        refine wpList_append_rw infInt rfl _ _ rfl w4 (.slice sa (k + 1) sc) (k + 1) _ [t] rfl (by simp [Act.eval, go_sem]) HS.out rfl (by omega) (by omega) ?_
        intro v' W6 q1 F o
        have HF : Hid (Fr none' w W6) := hide (Does.fr (T2.out.trans (fun _ y => y.app (n' := k + 1 + 1) (l' := nxK p k ++ [t]) q1 (by rw [hl.out]; exact F) (by rw [hl.out]; exact o))))
        have HR := hide (row_firstn q1 (by rw [List.length_append, hl.out]; rfl) (by omega)).1
        clear q1 F o HS T2
        go_wp2_with (go_at_call 42; refine HR.out.mono ?_; rintro e w' ⟨rfl, rfl⟩)
        go_ret2
        exact ⟨ret2_ib (by rw [← Hx.out, e9.out]) (by rw [← Hx.out, e9.out]), HF.out⟩
end Go.Proofs.Ytjfpdenakgifgaa
