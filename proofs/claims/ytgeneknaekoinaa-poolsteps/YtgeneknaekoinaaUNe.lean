/- When the pool has next to be asked. -/
import Derived.Test.YtgeneknaekoinaaUSo
namespace Go.Proofs.Ytgeneknaekoinaa
open Go.ChangeShapes Go.WideShapes Go.ChangeAt Go.RowKit
set_option linter.unusedVariables false

theorem filter_snocR {L : List Rk} {q : Rk → Bool} {k : Nat} {r : Rk} (h : L[k]? = some r) : (L.take (k + 1)).filter q = if q r then (L.take k).filter q ++ [r] else (L.take k).filter q := by
  rw [List.take_add_one, h]
  cases hb : q r <;> simp [List.filter_append, hb]
def neB (r : Rk) : Bool := r.st == 2
def neL (p : Pm) (L : List Rk) : List Int := (L.filter neB).map (endsI p)
theorem neL_len (p : Pm) (L : List Rk) : (neL p L).length ≤ L.length := by unfold neL; rw [List.length_map]; exact List.length_filter_le _ _
theorem neL_snoc {p : Pm} {L : List Rk} {k : Nat} {r : Rk} (h : L[k]? = some r) : neL p (L.take (k + 1)) = if neB r then neL p (L.take k) ++ [endsI p r] else neL p (L.take k) := by
  unfold neL
  rw [filter_snocR h]
  split <;> simp
set_option maxHeartbeats 1000000 in
set_option maxRecDepth 100000 in
theorem next_any (p : Pm) (b : Nat) (w : World) (P : Nat → Prop) (K : Int) (h : PX p b w P) (k0 : POk p K) :
    Calls Try.prog 12 #[.pointer (some ⟨b, 0, none⟩)] w fun e w' => e = .returned (.tuple #[.int .i64 (firstR (neL p p.R)).1, .bool (firstR (neL p p.R)).2]) ∧ Does (PX p b) P w w' := by
  have h64 := k0.r64
  obtain ⟨vr, vw, h⟩ := h
  have T0 : Hid (Does (Two (RQ (.slice none 0 0) (neL p (p.R.take 0))) (PT p b vr vw)) P w w) := hide (by
    obtain ⟨P', h1, h2, h3⟩ := Does.refl h
    exact ⟨P', ⟨fun _ => False, P', ⟨Rw.nil _ _ _, fun _ => by simp [Value.ownBlock]⟩, h1, fun _ x => x.elim, fun _ => by simp⟩, h2, h3⟩)
  have HK := hide k0
  obtain ⟨c0, c1, c2, c3, c4, c5, c6, c7⟩ := h.v.c
  obtain ⟨la, lc, rfl, hc0, hc1⟩ := h.v.r
  have HCL := hide (fun k => neL_len p (p.R.take k))
  clear h k0
  obtain ⟨n, Hn⟩ : ∃ n, Hid (p.R.length = n) := ⟨_, hide rfl⟩
  rw [Hn.out] at h64 c6 hc0 T0
  go_enter Try.func12, Try.ntmps12
  go_wp2_with fail
  clear c0 c1 c2 c3 c4 c5 c6 c7
  go_loopw [4, 14] (fun s u wr => ∃ k : Nat, k ≤ n ∧ u = .int .i64 (k : Int) ∧ Hid (Does (Two (RQ s (neL p (p.R.take k))) (PT p b (.slice la n lc) vw)) P w wr)) (fun _ u _ => n - (intOf u).toNat)
  case atStart => exact ⟨0, Nat.zero_le _, rfl, T0⟩
  case round =>
    clear T0
    obtain ⟨k, hk, rfl, HI⟩ := hrel
    obtain ⟨sa, sl, sc, rfl, Hsl⟩ : ∃ a n cap, u4 = .slice a n cap ∧ Hid ((neL p (p.R.take k)).length = n) := by obtain ⟨_, y⟩ := HI.out.fst_of; obtain ⟨a, c, e, _⟩ := y.1.shape; exact ⟨a, _, c, e, hide rfl⟩
    have hsl : sl ≤ 64 := by
      have h1 := HCL.out k
      rw [Hsl.out, List.length_take] at h1
      omega
    by_cases hlt : k < n
    · have hkl : k < p.R.length := by rw [Hn.out]; exact hlt
      have hr := get_ok hkl
      have HSC := hide (neL_snoc (p := p) hr)
      obtain ⟨⟨b0, b1⟩, ⟨s0, s1⟩, -⟩ := HK.out.rows _ (List.mem_of_getElem? hr)
      obtain ⟨_, x⟩ := HI.out.snd_of
      obtain ⟨g1, off, cap1, e, -, -, r0, r1, r2, r3, r4, r5, -, -⟩ := row_cells x.v.R hr
      simp only [Value.slice.injEq] at e
      obtain ⟨rfl, -, rfl⟩ := e
      generalize p.R[k] = r at *
      clear hr hkl x
      have T1 := hide (HI.out.new (rkO r))
      unfold rkO at T1
      go_upto_region 7 with fail
      clear r0 r1 r2 r3 r4 r5 HI
      generalize wr.alloc _ = w1 at *
      generalize wr.heap.size = gg at *
      obtain ⟨_, y⟩ := T1.out.fst_of
      obtain ⟨e0, e1, e2, e3, e4, e5⟩ := rk_cells y.1
      obtain ⟨_, x⟩ := T1.out.snd_of
      obtain ⟨_, _, _, x, -, -⟩ := x
      have HG := hide (ends_any p b _ vw w1 r x.v HK.out.life0 HK.out.life1 HK.out.idle0 HK.out.idle1 b0 b1 s0 s1)
      unfold rkV at HG
      clear x y
      by_cases hst : r.st = 2
      · rw [if_pos (by unfold neB; rw [hst]; rfl)] at HSC
        rw [hst] at e1 HG
        clear hst
        generalize endsI p r = en at *
        go_wp2_with fail
        refine HG.out.mono ?_
        rintro e w2 ⟨rfl, F2⟩
        have T2 := hide (T1.out.e F2)
        clear F2 HG T1 e0 e1 e2 e3 e4 e5
        have T3 := hide T2.out.snd
        clear T2
        have HS : Hid (Rw 3 1 w2 (.slice sa sl sc) sl (neL p (p.R.take k))) := by obtain ⟨_, x⟩ := T3.out.fst_of; exact hide (by have := x.1; rw [Hsl.out] at this; exact this)
        go_wp2_with (at_builtin; apply Hid.out)
        unfold Hid
        refine wpList_append_rw infInt rfl _ _ rfl w2 (.slice sa sl sc) sl _ [en] rfl (by simp [Act.eval, go_sem]) HS.out rfl (by omega) (by omega) ?_
        intro v' W6 q1 F o
        have T6 : Hid (Does (Two (RQ v' (neL p (p.R.take (k + 1)))) (PT p b (.slice (some ⟨g1, off, none⟩) n lc) vw)) P w W6) := hide (by
          rw [HSC.out]
          exact T3.out.left (fun _ y => y.app (by rw [List.length_append, Hsl.out]; exact q1) F o))
        clear q1 F o HS T3
        go_wp2_with fail
        go_roundw
        case rel => exact ⟨k + 1, by omega, by go_num, T6⟩
        case measure => simp [intOf]; omega
      · have hs2 : (r.st == 2) = false := by simpa using hst
        rw [if_neg (by unfold neB; rw [hs2]; simp)] at HSC
        have T3 := hide T1.out.snd
        rw [← HSC.out] at T3
        clear HG T1 hst
        go_wp2_with fail
        go_roundw
        case rel => exact ⟨k + 1, by omega, by go_num, T3⟩
        case measure => simp [intOf]; omega
    · obtain rfl : k = n := by omega
      have etk : p.R.take k = p.R := by rw [← Hn.out]; exact List.take_length
      rw [etk] at HI Hsl
      clear etk
      obtain ⟨_, y⟩ := HI.out.fst_of
      have HFI := hide (row_first y.1 (by rw [Hsl.out]; exact hsl)).1
      clear y
      have T1 := hide HI.out.snd.px
      clear HI
      go_wp2_with fail
      refine HFI.out.mono ?_
      rintro e w3 ⟨rfl, rfl⟩
      clear HFI
      go_wp2_with fail
      go_ret2
      exact ⟨rfl, T1.out⟩
end Go.Proofs.Ytgeneknaekoinaa
