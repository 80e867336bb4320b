/- When the document's pool has next to be asked. -/
import Derived.Test.YtgeneknaekoinaaUFi
namespace Go.Proofs.Ytgeneknaekoinaa
open Go.ChangeShapes Go.WideShapes Go.ChangeAt Go.RowKit
set_option linter.unusedVariables false

def soB (r : Cn) : Bool := r.st == 3
def soL (p : Rm) (L : List Cn) : List Int := (L.filter soB).map (rendI p)
theorem soL_len (p : Rm) (L : List Cn) : (soL p L).length ≤ L.length := by unfold soL; rw [List.length_map]; exact List.length_filter_le _ _
theorem soL_snoc {p : Rm} {L : List Cn} {k : Nat} {r : Cn} (h : L[k]? = some r) : soL p (L.take (k + 1)) = if soB r then soL p (L.take k) ++ [rendI p r] else soL p (L.take k) := by
  unfold soL
  rw [filter_snoc h]
  split <;> simp
set_option maxHeartbeats 1000000 in
set_option maxRecDepth 100000 in
theorem soon_any (p : Rm) (b : Nat) (w : World) (P : Nat → Prop) (K : Int) (h : QX p b w P) (k0 : QOk p K) :
    Calls Try.prog 13 #[.pointer (some ⟨b, 0, none⟩)] w fun e w' => e = .returned (.tuple #[.int .i64 (firstR (soL p p.L)).1, .bool (firstR (soL p p.L)).2]) ∧ Does (QX p b) P w w' := by
  have h64 := k0.len
  obtain ⟨vl, vs, vw, h⟩ := h
  have T0 : Hid (Does (Two (RQ (.slice none 0 0) (soL p (p.L.take 0))) (QT p b vl vs vw)) P w w) := hide (by
    obtain ⟨P', h1, h2, h3⟩ := Does.refl h
    exact ⟨P', ⟨fun _ => False, P', ⟨Rw.nil _ _ _, fun _ => by simp [Value.ownBlock]⟩, h1, fun _ x => x.elim, fun _ => by simp⟩, h2, h3⟩)
  have HK := hide k0
  obtain ⟨c0, c1, c2, c3, c4, c5, c6, c7⟩ := h.v.c
  obtain ⟨la, lc, rfl, hc0, hc1⟩ := h.v.L.shape
  have HCL := hide (fun k => soL_len p (p.L.take k))
  clear h k0
  obtain ⟨n, Hn⟩ : ∃ n, Hid (p.L.length = n) := ⟨_, hide rfl⟩
  rw [Hn.out] at h64 c5 hc0 T0
  go_enter Try.func13, Try.ntmps13
  go_wp2_with fail
  clear c0 c1 c2 c3 c4 c5 c6 c7
  go_loopw [4, 12] (fun s u wr => ∃ k : Nat, k ≤ n ∧ u = .int .i64 (k : Int) ∧ Hid (Does (Two (RQ s (soL p (p.L.take k))) (QT p b (.slice la n lc) vs vw)) P w wr)) (fun _ u _ => n - (intOf u).toNat)
  case atStart => exact ⟨0, Nat.zero_le _, rfl, T0⟩
  case round =>
    clear T0
    obtain ⟨k, hk, rfl, HI⟩ := hrel
    obtain ⟨sa, sl, sc, rfl, Hsl⟩ : ∃ a n cap, u4 = .slice a n cap ∧ Hid ((soL p (p.L.take k)).length = n) := by obtain ⟨_, y⟩ := HI.out.fst_of; obtain ⟨a, c, e, _⟩ := y.1.shape; exact ⟨a, _, c, e, hide rfl⟩
    have hsl : sl ≤ 64 := by
      have h1 := HCL.out k
      rw [Hsl.out, List.length_take] at h1
      omega
    by_cases hlt : k < n
    · have hkl : k < p.L.length := by rw [Hn.out]; exact hlt
      have hr := get_ok hkl
      have HSC := hide (soL_snoc (p := p) hr)
      obtain ⟨⟨b0, b1⟩, ⟨s0, s1⟩⟩ := HK.out.rows _ (List.mem_of_getElem? hr)
      obtain ⟨_, x⟩ := HI.out.snd_of
      obtain ⟨g1, off, cap1, e, -, -, r0, r1, r2, r3, r4, -⟩ := con_cells x.v.L hr
      simp only [Value.slice.injEq] at e
      obtain ⟨rfl, -, rfl⟩ := e
      generalize p.L[k] = r at *
      clear hr hkl x
      have T1 := hide (HI.out.new (cnO r))
      unfold cnO at T1
      go_upto_region 5 with fail
      clear r0 r1 r2 r3 r4 HI
      generalize wr.alloc _ = w1 at *
      generalize wr.heap.size = gg at *
      obtain ⟨_, y⟩ := T1.out.fst_of
      obtain ⟨e0, e1, e2, e3, e4⟩ := cn_cells y.1
      obtain ⟨_, x⟩ := T1.out.snd_of
      obtain ⟨_, _, _, x, -, -⟩ := x
      have HG := hide (rend_any p b _ _ vw w1 r x.v HK.out.life0 HK.out.life1 HK.out.idle0 HK.out.idle1 b0 b1 s0 s1)
      unfold cnV at HG
      clear x y
      by_cases hst : r.st = 3
      · rw [if_pos (by unfold soB; rw [hst]; rfl)] at HSC
        rw [hst] at e1 HG
        clear hst
        generalize rendI p r = en at *
        go_wp2_with fail
        refine HG.out.mono ?_
        rintro e w2 ⟨rfl, F2⟩
        have T2 := hide (T1.out.e F2)
        clear F2 HG T1 e0 e1 e2 e3 e4
        have T3 := hide T2.out.snd
        clear T2
        have HS : Hid (Rw 3 1 w2 (.slice sa sl sc) sl (soL p (p.L.take k))) := by obtain ⟨_, x⟩ := T3.out.fst_of; exact hide (by have := x.1; rw [Hsl.out] at this; exact this)
        go_wp2_with (at_builtin; apply Hid.out)
        unfold Hid
        refine wpList_append_rw infInt rfl _ _ rfl w2 (.slice sa sl sc) sl _ [en] rfl (by simp [Act.eval, go_sem]) HS.out rfl (by omega) (by omega) ?_
        intro v' W6 q1 F o
        have T6 : Hid (Does (Two (RQ v' (soL p (p.L.take (k + 1)))) (QT p b (.slice (some ⟨g1, off, none⟩) n lc) vs vw)) P w W6) := hide (by
          rw [HSC.out]
          exact T3.out.left (fun _ y => y.app (by rw [List.length_append, Hsl.out]; exact q1) F o))
        clear q1 F o HS T3
        go_wp2_with fail
        go_roundw
        case rel => exact ⟨k + 1, by omega, by go_num, T6⟩
        case measure => simp [intOf]; omega
      · have hs2 : (r.st == 3) = false := by simpa using hst
        rw [if_neg (by unfold soB; rw [hs2]; simp)] at HSC
        have T3 := hide T1.out.snd
        rw [← HSC.out] at T3
        clear HG T1 hst
        go_wp2_with fail
        go_roundw
        case rel => exact ⟨k + 1, by omega, by go_num, T3⟩
        case measure => simp [intOf]; omega
    · obtain rfl : k = n := by omega
      have etk : p.L.take k = p.L := by rw [← Hn.out]; exact List.take_length
      rw [etk] at HI Hsl
      clear etk
      obtain ⟨_, y⟩ := HI.out.fst_of
      have HFI := hide (row_first y.1 (by rw [Hsl.out]; exact hsl)).2
      clear y
      have T1 := hide HI.out.snd.qx
      clear HI
      go_wp2_with fail
      refine HFI.out.mono ?_
      rintro e w3 ⟨rfl, rfl⟩
      clear HFI
      go_wp2_with fail
      go_ret2
      exact ⟨rfl, T1.out⟩
end Go.Proofs.Ytgeneknaekoinaa
