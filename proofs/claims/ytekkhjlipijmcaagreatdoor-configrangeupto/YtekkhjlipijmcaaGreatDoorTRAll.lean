/- The document's Parse, all its ways in one: it takes what the program's takes, as the same. -/
import Derived.Test.YtekkhjlipijmcaaGreatDoorTRPar5
namespace Go.Proofs.YtekkhjlipijmcaaGreatDoor
open Go.ChangeShapes Go.WideShapes Go.ChangeAt Go.RowKit

theorem hostP_ge (l : List UInt8) (h : hostP l ≠ -1) : 0 ≤ hostP l := by
  unfold hostP at h ⊢
  split
  · rename_i h1; rw [if_pos h1] at h; exact portV_ge _ h
  · omega
theorem hostP_le (l : List UInt8) : -1 ≤ hostP l := by
  unfold hostP
  split
  · exact (portV_le _).1
  · omega
theorem rparse_total (m s : ByteArray) : ∃ (t : Value) (re : Int), RParses m s t re ∧ (re = 0 → Taken m s t ∧ s.size ≤ 8192) ∧ (re ≠ 0 → t = tgZ) ∧ (∀ t', Taken m s t' → s.size ≤ 8192 → re = 0 ∧ t = t') := by
  by_cases hs : s.size ≤ 8192
  · by_cases hm : m.data.toList = connectL
    · have hf : formN m.data.toList s.data.toList = 3 := by unfold formN; rw [if_pos hm]
      obtain ⟨re, hR, hiff⟩ := rpar_auth m s hs hm
      obtain ⟨s1, s2⟩ := host_same2 s.data.toList
      have eqs : hostE s.data.toList = 0 → rhostS s = hostS s ∧ rhostP s.data.toList = hostP s.data.toList := fun h => by
        obtain ⟨c, d⟩ := s2 h
        unfold rhostS hostS
        rw [c, d]
        exact ⟨rfl, rfl⟩
      refine ⟨_, re, hR, fun h => ?_, fun h => by rw [if_neg h], fun t' ht _ => ?_⟩
      · obtain ⟨a, b⟩ := hiff.1 h
        obtain ⟨c, d⟩ := eqs (s1.2 a)
        rw [if_pos h, c, d]
        exact ⟨Taken.auth hf (s1.2 a) (by rw [← d]; omega), hs⟩
      · cases ht with
        | auth h1 h2 h3 =>
          obtain ⟨c, d⟩ := eqs h2
          have h0 : re = 0 := hiff.2 ⟨s1.1 h2, by rw [d]; exact hostP_ge _ h3⟩
          exact ⟨h0, by rw [if_pos h0, c, d]⟩
        | ast h1 => omega
        | origin h1 => omega
        | abs h1 => omega
    · by_cases ho : m.data.toList = optionsL ∧ s.data.toList = [42]
      · have hf : formN m.data.toList s.data.toList = 4 := by unfold formN; rw [if_neg hm, if_pos ho]
        refine ⟨_, 0, rpar_ast m s ho.1 ho.2, fun _ => ⟨Taken.ast hf, hs⟩, fun h => absurd rfl h, fun t' ht _ => ?_⟩
        cases ht with
        | ast h1 => exact ⟨rfl, rfl⟩
        | auth h1 => omega
        | origin h1 => omega
        | abs h1 => omega
      · by_cases hh : s.data.toList.head? = some 47
        · have hf : formN m.data.toList s.data.toList = 1 := by unfold formN; rw [if_neg hm, if_neg ho, if_pos hh]
          refine ⟨_, _, rpar_origin m s hs hm hh, fun h => ?_, fun h => ?_, fun t' ht _ => ?_⟩
          · cases hl : locB s with
            | true => exact ⟨by rw [if_pos rfl]; exact Taken.origin hf hl, hs⟩
            | false => rw [hl] at h; exact absurd h (by decide)
          · cases hl : locB s with
            | true => rw [hl] at h; exact absurd rfl h
            | false => exact if_neg (by decide)
          · cases ht with
            | origin h1 h2 => rw [h2]; exact ⟨rfl, rfl⟩
            | auth h1 => omega
            | ast h1 => omega
            | abs h1 => omega
        · by_cases h7 : 7 ≤ s.size ∧ sameB (s.data.toList.take 7) httpL = true
          · have hf : formN m.data.toList s.data.toList = 2 := by unfold formN; rw [if_neg hm, if_neg ho, if_neg hh, if_pos (by rw [size_len]; exact h7)]
            obtain ⟨s1, s2⟩ := host_same2 (absH s).data.toList
            by_cases hb : rhostE (absH s).data.toList = 0
            · obtain ⟨c, d⟩ := s2 (s1.2 hb)
              have c' : rhostS (absH s) = hostS (absH s) := by unfold rhostS hostS; rw [c]
              have hR := rpar_abs_ok m s hs hm hh h7.1 h7.2 hb
              rw [c', ← d] at hR
              refine ⟨_, _, hR, fun h => ?_, fun h => ?_, fun t' ht _ => ?_⟩
              · cases hl : locB (absR s) with
                | true => exact ⟨by rw [if_pos rfl]; exact Taken.abs hf (s1.2 hb) hl, hs⟩
                | false => rw [hl] at h; exact absurd h (by decide)
              · cases hl : locB (absR s) with
                | true => rw [hl] at h; exact absurd rfl h
                | false => exact if_neg (by decide)
              · cases ht with
                | abs h1 h2 h3 => rw [h3]; exact ⟨rfl, rfl⟩
                | auth h1 => omega
                | ast h1 => omega
                | origin h1 => omega
            · refine ⟨_, _, rpar_abs_bad m s hs hm hh h7.1 h7.2 hb, fun h => absurd (by omega) hb, fun _ => rfl, fun t' ht _ => ?_⟩
              cases ht with
              | abs h1 h2 h3 => exact absurd (s1.1 h2) hb
              | auth h1 => omega
              | ast h1 => omega
              | origin h1 => omega
          · have hf : formN m.data.toList s.data.toList = 0 := by unfold formN; rw [if_neg hm, if_neg ho, if_neg hh, if_neg (by rw [size_len]; exact h7)]
            refine ⟨_, _, rpar_none m s hs hm ho hh h7, fun h => absurd h (by decide), fun _ => rfl, fun t' ht _ => ?_⟩
            cases ht <;> omega
  · exact ⟨tgZ, 2, rpar_long m s (by omega), fun h => by omega, fun _ => rfl, fun _ _ h => absurd h hs⟩
end Go.Proofs.YtekkhjlipijmcaaGreatDoor
