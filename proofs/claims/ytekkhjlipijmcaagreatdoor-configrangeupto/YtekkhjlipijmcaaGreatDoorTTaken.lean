/- Parse, whole: what it takes, and what that is. -/
import Derived.Test.YtekkhjlipijmcaaGreatDoorTSays
import Derived.Test.YtekkhjlipijmcaaGreatDoorTRead3
import Derived.Test.YtekkhjlipijmcaaGreatDoorTSafeP
namespace Go.Proofs.YtekkhjlipijmcaaGreatDoor
open Go.ChangeShapes Go.WideShapes Go.ChangeAt Go.RowKit

/-- A target that is taken, and what it tells. -/
inductive Taken (m s : ByteArray) : Value → Prop where
  | auth (hf : formN m.data.toList s.data.toList = 3) (h0 : hostE s.data.toList = 0) (h1 : hostP s.data.toList ≠ -1) : Taken m s (tgV 3 (hostS s) (hostP s.data.toList) ⟨#[]⟩ ⟨#[]⟩ false)
  | ast (hf : formN m.data.toList s.data.toList = 4) : Taken m s (tgV 4 ⟨#[]⟩ (-1) ⟨#[]⟩ ⟨#[]⟩ false)
  | origin (hf : formN m.data.toList s.data.toList = 1) (h0 : locB s = true) : Taken m s (tgV 1 ⟨#[]⟩ (-1) (cutP s) (cutQ s) (cutA s))
  | abs (hf : formN m.data.toList s.data.toList = 2) (h0 : hostE (absH s).data.toList = 0) (h1 : locB (absR s) = true) : Taken m s (tgV 2 (hostS (absH s)) (hostP (absH s).data.toList) (cutP (absR s)) (cutQ (absR s)) (cutA (absR s)))
def tgZ : Value := tgV 0 ⟨#[]⟩ 0 ⟨#[]⟩ ⟨#[]⟩ false
def Parses (m s : ByteArray) (t : Value) (re : Int) : Prop := ∀ w : World, MX w → Calls Tryz.prog 46 #[.string m, .string s] w fun e w' => e = .returned (.tuple #[t, .int .i64 re]) ∧ Below w.heap.size w w'

set_option maxHeartbeats 1000000 in
theorem parse_long (m s : ByteArray) (hs : 8192 < s.size) : Parses m s tgZ 2 := by
  intro w _
  go_enter Tryz.func46, Tryz.ntmps46
  go_wp2
  have T4 := hide (One.start w #[.int .i64 0, .string ⟨#[]⟩, .int .i64 0, .string ⟨#[]⟩, .string ⟨#[]⟩, .bool false])
  generalize (w.alloc (.cells #[.int .i64 0, .string ⟨#[]⟩, .int .i64 0, .string ⟨#[]⟩, .string ⟨#[]⟩, .bool false] 61)) = w4 at T4 ⊢
  have k0 : w4.cell? ⟨w.heap.size, 0, none⟩ = some (.int .i64 0) := T4.out.cell0 0
  have k1 : w4.cell? ⟨w.heap.size, 1, none⟩ = some (.string ⟨#[]⟩) := T4.out.cell0 1
  have k2 : w4.cell? ⟨w.heap.size, 2, none⟩ = some (.int .i64 0) := T4.out.cell0 2
  have k3 : w4.cell? ⟨w.heap.size, 3, none⟩ = some (.string ⟨#[]⟩) := T4.out.cell0 3
  have k4 : w4.cell? ⟨w.heap.size, 4, none⟩ = some (.string ⟨#[]⟩) := T4.out.cell0 4
  have k5 : w4.cell? ⟨w.heap.size, 5, none⟩ = some (.bool false) := T4.out.cell0 5
  exact bodyPost_ret (v := .tuple #[tgZ, .int .i64 2]) (by simp [results, Tryz.results46, go_sem, k0, k1, k2, k3, k4, k5, tgZ, tgV]) rfl ⟨rfl, T4.out.b⟩
theorem form_le (m l : List UInt8) : formN m l = 0 ∨ formN m l = 1 ∨ (formN m l = 2 ∧ 7 ≤ l.length) ∨ formN m l = 3 ∨ formN m l = 4 := by
  unfold formN
  split
  · simp
  · split
    · simp
    · split
      · simp
      · split
        · rename_i h; right; right; left; exact ⟨rfl, h.1⟩
        · simp
theorem parse_total (m s : ByteArray) : ∃ (t : Value) (re : Int), Parses m s t re ∧ (re = 0 → Taken m s t ∧ s.size ≤ 8192) ∧ (re ≠ 0 → t = tgZ) ∧ (∀ t', Taken m s t' → s.size ≤ 8192 → re = 0 ∧ t = t') := by
  by_cases hs : s.size ≤ 8192
  · have go : ∀ (f : Nat), formN m.data.toList s.data.toList = f → ∀ (h : ByteArray) (p : Int) (pa q : ByteArray) (a : Bool) (re : Int),
        (∀ w', MX w' → Calls Tryz.prog 65 #[.int .i64 (f : Int), .string s] w' fun e w'' => e = .returned (.tuple #[tgV f h p pa q a, .int .i64 re]) ∧ Below w'.heap.size w' w'') →
        (re = 0 → Taken m s (tgV f h p pa q a)) → (∀ t', Taken m s t' → re = 0 ∧ tgV f h p pa q a = t') →
        ∃ (t : Value) (re : Int), Parses m s t re ∧ (re = 0 → Taken m s t ∧ s.size ≤ 8192) ∧ (re ≠ 0 → t = tgZ) ∧ (∀ t', Taken m s t' → s.size ≤ 8192 → re = 0 ∧ t = t') := by
      intro f hf h p pa q a re hR hT hU
      refine ⟨if re = 0 then tgV f h p pa q a else tgZ, re, fun w hm => parse_of m s w hs hm f hf h p pa q a re hR, fun h0 => ?_, fun h0 => ?_, fun t' ht _ => ?_⟩
      · rw [if_pos h0]; exact ⟨hT h0, hs⟩
      · rw [if_neg h0]
      · obtain ⟨u1, u2⟩ := hU t' ht
        exact ⟨u1, by rw [if_pos u1]; exact u2⟩
    rcases form_le m.data.toList s.data.toList with hf | hf | ⟨hf, h7⟩ | hf | hf
    · refine go 0 hf ⟨#[]⟩ (-1) ⟨#[]⟩ ⟨#[]⟩ false 60 (fun w' _ => read_none s w') (fun h => by omega) (fun t' ht => ?_)
      cases ht <;> omega
    · refine go 1 hf ⟨#[]⟩ (-1) (cutP s) (cutQ s) (cutA s) (if locB s then 0 else 60) (fun w' hm => read_origin s w' (by omega) hm) (fun h => ?_) (fun t' ht => ?_)
      · cases hl : locB s with
        | true => exact Taken.origin hf hl
        | false => rw [hl] at h; exact absurd h (by decide)
      · cases ht with
        | origin h1 h2 => exact ⟨by rw [h2]; rfl, rfl⟩
        | auth h1 => omega
        | ast h1 => omega
        | abs h1 => omega
    · rw [size_len] at h7
      by_cases hb : hostE (absH s).data.toList = 0
      · refine go 2 hf (hostS (absH s)) (hostP (absH s).data.toList) (cutP (absR s)) (cutQ (absR s)) (cutA (absR s)) (if locB (absR s) then 0 else 60) (fun w' hm => read_abs_ok s w' hs h7 hm hb) (fun h => ?_) (fun t' ht => ?_)
        · cases hl : locB (absR s) with
          | true => exact Taken.abs hf hb hl
          | false => rw [hl] at h; exact absurd h (by decide)
        · cases ht with
          | abs h1 h2 h3 => exact ⟨by rw [h3]; rfl, rfl⟩
          | auth h1 => omega
          | ast h1 => omega
          | origin h1 => omega
      · refine go 2 hf (hostS (absH s)) (hostP (absH s).data.toList) ⟨#[]⟩ ⟨#[]⟩ false (hostE (absH s).data.toList : Nat) (fun w' _ => read_abs_bad s w' hs h7 hb) (fun h => by omega) (fun t' ht => ?_)
        cases ht with
        | abs h1 h2 h3 => exact absurd h2 hb
        | auth h1 => omega
        | ast h1 => omega
        | origin h1 => omega
    · refine go 3 hf (hostS s) (hostP s.data.toList) ⟨#[]⟩ ⟨#[]⟩ false (autE s.data.toList) (fun w' _ => read_auth s w' (by omega)) (fun h => ?_) (fun t' ht => ?_)
      · unfold autE at h
        split at h
        · rename_i h0
          split at h
          · omega
          · rename_i h1; exact Taken.auth hf h0 h1
        · omega
      · cases ht with
        | auth h1 h2 h3 => exact ⟨by unfold autE; rw [if_pos h2, if_neg h3], rfl⟩
        | abs h1 => omega
        | ast h1 => omega
        | origin h1 => omega
    · refine go 4 hf ⟨#[]⟩ (-1) ⟨#[]⟩ ⟨#[]⟩ false 0 (fun w' _ => read_ast s w') (fun _ => Taken.ast hf) (fun t' ht => ?_)
      cases ht with
      | ast h1 => exact ⟨rfl, rfl⟩
      | abs h1 => omega
      | auth h1 => omega
      | origin h1 => omega
  · exact ⟨tgZ, 2, parse_long m s (by omega), fun h => by omega, fun _ => rfl, fun _ _ h => absurd h hs⟩

theorem loc_safe {s : ByteArray} (h : locB s = true) : allSafe s.data.toList := by
  unfold locB at h
  simp only [Bool.and_eq_true] at h
  have h1 := holds_safe (by decide) h.1
  have h2 := holds_safe (by decide) h.2
  unfold cutP at h1
  unfold cutQ at h2
  rw [sS_list] at h1 h2
  exact cut_safe h1 h2
theorem root_safe {s : ByteArray} (h : allSafe (rootS s).data.toList) : allSafe s.data.toList := by
  unfold rootS at h
  split at h
  · exact h
  · rw [app_list] at h
    exact allSafe_of_app h
theorem taken_safe {m s : ByteArray} {t : Value} (h : Taken m s t) : allSafe s.data.toList := by
  cases h with
  | auth hf h0 h1 => exact host_safe h0
  | ast hf =>
    unfold formN at hf
    split at hf
    · omega
    · split at hf
      · rename_i h; rw [h.2]; exact allSafe_cons ⟨by decide, by decide⟩ allSafe_nil
      · split at hf
        · omega
        · split at hf <;> omega
  | origin hf h0 => exact loc_safe h0
  | abs hf h0 h1 =>
    have hT : allSafe (absT s).data.toList := by
      have a := host_safe h0
      have b := root_safe (loc_safe h1)
      unfold absH at a
      rw [ext_take] at a
      rw [ext_drop] at b
      have := allSafe_app a b
      rw [List.take_append_drop] at this
      exact this
    have h7 : allSafe (s.data.toList.take 7) := by
      unfold formN at hf
      split at hf
      · omega
      · split at hf
        · omega
        · split at hf
          · omega
          · split at hf
            · rename_i h
              have := of_decide_eq_true h.2
              refine lower_safe this ?_
              intro c hc
              have hall : ((lowerB httpL).all fun c => decide (33 ≤ c.toNat) && decide (c.toNat ≤ 126)) = true := by decide
              have := List.all_eq_true.1 hall c hc
              simp only [Bool.and_eq_true, decide_eq_true_eq] at this
              exact this
            · omega
    unfold absT at hT
    rw [ext_drop] at hT
    have := allSafe_app h7 hT
    rw [List.take_append_drop] at this
    exact this
end Go.Proofs.YtekkhjlipijmcaaGreatDoor
