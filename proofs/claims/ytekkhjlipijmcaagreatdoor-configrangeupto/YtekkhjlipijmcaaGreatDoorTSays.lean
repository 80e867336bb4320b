/- That the program speaks at all: three answers. -/
import Derived.Test.YtekkhjlipijmcaaGreatDoorTParse
namespace Go.Proofs.YtekkhjlipijmcaaGreatDoor
open Go.ChangeShapes Go.WideShapes Go.ChangeAt Go.RowKit

theorem parse_origin (m s : ByteArray) (w : World) (hs : s.size ≤ 8192) (hm : MX w) (hf : formN m.data.toList s.data.toList = 1) :
    Calls Tryz.prog 46 #[.string m, .string s] w fun e w' => e = .returned (.tuple #[if locB s = true then tgV 1 ⟨#[]⟩ (-1) (cutP s) (cutQ s) (cutA s) else tgV 0 ⟨#[]⟩ 0 ⟨#[]⟩ ⟨#[]⟩ false, .int .i64 (if locB s then 0 else 60)]) ∧ Below w.heap.size w w' := by
  refine (parse_of m s w hs hm 1 hf ⟨#[]⟩ (-1) (cutP s) (cutQ s) (cutA s) (if locB s then 0 else 60) (fun w' hm' => read_origin s w' (by omega) hm')).mono ?_
  rintro e w' ⟨rfl, b⟩
  refine ⟨?_, b⟩
  cases locB s <;> rfl
theorem sp_parse (w : World) (hm : MX w) : Calls Tryz.prog 46 #[.string ⟨#[71, 69, 84]⟩, .string ⟨#[47, 97, 63, 98]⟩] w fun e w' => e = .returned (.tuple #[tgV 1 ⟨#[]⟩ (-1) ⟨#[47, 97]⟩ ⟨#[98]⟩ true, .int .i64 0]) ∧ Below w.heap.size w w' := by
  have h := parse_origin ⟨#[71, 69, 84]⟩ ⟨#[47, 97, 63, 98]⟩ w (by decide) hm (by decide)
  rw [show locB ⟨#[47, 97, 63, 98]⟩ = true by decide +kernel, if_pos rfl, if_pos rfl, show cutP ⟨#[47, 97, 63, 98]⟩ = ⟨#[47, 97]⟩ by decide +kernel, show cutQ ⟨#[47, 97, 63, 98]⟩ = ⟨#[98]⟩ by decide +kernel, show cutA ⟨#[47, 97, 63, 98]⟩ = true by decide +kernel] at h
  exact h
theorem sp_host (w : World) : Calls Tryz.prog 39 #[.string ⟨#[69, 120, 46, 99, 111, 109, 58, 56, 48]⟩] w fun e w' => e = .returned (.tuple #[.string ⟨#[101, 120, 46, 99, 111, 109]⟩, .int .i64 80, .int .i64 0]) ∧ Below w.heap.size w w' := by
  have h := host_any ⟨#[69, 120, 46, 99, 111, 109, 58, 56, 48]⟩ w (by decide)
  rw [show hostS ⟨#[69, 120, 46, 99, 111, 109, 58, 56, 48]⟩ = ⟨#[101, 120, 46, 99, 111, 109]⟩ by decide +kernel, show hostP (⟨#[69, 120, 46, 99, 111, 109, 58, 56, 48]⟩ : ByteArray).data.toList = 80 by decide +kernel, show hostE (⟨#[69, 120, 46, 99, 111, 109, 58, 56, 48]⟩ : ByteArray).data.toList = 0 by decide +kernel] at h
  exact h
theorem sp_clean (w : World) (hm : MX w) : Calls Tryz.prog 47 #[.string ⟨#[47, 97, 47, 46, 47, 98, 47, 46, 46, 47, 99, 47, 46, 46]⟩] w fun e w' => e = .returned (.tuple #[.string ⟨#[47, 97, 47]⟩, .int .i64 0]) ∧ Below w.heap.size w w' := by
  have h := clean_any ⟨#[47, 97, 47, 46, 47, 98, 47, 46, 46, 47, 99, 47, 46, 46]⟩ w hm
  rw [show cleanS ⟨#[47, 97, 47, 46, 47, 98, 47, 46, 46, 47, 99, 47, 46, 46]⟩ = ⟨#[47, 97, 47]⟩ by decide +kernel, show cleanE (⟨#[47, 97, 47, 46, 47, 98, 47, 46, 46, 47, 99, 47, 46, 46]⟩ : ByteArray).data.toList = 0 by decide +kernel] at h
  exact h
end Go.Proofs.YtekkhjlipijmcaaGreatDoor
