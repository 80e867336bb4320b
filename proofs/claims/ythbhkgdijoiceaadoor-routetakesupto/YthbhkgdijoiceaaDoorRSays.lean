/- That the program speaks at all. -/
import Derived.Test.YthbhkgdijoiceaaDoorRPlace
namespace Go.Proofs.YthbhkgdijoiceaaDoor
open Go.ChangeShapes Go.WideShapes Go.ChangeAt Go.RowKit

def oneF : List (ByteArray × ByteArray) := [(hostN, ⟨#[72, 58, 49]⟩)]
theorem sp_place (w : World) (re : ByteArray) (l : Value) (hA : Flds w l oneF) (hm : MX w) :
    Calls Tryd.prog 5 #[.agg (hdC true ⟨#[71, 69, 84]⟩ ⟨#[47, 97, 47, 46, 46, 47, 98]⟩ 1 0 re l)] w fun e w' => e = .returned (.tuple #[.string ⟨#[104]⟩, .string ⟨#[47, 98]⟩, .int .i64 0]) ∧ Below w.heap.size w w' := by
  have h := place_one w ⟨#[71, 69, 84]⟩ ⟨#[47, 97, 47, 46, 46, 47, 98]⟩ 1 0 re l oneF hA ⟨by decide, by intro f hf; simp [oneF] at hf; subst hf; decide⟩ (by decide +kernel) ⟨#[72, 58, 49]⟩ (by decide +kernel) hm (by decide) (by decide) (by decide +kernel) (by decide +kernel)
  rw [show hostS ⟨#[72, 58, 49]⟩ = ⟨#[104]⟩ by decide +kernel, show cleanS (cutP ⟨#[47, 97, 47, 46, 46, 47, 98]⟩) = ⟨#[47, 98]⟩ by decide +kernel] at h
  exact h
theorem sp_cov1 (w : World) : Calls Tryd.prog 10 #[.string ⟨#[47, 97]⟩, .string ⟨#[47, 97, 47, 98]⟩] w fun e w' => e = .returned (.bool true) ∧ w' = w := by
  have h := cov_any ⟨#[47, 97]⟩ ⟨#[47, 97, 47, 98]⟩ w (by decide)
  rw [show covB ⟨#[47, 97]⟩ ⟨#[47, 97, 47, 98]⟩ = true by decide +kernel] at h
  exact h
theorem sp_cov2 (w : World) : Calls Tryd.prog 10 #[.string ⟨#[47, 97]⟩, .string ⟨#[47, 97, 98]⟩] w fun e w' => e = .returned (.bool false) ∧ w' = w := by
  have h := cov_any ⟨#[47, 97]⟩ ⟨#[47, 97, 98]⟩ w (by decide)
  rw [show covB ⟨#[47, 97]⟩ ⟨#[47, 97, 98]⟩ = false by decide +kernel] at h
  exact h
theorem sp_takes (w : World) : Calls Tryd.prog 8 #[.agg (mtC ⟨#[42, 46, 99, 111, 109]⟩ ⟨#[47]⟩ (.slice none 0 0) ⟨#[]⟩ ⟨#[]⟩), .agg (hdC false ⟨#[]⟩ ⟨#[]⟩ 0 0 ⟨#[]⟩ (.slice none 0 0)), .string ⟨#[120, 46, 99, 111, 109]⟩, .string ⟨#[47]⟩] w fun e w' => e = .returned (.bool true) ∧ Below w.heap.size w w' := by
  have h := takes_any w ⟨#[42, 46, 99, 111, 109]⟩ ⟨#[47]⟩ (.slice none 0 0) [] ⟨#[]⟩ ⟨#[]⟩ false ⟨#[]⟩ ⟨#[]⟩ 0 0 ⟨#[]⟩ (.slice none 0 0) [] ⟨#[120, 46, 99, 111, 109]⟩ ⟨#[47]⟩
    ⟨none, 0, rfl, fun j hj => absurd hj (Nat.not_lt_zero _)⟩ (by decide) ⟨none, 0, rfl, ⟨Nat.le_refl _, fun _ => rfl⟩, fun j hj => absurd hj (Nat.not_lt_zero _)⟩ ⟨by decide, fun f hf => by cases hf⟩ (by decide) (by decide) (by decide) (by decide)
  rw [show takB ⟨#[42, 46, 99, 111, 109]⟩ ⟨#[47]⟩ [] ⟨#[]⟩ ⟨#[]⟩ ⟨#[]⟩ [] ⟨#[120, 46, 99, 111, 109]⟩ ⟨#[47]⟩ = true by decide +kernel] at h
  exact h
set_option maxHeartbeats 1000000 in
theorem speaks_any (w : World) (hm : MX w) : Calls Tryd.prog 7 #[] w fun e w' => e = .returned (.bool true) ∧ Below w.heap.size w w' := by
  have HM := hide hm
  clear hm
  go_enter Tryd.func7, Tryd.ntmps7
  go_wp2_with fail
  have T0 := hide (Bl.one w #[.string ⟨#[72, 111, 115, 116]⟩, .string ⟨#[72, 58, 49]⟩] 54)
  generalize (w.alloc (.cells #[.string ⟨#[72, 111, 115, 116]⟩, .string ⟨#[72, 58, 49]⟩] 54)) = x at T0 ⊢
  have hF : Flds x (.slice (some ⟨w.heap.size, 0, none⟩) 1 1) oneF := by
    refine ⟨_, 1, rfl, ⟨Nat.le_refl _, fun h => by cases h⟩, fun j hj => ?_⟩
    obtain rfl : j = 0 := by
      have : oneF.length = 1 := rfl
      omega
    exact ⟨w.heap.size, 0, rfl, blk_lt (T0.out.hp 0 _ _ rfl), T0.out.cell 0 rfl 0, T0.out.cell 0 rfl 1⟩
  refine (sp_place x ⟨#[]⟩ _ hF (HM.out.below T0.out.b)).mono ?_
  rintro e w1 ⟨rfl, bb⟩
  have T1 := hide (T0.out.below bb)
  clear bb T0 hF
  go_wp2_with fail
  refine (sp_cov1 _).mono ?_
  rintro e w2 ⟨rfl, rfl⟩
  go_wp2_with fail
  refine (sp_cov2 _).mono ?_
  rintro e w2 ⟨rfl, rfl⟩
  go_wp2_with fail
  refine (sp_takes _).mono ?_
  rintro e w2 ⟨rfl, bb⟩
  have T2 := hide (T1.out.below bb)
  clear bb T1
  go_wp2
  go_ret
  exact ⟨rfl, T2.out.b⟩
end Go.Proofs.YthbhkgdijoiceaaDoor
