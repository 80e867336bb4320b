/- A new parser. -/
import Derived.Test.YtcagjipdldlehaaGreatDoorHBytes2
namespace Go.Proofs.YtcagjipdldlehaaGreatDoor
open Go.ChangeShapes Go.WideShapes Go.ChangeAt Go.RowKit

def pNew (rq : Bool) (most : Nat) : Pz := { most := most, read := 0, line := [], ending := false, passed := 0, fn := if rq then fnReq else fnRes, req := rq, me := ⟨#[]⟩, ta := ⟨#[]⟩, minor := 0, status := 0, re := ⟨#[]⟩, fs := [], whole := false, wrong := 0 }
theorem fit_new (rq : Bool) (most : Nat) (h : most ≤ 65536) : Fit (pNew rq most) := by
  refine ⟨?_, h, Nat.zero_le _, Nat.zero_le _, Nat.zero_le _, Nat.zero_le _⟩
  cases rq with
  | true => exact .inl rfl
  | false => exact .inr (.inl rfl)
/-- What New's block holds. -/
theorem par_new {W : World} {base g : Nat} (p : Pz) (h : W.heap[g]? = some (.cells (pcells p g (.slice none 0 0) (.slice none 0 0)) 92 (0, 0))) (hb : base ≤ g) (hl : p.line = []) (hf : p.fs = []) : Par W base g (.slice none 0 0) (.slice none 0 0) p := by
  refine ⟨h, ?_, ?_, hb, by simp [Value.ownBlock], by simp [Value.ownBlock], by intro k e; simp [Value.ownBlock] at e⟩
  · rw [hl]; exact Row.nil _ _ _
  · rw [hf]; exact FRow.nil _ _
theorem hnew_bad (rq : Bool) (most : Int) (w : World) (h : most < 16 ∨ 65536 < most) :
    Calls Tryz.prog 36 #[.bool rq, .int .i64 most] w fun e w' => e = .returned (.tuple #[.pointer none, .int .i64 1]) ∧ w = w' := by
  by_cases h1 : most < 16
  · go_enter Tryz.func36, Tryz.ntmps36
    go_wp2
    go_ret2
    exact ⟨rfl, rfl⟩
  · have h2 : 65536 < most := by omega
    clear h
    go_enter Tryz.func36, Tryz.ntmps36
    go_wp2
    go_ret2
    exact ⟨rfl, rfl⟩
set_option maxHeartbeats 2000000 in
theorem hnew_any (rq : Bool) (most : Nat) (w : World) (h : 16 ≤ most) (h2 : most ≤ 65536) :
    Calls Tryz.prog 36 #[.bool rq, .int .i64 (most : Int)] w fun e w' => e = .returned (.tuple #[.pointer (some ⟨w.heap.size, 0, none⟩), .int .i64 0]) ∧ Par w' w.heap.size w.heap.size (.slice none 0 0) (.slice none 0 0) (pNew rq most) ∧ Below w.heap.size w w' := by
  have t1 : ¬ (most : Int) < 16 := by omega
  have t2 : ¬ (65536 : Int) < (most : Int) := by omega
  go_enter Tryz.func36, Tryz.ntmps36
  go_upto_region 4 with fail
  have HB := hide ((Below.refl w.heap.size w).alloc (Nat.le_refl _) (.cells #[.int .i64 (most : Int), .int .i64 0, .slice none 0 0, .bool false, .int .i64 0, .nilFunc, .bool rq, .string ⟨#[]⟩, .string ⟨#[]⟩, .int .i64 0, .int .i64 0, .string ⟨#[]⟩, .slice none 0 0, .bool false, .int .i64 0] 92))
  have HD := hide (hp_new w (.cells #[.int .i64 (most : Int), .int .i64 0, .slice none 0 0, .bool false, .int .i64 0, .nilFunc, .bool rq, .string ⟨#[]⟩, .string ⟨#[]⟩, .int .i64 0, .int .i64 0, .string ⟨#[]⟩, .slice none 0 0, .bool false, .int .i64 0] 92))
  generalize w.alloc (.cells #[.int .i64 (most : Int), .int .i64 0, .slice none 0 0, .bool false, .int .i64 0, .nilFunc, .bool rq, .string ⟨#[]⟩, .string ⟨#[]⟩, .int .i64 0, .int .i64 0, .string ⟨#[]⟩, .slice none 0 0, .bool false, .int .i64 0] 92) = x at HB HD ⊢
  have d5 : x.cell? ⟨w.heap.size, 5, none⟩ = some .nilFunc := cell_at HD.out 5
  have f5 : x.frozen? ⟨w.heap.size, 5, none⟩ = false := by rw [frozen_at HD.out]; simp
  go_upto_region 5 with fail
  have HD1 := hide (hp_set HD.out 5 (stVh fnRes w.heap.size))
  have HB1 := hide (HB.out.setCell (p := ⟨w.heap.size, 5, none⟩) (Nat.le_refl _) (stVh fnRes w.heap.size))
  have e5 : x.setCell ⟨w.heap.size, 5, none⟩ (.func (.func 44) #[.pointer (some ⟨w.heap.size, 0, none⟩)] #[]) = x.setCell ⟨w.heap.size, 5, none⟩ (stVh fnRes w.heap.size) := rfl
  rw [e5]
  clear HD HB d5 f5 e5
  generalize x.setCell ⟨w.heap.size, 5, none⟩ (stVh fnRes w.heap.size) = y at HB1 HD1 ⊢
  cases rq with
  | false =>
    go_wp2_with fail
    go_ret2
    exact ⟨rfl, par_new (pNew false most) HD1.out (Nat.le_refl _) rfl rfl, HB1.out⟩
  | true =>
    have d5 : y.cell? ⟨w.heap.size, 5, none⟩ = some (stVh fnRes w.heap.size) := cell_at HD1.out 5
    have f5 : y.frozen? ⟨w.heap.size, 5, none⟩ = false := by rw [frozen_at HD1.out]; simp
    go_wp2_with fail
    go_ret2
    exact ⟨rfl, par_new (pNew true most) (hp_set HD1.out 5 (stVh fnReq w.heap.size)) (Nat.le_refl _) rfl rfl, HB1.out.setCell (p := ⟨w.heap.size, 5, none⟩) (Nat.le_refl _) (stVh fnReq w.heap.size)⟩
end Go.Proofs.YtcagjipdldlehaaGreatDoor
