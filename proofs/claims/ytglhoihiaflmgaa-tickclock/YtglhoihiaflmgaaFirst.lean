/- tick.First tells the least of all moments in a row of numbers, whatever they are, and changes nothing. -/
import Derived.Test.YtglhoihiaflmgaaBase
namespace Go.Proofs.Ytglhoihiaflmgaa
open Go.ChangeShapes Go.WideShapes Go.ChangeAt Go.RowKit

def stepF (s : Int × Bool) (t : Int) : Int × Bool := if mom t = true ∧ (s.2 = false ∨ t < s.1) then (t, true) else s
def firstR (l : List Int) : Int × Bool := l.foldl stepF (0, false)
theorem firstR_snoc (l : List Int) (k : Nat) (h : k < l.length) : firstR (l.take (k + 1)) = stepF (firstR (l.take k)) (l.getD k 0) := by
  unfold firstR
  rw [List.take_succ_eq_append_getElem h, List.foldl_append]
  simp [List.getD, h]
theorem ret2_ib {a b : Int} {c d : Bool} (h : a = b) (k : c = d) : Ending.returned (.tuple #[.int .i64 a, .bool c]) = .returned (.tuple #[.int .i64 b, .bool d]) := by rw [h, k]

set_option maxHeartbeats 400000 in
theorem first_any (b off len cap : Nat) (zs : List Int) (w : World) (hl : len ≤ maxLen) (hz : zs.length = len)
    (hcell : ∀ i, i < len → w.cell? ⟨b, off + i, none⟩ = some (.int .i64 (zs.getD i 0))) :
    Calls Try.prog 14 #[.slice (some ⟨b, off, none⟩) len cap] w fun e w' => e = .returned (.tuple #[.int .i64 (firstR zs).1, .bool (firstR zs).2]) ∧ w = w' := by
  unfold maxLen at hl
  have HZ : Hid (zs.length = len) := hz
  clear hz
  go_enter Try.func14, Try.ntmps14
  go_wp2
  go_loop [4, 5, 10] (fun l f i => ∃ k : Nat, k ≤ len ∧ i = .int .i64 k ∧ l = .int .i64 (firstR (zs.take k)).1 ∧ f = .bool (firstR (zs.take k)).2) (fun _ _ i => len - (intOf i).toNat)
  case atStart => exact ⟨0, Nat.zero_le _, rfl, rfl, rfl⟩
  case round =>
    obtain ⟨k, hk, rfl, rfl, rfl⟩ := hrel
    by_cases hlt : k < len
    · have hc := hcell k hlt
      have HS : Hid (firstR (zs.take (k + 1)) = stepF (firstR (zs.take k)) (zs.getD k 0)) := firstR_snoc zs k (by rw [HZ.out]; exact hlt)
      clear hcell
      generalize firstR (zs.take k) = s at HS
      obtain ⟨m, f⟩ := s
      generalize zs.getD k 0 = z at HS hc
      by_cases hm : mom z = true
      · cases f
        · go_wp2_with (go_at_call 21; refine (isMoment_any _ _).mono ?_; rintro e w' ⟨rfl, rfl⟩)
          go_round
          case rel => exact ⟨k + 1, by omega, by go_num, by rw [HS.out]; simp [stepF, hm], by rw [HS.out]; simp [stepF, hm]⟩
          case measure => simp [intOf]; omega
        · by_cases hzm : z < m
          · have HP : Hid (stepF (m, true) z = (z, true)) := by unfold Hid; simp [stepF, hm, hzm]
            go_wp2_with (go_at_call 21; refine (isMoment_any _ _).mono ?_; rintro e w' ⟨rfl, rfl⟩)
            go_round
            case rel => exact ⟨k + 1, by omega, by go_num, by rw [HS.out, HP.out], by rw [HS.out, HP.out]⟩
            case measure => simp [intOf]; omega
          · have HP : Hid (stepF (m, true) z = (m, true)) := by unfold Hid; simp [stepF, hzm]
            go_wp2_with (go_at_call 21; refine (isMoment_any _ _).mono ?_; rintro e w' ⟨rfl, rfl⟩)
            go_round
            case rel => exact ⟨k + 1, by omega, by go_num, by rw [HS.out, HP.out], by rw [HS.out, HP.out]⟩
            case measure => simp [intOf]; omega
      · have hm : mom z = false := by simpa using hm
        go_wp2_with (go_at_call 21; refine (isMoment_any _ _).mono ?_; rintro e w' ⟨rfl, rfl⟩)
        go_round
        case rel => exact ⟨k + 1, by omega, by go_num, by rw [HS.out]; simp [stepF, hm], by rw [HS.out]; simp [stepF, hm]⟩
        case measure => simp [intOf]; omega
    · have ek : k = len := by omega
      subst ek
      clear hcell
      have HT : Hid (zs.take k = zs) := List.take_of_length_le (by rw [HZ.out]; exact Nat.le_refl _)
      go_wp2
      go_ret2
      exact ⟨ret2_ib (by rw [HT.out]) (by rw [HT.out]), rfl⟩

end Go.Proofs.Ytglhoihiaflmgaa
