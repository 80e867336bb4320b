/- Nothing gets through that would part a line: the statement, walked. -/
import Derived.Test.YtofifncflchpbaaDoorTTaken
namespace Go.Proofs.YtofifncflchpbaaDoor
open Go.ChangeShapes Go.WideShapes Go.ChangeAt Go.RowKit

theorem taken_shape {m s : ByteArray} {t : Value} (h : Taken m s t) : ∃ (f : Int) (h : ByteArray) (p : Int) (pa q : ByteArray) (a : Bool), t = tgV f h p pa q a := by
  cases h <;> exact ⟨_, _, _, _, _, _, rfl⟩
set_option maxHeartbeats 2000000 in
theorem safe_walk (m s : ByteArray) (w : World) (hm : MX w) :
    Calls Tryd.prog 7 #[.string m, .string s] w fun e w' => e = .returned (.bool true) ∧ Below w.heap.size w w' := by
  obtain ⟨t, re, hP, hT, hZ, _⟩ := parse_total m s
  have hshape : ∃ (f : Int) (h : ByteArray) (p : Int) (pa q : ByteArray) (a : Bool), t = tgV f h p pa q a := by
    by_cases h0 : re = 0
    · exact taken_shape (hT h0).1
    · exact ⟨_, _, _, _, _, _, hZ h0⟩
  clear hZ
  have HM := hide hm
  have hS := fun h0 => taken_safe (hT h0).1
  have hL := fun h0 => (hT h0).2
  clear hT
  obtain ⟨f, ho, po, pa, qu, ak, rfl⟩ := hshape
  unfold tgV at hP
  have HP := hide hP
  clear hm hP
  by_cases h0 : re = 0
  · have hsz := hL h0
    have HS := hide (hS h0)
    clear hL hS
    subst h0
    go_enter Tryd.func7, Tryd.ntmps7
    go_wp2_with fail
    refine (HP.out _ HM.out).mono ?_
    rintro e w1 ⟨rfl, b1⟩
    have B1 := hide b1
    clear b1
    go_wp2
    have B1' := hide (B1.out.alloc B1.out.size (.cells #[.int .i64 f, .string ho, .int .i64 po, .string pa, .string qu, .bool ak] 23))
    clear B1
    have B1 := B1'
    clear B1'
    generalize w1.alloc (.cells #[.int .i64 f, .string ho, .int .i64 po, .string pa, .string qu, .bool ak] 23) = w1' at B1 ⊢
    go_loop [7] (fun i => ∃ k : Nat, k ≤ s.size ∧ i = .int .i64 k) (fun i => s.size - (intOf i).toNat)
    case atStart => exact ⟨0, Nat.zero_le _, rfl⟩
    case round =>
      obtain ⟨k, hk, rfl⟩ := hrel
      by_cases hlt : k < s.size
      · have hb := HS.out s[k] (by rw [← Array.mem_def]; exact Array.getElem_mem hlt)
        unfold safe at hb
        have h1 : ¬ (s[k].toNat : Int) < 33 := by omega
        have h2 : ¬ (126 : Int) < (s[k].toNat : Int) := by omega
        go_wp2
        exact ⟨⟨k + 1, by omega, by go_num⟩, by simp [intOf]; omega⟩
      · go_wp2_with fail
        refine (speaks_any _ (HM.out.below B1.out)).mono ?_
        rintro e w2 ⟨rfl, b2⟩
        have B2 := hide (B1.out.trans (b2.mono B1.out.size))
        clear b2 B1
        go_wp2
        go_ret
        exact ⟨rfl, B2.out⟩
  · have t0 : (re == 0) = false := beq_eq_false_iff_ne.2 h0
    clear hS hL
    have H0 := hide h0
    clear h0
    go_enter Tryd.func7, Tryd.ntmps7
    go_wp2_with fail
    refine (HP.out _ HM.out).mono ?_
    rintro e w1 ⟨rfl, b1⟩
    have B1 := hide b1
    clear b1
    go_wp2_with fail
    have B1' := hide (B1.out.alloc B1.out.size (.cells #[.int .i64 f, .string ho, .int .i64 po, .string pa, .string qu, .bool ak] 23))
    clear B1
    have B1 := B1'
    clear B1'
    generalize w1.alloc (.cells #[.int .i64 f, .string ho, .int .i64 po, .string pa, .string qu, .bool ak] 23) = w1' at B1 ⊢
    refine (speaks_any _ (HM.out.below B1.out)).mono ?_
    rintro e w2 ⟨rfl, b2⟩
    have B2 := hide (B1.out.trans (b2.mono B1.out.size))
    clear b2 B1
    go_wp2
    go_ret
    exact ⟨rfl, B2.out⟩
end Go.Proofs.YtofifncflchpbaaDoor
