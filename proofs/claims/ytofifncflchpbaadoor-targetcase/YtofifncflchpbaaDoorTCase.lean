/- A host's letters, great or small: the statement, walked. -/
import Derived.Test.YtofifncflchpbaaDoorTSays
namespace Go.Proofs.YtofifncflchpbaaDoor
open Go.ChangeShapes Go.WideShapes Go.ChangeAt Go.RowKit

theorem text_one (wr : World) (c : UInt8) (x : Int) (hx : x = (c.toNat : Int)) : (convert 43 9 (.slice (some ⟨wr.heap.size, 0, none⟩) 1 1)).run Tryd.prog (wr.alloc (.cells #[.int .u8 x] 5)) = .ok (.string ⟨#[c]⟩) (wr.alloc (.cells #[.int .u8 x] 5)) := by
  subst hx
  have h : Row (wr.alloc (.cells #[.int .u8 (c.toNat : Int)] 5)) 0 5 (.slice (some ⟨wr.heap.size, 0, none⟩) 1 1) (bc [c]) := by
    refine ⟨rfl, .inr ⟨wr.heap.size, 1, #[.int .u8 (c.toNat : Int)], rfl, Nat.zero_le _, hp_new _ _, Nat.le_refl _, by decide, rfl, ?_⟩⟩
    simp [bc]
  exact h.text
theorem up_snoc (s G : ByteArray) (k : Nat) (h : k < s.size) (hG : G.data.toList = upB (s.data.toList.take k)) : (G ++ ⟨#[upc s[k]]⟩).data.toList = upB (s.data.toList.take (k + 1)) := by
  rw [app_list, hG, take_snoc s k h]
  simp [upB]
set_option maxHeartbeats 2000000 in
theorem case_walk (s : ByteArray) (w : World) (hs : s.size ≤ 140737488355328) (hm : MX w) :
    Calls Tryd.prog 8 #[.string s] w fun e w' => e = .returned (.bool true) ∧ Below w.heap.size w w' := by
  have HM := hide hm
  clear hm
  go_enter Tryd.func8, Tryd.ntmps8
  go_wp2
  go_loopw [3, 4] (fun g i wr => ∃ (k : Nat) (G : ByteArray), i = .int .i64 k ∧ g = .string G ∧ k ≤ s.size ∧ G.size = k ∧ Hid (G.data.toList = upB (s.data.toList.take k)) ∧ Hid (Below w.heap.size w wr)) (fun _ i _ => s.size - (intOf i).toNat)
  case atStart => exact ⟨0, ⟨#[]⟩, rfl, rfl, Nat.zero_le _, rfl, hide rfl, hide (Below.refl _ _)⟩
  case round =>
    obtain ⟨k, G, rfl, rfl, hk, hG, HG, HB⟩ := hrel
    by_cases hlt : k < s.size
    · have hb := byte_lt s[k]
      by_cases h1 : 97 ≤ s[k].toNat ∧ s[k].toNat ≤ 122
      · have ha : (97 : Int) ≤ (s[k].toNat : Int) := by omega
        have hz : (s[k].toNat : Int) ≤ 122 := by omega
        have htx := text_one wr (upc s[k]) ((s[k].toNat : Int) - 97 + 65) (by unfold upc; rw [if_pos h1]; simp; omega)
        have HN := hide (up_snoc s G k hlt HG.out)
        have hsz : (⟨#[upc s[k]]⟩ : ByteArray).size = 1 := rfl
        generalize (⟨#[upc s[k]]⟩ : ByteArray) = E at htx HN hsz
        go_wp2
        exact ⟨⟨k + 1, _, by go_num, rfl, by omega, by rw [app_size]; omega, HN, hide (HB.out.alloc HB.out.size _)⟩, by simp [intOf]; omega⟩
      · have htx := text_one wr (upc s[k]) (s[k].toNat : Int) (by unfold upc; rw [if_neg h1])
        have HN := hide (up_snoc s G k hlt HG.out)
        have hsz : (⟨#[upc s[k]]⟩ : ByteArray).size = 1 := rfl
        generalize (⟨#[upc s[k]]⟩ : ByteArray) = E at htx HN hsz
        by_cases ha : (97 : Int) ≤ (s[k].toNat : Int)
        · have hz : ¬ (s[k].toNat : Int) ≤ 122 := by omega
          go_wp2
          exact ⟨⟨k + 1, _, by go_num, rfl, by omega, by rw [app_size]; omega, HN, hide (HB.out.alloc HB.out.size _)⟩, by simp [intOf]; omega⟩
        · go_wp2
          exact ⟨⟨k + 1, _, by go_num, rfl, by omega, by rw [app_size]; omega, HN, hide (HB.out.alloc HB.out.size _)⟩, by simp [intOf]; omega⟩
    · have hG2 : G = sS (upB s.data.toList) := bytes_ext (by rw [HG.out, sS_list, take_all s k (by omega)])
      have hH1 := fun w => host_any s w hs
      have hH2 := fun w => host_any G w (by omega)
      have hu := up_all3 s.data.toList
      have e1 : hostS G = hostS s := by unfold hostS; rw [hG2, sS_list, hu.1]
      have e2 : hostP G.data.toList = hostP s.data.toList := by rw [hG2, sS_list, hu.2.1]
      have e3 : hostE G.data.toList = hostE s.data.toList := by rw [hG2, sS_list, hu.2.2]
      rw [e1, e2, e3] at hH2
      generalize hostS s = r1 at hH1 hH2
      generalize hostP s.data.toList = r2 at hH1 hH2
      generalize hostE s.data.toList = r3 at hH1 hH2
      have HH1 := hide hH1
      have HH2 := hide hH2
      clear hH1 hH2 e1 e2 e3 hu hG2 HG
      go_wp2_with fail
      refine (HH1.out _).mono ?_
      rintro e w1 ⟨rfl, b1⟩
      have B1 := hide (HB.out.trans (b1.mono HB.out.size))
      clear b1 HB
      go_wp2_with fail
      refine (HH2.out _).mono ?_
      rintro e w2 ⟨rfl, b2⟩
      have B2 := hide (B1.out.trans (b2.mono B1.out.size))
      clear b2 B1
      go_wp2_with fail
      refine (speaks_any _ (HM.out.below B2.out)).mono ?_
      rintro e w3 ⟨rfl, b3⟩
      have B3 := hide (B2.out.trans (b3.mono B2.out.size))
      clear b3 B2
      go_wp2
      go_ret
      exact ⟨rfl, B3.out⟩
end Go.Proofs.YtofifncflchpbaaDoor
