/- Where a list's first part ends; two lists of texts held against one another. -/
import Derived.Test.YtcagjipdldlehaaGreatDoorVal
import Derived.Test.YtcagjipdldlehaaGreatDoorApp
import Derived.Test.YtcagjipdldlehaaGreatDoorLists
import Derived.Deep.QuietTactic
import Derived.BigQuiet
namespace Go.Proofs.YtcagjipdldlehaaGreatDoor
open Go.ChangeShapes Go.WideShapes Go.ChangeAt Go.RowKit

theorem drop_cons (s : ByteArray) (k : Nat) (h : k < s.size) : s.data.toList.drop k = s[k] :: s.data.toList.drop (k + 1) := by
  rw [List.drop_eq_getElem_cons (by simpa using h)]; rfl
theorem drop_end (s : ByteArray) (k : Nat) (h : s.size ≤ k) : s.data.toList.drop k = [] := List.drop_eq_nil_of_le (by rw [size_len]; exact h)
def pd (s : ByteArray) (q : Bool) (k : Nat) : Nat := pend q false (s.data.toList.drop k)
theorem pd_end {s : ByteArray} {q : Bool} {k : Nat} (h : s.size ≤ k) : pd s q k = 0 := by unfold pd; rw [drop_end s k h]; rfl
theorem pd_quote {s : ByteArray} {q : Bool} {k : Nat} (h : k < s.size) (hc : s[k] = 34) : pd s q k = pd s (!q) (k + 1) + 1 := by
  unfold pd
  rw [drop_cons s k h, pend, hc, if_neg (by simp)]
  simp [nx]
theorem pd_comma {s : ByteArray} {k : Nat} (h : k < s.size) (hc : s[k] = 44) : pd s false k = 0 := by
  unfold pd
  rw [drop_cons s k h, pend, hc, if_pos ⟨rfl, rfl⟩]
theorem pd_other {s : ByteArray} {q : Bool} {k : Nat} (h : k < s.size) (h1 : s[k] ≠ 34) (h2 : s[k] ≠ 92 ∨ q = false) (h3 : s[k] ≠ 44 ∨ q = true) : pd s q k = pd s q (k + 1) + 1 := by
  unfold pd
  rw [drop_cons s k h, pend, if_neg (by rintro ⟨x, y⟩; rcases h3 with h3 | h3; · exact h3 x
                                        · rw [y] at h3; cases h3)]
  have : nx q false s[k] = (q, false) := by
    unfold nx
    rw [if_neg (by simp), if_neg (by rintro ⟨x, y⟩; rcases h2 with h2 | h2; · exact h2 x
                                     · rw [y] at h2; cases h2), if_neg h1]
  rw [this]
theorem pd_skip {s : ByteArray} {k : Nat} (h : k + 1 < s.size) (hc : s[k] = 92) : pd s true k = pd s true (k + 2) + 2 := by
  unfold pd
  rw [drop_cons s k (by omega), pend, hc, if_neg (by simp), drop_cons s (k + 1) h]
  simp [pend, nx]
theorem pd_skip_end {s : ByteArray} {k : Nat} (h : k < s.size) (h2 : s.size = k + 1) (hc : s[k] = 92) : pd s true k = 1 := by
  unfold pd
  rw [drop_cons s k h, pend, hc, if_neg (by simp), drop_end s (k + 1) (by omega)]
  simp [pend]
theorem byte_is {c : UInt8} {n : Nat} (h : c.toNat = n) (hn : n < 256) : c = UInt8.ofNat n := by
  apply UInt8.toNat_inj.1
  rw [h, UInt8.toNat_ofNat']
  omega
theorem byte_ne {c : UInt8} {n : Nat} (h : c.toNat ≠ n) (hn : n < 256) : c ≠ UInt8.ofNat n := by
  rintro rfl
  rw [UInt8.toNat_ofNat'] at h
  omega

set_option maxHeartbeats 1000000 in
theorem pend_any (s : ByteArray) (w : World) (hs : s.size ≤ 140737488355328) :
    Calls Tryz.prog 181 #[.string s] w fun e w' => e = .returned (.int .i64 (pend false false s.data.toList : Nat)) ∧ w = w' := by
  have hP : ∃ P : Nat, Hid (pend false false s.data.toList = P) := ⟨_, hide rfl⟩
  obtain ⟨P, HP⟩ := hP
  have HP0 : Hid (pd s false 0 = P) := hide (by unfold pd; rw [List.drop_zero]; exact HP.out)
  rw [HP.out]
  clear HP
  go_enter Tryz.func181, Tryz.ntmps181
  go_wp2
  go_loop [3, 4] (fun b i => ∃ (k : Nat) (q : Bool), b = .bool q ∧ i = .int .i64 k ∧ k ≤ s.size + 1 ∧ Hid (P = min k s.size + pd s q k)) (fun _ i => s.size + 1 - (intOf i).toNat)
  case atStart => exact ⟨0, false, rfl, rfl, by omega, hide (by rw [HP0.out]; omega)⟩
  case round =>
    obtain ⟨k, q, rfl, rfl, hk, H⟩ := hrel
    by_cases hlt : k < s.size
    · have hb := byte_lt s[k]
      have hm : min k s.size = k := by omega
      have H2 : Hid (P = k + pd s q k) := hide (by have := H.out; rw [hm] at this; exact this)
      clear H hm
      by_cases h34 : s[k].toNat = 34
      · have t34 : (((s[k].toNat : Int)) == 34) = true := beq_iff_eq.2 (by omega)
        have HN := hide (pd_quote (q := q) hlt (byte_is (n := 34) h34 (by decide)))
        go_wp2
        exact ⟨⟨k + 1, !q, rfl, by go_num, by omega, hide (by rw [H2.out, HN.out]; omega)⟩, by simp [intOf]; omega⟩
      · have t34 : (((s[k].toNat : Int)) == 34) = false := beq_eq_false_iff_ne.2 (by omega)
        have n34 := byte_ne (n := 34) h34 (by decide)
        have N34 := hide n34
        clear n34
        by_cases h92 : s[k].toNat = 92
        · have t92 : (((s[k].toNat : Int)) == 92) = true := beq_iff_eq.2 (by omega)
          have t44 : (((s[k].toNat : Int)) == 44) = false := beq_eq_false_iff_ne.2 (by omega)
          have n44 : Hid (s[k] ≠ 44) := hide (byte_ne (n := 44) (by omega) (by omega))
          cases q with
          | true =>
            by_cases he : k + 1 < s.size
            · have HN := hide (pd_skip he (byte_is (n := 92) h92 (by decide)))
              go_wp2
              exact ⟨⟨k + 2, true, rfl, by go_num, by omega, hide (by rw [H2.out, HN.out]; omega)⟩, by simp [intOf]; omega⟩
            · have HN := hide (pd_skip_end hlt (by omega) (byte_is (n := 92) h92 (by decide)))
              have HE := hide (pd_end (s := s) (q := true) (k := k + 2) (by omega))
              go_wp2
              exact ⟨⟨k + 2, true, rfl, by go_num, by omega, hide (by rw [H2.out, HN.out, HE.out]; omega)⟩, by simp [intOf]; omega⟩
          | false =>
            have HN := hide (pd_other (q := false) hlt N34.out (.inr rfl) (.inl n44.out))
            go_wp2
            exact ⟨⟨k + 1, false, rfl, by go_num, by omega, hide (by rw [H2.out, HN.out]; omega)⟩, by simp [intOf]; omega⟩
        · have t92 : (((s[k].toNat : Int)) == 92) = false := beq_eq_false_iff_ne.2 (by omega)
          have n92 := hide (byte_ne (n := 92) h92 (by omega))
          by_cases h44 : s[k].toNat = 44
          · have t44 : (((s[k].toNat : Int)) == 44) = true := beq_iff_eq.2 (by omega)
            cases q with
            | true =>
              have HN := hide (pd_other (q := true) hlt N34.out (.inl n92.out) (.inr rfl))
              go_wp2
              exact ⟨⟨k + 1, true, rfl, by go_num, by omega, hide (by rw [H2.out, HN.out]; omega)⟩, by simp [intOf]; omega⟩
            | false =>
              have HN := hide (pd_comma hlt (byte_is (n := 44) h44 (by decide)))
              go_wp2
              go_ret
              exact ⟨ret_int (by rw [H2.out, HN.out]; omega), rfl⟩
          · have t44 : (((s[k].toNat : Int)) == 44) = false := beq_eq_false_iff_ne.2 (by omega)
            have n44 := hide (byte_ne (n := 44) h44 (by omega))
            have HN := hide (pd_other (q := q) hlt N34.out (.inl n92.out) (.inl n44.out))
            go_wp2
            exact ⟨⟨k + 1, q, rfl, by go_num, by omega, hide (by rw [H2.out, HN.out]; omega)⟩, by simp [intOf]; omega⟩
    · have HE := hide (pd_end (s := s) (q := q) (k := k) (by omega))
      go_wp2
      go_ret
      exact ⟨ret_int (by rw [H.out, HE.out]; omega), rfl⟩
end Go.Proofs.YtcagjipdldlehaaGreatDoor
