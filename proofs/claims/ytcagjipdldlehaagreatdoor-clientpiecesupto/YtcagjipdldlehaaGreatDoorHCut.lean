/- A text parted at its first byte of a kind: the document's way, the library's. -/
import Derived.Test.YtcagjipdldlehaaGreatDoorVal
import Derived.Test.YtcagjipdldlehaaGreatDoorNum
import Derived.Test.YtcagjipdldlehaaGreatDoorFChk
import Derived.Deep.QuietTactic
import Derived.BigQuiet
import Derived.Handy
namespace Go.Proofs.YtcagjipdldlehaaGreatDoor
open Go.ChangeShapes Go.WideShapes Go.ChangeAt Go.RowKit

theorem data_inj {a b : ByteArray} (h : a.data.toList = b.data.toList) : a = b := by
  cases a; cases b; simp only [ByteArray.mk.injEq]; exact Array.toList_inj.1 h
theorem str_eq (a : ByteArray) (l : List UInt8) : (a.toList == l) = decide (a.data.toList = l) := by rw [Lib.toList_data, beq_list]
def cu1 (c : UInt8) (l : List UInt8) : List UInt8 := l.takeWhile fun x => x != c
def cu2 (c : UInt8) (l : List UInt8) : List UInt8 := (l.dropWhile fun x => x != c).tail
def cu3 (c : UInt8) (l : List UInt8) : Bool := l.contains c
theorem cu_no {c : UInt8} : ∀ {l : List UInt8}, (∀ x ∈ l, x ≠ c) → cu1 c l = l ∧ cu2 c l = [] ∧ cu3 c l = false := by
  intro l h
  have h1 : ∀ x ∈ l, (x != c) = true := fun x hx => by simpa using h x hx
  have hd : ∀ {l : List UInt8}, (∀ x ∈ l, (x != c) = true) → l.takeWhile (fun x => x != c) = l ∧ l.dropWhile (fun x => x != c) = [] := by
    intro l
    induction l with
    | nil => intro _; exact ⟨rfl, rfl⟩
    | cons y r ih =>
      intro hh
      have hy := hh y List.mem_cons_self
      have hr := ih fun x hx => hh x (List.mem_cons_of_mem _ hx)
      rw [List.takeWhile_cons, List.dropWhile_cons, hy]
      simp only [if_true]
      exact ⟨by rw [hr.1], hr.2⟩
  refine ⟨(hd h1).1, ?_, ?_⟩
  · unfold cu2
    rw [(hd h1).2]
    rfl
  · unfold cu3
    rw [List.contains_eq_mem]
    exact decide_eq_false fun hm => h c hm rfl
theorem cu_yes {c : UInt8} {a b : List UInt8} (h : ∀ x ∈ a, x ≠ c) : cu1 c (a ++ c :: b) = a ∧ cu2 c (a ++ c :: b) = b ∧ cu3 c (a ++ c :: b) = true := by
  have h1 : ∀ x ∈ a, (x != c) = true := fun x hx => by simpa using h x hx
  refine ⟨?_, ?_, ?_⟩
  · unfold cu1
    rw [List.takeWhile_append_of_pos h1]
    simp
  · unfold cu2
    rw [List.dropWhile_append_of_pos h1]
    simp
  · unfold cu3
    simp
theorem cu_at {c : UInt8} {l : List UInt8} {k : Nat} (hk : k < l.length) (h : ∀ x ∈ l.take k, x ≠ c) (he : l[k] = c) : cu1 c l = l.take k ∧ cu2 c l = l.drop (k + 1) ∧ cu3 c l = true := by
  have e : l = l.take k ++ c :: l.drop (k + 1) := by rw [← he]; simp
  have := cu_yes (c := c) (a := l.take k) (b := l.drop (k + 1)) h
  rw [← e] at this
  exact this
/-- Every text has no byte of the kind, or parts at its first one. -/
theorem cu_form (c : UInt8) (l : List UInt8) : (∀ x ∈ l, x ≠ c) ∨ ∃ a b, l = a ++ c :: b ∧ ∀ x ∈ a, x ≠ c := by
  induction l with
  | nil => exact .inl fun x hx => by simp at hx
  | cons y r ih =>
    by_cases hy : y = c
    · exact .inr ⟨[], r, by rw [hy]; rfl, fun x hx => by simp at hx⟩
    · rcases ih with h | ⟨a, b, h1, h2⟩
      · exact .inl fun x hx => by
          rcases List.mem_cons.1 hx with rfl | hx
          · exact hy
          · exact h x hx
      · exact .inr ⟨y :: a, b, by rw [h1]; rfl, fun x hx => by
          rcases List.mem_cons.1 hx with rfl | hx
          · exact hy
          · exact h2 x hx⟩
def k1 (c : UInt8) (s : ByteArray) : ByteArray := sS (cu1 c s.data.toList)
def k2 (c : UInt8) (s : ByteArray) : ByteArray := sS (cu2 c s.data.toList)
def k3 (c : UInt8) (s : ByteArray) : Bool := cu3 c s.data.toList
theorem k1_size (c : UInt8) (s : ByteArray) : (k1 c s).size ≤ s.size := by
  unfold k1
  rw [sS_size, ← size_len]
  unfold cu1
  exact (List.takeWhile_sublist _).length_le
theorem k2_size (c : UInt8) (s : ByteArray) : (k2 c s).size ≤ s.size := by
  unfold k2
  rw [sS_size, ← size_len]
  unfold cu2
  have h := (List.dropWhile_sublist (fun x => x != c) (l := s.data.toList)).length_le
  rw [List.length_tail]
  omega
set_option maxHeartbeats 1000000 in
theorem rcut_any (s : ByteArray) (c : UInt8) (w : World) (hs : s.size ≤ 65536) :
    Calls Tryz.prog 99 #[.string s, .int .u8 (c.toNat : Int)] w fun e w' => e = .returned (.tuple #[.string (k1 c s), .string (k2 c s), .bool (k3 c s)]) ∧ Below w.heap.size w w' := by
  have hc := byte_lt c
  unfold k1 k2 k3
  go_enter Tryz.func99, Tryz.ntmps99
  go_wp2
  go_loop [7] (fun i => ∃ k : Nat, k ≤ s.size ∧ i = .int .i64 k ∧ Hid (∀ x ∈ s.data.toList.take k, x ≠ c)) (fun i => s.size - (intOf i).toNat)
  case atStart => exact ⟨0, Nat.zero_le _, rfl, hide (fun x hx => by simp at hx)⟩
  case round =>
    obtain ⟨k, hk, rfl, HN⟩ := hrel
    by_cases hlt : k < s.size
    · have HTS := hide (take_snoc s k hlt)
      have hlen : k < s.data.toList.length := by rw [size_len]; exact hlt
      by_cases he : s[k] = c
      · have t1 : (((s[k].toNat : Int)) == (c.toNat : Int)) = true := by rw [byte_eqI, he]; simp
        have HC := hide (cu_at (c := c) hlen HN.out (by rw [← he]; rfl))
        clear he HTS
        go_wp2
        go_quiet (fail)
        go_wp2
        have E1 : sS (cu1 c s.data.toList) = s.extract 0 k := data_inj (by rw [sS_list, HC.out.1, ext_list, List.drop_zero, Nat.sub_zero])
        have E2 : sS (cu2 c s.data.toList) = s.extract (k + 1) s.size := data_inj (by
          rw [sS_list, HC.out.2.1, ext_list, List.take_of_length_le]
          rw [List.length_drop, size_len]
          omega)
        exact bodyPost_ret (v := .tuple #[.string (s.extract 0 k), .string (s.extract (k + 1) s.size), .bool true]) (by simp [results, Tryz.results99, go_sem]) rfl ⟨by rw [E1, E2, HC.out.2.2], ⟨rfl, rfl, rfl, Nat.le_refl _, fun _ _ => rfl⟩⟩
      · have t1 : (((s[k].toNat : Int)) == (c.toNat : Int)) = false := by rw [byte_eqI]; simpa using he
        have HN2 : Hid (∀ x ∈ s.data.toList.take (k + 1), x ≠ c) := hide (fun x hx => by
          rw [HTS.out, List.mem_append] at hx
          rcases hx with h1 | h1
          · exact HN.out x h1
          · simp only [List.mem_singleton] at h1
            rw [h1]; exact he)
        clear he HTS
        go_wp2
        exact ⟨⟨k + 1, by omega, by go_num, HN2⟩, by simp [intOf]; omega⟩
    · have HC := hide (cu_no (c := c) (by have := HN.out; rw [take_all s k (by omega)] at this; exact this))
      go_wp2
      exact bodyPost_ret (v := .tuple #[.string s, .string ⟨#[]⟩, .bool false]) (by simp [results, Tryz.results99, go_sem]) rfl ⟨by rw [HC.out.1, HC.out.2.1, HC.out.2.2, show sS s.data.toList = s from data_inj (sS_list _)]; rfl, Below.refl _ _⟩
end Go.Proofs.YtcagjipdldlehaaGreatDoor
