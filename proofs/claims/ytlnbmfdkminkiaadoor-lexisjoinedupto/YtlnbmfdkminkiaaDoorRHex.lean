/- The document's hex digits. -/
import Derived.Test.YtlnbmfdkminkiaaDoorFmt
namespace Go.Proofs.YtlnbmfdkminkiaaDoor
open Go.ChangeShapes Go.WideShapes Go.ChangeAt Go.RowKit

/-- What is still to be written ahead of t. -/
def Hx (n a : Nat) (t : List UInt8) : Prop := (t = [] ∧ a = n) ∨ (t ≠ [] ∧ 0 < a ∧ hexD n = hexD a ++ t) ∨ (t ≠ [] ∧ a = 0 ∧ hexD n = t)
theorem Hx.next {n a : Nat} {t : List UInt8} (h : Hx n a t) (hg : 0 < a ∨ t = []) : Hx n (a / 16) (hexc (a % 16) :: t) := by
  have e : hexD n = hexD a ++ t := by
    rcases h with ⟨h1, h2⟩ | ⟨_, _, h3⟩ | ⟨h1, h2, _⟩
    · rw [h1, h2]; simp
    · exact h3
    · rcases hg with hg | hg
      · omega
      · exact absurd hg h1
  by_cases h16 : a < 16
  · right; right
    refine ⟨by simp, by omega, ?_⟩
    rw [e, hexD_last h16, Nat.mod_eq_of_lt h16]
    rfl
  · right; left
    refine ⟨by simp, by omega, ?_⟩
    rw [e, hexD_step h16]
    simp
theorem Hx.len {n a : Nat} {t : List UInt8} (h : Hx n a t) (hn : n ≤ 9007199254740992) : t.length ≤ 14 := by
  have := hexD_len14 hn
  rcases h with ⟨h1, _⟩ | ⟨_, _, h3⟩ | ⟨_, _, h3⟩
  · rw [h1]; simp
  · rw [h3, List.length_append] at this; omega
  · rw [h3] at this; exact this
theorem Hx.done {n a : Nat} {t : List UInt8} (h : Hx n a t) (h0 : ¬ 0 < a) (h1 : t ≠ []) : hexD n = t := by
  rcases h with ⟨h2, _⟩ | ⟨_, h2, _⟩ | ⟨_, _, h3⟩
  · exact absurd h2 h1
  · exact absurd h2 h0
  · exact h3

theorem hex16 : ∀ k : Fin 16, (⟨#[48, 49, 50, 51, 52, 53, 54, 55, 56, 57, 97, 98, 99, 100, 101, 102]⟩ : ByteArray).extract k.val (k.val + 1) = ⟨#[hexc k.val]⟩ := by decide
theorem slice16 (a : Int) (h0 : 0 ≤ a) (w : World) : (Instr.slice 9 (.string ⟨#[48, 49, 50, 51, 52, 53, 54, 55, 56, 57, 97, 98, 99, 100, 101, 102]⟩) (some (.int .i64 (a % 16))) (some (.int .i64 (a % 16 + 1))) none).run Tryd.prog w = .ok (.string ⟨#[hexc (a.toNat % 16)]⟩) w := by
  have h1 : 0 ≤ a % 16 := by omega
  have h2 : a % 16 + 1 ≤ 16 := by omega
  rw [run_slice_string (P := Tryd.prog) w 9 ⟨#[48, 49, 50, 51, 52, 53, 54, 55, 56, 57, 97, 98, 99, 100, 101, 102]⟩ .i64 .i64 (a % 16) (a % 16 + 1) Tryd.underlying9 h1 (by omega) h2]
  have := hex16 ⟨a.toNat % 16, Nat.mod_lt _ (by decide)⟩
  rw [show (a % 16).toNat = a.toNat % 16 by omega, show (a % 16 + 1).toNat = a.toNat % 16 + 1 by omega, this]

set_option maxHeartbeats 1000000 in
theorem rhex_yes (n : Nat) (hn : n ≤ 9007199254740992) (w : World) :
    Calls Tryd.prog 23 #[.int .i64 n] w fun e w' => e = .returned (.tuple #[.string ⟨(hexD n).toArray⟩, .int .i64 0]) ∧ w = w' := by
  go_enter Tryd.func23, Tryd.ntmps23
  go_wp2
  go_loop [4, 5] (fun s m => ∃ (t : ByteArray) (a : Int), s = .string t ∧ m = .int .i64 a ∧ 0 ≤ a ∧ a ≤ 9007199254740992 ∧ Hid (Hx n a.toNat t.data.toList)) (fun s m => 2 * (intOf m).toNat + (1 - strLen s))
  case atStart => exact ⟨⟨#[]⟩, n, rfl, rfl, by omega, by omega, hide (.inl ⟨rfl, by simp⟩)⟩
  case round =>
    obtain ⟨t, a, rfl, rfl, ha0, ha1, H⟩ := hrel
    have hz : t.size ≤ 14 := by rw [← size_len]; exact H.out.len hn
    have hsl := slice16 a ha0
    have hds : (⟨#[hexc (a.toNat % 16)]⟩ : ByteArray).size = 1 := rfl
    have hdl : (⟨#[hexc (a.toNat % 16)]⟩ : ByteArray).data.toList = [hexc (a.toNat % 16)] := rfl
    have HT : (0 < a ∨ t.data.toList = []) → Hx n (a / 16).toNat ((⟨#[hexc (a.toNat % 16)]⟩ : ByteArray) ++ t).data.toList := by
      intro hg
      rw [app_list, hdl, show (a / 16).toNat = a.toNat / 16 by omega]
      exact H.out.next (by rcases hg with hg | hg; · left; omega
                           · exact .inr hg)
    have HT2 := hide HT
    clear HT hdl
    generalize (⟨#[hexc (a.toNat % 16)]⟩ : ByteArray) = d at hsl hds HT2
    have HM := hide (app_size d t)
    by_cases hg : 0 < a
    · have HT3 := hide (HT2.out (.inl hg))
      go_wp2
      refine ⟨⟨_, _, rfl, rfl, by omega, by omega, HT3⟩, ?_⟩
      simp only [intOf, strLen]
      rw [HM.out]
      omega
    · by_cases ht : t.size = 0
      · have he : t.toList.isEmpty = true := by rw [Lib.toList_data, isEmpty_size]; exact decide_eq_true ht
        have HT3 := hide (HT2.out (.inr (nil_list t (by omega))))
        have ha : a = 0 := by omega
        have H0 := hide ha
        clear ha
        go_wp2
        refine ⟨⟨_, _, rfl, rfl, by omega, by omega, HT3⟩, ?_⟩
        simp only [intOf, strLen]
        have := H0.out
        rw [HM.out]
        omega
      · have he : t.toList.isEmpty = false := by rw [Lib.toList_data, isEmpty_size]; exact decide_eq_false ht
        have HD := hide (H.out.done (by omega) (fun e => by have := size_len t; rw [e] at this; simp at this; omega))
        clear hsl
        go_wp2
        go_ret2
        exact ⟨ret2s (n := 0) ⟨by rw [HD.out], rfl⟩, rfl⟩

set_option maxHeartbeats 400000 in
theorem rhex_any (n : Int) (w : World) :
    Calls Tryd.prog 23 #[.int .i64 n] w fun e w' => e = .returned (.tuple #[.string (hexS n), .int .i64 (hexE n)]) ∧ w = w' := by
  by_cases h0 : 0 ≤ n
  · by_cases h1 : n ≤ 9007199254740992
    · obtain ⟨m, rfl⟩ := Int.eq_ofNat_of_zero_le h0
      obtain ⟨e1, e2⟩ := hexS_yes (n := m) (by omega)
      rw [e1, e2]
      exact rhex_yes m (by omega) w
    · have HN := hide (hexS_no (n := n) (.inr (by omega)))
      go_enter Tryd.func23, Tryd.ntmps23
      go_wp2
      go_ret2
      exact ⟨ret2s ⟨HN.out.1, by rw [HN.out.2]; rfl⟩, rfl⟩
  · have HN := hide (hexS_no (n := n) (.inl (by omega)))
    go_enter Tryd.func23, Tryd.ntmps23
    go_wp2
    go_ret2
    exact ⟨ret2s ⟨HN.out.1, by rw [HN.out.2]; rfl⟩, rfl⟩
end Go.Proofs.YtlnbmfdkminkiaaDoor
