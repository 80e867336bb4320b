/- Letters made great, a number in digits: what the statements write. -/
import Derived.Test.YtalihfohdejalaaDoorGSays
import Derived.Lib.ItoaLen
namespace Go.Proofs.YtalihfohdejalaaDoor
open Go.ChangeShapes Go.WideShapes Go.ChangeAt Go.RowKit

def upB (l : List UInt8) : List UInt8 := l.map upc
theorem upc_up {c : UInt8} (h : 97 ≤ c.toNat) (h2 : c.toNat ≤ 122) : ((upc c).toNat : Int) = c.toNat - 32 := by
  unfold upc
  rw [if_pos ⟨h, h2⟩, UInt8.toNat_ofNat']
  omega
theorem upc_id {c : UInt8} (h : ¬ (97 ≤ c.toNat ∧ c.toNat ≤ 122)) : upc c = c := by unfold upc; rw [if_neg h]
theorem up_snoc (s : ByteArray) (k : Nat) (h : k < s.size) : upB (s.data.toList.take (k + 1)) = upB (s.data.toList.take k) ++ [upc s[k]] := by
  rw [take_snoc s k h]; simp [upB]
theorem up_len (s : ByteArray) (k : Nat) (h : k ≤ s.size) : (bc (upB (s.data.toList.take k))).length = k := by
  simp [bc, upB]; omega
set_option maxHeartbeats 400000 in
theorem great_any (s : ByteArray) (w : World) (hs : s.size ≤ 140737488355328) :
    Calls Tryd.prog 15 #[.string s] w fun e w' => e = .returned (.string (upS s)) ∧ Below w.heap.size w w' := by
  go_enter Tryd.func15, Tryd.ntmps15
  go_wp2
  go_loopw [3, 4] (fun o i wr => ∃ k : Nat, k ≤ s.size ∧ i = .int .i64 k ∧ Hid (Row wr w.heap.size 5 o (bc (upB (s.data.toList.take k)))) ∧ Hid (Below w.heap.size w wr)) (fun _ i _ => s.size - (intOf i).toNat)
  case atStart => exact ⟨0, Nat.zero_le _, rfl, hide (Row.nil _ _ _), hide (Below.refl _ _)⟩
  case round =>
    obtain ⟨k, hk, rfl, HR, HB⟩ := hrel
    have HN := hide (up_len s k hk)
    by_cases hlt : k < s.size
    · have hb := byte_lt s[k]
      have HS := hide (up_snoc s k hlt)
      obtain ⟨a, c, rfl, _, _⟩ := HR.out.shape
      have HR2 : ∀ (x : Int) (v : Value) (W : World), ((upc s[k]).toNat : Int) = x → Row W w.heap.size 5 v (bc (upB (s.data.toList.take k)) ++ [.int .u8 x]) → Row W w.heap.size 5 v (bc (upB (s.data.toList.take (k + 1)))) := by
        intro x v W hx h
        rw [HS.out, bc_snoc, hx]
        exact h
      have HR3 := hide HR2
      clear HR2
      by_cases hu : 97 ≤ s[k].toNat ∧ s[k].toNat ≤ 122
      · have HL := hide (upc_up hu.1 hu.2)
        obtain ⟨h1, h2⟩ := hu
        go_wp2_with (at_builtin; apply Hid.out)
        unfold Hid
        refine wpList_append_one elB rfl _ _ rfl wr w.heap.size (.slice a (bc (upB (s.data.toList.take k))).length c) (bc (upB (s.data.toList.take k))) (.int .u8 ((s[k].toNat : Int) - 97 + 65)) rfl rfl HR.out rfl (by rw [HN.out]; omega) (by rw [HN.out]; omega) HB.out.size ?_
        intro v' w' O' B'
        have O2 := hide O'
        have B2 := hide (HB.out.trans B')
        clear O' B'
        go_wp2
        exact ⟨⟨k + 1, by omega, by go_num, hide (HR3.out _ _ _ (by rw [HL.out]; omega) O2.out), B2⟩, by simp [intOf]; omega⟩
      · have HL := hide (upc_id hu)
        by_cases h1 : 97 ≤ s[k].toNat
        · have h2 : 122 < s[k].toNat := by omega
          clear hu
          go_wp2_with (at_builtin; apply Hid.out)
          unfold Hid
          refine wpList_append_one elB rfl _ _ rfl wr w.heap.size (.slice a (bc (upB (s.data.toList.take k))).length c) (bc (upB (s.data.toList.take k))) (.int .u8 (s[k].toNat : Int)) rfl rfl HR.out rfl (by rw [HN.out]; omega) (by rw [HN.out]; omega) HB.out.size ?_
          intro v' w' O' B'
          have O2 := hide O'
          have B2 := hide (HB.out.trans B')
          clear O' B'
          go_wp2
          exact ⟨⟨k + 1, by omega, by go_num, hide (HR3.out _ _ _ (by rw [HL.out]) O2.out), B2⟩, by simp [intOf]; omega⟩
        · clear hu
          go_wp2_with (at_builtin; apply Hid.out)
          unfold Hid
          refine wpList_append_one elB rfl _ _ rfl wr w.heap.size (.slice a (bc (upB (s.data.toList.take k))).length c) (bc (upB (s.data.toList.take k))) (.int .u8 (s[k].toNat : Int)) rfl rfl HR.out rfl (by rw [HN.out]; omega) (by rw [HN.out]; omega) HB.out.size ?_
          intro v' w' O' B'
          have O2 := hide O'
          have B2 := hide (HB.out.trans B')
          clear O' B'
          go_wp2
          exact ⟨⟨k + 1, by omega, by go_num, hide (HR3.out _ _ _ (by rw [HL.out]) O2.out), B2⟩, by simp [intOf]; omega⟩
    · have ht := HR.out.text
      rw [take_all s k (by omega)] at ht
      go_wp2
      go_ret
      exact ⟨rfl, HB.out⟩

def decc (d : Nat) : UInt8 := UInt8.ofNat (48 + d)
theorem data_inj {a b : ByteArray} (h : a.data.toList = b.data.toList) : a = b := by
  cases a; cases b; simp only [ByteArray.mk.injEq]; exact Array.toList_inj.1 h
theorem decD_last {a : Nat} (h : a < 10) : Lib.decDigits a = [decc a] := by rw [Lib.decDigits, dif_pos h]; rfl
theorem decD_step {a : Nat} (h : ¬ a < 10) : Lib.decDigits a = Lib.decDigits (a / 10) ++ [decc (a % 10)] := by rw [Lib.decDigits, dif_neg h]; rfl
theorem decD_len21 {n : Nat} (hn : n ≤ 9007199254740992) : (Lib.decDigits n).length ≤ 21 := by
  have := Lib.itoa_length_le n (by omega) (by omega)
  rwa [Lib.itoa_nonneg] at this
/-- What is still to be written ahead of t. -/
def Dx (n a : Nat) (t : List UInt8) : Prop := (t = [] ∧ a = n) ∨ (t ≠ [] ∧ 0 < a ∧ Lib.decDigits n = Lib.decDigits a ++ t) ∨ (t ≠ [] ∧ a = 0 ∧ Lib.decDigits n = t)
theorem Dx.next {n a : Nat} {t : List UInt8} (h : Dx n a t) (hg : 0 < a ∨ t = []) : Dx n (a / 10) (decc (a % 10) :: t) := by
  have e : Lib.decDigits n = Lib.decDigits a ++ t := by
    rcases h with ⟨h1, h2⟩ | ⟨_, _, h3⟩ | ⟨h1, h2, _⟩
    · rw [h1, h2]; simp
    · exact h3
    · rcases hg with hg | hg
      · omega
      · exact absurd hg h1
  by_cases h10 : a < 10
  · right; right
    refine ⟨by simp, by omega, ?_⟩
    rw [e, decD_last h10, Nat.mod_eq_of_lt h10]
    rfl
  · right; left
    refine ⟨by simp, by omega, ?_⟩
    rw [e, decD_step h10]
    simp
theorem Dx.len {n a : Nat} {t : List UInt8} (h : Dx n a t) (hn : n ≤ 9007199254740992) : t.length ≤ 21 := by
  have := decD_len21 hn
  rcases h with ⟨h1, _⟩ | ⟨_, _, h3⟩ | ⟨_, _, h3⟩
  · rw [h1]; simp
  · rw [h3, List.length_append] at this; omega
  · rw [h3] at this; exact this
theorem Dx.done {n a : Nat} {t : List UInt8} (h : Dx n a t) (h0 : ¬ 0 < a) (h1 : t ≠ []) : Lib.decDigits n = t := by
  rcases h with ⟨h2, _⟩ | ⟨_, h2, _⟩ | ⟨_, _, h3⟩
  · exact absurd h2 h1
  · exact absurd h2 h0
  · exact h3

theorem dig10 : ∀ k : Fin 10, (⟨#[48, 49, 50, 51, 52, 53, 54, 55, 56, 57]⟩ : ByteArray).extract k.val (k.val + 1) = ⟨#[decc k.val]⟩ := by decide
theorem slice10 (a : Int) (h0 : 0 ≤ a) (w : World) : (Instr.slice 9 (.string ⟨#[48, 49, 50, 51, 52, 53, 54, 55, 56, 57]⟩) (some (.int .i64 (a % 10))) (some (.int .i64 (a % 10 + 1))) none).run Tryd.prog w = .ok (.string ⟨#[decc (a.toNat % 10)]⟩) w := by
  have h1 : 0 ≤ a % 10 := by omega
  have h2 : a % 10 + 1 ≤ 10 := by omega
  rw [run_slice_string (P := Tryd.prog) w 9 ⟨#[48, 49, 50, 51, 52, 53, 54, 55, 56, 57]⟩ .i64 .i64 (a % 10) (a % 10 + 1) Tryd.underlying9 h1 (by omega) h2]
  have := dig10 ⟨a.toNat % 10, Nat.mod_lt _ (by decide)⟩
  rw [show (a % 10).toNat = a.toNat % 10 by omega, show (a % 10 + 1).toNat = a.toNat % 10 + 1 by omega, this]

set_option maxHeartbeats 1000000 in
theorem text_any (n : Nat) (hn : n ≤ 9007199254740992) (w : World) :
    Calls Tryd.prog 14 #[.int .i64 n] w fun e w' => e = .returned (.string (decS n)) ∧ w = w' := by
  go_enter Tryd.func14, Tryd.ntmps14
  go_wp2
  go_loop [3, 4] (fun s m => ∃ (t : ByteArray) (a : Int), s = .string t ∧ m = .int .i64 a ∧ 0 ≤ a ∧ a ≤ 9007199254740992 ∧ Hid (Dx n a.toNat t.data.toList)) (fun s m => 2 * (intOf m).toNat + (1 - strLen s))
  case atStart => exact ⟨⟨#[]⟩, n, rfl, rfl, by omega, by omega, hide (.inl ⟨rfl, by simp⟩)⟩
  case round =>
    obtain ⟨t, a, rfl, rfl, ha0, ha1, H⟩ := hrel
    have hz : t.size ≤ 21 := by rw [← size_len]; exact H.out.len hn
    have hsl := slice10 a ha0
    have hds : (⟨#[decc (a.toNat % 10)]⟩ : ByteArray).size = 1 := rfl
    have hdl : (⟨#[decc (a.toNat % 10)]⟩ : ByteArray).data.toList = [decc (a.toNat % 10)] := rfl
    have HT : (0 < a ∨ t.data.toList = []) → Dx n (a / 10).toNat ((⟨#[decc (a.toNat % 10)]⟩ : ByteArray) ++ t).data.toList := by
      intro hg
      rw [app_list, hdl, show (a / 10).toNat = a.toNat / 10 by omega]
      exact H.out.next (by rcases hg with hg | hg; · left; omega
                           · exact .inr hg)
    have HT2 := hide HT
    clear HT hdl
    generalize (⟨#[decc (a.toNat % 10)]⟩ : ByteArray) = d at hsl hds HT2
    have HM := hide (app_size d t)
    by_cases hg : 0 < a
    · have HT3 := hide (HT2.out (.inl hg))
      go_wp2
      refine ⟨⟨_, _, rfl, rfl, by omega, by omega, HT3⟩, ?_⟩
      simp only [intOf, strLen]
      rw [HM.out]
      omega
    · by_cases ht : t.size = 0
      · have he : t.toList.isEmpty = true := by rw [Lib.toList_data, isEmpty_size]; exact decide_eq_true ht
        have HT3 := hide (HT2.out (.inr (nil_list t (by omega))))
        have ha : a = 0 := by omega
        have H0 := hide ha
        clear ha
        go_wp2
        refine ⟨⟨_, _, rfl, rfl, by omega, by omega, HT3⟩, ?_⟩
        simp only [intOf, strLen]
        have := H0.out
        rw [HM.out]
        omega
      · have he : t.toList.isEmpty = false := by rw [Lib.toList_data, isEmpty_size]; exact decide_eq_false ht
        have HD := hide (H.out.done (by omega) (fun e => by have := size_len t; rw [e] at this; simp at this; omega))
        have HE : Hid (decS n = t) := hide (by unfold decS; rw [HD.out]; exact data_inj (sS_list _))
        clear hsl
        go_wp2
        go_ret
        exact ⟨by rw [HE.out]; rfl, rfl⟩

end Go.Proofs.YtalihfohdejalaaDoor
