/- The program's list of a text's elements. -/
import Derived.Test.YtcagjipdldlehaaGreatDoorPend
import Derived.Test.YtcagjipdldlehaaGreatDoorStrs
namespace Go.Proofs.YtcagjipdldlehaaGreatDoor
open Go.ChangeShapes Go.WideShapes Go.ChangeAt Go.RowKit

def sS (l : List UInt8) : ByteArray := ⟨l.toArray⟩
theorem sS_list (l : List UInt8) : (sS l).data.toList = l := by simp [sS]
theorem sS_size (l : List UInt8) : (sS l).size = l.length := by rw [← size_len, sS_list]
theorem sS_of (s : ByteArray) : sS s.data.toList = s := by cases s; simp [sS]
/-- The elements, as texts. -/
def listS (l : List UInt8) : List ByteArray := (listB l).map sS
theorem listS_len (l : List UInt8) : (listS l).length ≤ l.length := by unfold listS; rw [List.length_map]; exact listB_len l
theorem trimS_eq (s : ByteArray) : trimS s = sS (trimB s.data.toList) := rfl

theorem ext_take (t : ByteArray) (e : Nat) : (t.extract 0 e).data.toList = t.data.toList.take e := by rw [ext_list, List.drop_zero, Nat.sub_zero]
theorem ext_drop (t : ByteArray) (e : Nat) : (t.extract e t.size).data.toList = t.data.toList.drop e := by
  rw [ext_list]
  exact List.take_of_length_le (by rw [List.length_drop, size_len]; omega)
theorem drop_min (t : ByteArray) (e : Nat) : t.data.toList.drop (min (e + 1) t.size) = t.data.toList.drop (e + 1) := by
  by_cases h : e + 1 ≤ t.size
  · rw [Nat.min_eq_left h]
  · rw [Nat.min_eq_right (by omega), drop_end t _ (Nat.le_refl _), drop_end t _ (by omega)]

/-- One part more: the element that it adds, if it is not empty, and what is left. -/
theorem list_step (t : ByteArray) (h : 0 < t.size) (m : Nat) (hm : m = min (pend false false t.data.toList + 1) t.size) :
    listS t.data.toList = (if (trimS (t.extract 0 (pend false false t.data.toList))).size = 0 then [] else [trimS (t.extract 0 (pend false false t.data.toList))]) ++ listS (t.extract m t.size).data.toList := by
  have hn : t.data.toList ≠ [] := fun e => by have := size_len t; rw [e] at this; simp at this; omega
  unfold listS
  rw [listB_cons hn, List.map_append, ext_drop, hm, drop_min]
  congr 1
  rw [trimS_eq, ext_take, sS_size]
  unfold elem
  by_cases h0 : trimB (t.data.toList.take (pend false false t.data.toList)) = []
  · rw [if_pos h0, h0]; rfl
  · rw [if_neg h0, if_neg (by intro e; exact h0 (List.eq_nil_of_length_eq_zero e))]; rfl

set_option maxHeartbeats 1000000 in
theorem list_any (s : ByteArray) (w : World) (hs : s.size ≤ 1099511627776) :
    Calls Tryz.prog 171 #[.string s] w fun e w' => ∃ v, e = .returned v ∧ Row w' w.heap.size 9 v (sc (listS s.data.toList)) ∧ Below w.heap.size w w' := by
  go_enter Tryz.func171, Tryz.ntmps171
  go_wp2
  go_loopw [0, 3] (fun x v wr => ∃ (t : ByteArray) (O : List ByteArray), x = .string t ∧ t.size ≤ s.size ∧ Hid (listS s.data.toList = O ++ listS t.data.toList) ∧ Hid (Row wr w.heap.size 9 v (sc O)) ∧ Hid (Below w.heap.size w wr)) (fun x _ _ => strLen x)
  case atStart => exact ⟨s, [], rfl, Nat.le_refl _, hide rfl, hide (Row.nil _ _ _), hide (Below.refl _ _)⟩
  case round =>
    obtain ⟨t, O, rfl, ht, H, HR, HB⟩ := hrel
    obtain ⟨a, c, rfl, _, _⟩ := HR.out.shape
    rw [sc_len] at *
    by_cases h0 : 0 < t.size
    · have he : t.toList.isEmpty = false := by rw [Lib.toList_data, isEmpty_size]; exact decide_eq_false (by omega)
      have hpl := pend_le t.data.toList false false
      rw [size_len] at hpl
      have hP := pend_any t
      have HS := list_step t h0
      generalize pend false false t.data.toList = P at hP HS hpl
      have HP := hide hP
      clear hP
      obtain ⟨m, hm⟩ : ∃ m, m = min (P + 1) t.size := ⟨_, rfl⟩
      have HS2 := hide (HS m hm)
      clear HS
      go_wp2_with (go_at_call 181; refine (HP.out _ (by omega)).mono ?_; rintro e w' ⟨rfl, rfl⟩)
      have hO : O.length ≤ s.size := by
        have h1 := listS_len s.data.toList
        rw [H.out, List.length_append, size_len] at h1
        omega
      have hez := ext_size t 0 P
      have hxz : (t.extract 0 P).size ≤ 281474976710656 := by omega
      have HX := hide (trim_any (t.extract 0 P))
      generalize trimS (t.extract 0 P) = x at HX HS2
      clear hez
      refine (HX.out _ hxz).mono ?_
      rintro e w1 ⟨rfl, hb1⟩
      have HB1 := hide (HB.out.trans (hb1.mono HB.out.size))
      have HR1 := hide (HR.out.below hb1)
      clear hb1 HX
      have hmz := ext_size t m t.size
      have HM := hide hmz
      clear hmz
      by_cases hx : x.size = 0
      · have hxe : x.toList.isEmpty = true := by rw [Lib.toList_data, isEmpty_size]; exact decide_eq_true hx
        have HF : Hid (listS s.data.toList = O ++ listS (t.extract m t.size).data.toList) := hide (by rw [H.out, HS2.out, if_pos hx]; rfl)
        have hmt : (min ((P : Int) + 1) (t.size : Int)).toNat = m := by omega
        have HMT := hide hmt
        clear hmt
        go_wp2
        rw [HMT.out]
        exact ⟨⟨_, O, rfl, by rw [HM.out]; omega, HF, HR1, HB1⟩, by simp only [strLen]; rw [HM.out]; omega⟩
      · have hxe : x.toList.isEmpty = false := by rw [Lib.toList_data, isEmpty_size]; exact decide_eq_false hx
        have HF : Hid (listS s.data.toList = (O ++ [x]) ++ listS (t.extract m t.size).data.toList) := hide (by rw [H.out, HS2.out, if_neg hx, List.append_assoc])
        have hmt : (min ((P : Int) + 1) (t.size : Int)).toNat = m := by omega
        have HMT := hide hmt
        clear hmt
        go_wp2_with (at_builtin; apply Hid.out)
        unfold Hid
        refine wpList_append_one elS rfl _ _ rfl w1 w.heap.size (.slice a O.length c) (sc O) (.string x) rfl rfl HR1.out rfl (by rw [sc_len]; omega) (by rw [sc_len]; omega) HB1.out.size ?_
        intro v' w2 O' B'
        have O2 := hide O'
        have B2 := hide (HB1.out.trans B')
        clear O' B'
        go_wp2
        rw [HMT.out]
        exact ⟨⟨_, O ++ [x], rfl, by rw [HM.out]; omega, HF, hide (by rw [sc_snoc]; exact O2.out), B2⟩, by simp only [strLen]; rw [HM.out]; omega⟩
    · have he : t.toList.isEmpty = true := by rw [Lib.toList_data, isEmpty_size]; exact decide_eq_true (by omega)
      have HE : Hid (listS s.data.toList = O) := hide (by rw [H.out, nil_list t h0]; simp [listS, listB_nil])
      go_wp2
      go_ret
      exact ⟨_, rfl, by rw [HE.out]; exact HR.out, HB.out⟩
end Go.Proofs.YtcagjipdldlehaaGreatDoor
