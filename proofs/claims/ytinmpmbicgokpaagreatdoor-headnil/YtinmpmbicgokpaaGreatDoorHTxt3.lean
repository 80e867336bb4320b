/- A head's text, as the program puts it together. -/
import Derived.Test.YtinmpmbicgokpaaGreatDoorHTxt2
namespace Go.Proofs.YtinmpmbicgokpaaGreatDoor
open Go.ChangeShapes Go.WideShapes Go.ChangeAt Go.RowKit

def fldL (f : ByteArray × ByteArray) : List UInt8 := f.1.data.toList ++ ([58, 32] ++ (f.2.data.toList ++ [13, 10]))
/-- Fields behind a text; behind 65536 bytes no more of them. -/
def txt (acc : List UInt8) : List (ByteArray × ByteArray) → List UInt8
  | [] => acc
  | f :: r => if 65536 < acc.length then acc else txt (acc ++ fldL f) r
def textL (h : Hi) : List UInt8 := txt ((firstS h).data.toList ++ [13, 10]) h.fs ++ [13, 10]
theorem txt_stop {acc : List UInt8} (h : 65536 < acc.length) (A : List (ByteArray × ByteArray)) : txt acc A = acc := by
  cases A with
  | nil => rfl
  | cons f r => rw [txt, if_pos h]
theorem txt_end {acc : List UInt8} {A : List (ByteArray × ByteArray)} {k : Nat} (h : A.length ≤ k) : txt acc (A.drop k) = acc := by
  rw [List.drop_of_length_le h]; rfl
theorem txt_step {acc : List UInt8} {A : List (ByteArray × ByteArray)} {k : Nat} (h : ¬ 65536 < acc.length) (hk : k < A.length) {f : ByteArray × ByteArray} (hf : A[k] = f) : txt acc (A.drop k) = txt (acc ++ fldL f) (A.drop (k + 1)) := by
  rw [List.drop_eq_getElem_cons hk, hf, txt, if_neg h]
theorem app4 (l a b : List UInt8) : ((((l ++ a) ++ [58, 32]) ++ b) ++ [13, 10]) = l ++ (a ++ ([58, 32] ++ (b ++ [13, 10]))) := by simp
set_option maxHeartbeats 4000000 in
theorem text_any (h : Hi) (l : Value) (w : World) (hF : Flds w l h.fs) (hb : Hb h) (ht : PT w) :
    Calls Tryz.prog 27 #[hiV h l] w fun e w' => e = .returned (.string ⟨(textL h).toArray⟩) ∧ Below w.heap.size w w' := by
  have hsz := firstS_size h hb
  have HFI := hide (fun W hl hW => first_any h l W hl hb hW)
  have HT := hide ht
  have HFS := hide hb.fs
  have hal := hb.fl
  have F0 := hide hF
  obtain ⟨a0, c0, rfl, _, hcells⟩ := hF
  have HC0 := hide hcells
  obtain ⟨T, hT⟩ : ∃ T, textL h = T := ⟨_, rfl⟩
  rw [hT]
  unfold textL at hT
  have HTX := hide hT
  clear hb ht hcells hT
  generalize firstS h = fsS at hsz HFI HTX
  unfold hiV at HFI ⊢
  obtain ⟨r, me, ta, mi, st, re, A⟩ := h
  dsimp only at *
  go_enter Tryz.func27, Tryz.ntmps27
  go_upto_region 2 with fail
  have D := hide (Bd.start w #[.bool r, .string me, .string ta, .int .i64 mi, .int .i64 st, .string re, .slice a0 A.length c0])
  generalize ((w.alloc (.cells #[.bool r, .string me, .string ta, .int .i64 mi, .int .i64 st, .string re, .slice a0 A.length c0] 25)).alloc (.cells #[.pointer none, .slice none 0 0] 98)) = x at D ⊢
  have k0 : x.cell? ⟨w.heap.size, 0, none⟩ = some (.bool r) := D.out.cell 0
  have k1 : x.cell? ⟨w.heap.size, 1, none⟩ = some (.string me) := D.out.cell 1
  have k2 : x.cell? ⟨w.heap.size, 2, none⟩ = some (.string ta) := D.out.cell 2
  have k3 : x.cell? ⟨w.heap.size, 3, none⟩ = some (.int .i64 mi) := D.out.cell 3
  have k4 : x.cell? ⟨w.heap.size, 4, none⟩ = some (.int .i64 st) := D.out.cell 4
  have k5 : x.cell? ⟨w.heap.size, 5, none⟩ = some (.string re) := D.out.cell 5
  have k6 : x.cell? ⟨w.heap.size, 6, none⟩ = some (.slice a0 A.length c0) := D.out.cell 6
  go_wp2_with fail
  refine (HFI.out x ⟨_, _, _, rfl⟩ (HT.out.below D.out.b)).mono ?_
  rintro e x1 ⟨rfl, b1⟩
  have D1 := hide (D.out.cl b1)
  clear b1 D k0 k1 k2 k3 k4 k5 k6
  go_wp2_with fail
  refine (write_any D1.out fsS (by simp; omega)).mono ?_
  rintro e x2 ⟨rfl, d2, -⟩
  have D2 := hide d2
  clear d2 D1
  go_wp2_with fail
  refine (write_any D2.out ⟨#[13, 10]⟩ (by have e2 : (⟨#[13, 10]⟩ : ByteArray).size = 2 := rfl; rw [List.nil_append, size_len]; omega)).mono ?_
  rintro e x3 ⟨rfl, d3, -⟩
  rw [List.nil_append] at d3
  have D3 : Hid (Bd w x3 #[.bool r, .string me, .string ta, .int .i64 mi, .int .i64 st, .string re, .slice a0 A.length c0] (fsS.data.toList ++ [13, 10])) := hide d3
  clear d3 D2
  have k6 : x3.cell? ⟨w.heap.size, 6, none⟩ = some (.slice a0 A.length c0) := D3.out.cell 6
  go_wp2_with fail
  go_loopw [13] (fun i wr => ∃ (k : Nat) (acc : List UInt8), k ≤ A.length ∧ i = .int .i64 k ∧ acc.length ≤ 2200000 ∧ Hid (Bd w wr #[.bool r, .string me, .string ta, .int .i64 mi, .int .i64 st, .string re, .slice a0 A.length c0] acc) ∧ Hid (txt acc (A.drop k) ++ [13, 10] = T)) (fun i _ => A.length - (intOf i).toNat)
  case atStart => exact ⟨0, fsS.data.toList ++ [13, 10], Nat.zero_le _, rfl, by rw [List.length_append, size_len]; simp; omega, D3, HTX⟩
  case round =>
    obtain ⟨k, acc, hk, rfl, hacc, HD, HTT⟩ := hrel
    clear k6
    have HEND : Hid (∀ W (hW : Bd w W #[.bool r, .string me, .string ta, .int .i64 mi, .int .i64 st, .string re, .slice a0 A.length c0] acc), Calls Tryz.prog 46 #[.pointer (some ⟨w.heap.size + 1, 0, none⟩), .string ⟨#[13, 10]⟩] W fun e x' => e = .returned (.tuple #[.int .i64 2, .nilIface]) ∧ Bd w x' #[.bool r, .string me, .string ta, .int .i64 mi, .int .i64 st, .string re, .slice a0 A.length c0] (acc ++ [13, 10])) :=
      hide (fun W hW => (write_any hW ⟨#[13, 10]⟩ (by have e2 : (⟨#[13, 10]⟩ : ByteArray).size = 2 := rfl; omega)).mono (fun _ _ ⟨h1, h2, _⟩ => ⟨h1, h2⟩))
    by_cases hlt : k < A.length
    · obtain ⟨g1, o1, rfl, hg1, q1, q2⟩ := HC0.out k hlt
      have hz := HFS.out A[k] (List.getElem_mem hlt)
      have HST := hide (fun (hh : ¬ 65536 < acc.length) f hf => txt_step (acc := acc) hh hlt (f := f) hf)
      obtain ⟨⟨na, nb⟩, hfe⟩ : ∃ f, A[k] = f := ⟨_, rfl⟩
      rw [hfe] at q1 q2 hz
      have HST2 := hide (fun hh => HST.out hh _ hfe)
      obtain ⟨hza, hzb⟩ := hz
      dsimp only at q1 q2 hza hzb
      have q3 : wr.cell? ⟨g1, o1 + k * 2, none⟩ = some (.string na) := (HD.out.b.cell (p := ⟨g1, o1 + k * 2, none⟩) hg1).trans q1
      have q4 : wr.cell? ⟨g1, o1 + k * 2 + 1, none⟩ = some (.string nb) := (HD.out.b.cell (p := ⟨g1, o1 + k * 2 + 1, none⟩) hg1).trans q2
      clear q1 q2 hg1 hfe HST
      go_upto_region 7 with fail
      have DD := hide ((Below.refl _ wr).alloc (Nat.le_refl _) (.cells #[.string na, .string nb] 51))
      have HD2 := hide (HD.out.cl DD.out)
      have HFB : Hid ((wr.alloc (.cells #[.string na, .string nb] 51)).heap[wr.heap.size]? = some (.cells #[.string na, .string nb] 51)) := hide (hp_new wr _)
      have HWL : Hid (w.heap.size + 1 < wr.heap.size) := hide HD.out.low
      generalize (wr.alloc (.cells #[.string na, .string nb] 51)) = y at DD HD2 HFB ⊢
      clear q3 q4 DD HD
      go_wp2_with fail
      refine (len_any HD2.out).mono ?_
      rintro e y' ⟨rfl, rfl⟩
      by_cases hgt : 65536 < acc.length
      · have HTE : Hid (acc ++ [13, 10] = T) := hide (by have := HTT.out; rw [txt_stop hgt] at this; exact this)
        have hgi : (65536 : Int) < (acc.length : Int) := by omega
        go_wp2_with fail
        refine (HEND.out _ HD2.out).mono ?_
        rintro e y2 ⟨rfl, d2⟩
        have D2 := hide d2
        clear d2
        go_wp2_with fail
        refine (string_any D2.out).mono ?_
        rintro e y3 ⟨rfl, b3⟩
        have B3 := hide b3
        clear b3
        go_wp2
        go_ret
        exact ⟨by rw [← HTE.out]; rfl, B3.out⟩
      · have HS2 := hide (HST2.out hgt)
        have hgi : ¬ (65536 : Int) < (acc.length : Int) := by omega
        have f0 : y.cell? ⟨wr.heap.size, 0, none⟩ = some (.string na) := cell_at HFB.out 0
        go_wp2_with fail
        refine (write_any HD2.out na (by omega)).mono ?_
        rintro e y1 ⟨rfl, d1, kp1⟩
        have D1 := hide d1
        have F1 := hide (kept_two kp1 HFB.out HWL.out)
        clear d1 kp1 f0 HD2 HFB
        go_wp2_with fail
        refine (write_any D1.out ⟨#[58, 32]⟩ (by have e2 : (⟨#[58, 32]⟩ : ByteArray).size = 2 := rfl; rw [List.length_append, size_len]; omega)).mono ?_
        rintro e y2 ⟨rfl, d2, kp2⟩
        have D2 := hide d2
        have F2 := hide (kept_two kp2 F1.out HWL.out)
        clear d2 kp2 D1 F1
        have f1 : y2.cell? ⟨wr.heap.size, 1, none⟩ = some (.string nb) := cell_at F2.out 1
        go_wp2_with fail
        refine (write_any D2.out nb (by have e2 : (⟨#[58, 32]⟩ : ByteArray).data.toList.length = 2 := rfl; rw [List.length_append, List.length_append, size_len, e2]; omega)).mono ?_
        rintro e y3 ⟨rfl, d3, -⟩
        have D3 := hide d3
        clear d3 D2 F2 f1
        go_wp2_with fail
        refine (write_any D3.out ⟨#[13, 10]⟩ (by have e2 : (⟨#[58, 32]⟩ : ByteArray).data.toList.length = 2 := rfl; have e3 : (⟨#[13, 10]⟩ : ByteArray).size = 2 := rfl; rw [List.length_append, List.length_append, List.length_append, size_len, size_len, e2]; omega)).mono ?_
        rintro e y4 ⟨rfl, d4, -⟩
        have D4 : Hid (Bd w y4 #[.bool r, .string me, .string ta, .int .i64 mi, .int .i64 st, .string re, .slice (some ⟨g1, o1, none⟩) A.length c0] (acc ++ fldL (na, nb))) := hide (by rw [show acc ++ fldL (na, nb) = ((((acc ++ na.data.toList) ++ [58, 32]) ++ nb.data.toList) ++ [13, 10]) from (app4 _ _ _).symm]; exact d4)
        have HLN : Hid ((acc ++ fldL (na, nb)).length ≤ 2200000) := hide (by unfold fldL; simp only [List.length_append, size_len, List.length_cons, List.length_nil]; omega)
        have HT2 : Hid (txt (acc ++ fldL (na, nb)) (A.drop (k + 1)) ++ [13, 10] = T) := hide (by rw [← HS2.out]; exact HTT.out)
        clear d4 D3
        generalize acc ++ fldL (na, nb) = acc2 at D4 HLN HT2
        go_wp2
        exact ⟨⟨k + 1, acc2, by omega, by go_num, HLN.out, D4, HT2⟩, by simp [intOf]; omega⟩
    · have HTE : Hid (acc ++ [13, 10] = T) := hide (by have := HTT.out; rw [txt_end (by omega)] at this; exact this)
      go_wp2_with fail
      refine (HEND.out _ HD.out).mono ?_
      rintro e y2 ⟨rfl, d2⟩
      have D2 := hide d2
      clear d2
      go_wp2_with fail
      refine (string_any D2.out).mono ?_
      rintro e y3 ⟨rfl, b3⟩
      have B3 := hide b3
      clear b3
      go_wp2
      go_ret
      exact ⟨by rw [← HTE.out]; rfl, B3.out⟩
end Go.Proofs.YtinmpmbicgokpaaGreatDoor
