/- A head's first line, and its text. -/
import Derived.Test.YtinmpmbicgokpaaGreatDoorHTxt
namespace Go.Proofs.YtinmpmbicgokpaaGreatDoor
open Go.ChangeShapes Go.WideShapes Go.ChangeAt Go.RowKit

/-- A head whose numbers may be any. -/
structure Hi where
  r : Bool
  me : ByteArray
  ta : ByteArray
  mi : Int
  st : Int
  re : ByteArray
  fs : List (ByteArray × ByteArray)
def hiV (h : Hi) (l : Value) : Value := .agg #[.bool h.r, .string h.me, .string h.ta, .int .i64 h.mi, .int .i64 h.st, .string h.re, l]
structure Hb (h : Hi) : Prop where
  me : h.me.size ≤ 1048576
  ta : h.ta.size ≤ 1048576
  re : h.re.size ≤ 1048576
  mi0 : -9223372036854775808 ≤ h.mi
  mi1 : h.mi ≤ 9223372036854775807
  st0 : -9223372036854775808 ≤ h.st
  st1 : h.st ≤ 9223372036854775807
  fl : h.fs.length ≤ 1048576
  fs : ∀ f ∈ h.fs, f.1.size ≤ 1048576 ∧ f.2.size ≤ 1048576
def verS (mi : Int) : ByteArray := ⟨#[72, 84, 84, 80, 47, 49, 46]⟩ ++ itoaS mi
def firstS (h : Hi) : ByteArray := if h.r then ((h.me ++ ⟨#[32]⟩) ++ h.ta ++ ⟨#[32]⟩) ++ verS h.mi else ((verS h.mi ++ ⟨#[32]⟩) ++ itoaS h.st ++ ⟨#[32]⟩) ++ h.re
theorem verS_size (h : Hi) (hb : Hb h) : (verS h.mi).size ≤ 28 := by
  have := itoaS_size h.mi hb.mi0 hb.mi1
  unfold verS
  rw [app_size]
  have e : (⟨#[72, 84, 84, 80, 47, 49, 46]⟩ : ByteArray).size = 7 := rfl
  omega
theorem firstS_size (h : Hi) (hb : Hb h) : (firstS h).size ≤ 2097220 := by
  have h1 := verS_size h hb
  have h2 := itoaS_size h.st hb.st0 hb.st1
  have h3 := hb.me
  have h4 := hb.ta
  have h5 := hb.re
  have e : (⟨#[32]⟩ : ByteArray).size = 1 := rfl
  unfold firstS
  split <;> simp only [app_size] <;> omega
set_option maxHeartbeats 2000000 in
theorem first_any (h : Hi) (l : Value) (w : World) (hl : ∃ a n c, l = .slice a n c) (hb : Hb h) (ht : PT w) :
    Calls Tryz.prog 47 #[hiV h l] w fun e w' => e = .returned (.string (firstS h)) ∧ Below w.heap.size w w' := by
  have HI1 := hide (fun W hW => itoa_any h.mi W hb.mi0 hb.mi1 hW)
  have HI2 := hide (fun W hW => itoa_any h.st W hb.st0 hb.st1 hW)
  have z1 := itoaS_size h.mi hb.mi0 hb.mi1
  have z2 := itoaS_size h.st hb.st0 hb.st1
  have z3 := hb.me
  have z4 := hb.ta
  have z5 := hb.re
  have HT := hide ht
  obtain ⟨a, n, c, rfl⟩ := hl
  unfold firstS verS hiV
  clear hb ht
  obtain ⟨r, me, ta, mi, st, re, fs⟩ := h
  dsimp only at *
  generalize itoaS mi = ms at HI1 z1 ⊢
  generalize itoaS st = ss at HI2 z2 ⊢
  go_enter Tryz.func47, Tryz.ntmps47
  go_wp2_with fail
  have T0 := hide (Bl.one w #[.bool r, .string me, .string ta, .int .i64 mi, .int .i64 st, .string re, .slice a n c] 25)
  generalize (w.alloc (.cells #[.bool r, .string me, .string ta, .int .i64 mi, .int .i64 st, .string re, .slice a n c] 25)) = x at T0 ⊢
  refine (HI1.out _ (HT.out.below T0.out.b)).mono ?_
  rintro e w1 ⟨rfl, bb⟩
  have T1 := hide (T0.out.below bb)
  clear bb T0
  obtain ⟨r0, r1, r2, r3, r4, r5, r6⟩ := T1.out.hd 0 w.heap.size rfl rfl
  have e7 : (⟨#[72, 84, 84, 80, 47, 49, 46]⟩ : ByteArray).size = 7 := rfl
  have e1 : (⟨#[32]⟩ : ByteArray).size = 1 := rfl
  have y1 : ((⟨#[72, 84, 84, 80, 47, 49, 46]⟩ : ByteArray) ++ ms).size ≤ 28 := by rw [app_size]; omega
  cases r with
  | true =>
    have y2 : (me ++ (⟨#[32]⟩ : ByteArray)).size ≤ 1048577 := by rw [app_size]; omega
    have y3 : ((me ++ (⟨#[32]⟩ : ByteArray)) ++ ta).size ≤ 2097153 := by rw [app_size]; omega
    have y4 : (((me ++ (⟨#[32]⟩ : ByteArray)) ++ ta) ++ (⟨#[32]⟩ : ByteArray)).size ≤ 2097154 := by rw [app_size]; omega
    go_wp2
    go_ret
    exact ⟨rfl, T1.out.b⟩
  | false =>
    generalize ((⟨#[72, 84, 84, 80, 47, 49, 46]⟩ : ByteArray) ++ ms) = vs at y1 ⊢
    have y2 : (vs ++ (⟨#[32]⟩ : ByteArray)).size ≤ 29 := by rw [app_size]; omega
    have y3 : ((vs ++ (⟨#[32]⟩ : ByteArray)) ++ ss).size ≤ 50 := by rw [app_size]; omega
    have y4 : (((vs ++ (⟨#[32]⟩ : ByteArray)) ++ ss) ++ (⟨#[32]⟩ : ByteArray)).size ≤ 51 := by rw [app_size]; omega
    go_upto_region 4 with fail
    have K1 := hide (fun W (hW : Cl w1 W) => HI2.out W ((HT.out.below T1.out.b).below hW.out))
    refine wp_region_cl (by kernel_rfl) (by kernel_rfl) ?_
    refine cl_move _ rfl rfl ?_
    simp only [Act.put, List.setIfInBounds_toArray, List.set_cons_zero, List.set_cons_succ]
    refine cl_val (v := ?_) rfl (fun W hW => ?_) ?_
    rotate_left
    · unfold Oper.quietAt; go_simp; rw [if_neg (by first | omega | (simp only [app_size]; omega))]; (refine And.intro rfl ?_; with_reducible rfl)
    simp only [Act.put, List.setIfInBounds_toArray, List.set_cons_zero, List.set_cons_succ]
    refine cl_val (v := ?_) rfl (fun W hW => ?_) ?_
    rotate_left
    · unfold Oper.quietAt; go_simp; try with_reducible rfl
    simp only [Act.put, List.setIfInBounds_toArray, List.set_cons_zero, List.set_cons_succ]
    refine cl_val (v := ?_) rfl (fun W hW => ?_) ?_
    rotate_left
    · have l0 := hW.cell r4; unfold Oper.quietAt; go_simp; try with_reducible rfl
    simp only [Act.put, List.setIfInBounds_toArray, List.set_cons_zero, List.set_cons_succ]
    refine cl_val (v := .string ss) rfl (fun W hW => ?_) ?_
    · unfold Oper.quietAt; go_simp; exact call_cl hW (K1.out W hW)
    simp only [Act.put, List.setIfInBounds_toArray, List.set_cons_zero, List.set_cons_succ]
    refine cl_val (v := ?_) rfl (fun W hW => ?_) ?_
    rotate_left
    · unfold Oper.quietAt; go_simp; rw [if_neg (by first | omega | (simp only [app_size]; omega))]; (refine And.intro rfl ?_; with_reducible rfl)
    simp only [Act.put, List.setIfInBounds_toArray, List.set_cons_zero, List.set_cons_succ]
    refine cl_val (v := ?_) rfl (fun W hW => ?_) ?_
    rotate_left
    · unfold Oper.quietAt; go_simp; rw [if_neg (by first | omega | (simp only [app_size]; omega))]; (refine And.intro rfl ?_; with_reducible rfl)
    simp only [Act.put, List.setIfInBounds_toArray, List.set_cons_zero, List.set_cons_succ]
    refine cl_val (v := ?_) rfl (fun W hW => ?_) ?_
    rotate_left
    · unfold Oper.quietAt; go_simp; try with_reducible rfl
    simp only [Act.put, List.setIfInBounds_toArray, List.set_cons_zero, List.set_cons_succ]
    refine cl_val (v := ?_) rfl (fun W hW => ?_) ?_
    rotate_left
    · have l0 := hW.cell r5; unfold Oper.quietAt; go_simp; try with_reducible rfl
    simp only [Act.put, List.setIfInBounds_toArray, List.set_cons_zero, List.set_cons_succ]
    refine cl_val (v := ?_) rfl (fun W hW => ?_) ?_
    rotate_left
    · unfold Oper.quietAt; go_simp; rw [if_neg (by first | omega | (simp only [app_size]; omega))]; (refine And.intro rfl ?_; with_reducible rfl)
    simp only [Act.put, List.setIfInBounds_toArray, List.set_cons_zero, List.set_cons_succ]
    refine cl_assign _ rfl rfl ?_
    simp only [Act.put, List.setIfInBounds_toArray, List.set_cons_zero, List.set_cons_succ]
    refine wpQuiet_nil ?_
    intro z Hz
    go_wp2
    go_ret
    exact ⟨rfl, T1.out.b.trans (Hz.out.mono T1.out.b.size)⟩
end Go.Proofs.YtinmpmbicgokpaaGreatDoor
