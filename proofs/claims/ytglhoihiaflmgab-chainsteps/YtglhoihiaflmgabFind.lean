/- Find: the place of the first byte of a kind, or -1. -/
import Derived.Test.YtglhoihiaflmgabTake
import Derived.Lib.BytesEntry
namespace Go.Proofs.Ytglhoihiaflmgab
open Go.ChangeShapes Go.WideShapes Go.ChangeAt Go.RowKit

def findI : List Int → Int → Int
  | [], _ => -1
  | y :: l, x => if y = x then 0 else if findI l x = -1 then -1 else findI l x + 1

theorem findI_bd (l : List Int) (x : Int) : -1 ≤ findI l x ∧ findI l x < l.length := by
  induction l with
  | nil => simp [findI]
  | cons y l ih =>
    simp only [findI, List.length_cons]
    repeat' split
    all_goals omega

theorem findI_append (A B : List Int) (x : Int) : findI (A ++ B) x = if findI A x = -1 then (if findI B x = -1 then -1 else A.length + findI B x) else findI A x := by
  induction A with
  | nil =>
    simp only [List.nil_append, findI, List.length_nil, if_true]
    split <;> simp_all
  | cons y l ih =>
    have b1 := findI_bd l x
    have b2 := findI_bd B x
    simp only [List.cons_append, findI, ih, List.length_cons]
    repeat' split
    all_goals first | rfl | omega

def Bytes (l : List Int) : Prop := ∀ x ∈ l, 0 ≤ x ∧ x ≤ 255

theorem byte_eq {y x : Int} (hy : 0 ≤ y ∧ y ≤ 255) (hx : 0 ≤ x ∧ x ≤ 255) : (UInt8.ofNat y.toNat == x.toNat.toUInt8) = decide (y = x) := by
  rw [Bool.eq_iff_iff]
  simp only [beq_iff_eq, decide_eq_true_eq]
  constructor
  · intro h
    have h2 := congrArg UInt8.toNat h
    simp only [Nat.toUInt8, UInt8.toNat_ofNat'] at h2
    omega
  · rintro rfl; rfl

theorem indexByte_findI (l : List Int) (x : Int) (hl : Bytes l) (hx : 0 ≤ x ∧ x ≤ 255) : Lib.indexByte (Lib.bytesOf l) x.toNat.toUInt8 = findI l x := by
  induction l with
  | nil => rfl
  | cons y l ih =>
    have ih := ih (fun z hz => hl z (by simp [hz]))
    have e := byte_eq (hl y (by simp)) hx
    have e2 : Lib.bytesOf (y :: l) = UInt8.ofNat y.toNat :: Lib.bytesOf l := rfl
    rw [e2]
    simp only [Lib.indexByte, findI, e, ih, decide_eq_true_eq, beq_iff_eq]

set_option maxHeartbeats 1000000 in
set_option maxRecDepth 100000 in
theorem indexByte_any (b o n c : Nat) (xs : List Int) (cv : Int) (w : World) (hx : xs.length = n) (hb : Bytes xs) (hcv : 0 ≤ cv ∧ cv ≤ 255)
    (hc : ∀ i, i < n → w.cell? ⟨b, o + i, none⟩ = some (.int .u8 (xs.getD i 0))) :
    Calls Try.prog 28 #[.slice (some ⟨b, o, none⟩) n c, .int .u8 cv] w fun e w' => e = .returned (.int .i64 (findI xs cv)) ∧ w = w' := by
  rw [← indexByte_findI xs cv hb hcv]
  clear hb hcv
  have HC := hide hc
  have HX := hide hx
  clear hc hx
  go_enter Try.func28, Try.ntmps28
  go_wp2
  rw [run_callFunc_extern Try.func29 (by kernel_rfl) (by kernel_rfl) (by kernel_rfl) (e := Extern.BytealgIndexByte.indexByte) (by kernel_rfl), Lib.run_indexByteSlice w b o n c xs HX.out HC.out cv]
  simp only [Result.andThen]
  rw [Oper.upon_value]
  go_wp2
  go_ret
  exact ⟨rfl, rfl⟩

theorem find_nil (x : Int) (w : World) : Calls Try.prog 18 #[.pointer none, .int .u8 x] w fun e w' => e = .returned (.int .i64 (-1)) ∧ w = w' := by
  go_enter Try.func18, Try.ntmps18
  go_wp2_with (go_at_call 20; refine (len_nil _).mono ?_; rintro e w' ⟨rfl, rfl⟩)
  go_ret
  exact ⟨rfl, rfl⟩

theorem find_any {w : World} {b r bound high low : Nat} {L : List Int} {stop : Bool} (h : Chain w b r bound high low L stop) (hB : Bytes L) (x : Int) (hx : 0 ≤ x ∧ x ≤ 255) :
    Calls Try.prog 18 #[.pointer (some ⟨b, 0, none⟩), .int .u8 x] w fun e w' => e = .returned (.int .i64 (findI L x)) ∧ ∃ n, w.drewN n = w' := by
  have hm := h.marks.h3
  obtain ⟨rv, st0, hd⟩ := h.hd
  have hlen := hide (len_any hd)
  by_cases h0 : L.length = 0
  · have e : L = [] := List.eq_nil_of_length_eq_zero h0
    subst e
    clear h hd
    go_enter Try.func18, Try.ntmps18
    go_wp2_with (go_at_call 20; refine hlen.out.mono ?_; rintro e w' ⟨rfl, rfl⟩)
    go_ret
    exact ⟨rfl, 0, rfl⟩
  rcases h.body with ⟨_, rfl⟩ | ⟨R, st, f⟩
  · simp at h0
  have l1 := f.st
  have l2 := f.fits
  have l3 := f.top
  obtain ⟨s, Hs⟩ : ∃ s, Hid (s = min L.length (R.length - st)) := ⟨_, hide rfl⟩
  have s1 : s ≤ L.length := by have := Hs.out; omega
  have s2 : st + s ≤ R.length := by have := Hs.out; omega
  have hp := hide (parts_any (i := 0) (n := L.length) f.hd (by omega) (by omega) l1 (Nat.zero_le _) l2 st s (by rw [Nat.add_zero, Nat.mod_eq_of_lt l1]) Hs.out)
  have eL : L = (R.drop st).take s ++ R.take (L.length - s) := by
    have e1 := ringL_parts R st L.length (by omega) l2
    rw [f.cont, ← Hs.out] at e1
    exact e1
  have lA : ((R.drop st).take s).length = s := by simp; omega
  have lB : (R.take (L.length - s)).length = L.length - s := by simp; omega
  have bA : Bytes ((R.drop st).take s) := fun z hz => hB z (by rw [eL]; exact List.mem_append.2 (.inl hz))
  have bB : Bytes (R.take (L.length - s)) := fun z hz => hB z (by rw [eL]; exact List.mem_append.2 (.inr hz))
  have q1 := hide (fun n c => indexByte_any r st s c ((R.drop st).take s) x (w.drewN n) lA bA hx (fun i hi => ring_cells (W := w.drewN n) f.ring (k := s) (by omega) i (by rw [lA]; exact hi)))
  have q2 := hide (fun n c => indexByte_any r 0 (L.length - s) c (R.take (L.length - s)) x (w.drewN n) lB bB hx (fun i hi => by
    have := ring_cells (W := w.drewN n) (f := 0) (k := L.length - s) f.ring (by omega) i (by simp; omega)
    simpa using this))
  have E := findI_append ((R.drop st).take s) (R.take (L.length - s)) x
  rw [← eL, lA] at E
  have HE := hide E
  have b1 := findI_bd ((R.drop st).take s) x
  have b2 := findI_bd (R.take (L.length - s)) x
  rw [lA] at b1
  rw [lB] at b2
  obtain ⟨fA, HA⟩ : ∃ fA, Hid (findI ((R.drop st).take s) x = fA) := ⟨_, hide rfl⟩
  obtain ⟨fB, HB⟩ : ∃ fB, Hid (findI (R.take (L.length - s)) x = fB) := ⟨_, hide rfl⟩
  rw [HA.out] at b1
  rw [HB.out] at b2
  have q1 := q1.out
  rw [HA.out] at q1
  have q2 := q2.out
  rw [HB.out] at q2
  have Q1 := hide q1
  have Q2 := hide q2
  have c5 := f.hd.c5
  have hz : ((L.length : Int) == 0) = false := by rw [beq_eq_false_iff_ne]; omega
  have E' := HE.out
  rw [HA.out, HB.out] at E'
  have HE' := hide E'
  clear h hd f E E' HE HA HB q1 q2 eL bA bB lA lB hB
  by_cases hA : 0 ≤ fA
  · go_enter Try.func18, Try.ntmps18
    go_wp2_with fail
    refine hlen.out.mono ?_
    rintro e w' ⟨rfl, rfl⟩
    go_wp2_with fail
    refine hp.out.mono ?_
    rintro e w' ⟨rfl, n1, rfl⟩
    go_wp2_with fail
    refine (Q1.out n1 _).mono ?_
    rintro e w' ⟨rfl, rfl⟩
    go_wp2_with fail
    go_ret
    exact ⟨ret_int (by rw [HE'.out]; repeat' split; all_goals omega), n1, rfl⟩
  · by_cases hB : 0 ≤ fB
    all_goals
      go_enter Try.func18, Try.ntmps18
      go_wp2_with fail
      refine hlen.out.mono ?_
      rintro e w' ⟨rfl, rfl⟩
      go_wp2_with fail
      refine hp.out.mono ?_
      rintro e w' ⟨rfl, n1, rfl⟩
      go_wp2_with fail
      refine (Q1.out n1 _).mono ?_
      rintro e w' ⟨rfl, rfl⟩
      go_wp2_with fail
      refine (Q2.out n1 _).mono ?_
      rintro e w' ⟨rfl, rfl⟩
      go_wp2_with fail
      go_ret
      exact ⟨ret_int (by rw [HE'.out]; repeat' split; all_goals omega), n1, rfl⟩
end Go.Proofs.Ytglhoihiaflmgab
