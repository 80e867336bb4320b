/- Both Prints: one answer. -/
import Derived.Test.YtofifncflchpbaaDoorTRAll
import Derived.Test.YtofifncflchpbaaDoorTRPr1
import Derived.Test.YtofifncflchpbaaDoorTRPr2
import Derived.Test.YtofifncflchpbaaDoorTRPr3
import Derived.Test.YtofifncflchpbaaDoorTRPr4
namespace Go.Proofs.YtofifncflchpbaaDoor
open Go.ChangeShapes Go.WideShapes Go.ChangeAt Go.RowKit

def rportS (p : Int) : ByteArray := if 0 ≤ p then ⟨#[58]⟩ ++ itoaS p else ⟨#[]⟩
def rlocS (pa q : ByteArray) (a : Bool) : ByteArray := if a then (pa ++ ⟨#[63]⟩) ++ q else pa
def rtextS (f : Int) (h : ByteArray) (p : Int) (pa q : ByteArray) (a : Bool) : ByteArray :=
  if f = 2 then ((⟨#[104, 116, 116, 112, 58, 47, 47]⟩ ++ h) ++ rportS p) ++ rlocS pa q a else if f = 3 then h ++ rportS p else if f = 4 then ⟨#[42]⟩ else rlocS pa q a
theorem rprint_any (f p : Int) (h pa q : ByteArray) (a : Bool) (w : World) (hh : h.size ≤ 1048576) (hp : pa.size ≤ 1048576) (hq : q.size ≤ 1048576) (h0 : -9223372036854775808 ≤ p) (h1 : p ≤ 9223372036854775807) (ht : PT w) (ok : Bool)
    (hok : ok = true ↔ Taken (askerS f) (rtextS f h p pa q a) (tgV f h p pa q a) ∧ (rtextS f h p pa q a).size ≤ 8192) :
    Calls Tryd.prog 15 #[tgV f h p pa q a] w fun e w' => e = .returned (.tuple #[.string (if ok then rtextS f h p pa q a else ⟨#[]⟩), .int .i64 (if ok then 0 else 60)]) ∧ Below w.heap.size w w' := by
  obtain ⟨t, re, hP, hT, hZ, hU⟩ := rparse_total (askerS f) (rtextS f h p pa q a)
  have hs : ∃ (f : Int) (h : ByteArray) (p : Int) (pa q : ByteArray) (a : Bool), t = tgV f h p pa q a := by
    by_cases hr : re = 0
    · exact tshape (hT hr).1
    · exact ⟨_, _, _, _, _, _, hZ hr⟩
  have hok2 : ok = true ↔ re = 0 ∧ t = tgV f h p pa q a := by
    rw [hok]
    constructor
    · rintro ⟨a1, a2⟩; exact hU _ a1 a2
    · rintro ⟨a1, a2⟩; rw [← a2]; exact hT a1
  clear hok hT hZ hU
  have hI : ∀ W, PT W → Calls Tryd.prog 31 #[.int .i64 p] W fun e w' => e = .returned (.string (itoaS p)) ∧ Below W.heap.size W w' := fun W hW => itoa_any p W h0 h1 hW
  have hit := itoaS_size p h0 h1
  unfold rtextS askerS at hP
  unfold rtextS
  by_cases f2 : f = 2
  · subst f2
    rw [if_neg (by decide), if_neg (by decide), if_pos rfl] at hP
    rw [if_pos rfl]
    unfold rportS rlocS at hP ⊢
    by_cases hp0 : 0 ≤ p
    · rw [if_pos hp0] at hP ⊢
      cases a with
      | true => exact rpr_2_t_p h pa q p w hh hp hq (itoaS p) hit hp0 hI ht t re hP hs ok hok2
      | false => exact rpr_2_f_p h pa q p w hh hp hq (itoaS p) hit hp0 hI ht t re hP hs ok hok2
    · rw [if_neg hp0] at hP ⊢
      cases a with
      | true => exact rpr_2_t_n h pa q p w hh hp hq hp0 t re hP hs ok hok2
      | false => exact rpr_2_f_n h pa q p w hh hp hq hp0 t re hP hs ok hok2
  · rw [if_neg f2] at hP ⊢
    by_cases f3 : f = 3
    · subst f3
      rw [if_pos rfl, if_pos rfl] at hP
      rw [if_pos rfl]
      unfold rportS at hP ⊢
      by_cases hp0 : 0 ≤ p
      · rw [if_pos hp0] at hP ⊢
        cases a with
        | true => exact rpr_3_t_p h pa q p w hh hp hq (itoaS p) hit hp0 hI ht t re hP hs ok hok2
        | false => exact rpr_3_f_p h pa q p w hh hp hq (itoaS p) hit hp0 hI ht t re hP hs ok hok2
      · rw [if_neg hp0] at hP ⊢
        cases a with
        | true => exact rpr_3_t_n h pa q p w hh hp hq hp0 t re hP hs ok hok2
        | false => exact rpr_3_f_n h pa q p w hh hp hq hp0 t re hP hs ok hok2
    · rw [if_neg f3, if_neg f3] at hP
      rw [if_neg f3]
      by_cases f4 : f = 4
      · subst f4
        rw [if_pos rfl, if_pos rfl] at hP
        rw [if_pos rfl]
        by_cases hp0 : 0 ≤ p
        · cases a with
          | true => exact rpr_4_t_p h pa q p w hh hp hq (itoaS p) hit hp0 hI ht t re hP hs ok hok2
          | false => exact rpr_4_f_p h pa q p w hh hp hq (itoaS p) hit hp0 hI ht t re hP hs ok hok2
        · cases a with
          | true => exact rpr_4_t_n h pa q p w hh hp hq hp0 t re hP hs ok hok2
          | false => exact rpr_4_f_n h pa q p w hh hp hq hp0 t re hP hs ok hok2
      · rw [if_neg f4, if_neg f4] at hP
        rw [if_neg f4]
        unfold rlocS at hP ⊢
        by_cases hp0 : 0 ≤ p
        · cases a with
          | true => exact rpr_f_t_p f f2 f3 f4 h pa q p w hh hp hq (itoaS p) hit hp0 hI ht t re hP hs ok hok2
          | false => exact rpr_f_f_p f f2 f3 f4 h pa q p w hh hp hq (itoaS p) hit hp0 hI ht t re hP hs ok hok2
        · cases a with
          | true => exact rpr_f_t_n f f2 f3 f4 h pa q p w hh hp hq hp0 t re hP hs ok hok2
          | false => exact rpr_f_f_n f f2 f3 f4 h pa q p w hh hp hq hp0 t re hP hs ok hok2

/-- Which targets anything can be read as. -/
theorem taken_parts {m s : ByteArray} {f : Int} {h : ByteArray} {p : Int} {pa q : ByteArray} {a : Bool} (ht : Taken m s (tgV f h p pa q a)) : f = 1 ∨ (f = 2 ∧ -1 ≤ p) ∨ (f = 3 ∧ 0 ≤ p) ∨ f = 4 := by
  generalize e : tgV f h p pa q a = t at ht
  unfold tgV at e
  cases ht with
  | auth hf h0 h1 =>
    unfold tgV at e
    simp only [Value.agg.injEq, Array.mk.injEq, List.cons.injEq, Value.int.injEq, true_and] at e
    exact .inr (.inr (.inl ⟨e.1, by rw [e.2.2.1]; exact hostP_ge _ h1⟩))
  | ast hf =>
    unfold tgV at e
    simp only [Value.agg.injEq, Array.mk.injEq, List.cons.injEq, Value.int.injEq, true_and] at e
    exact .inr (.inr (.inr e.1))
  | origin hf h0 =>
    unfold tgV at e
    simp only [Value.agg.injEq, Array.mk.injEq, List.cons.injEq, Value.int.injEq, true_and] at e
    exact .inl e.1
  | abs hf h0 h1 =>
    unfold tgV at e
    simp only [Value.agg.injEq, Array.mk.injEq, List.cons.injEq, Value.int.injEq, true_and] at e
    exact .inr (.inl ⟨e.1, by rw [e.2.2.1]; exact hostP_le _⟩)
theorem texts_same {f : Int} {h : ByteArray} {p : Int} {pa q : ByteArray} {a : Bool} (ht : f = 1 ∨ (f = 2 ∧ -1 ≤ p) ∨ (f = 3 ∧ 0 ≤ p) ∨ f = 4) : textS f h p pa q a = rtextS f h p pa q a := by
  apply bytes_ext
  rcases ht with rfl | ⟨rfl, hp⟩ | ⟨rfl, hp⟩ | rfl
  · unfold textS rtextS rlocS askL
    cases a <;> simp
  · unfold textS rtextS rlocS rportS absL askL portS
    by_cases h1 : p = -1
    · subst h1
      cases a <;> simp
    · rw [if_neg h1, if_pos (by omega : 0 ≤ p)]
      cases a <;> simp
  · unfold textS rtextS rportS portS
    rw [if_pos hp]
    simp
  · rfl
end Go.Proofs.YtofifncflchpbaaDoor
