/- Whether a text is a path without a query and without dots: the program's. -/
import Derived.Test.YtekkhjlipijmcaaGreatDoorZIs
import Derived.Test.YtekkhjlipijmcaaGreatDoorTTaken
namespace Go.Proofs.YtekkhjlipijmcaaGreatDoor
open Go.ChangeShapes Go.WideShapes Go.ChangeAt Go.RowKit

def getN : ByteArray := ⟨#[71, 69, 84]⟩
def pathB (s : ByteArray) : Bool := decide (s.size ≤ 8192 ∧ formN getN.data.toList s.data.toList = 1 ∧ locB s = true ∧ cutA s = false)
theorem tgV_inj {f f' : Int} {h h' : ByteArray} {p p' : Int} {pa pa' q q' : ByteArray} {a a' : Bool} (e : tgV f h p pa q a = tgV f' h' p' pa' q' a') : f = f' ∧ a = a' := by
  unfold tgV at e
  simp only [Value.agg.injEq, Array.mk.injEq, List.cons.injEq, Value.int.injEq, Value.bool.injEq, and_true, true_and] at e
  exact ⟨e.1, e.2.2.2.2.2⟩
theorem parse_get (s : ByteArray) : ∃ (f : Int) (h : ByteArray) (p : Int) (pa q : ByteArray) (a : Bool) (re : Int), Parses getN s (tgV f h p pa q a) re ∧ ((re = 0 ∧ f = 1 ∧ a = false) ↔ pathB s = true) := by
  obtain ⟨t, re, h1, h2, h3, h4⟩ := parse_total getN s
  have key : ∀ (f : Int) (h : ByteArray) (p : Int) (pa q : ByteArray) (a : Bool), t = tgV f h p pa q a → ∃ (f : Int) (h : ByteArray) (p : Int) (pa q : ByteArray) (a : Bool) (re : Int), Parses getN s (tgV f h p pa q a) re ∧ ((re = 0 ∧ f = 1 ∧ a = false) ↔ pathB s = true) := by
    intro f h p pa q a ht
    refine ⟨f, h, p, pa, q, a, re, by rw [← ht]; exact h1, ⟨?_, ?_⟩⟩
    · rintro ⟨r0, rfl, rfl⟩
      obtain ⟨tk, hz⟩ := h2 r0
      rw [ht] at tk
      unfold pathB
      refine decide_eq_true ⟨hz, ?_⟩
      generalize hg : tgV 1 h p pa q false = g at tk
      cases tk with
      | auth hf _ _ => exact absurd (tgV_inj hg).1 (by decide)
      | ast hf => exact absurd (tgV_inj hg).1 (by decide)
      | origin hf h0 => exact ⟨hf, h0, (tgV_inj hg).2.symm⟩
      | abs hf _ _ => exact absurd (tgV_inj hg).1 (by decide)
    · intro hb
      obtain ⟨hz, hf, hl, hc⟩ := of_decide_eq_true hb
      obtain ⟨r0, e⟩ := h4 _ (Taken.origin hf hl) hz
      rw [ht] at e
      obtain ⟨e1, e2⟩ := tgV_inj e
      exact ⟨r0, e1, e2.trans hc⟩
  by_cases r0 : re = 0
  · obtain ⟨tk, _⟩ := h2 r0
    generalize hg : t = g at tk
    cases tk with
    | auth _ _ _ => exact key _ _ _ _ _ _ hg
    | ast _ => exact key _ _ _ _ _ _ hg
    | origin _ _ => exact key _ _ _ _ _ _ hg
    | abs _ _ _ => exact key _ _ _ _ _ _ hg
  · exact key _ _ _ _ _ _ (h3 r0)
def placeB (s : ByteArray) : Bool := pathB s && (decide (cleanE s.data.toList = 0) && decide (cleanS s = s))
set_option maxHeartbeats 2000000 in
set_option maxRecDepth 100000 in
theorem place_any (s : ByteArray) (w : World) (hm : MX w) : Calls Tryz.prog 33 #[.string s] w fun e w' => e = .returned (.bool (placeB s)) ∧ Below w.heap.size w w' := by
  obtain ⟨f, h, p, pa, q, a, re, hP, hI⟩ := parse_get s
  have HP := hide (hP w hm)
  have HC := hide (fun W h => clean_any s W h)
  have HM := hide hm
  have hbe := bytes_eq (cleanS s) s
  unfold placeB
  generalize pathB s = pb at hI ⊢
  generalize cleanS s = cs at HC hbe ⊢
  generalize cleanE s.data.toList = ce at HC ⊢
  unfold tgV at HP
  unfold getN at HP
  clear hP hm
  by_cases r0 : re = 0
  · by_cases f1 : f = 1
    · cases a
      · have HB : Hid (pb = true) := hide (hI.1 ⟨r0, f1, rfl⟩)
        subst r0 f1
        clear hI
        go_enter Tryz.func33, Tryz.ntmps33
        go_wp2_with fail
        refine HP.out.mono ?_
        rintro e w1 ⟨rfl, bb⟩
        have B1 := hide bb
        clear bb HP
        go_wp2_with fail
        have U1 := hide (Bl.one w1 #[.int .i64 1, .string h, .int .i64 p, .string pa, .string q, .bool false] 61)
        generalize (w1.alloc (.cells #[.int .i64 1, .string h, .int .i64 p, .string pa, .string q, .bool false] 61)) = y at U1 ⊢
        have B2 := hide (B1.out.trans (U1.out.b.mono B1.out.size))
        refine (HC.out _ (HM.out.below B2.out)).mono ?_
        rintro e w2 ⟨rfl, bb⟩
        have B3 := hide (B2.out.trans (bb.mono B2.out.size))
        clear bb U1
        by_cases c0 : ce = 0
        · subst c0
          go_wp2
          go_ret
          exact ⟨ret_bool (by rw [HB.out]; simp), B3.out⟩
        · have t0 : ((ce : Int) == 0) = false := beq_eq_false_iff_ne.2 (by omega)
          have HD := hide (decide_eq_false c0)
          go_wp2
          go_ret
          exact ⟨ret_bool (by rw [HB.out, HD.out]; rfl), B3.out⟩
      · have HB : Hid (pb = false) := hide (by cases hpb : pb with | false => rfl | true => exact absurd (hI.2 hpb).2.2 (by decide))
        subst r0 f1
        clear hI
        go_enter Tryz.func33, Tryz.ntmps33
        go_wp2_with fail
        refine HP.out.mono ?_
        rintro e w1 ⟨rfl, bb⟩
        have B1 := hide bb
        clear bb HP
        go_wp2
        go_ret
        exact ⟨ret_bool (by rw [HB.out]; rfl), B1.out.trans ((Bl.one w1 _ _).b.mono B1.out.size)⟩
    · have HB : Hid (pb = false) := hide (by cases hpb : pb with | false => rfl | true => exact absurd (hI.2 hpb).2.1 f1)
      have t1 : (f == 1) = false := beq_eq_false_iff_ne.2 f1
      subst r0
      clear hI
      go_enter Tryz.func33, Tryz.ntmps33
      go_wp2_with fail
      refine HP.out.mono ?_
      rintro e w1 ⟨rfl, bb⟩
      have B1 := hide bb
      clear bb HP
      go_wp2
      go_ret
      exact ⟨ret_bool (by rw [HB.out]; rfl), B1.out.trans ((Bl.one w1 _ _).b.mono B1.out.size)⟩
  · have HB : Hid (pb = false) := hide (by cases hpb : pb with | false => rfl | true => exact absurd (hI.2 hpb).1 r0)
    have t1 : (re == 0) = false := beq_eq_false_iff_ne.2 r0
    clear hI
    go_enter Tryz.func33, Tryz.ntmps33
    go_wp2_with fail
    refine HP.out.mono ?_
    rintro e w1 ⟨rfl, bb⟩
    have B1 := hide bb
    clear bb HP
    go_wp2
    go_ret
    exact ⟨ret_bool (by rw [HB.out]; rfl), B1.out.trans ((Bl.one w1 _ _).b.mono B1.out.size)⟩
end Go.Proofs.YtekkhjlipijmcaaGreatDoor
