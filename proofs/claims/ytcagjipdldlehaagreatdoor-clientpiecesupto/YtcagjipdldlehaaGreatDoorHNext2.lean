/- A byte LF: a line ends. -/
import Derived.Test.YtcagjipdldlehaaGreatDoorHNext
namespace Go.Proofs.YtcagjipdldlehaaGreatDoor
open Go.ChangeShapes Go.WideShapes Go.ChangeAt Go.RowKit

theorem Par.cutl {w : World} {base g : Nat} {la : Option Addr} {n lc : Nat} {fv : Value} {p : Pz} (h : Par w base g (.slice la n lc) fv p) :
    Par (w.setCell ⟨g, 2, none⟩ (.slice la 0 lc)) base g (.slice la 0 lc) fv { p with line := [] } ∧ PKh w (w.setCell ⟨g, 2, none⟩ (.slice la 0 lc)) g (.slice la n lc) fv (.slice la 0 lc) fv := by
  have hk : Kept w w (.slice la n lc) (.slice la 0 lc) := by
    refine ⟨Nat.le_refl _, fun _ _ _ => rfl, fun k _ e => ?_⟩
    cases la with
    | none => exact e
    | some a => exact e
  refine ⟨(h.grow_l hk (l := []) h.line.cut0h).2, ?_⟩
  have hs := PKh.set w g 2 (.slice la 0 lc) (.slice la n lc) fv
  exact ⟨hs.os, hs.tape, hs.output, hs.size, hs.block, fun k hk2 e => hk.apart k hk2 e, fun _ _ e => e⟩
def LineC (fn : Nat) : Prop := ∀ {w : World} {base g : Nat} {lv fv : Value} {p : Pz}, Par w base g lv fv p → MX w → ∀ s : ByteArray, s.size ≤ 65536 → p.fs.length ≤ 100 → p.passed ≤ 65536 → p.fn = fn →
    Calls Tryz.prog fn #[.pointer (some ⟨g, 0, none⟩), .string s] w fun e w' => e = .returned (errV (pLine p s).1) ∧ ∃ fv', Par w' base g lv fv' (pLine p s).2 ∧ PKh w w' g lv fv lv fv'
theorem lineReq : LineC fnReq := by
  intro w base g lv fv p h hm s hs hl hp hf
  have e : pLine p s = pReq p s := by unfold pLine; rw [if_pos hf]
  rw [e]
  refine (requestLine_any h hm s hs hp).mono ?_
  rintro e w' ⟨h1, h2, h3⟩
  exact ⟨h1, fv, h2, h3⟩
theorem lineRes : LineC fnRes := by
  intro w base g lv fv p h hm s hs hl hp hf
  have e : pLine p s = pRes p s := by unfold pLine; rw [if_neg (by rw [hf]; decide), if_pos hf]
  rw [e]
  refine (responseLine_any h hm s hs).mono ?_
  rintro e w' ⟨h1, h2, h3⟩
  exact ⟨h1, fv, h2, h3⟩
theorem lineFld : LineC fnFld := by
  intro w base g lv fv p h hm s hs hl hp hf
  have e : pLine p s = pFld p s := by unfold pLine; rw [if_neg (by rw [hf]; decide), if_neg (by rw [hf]; decide)]
  rw [e]
  exact fieldLine_any h hm s hs hl
theorem MX.pk {w w' : World} {base g : Nat} {lv fv lv' fv' : Value} {p : Pz} (h : MX w) (hP : Par w base g lv fv p) (hb : 3 ≤ base) (k : PKh w w' g lv fv lv' fv') : MX w' := by
  obtain ⟨h0, m, hm⟩ := h
  refine ⟨Nat.lt_of_lt_of_le h0 k.size, m, ?_⟩
  have e : w'.heap[2]? = w.heap[2]? := k.block 2 h0 (by have := hP.gb; omega) (fun e => by have := (hP.line.lt e).1; omega) (fun e => by have := (hP.flds.lt e).1; omega)
  unfold World.cell? at hm ⊢
  rw [show (⟨2, 0, none⟩ : Addr).block = 2 from rfl] at hm ⊢
  rw [e]
  exact hm
set_option maxHeartbeats 4000000 in
theorem next_lf {w : World} {base g : Nat} {lv fv : Value} {p : Pz} (h : Par w base g lv fv p) (hf : Fit p) (hm : MX w) (hb : 3 ≤ base) :
    Calls Tryz.prog 86 #[.pointer (some ⟨g, 0, none⟩), .int .u8 10] w fun e w' => e = .returned (errV (pNext p 10).1) ∧ ∃ lv' fv', Par w' base g lv' fv' (pNext p 10).2 ∧ PKh w w' g lv fv lv' fv' := by
  obtain ⟨la, lc, hle, _, _⟩ := h.line.shape
  rw [bc_len] at hle
  subst hle
  have hlen := hf.line
  have hrd := hf.read
  have hmo := hf.most
  have hfs := hf.fs
  have hpa := hf.passed
  have hfn := hide hf.fn
  have HP := hide h
  have HM := hide hm
  have c3 := h.cell 3
  have c0 := h.cell 0
  have c1 := h.cell 1
  have f1 := h.froz 1
  rw [show (pcells p g (.slice la p.line.length lc) fv)[3]? = some (.bool p.ending) from rfl] at c3
  rw [show (pcells p g (.slice la p.line.length lc) fv)[0]? = some (.int .i64 (p.most : Int)) from rfl] at c0
  rw [show (pcells p g (.slice la p.line.length lc) fv)[1]? = some (.int .i64 (p.read : Int)) from rfl] at c1
  clear h hf hm
  generalize hR0 : pNext p 10 = R
  unfold pNext at hR0
  cases he : p.ending with
  | false =>
    rw [if_pos (by rw [he]; simp)] at hR0
    have HX := hide hR0
    rw [he] at c3
    clear he hR0
    go_enter Tryz.func86, Tryz.ntmps86
    go_wp2_with fail
    go_ret
    exact ⟨by rw [← HX.out]; rfl, _, _, by rw [← HX.out]; exact HP.out, PKh.refl _ _ _ _⟩
  | true =>
    rw [if_neg (by rw [he]; simp)] at hR0
    rw [he] at c3
    clear he
    by_cases h1 : p.read = p.most
    · rw [if_pos h1] at hR0
      have HX := hide hR0
      have t1 : ((p.read : Int) == (p.most : Int)) = true := by rw [h1]; simp
      clear hR0 h1
      go_enter Tryz.func86, Tryz.ntmps86
      go_upto_region 3 with fail
      go_quiet (fail)
      go_wp2_with fail
      go_ret
      exact ⟨by rw [← HX.out]; rfl, _, _, by rw [← HX.out]; exact HP.out.below (below_drewN _ _), PKh.of_below _ _ _ (below_drewN _ _)⟩
    · rw [if_neg h1, if_neg (by decide), if_pos rfl] at hR0
      have HX := hide hR0
      have t1 : ((p.read : Int) == (p.most : Int)) = false := by rw [beq_eq_false_iff_ne]; omega
      have hr2 : (p.read : Int) + 1 ≤ 65536 := by omega
      clear h1 hR0
      go_enter Tryz.func86, Tryz.ntmps86
      go_upto_region 3 with fail
      go_quiet (fail)
      go_upto_region 6 with fail
      have HPD := hide (HP.out.below (below_drewN w nq))
      have HP2 := hide (HPD.out.set 1 (.int .i64 ((p.read : Int) + 1)) { p with read := p.read + 1 } rfl rfl rfl)
      have HK2 := hide ((PKh.of_below g (.slice la p.line.length lc) fv (below_drewN w nq)).trans (PKh.set (w.drewN nq) g 1 (.int .i64 ((p.read : Int) + 1)) (.slice la p.line.length lc) fv))
      clear c0 c1 c3 f1
      generalize (w.drewN nq).setCell ⟨g, 1, none⟩ (.int .i64 ((p.read : Int) + 1)) = w2 at HP2 HK2 ⊢
      have c3 := HP2.out.cell 3
      rw [show (pcells { p with read := p.read + 1 } g (.slice la p.line.length lc) fv)[3]? = some (.bool p.ending) from rfl] at c3
      have f3 := HP2.out.froz 3
      go_upto_region 12 with fail
      have HP3 := hide (HP2.out.set 3 (.bool false) { p with read := p.read + 1, ending := false } rfl rfl rfl)
      have HK3 := hide (HK2.out.trans (PKh.set w2 g 3 (.bool false) (.slice la p.line.length lc) fv))
      clear c3 f3
      generalize w2.setCell ⟨g, 3, none⟩ (.bool false) = w3 at HP3 HK3 ⊢
      have c2 := HP3.out.cell 2
      rw [show (pcells { p with read := p.read + 1, ending := false } g (.slice la p.line.length lc) fv)[2]? = some (.slice la p.line.length lc) from rfl] at c2
      have f2 := HP3.out.froz 2
      have HT := HP3.out.line.text
      rw [show (⟨p.line.toArray⟩ : ByteArray) = sS p.line from rfl] at HT
      go_upto_region 14 with fail
      obtain ⟨hP4, hK4⟩ := HP3.out.cutl
      have HP4 := hide hP4
      have HK4 := hide (HK3.out.trans hK4)
      clear c2 f2 HT hP4 hK4
      generalize w3.setCell ⟨g, 2, none⟩ (.slice la 0 lc) = w4 at HP4 HK4 ⊢
      have HM4 := hide (HM.out.pk HP.out hb HK4.out)
      have c5 := HP4.out.cell 5
      rcases hfn.out with hfn | hfn | hfn
      · have c6 : w4.cell? ⟨g, 5, none⟩ = some (.func (.func 45) #[.pointer (some ⟨g, 0, none⟩)] #[]) := by
          rw [c5]
          show some (stVh p.fn g) = _
          rw [hfn]
          rfl
        have HL := hide (lineReq HP4.out HM4.out (sS p.line) (by rw [sS_size]; omega) hfs (by show p.passed ≤ 65536; omega) hfn)
        clear c5 hfn
        go_wp2_with (refine HL.out.mono ?_; rintro e w5 ⟨rfl, fv5, h5, k5⟩)
        go_ret
        exact ⟨by rw [← HX.out]; rfl, _, _, by rw [← HX.out]; exact h5, HK4.out.trans k5⟩
      · have c6 : w4.cell? ⟨g, 5, none⟩ = some (.func (.func 44) #[.pointer (some ⟨g, 0, none⟩)] #[]) := by
          rw [c5]
          show some (stVh p.fn g) = _
          rw [hfn]
          rfl
        have HL := hide (lineRes HP4.out HM4.out (sS p.line) (by rw [sS_size]; omega) hfs (by show p.passed ≤ 65536; omega) hfn)
        clear c5 hfn
        go_wp2_with (refine HL.out.mono ?_; rintro e w5 ⟨rfl, fv5, h5, k5⟩)
        go_ret
        exact ⟨by rw [← HX.out]; rfl, _, _, by rw [← HX.out]; exact h5, HK4.out.trans k5⟩
      · have c6 : w4.cell? ⟨g, 5, none⟩ = some (.func (.func 84) #[.pointer (some ⟨g, 0, none⟩)] #[]) := by
          rw [c5]
          show some (stVh p.fn g) = _
          rw [hfn]
          rfl
        have HL := hide (lineFld HP4.out HM4.out (sS p.line) (by rw [sS_size]; omega) hfs (by show p.passed ≤ 65536; omega) hfn)
        clear c5 hfn
        go_wp2_with (refine HL.out.mono ?_; rintro e w5 ⟨rfl, fv5, h5, k5⟩)
        go_ret
        exact ⟨by rw [← HX.out]; rfl, _, _, by rw [← HX.out]; exact h5, HK4.out.trans k5⟩
theorem next_anyh {w : World} {base g : Nat} {lv fv : Value} {p : Pz} (h : Par w base g lv fv p) (hf : Fit p) (hm : MX w) (hb : 3 ≤ base) (c : UInt8) :
    Calls Tryz.prog 86 #[.pointer (some ⟨g, 0, none⟩), .int .u8 (c.toNat : Int)] w fun e w' => e = .returned (errV (pNext p c).1) ∧ ∃ lv' fv', Par w' base g lv' fv' (pNext p c).2 ∧ PKh w w' g lv fv lv' fv' := by
  by_cases h10 : c = 10
  · subst h10
    exact next_lf h hf hm hb
  · refine (next_plain h hf c h10).mono ?_
    rintro e w' ⟨h1, lv', h2, h3⟩
    exact ⟨h1, lv', fv, h2, h3⟩
end Go.Proofs.YtcagjipdldlehaaGreatDoor
