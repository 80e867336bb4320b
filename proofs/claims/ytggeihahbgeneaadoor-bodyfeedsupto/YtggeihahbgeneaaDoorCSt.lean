/- The decoder's states. -/
import Derived.Test.YtggeihahbgeneaaDoorCLin2
import Derived.Test.YtggeihahbgeneaaDoorCLin3
namespace Go.Proofs.YtggeihahbgeneaaDoor
open Go.ChangeShapes Go.WideShapes Go.ChangeAt Go.RowKit

theorem sizeLine_any {w : World} {base g h : Nat} {A : Nat → Prop} {lv tv rv bv : Value} {d : Dz} {rest body : List UInt8} (p : DP w base A g h lv tv rv bv d rest body) (hf : FitD d) (hfn : d.fn = fnSize) (hw : d.whole = false) (hm : MX w) (hb : 2 ≤ base) (hl : rest.length ≤ 140737488355328) :
    Calls Tryd.prog 26 #[.pointer (some ⟨g, 0, none⟩), .pointer (some ⟨h, 0, none⟩)] w (StP w base A g h lv tv bv d rest body) := by
  have HL := hide (readLine_size p hf hfn hw (fun e => absurd (hfn.symm.trans e) fn_ne.1) hm hb hl)
  clear p hf hfn hw hm hb hl
  go_enter Tryd.func26, Tryd.ntmps26
  go_wp2_with fail
  refine HL.out.mono ?_
  rintro e w' ⟨en, k, o, d', lv', tv', rv', bv', rfl, h1, h2, h3, h4, h5, h6⟩
  have H := hide (And.intro h1 (And.intro h2 (And.intro h3 (And.intro h4 (And.intro h5 h6)))))
  clear h1 h2 h3 h4 h5 h6
  go_wp2_with fail
  go_ret
  exact ⟨en, k, o, d', lv', tv', rv', bv', rfl, H.out⟩
theorem trailerLine_any {w : World} {base g h : Nat} {A : Nat → Prop} {lv tv rv bv : Value} {d : Dz} {rest body : List UInt8} (p : DP w base A g h lv tv rv bv d rest body) (hf : FitD d) (hfn : d.fn = fnTrl) (hw : d.whole = false) (hm : MX w) (hb : 2 ≤ base) (hl : rest.length ≤ 140737488355328) :
    Calls Tryd.prog 39 #[.pointer (some ⟨g, 0, none⟩), .pointer (some ⟨h, 0, none⟩)] w (StP w base A g h lv tv bv d rest body) := by
  have HL := hide (readLine_trl p hf hfn hw (fun e => absurd (e.symm.trans hfn) fn_ne.2.2) hm hb hl)
  clear p hf hfn hw hm hb hl
  go_enter Tryd.func39, Tryd.ntmps39
  go_wp2_with fail
  refine HL.out.mono ?_
  rintro e w' ⟨en, k, o, d', lv', tv', rv', bv', rfl, h1, h2, h3, h4, h5, h6⟩
  have H := hide (And.intro h1 (And.intro h2 (And.intro h3 (And.intro h4 (And.intro h5 h6)))))
  clear h1 h2 h3 h4 h5 h6
  go_wp2_with fail
  go_ret
  exact ⟨en, k, o, d', lv', tv', rv', bv', rfl, H.out⟩
/-- Both, with more blocks. -/
theorem DP.below {w w' : World} {base g h : Nat} {A : Nat → Prop} {lv tv rv bv : Value} {d : Dz} {rest body : List UInt8} (p : DP w base A g h lv tv rv bv d rest body) (b : Below w.heap.size w w') : DP w' base A g h lv tv rv bv d rest body :=
  ⟨p.dec.below b, p.pce.below b, p.gh, p.lh, p.th, p.bg, p.bl, p.bt, p.gA, p.lA, p.tA⟩
theorem DK.of_below {w w' : World} (g h : Nat) (lv tv bv : Value) (b : Below w.heap.size w w') : DK w w' g h lv tv bv lv tv bv :=
  ⟨b.os, b.tape, b.output, b.size, fun k hk _ _ _ _ _ => b.block k hk, fun _ _ h => h, fun _ _ h => h, fun _ _ h => h⟩
/-- Behind bytes that were taken, what a state tells of the rest is told of all. -/
theorem StP.after {w w1 : World} {base g h : Nat} {A : Nat → Prop} {lv tv bv lv1 tv1 bv1 : Value} {d : Dz} {rest body : List UInt8} {n : Nat} (hn : n ≤ rest.length) (hw : d.whole = false) (hk : DK w w1 g h lv tv bv lv1 tv1 bv1) (hT : Dn d rest n (rest.take n) 0 { d with left := d.left - n }) (h0 : rest.drop n = [] → 1 ≤ n ∨ rest = []) {e : Ending} {w' : World} (hs : StP w1 base A g h lv1 tv1 bv1 { d with left := d.left - n } (rest.drop n) (body ++ rest.take n) e w') : StP w base A g h lv tv bv d rest body e w' := by
  obtain ⟨en, k, o, d', lv', tv', rv', bv', h1, h2, h3, h4, h5, h6, h7⟩ := hs
  refine ⟨en, n + k, rest.take n ++ o, d', lv', tv', rv', bv', h1, ?_, h3, fun hne => ?_, h5, ?_, hk.trans h7⟩
  · obtain ⟨a1, a2⟩ := hT
    obtain ⟨b1, b2⟩ := h2
    rw [if_neg (by simp [hw])] at a2
    rw [List.length_drop] at b1
    refine ⟨by omega, ?_⟩
    split at b2
    · rename_i hx
      rw [if_pos hx, a2, b2]
      simp [sh, Nat.add_comm]
    · rename_i hx
      rw [if_neg hx, a2, b2, List.drop_drop, sh_sh, Nat.add_comm k n]
  · by_cases hd : rest.drop n = []
    · rcases h0 hd with h8 | h8
      · omega
      · exact absurd h8 hne
    · have := h4 hd; omega
  · rw [← List.append_assoc, ← List.drop_drop]
    exact h6
set_option maxHeartbeats 8000000 in
set_option maxRecDepth 100000 in
theorem body_any {w : World} {base g h : Nat} {A : Nat → Prop} {lv tv rv bv : Value} {d : Dz} {rest body : List UInt8} (p : DP w base A g h lv tv rv bv d rest body) (hf : FitD d) (hfn : d.fn = fnBody) (hw : d.whole = false) (h0 : rest ≠ []) (hm : MX w) (hb : 2 ≤ base) (hl : rest.length + body.length ≤ 140737488355328) :
    Calls Tryd.prog 38 #[.pointer (some ⟨g, 0, none⟩), .pointer (some ⟨h, 0, none⟩)] w (StP w base A g h lv tv bv d rest body) := by
  have HP := hide p
  have HF := hide hf
  have HFN := hide hfn
  have HW := hide hw
  have HM := hide hm
  have hleft := hf.left
  have BD := hide ((Below.refl w.heap.size w).drew)
  have HPD := hide (p.below BD.out)
  have HKD := hide (DK.of_below g h lv tv bv BD.out)
  have hbs : base ≤ w.heap.size := Nat.le_of_lt (Nat.lt_of_le_of_lt p.dec.gb p.dec.lt)
  have HTK : Hid (Calls Tryd.prog 47 #[.pointer (some ⟨h, 0, none⟩), .int .i64 (d.left : Int)] w.drew fun e w' => ∃ r, e = .returned r ∧ (r = .int .i64 ((min d.left rest.length : Nat) : Int) ∧ ∃ rv' bv', Hid (DP w' base A g h lv tv rv' bv' d (rest.drop (min d.left rest.length)) (body ++ rest.take (min d.left rest.length))) ∧ Hid (DK w w' g h lv tv bv lv tv bv') ∧ w'.cell? ⟨g, 2, none⟩ = some (.int .i64 (d.left : Int)) ∧ w'.frozen? ⟨g, 2, none⟩ = false)) := hide (by
    refine (take_any HPD.out.pce hbs d.left h0 hl hleft).mono ?_
    rintro e w' ⟨rfl, rv', bv', hp, hk⟩
    have hq := HPD.out.of_QK hp hk
    exact ⟨_, rfl, rfl, rv', bv', hide hq, hide (HKD.out.trans (DK.of_QK lv tv hk)), hq.dec.cell 2, hq.dec.froz 2⟩)
  have c2 : w.cell? ⟨g, 2, none⟩ = some (.int .i64 (d.left : Int)) := p.dec.cell 2
  have HDN := hide (Dn.takes (d0 := d) (l := rest) (min d.left rest.length) (Dn.refl d rest hw) hw hfn (by omega) (by rw [List.drop_zero]; omega))
  rw [List.drop_zero, List.nil_append, Nat.zero_add] at HDN
  obtain ⟨n, hn⟩ : ∃ n, min d.left rest.length = n := ⟨_, rfl⟩
  have hn1 : n ≤ d.left := by omega
  have hn2 : n ≤ rest.length := by omega
  have hn3 : n = d.left ∨ n = rest.length := by omega
  rw [hn] at HTK HDN
  clear p hf hfn hw hm hn
  have i1 : (d.left : Int) - (n : Int) = ((d.left - n : Nat) : Int) := by omega
  have wr : IntKind.i64.wrap ((d.left - n : Nat) : Int) = ((d.left - n : Nat) : Int) := IntWalk.i64_in _ ⟨by omega, by omega⟩
  go_enter Tryd.func38, Tryd.ntmps38
  go_upto_region 1 with fail
  go_region_law (refine step_call rfl 47 _ _ rfl (enters_of Tryd.func47 (by kernel_rfl) rfl) #[.pointer (some ⟨h, 0, none⟩), .int .i64 (d.left : Int)] (by simp [Act.eval]) _ HTK.out ?_; rintro r w2 ⟨rfl, rv2, bv2, HP2, HK2, e2, f2⟩)
  all_goals (have HD3 := hide (HP2.out.dec.set 2 (.int .i64 ((d.left - n : Nat) : Int)) { d with left := d.left - n } rfl rfl rfl))
  all_goals (have HP3 := hide (HP2.out.of_PK HD3.out (PK.set w2 g 2 (.int .i64 ((d.left - n : Nat) : Int)) lv tv)))
  all_goals (have HK3 := hide (HK2.out.trans (DK.of_PK (h := h) bv2 (PK.set w2 g 2 (.int .i64 ((d.left - n : Nat) : Int)) lv tv))))
  all_goals (clear HD3 HP2 HK2 e2 f2 c2)
  all_goals (generalize w2.setCell ⟨g, 2, none⟩ (.int .i64 ((d.left - n : Nat) : Int)) = w3 at HP3 HK3 ⊢)
  all_goals (have HM3 := hide (HM.out.dk HP.out hb HK3.out))
  all_goals (have HL := hide (readLine_body HP3.out ⟨HF.out.fn, HF.out.room, (by show d.left - n ≤ _; omega), HF.out.line, HF.out.tr, HF.out.bd⟩ HFN.out HW.out (fun _ => (by
    rcases hn3 with h5 | h5
    · left; show d.left - n = 0; omega
    · right; exact List.drop_of_length_le (by omega))) HM3.out hb (by rw [List.length_drop]; omega)))
  all_goals (go_wp2_with fail)
  all_goals (refine HL.out.mono ?_)
  all_goals (rintro e w' ⟨en, k, o, d', lv', tv', rv', bv', rfl, h1, h2, h3, h4, h5, h6⟩)
  all_goals (have HS : Hid (StP w3 base A g h lv tv bv2 { d with left := d.left - n } (rest.drop n) (body ++ rest.take n) (.returned (.int .i64 (en : Int))) w') := hide ⟨en, k, o, d', lv', tv', rv', bv', rfl, h1, h2, h3, h4, h5, h6⟩)
  all_goals (clear h1 h2 h3 h4 h5 h6 HL)
  all_goals (go_wp2_with fail)
  all_goals go_ret
  all_goals exact StP.after hn2 HW.out HK3.out HDN.out (fun hd => (by
    have h7 := congrArg List.length hd
    rw [List.length_drop, List.length_nil] at h7
    have h8 := List.length_pos_iff.2 h0
    left; omega)) HS.out
end Go.Proofs.YtggeihahbgeneaaDoor
