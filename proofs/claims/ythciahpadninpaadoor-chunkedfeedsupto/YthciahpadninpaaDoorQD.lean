/- QD: CLin CLin2 CLin3 CSt CFeed CFeed3. -/
import Derived.Test.YthciahpadninpaaDoorQC
/- A line, read on. -/
namespace Go.Proofs.YthciahpadninpaaDoor
open Go.ChangeShapes Go.WideShapes Go.ChangeAt Go.RowKit

theorem byte_ten (c : UInt8) : (((c.toNat : Int)) == 10) = decide (c = 10) := by
  rw [show (10 : Int) = ((10 : UInt8).toNat : Int) from rfl, byte_eqI, Bool.eq_iff_iff]; simp
theorem byte_cr (c : UInt8) : (((c.toNat : Int)) == 13) = decide (c = 13) := by
  rw [show (13 : Int) = ((13 : UInt8).toNat : Int) from rfl, byte_eqI, Bool.eq_iff_iff]; simp
/-- How many bytes the rest has, told by its cell. -/
def restLen (h : Nat) (w : World) : Nat := match w.cell? ⟨h, 0, none⟩ with | some (.slice _ n _) => n | _ => 0
theorem DP.restLen {w : World} {base g h : Nat} {A : Nat → Prop} {lv tv rv bv : Value} {d : Dz} {rest body : List UInt8} (p : DP w base A g h lv tv rv bv d rest body) : restLen h w = rest.length := by
  obtain ⟨a, c, he, _, _⟩ := p.pce.rest
  unfold Go.Proofs.YthciahpadninpaaDoor.restLen
  rw [p.pce.cell 0]
  subst he
  rfl
theorem MX.dk {w w' : World} {base g h : Nat} {A : Nat → Prop} {lv tv rv bv lv' tv' bv' : Value} {d : Dz} {rest body : List UInt8} (hm : MX w) (p : DP w base A g h lv tv rv bv d rest body) (hb : 2 ≤ base) (k : DK w w' g h lv tv bv lv' tv' bv') : MX w' := by
  obtain ⟨h0, m, hm⟩ := hm
  refine ⟨Nat.lt_of_lt_of_le h0 k.size, m, ?_⟩
  have e : w'.heap[1]? = w.heap[1]? := k.block 1 h0 (by have := p.dec.gb; omega) (by have := p.pce.hb; omega) (fun e => by have := (p.dec.line.lt e).1; omega) (fun e => by have := (p.dec.trs.lt e).1; omega) (fun e => by have := (p.pce.body.lt e).1; omega)
  unfold World.cell? at hm ⊢
  rw [show (⟨1, 0, none⟩ : Addr).block = 1 from rfl] at hm ⊢
  rw [e]
  exact hm
theorem Dec.cutl {w : World} {base g : Nat} {la : Option Addr} {n lc : Nat} {fv : Value} {d : Dz} (h : Dec w base g (.slice la n lc) fv d) :
    Dec (w.setCell ⟨g, 3, none⟩ (.slice la 0 lc)) base g (.slice la 0 lc) fv { d with line := [] } ∧ PK w (w.setCell ⟨g, 3, none⟩ (.slice la 0 lc)) g (.slice la n lc) fv (.slice la 0 lc) fv := by
  have hk : Kept w w (.slice la n lc) (.slice la 0 lc) := by
    refine ⟨Nat.le_refl _, fun _ _ _ => rfl, fun k _ e => ?_⟩
    cases la with
    | none => exact e
    | some a => exact e
  refine ⟨(h.grow_l hk (l := []) h.line.cut0).2, ?_⟩
  have hs := PK.set w g 3 (.slice la 0 lc) (.slice la n lc) fv
  exact ⟨hs.os, hs.tape, hs.output, hs.size, hs.block, fun k hk2 e => hk.apart k hk2 e, fun _ _ e => e⟩
/-- What a state tells. -/
def StP (w : World) (base : Nat) (A : Nat → Prop) (g h : Nat) (lv tv bv : Value) (d : Dz) (rest body : List UInt8) (e : Ending) (w' : World) : Prop :=
  ∃ (en k : Nat) (o : List UInt8) (d' : Dz) (lv' tv' rv' bv' : Value), e = .returned (.int .i64 (en : Int)) ∧ Dn d rest k o en d' ∧ FitD d' ∧ (rest ≠ [] → 1 ≤ k) ∧ d'.wrong = d.wrong ∧ DP w' base A g h lv' tv' rv' bv' d' (rest.drop k) (body ++ o) ∧ DK w w' g h lv tv bv lv' tv' bv'
theorem wpList_append_is {ops : Array Oper} {rest : List Oper} {o : Oper} {a : Act} {Q : Exit → Act → World → Prop} {W W' : World} (hgd : o.guard = none) (s x : Operand) (t : TypeId)
    (ho : o.op = .call { callee := .builtin .append, args := #[s, x], argTypes := #[t, t] }) (v src v' : Value) (hs : a.eval s = v) (hx : a.eval x = src)
    (hrun : (Builtin.append_ #[t, t] o.type #[v, src]).run Tryd.prog W = .ok v' W') (h : wpList Tryd.prog ops Q rest (a.put o.dst v') W') : wpList Tryd.prog ops Q (o :: rest) a W := by
  refine wpList_plain hgd fun K hK => ?_
  unfold Oper.wp execOp
  simp only [ho, resolve, invoke, builtin, Sem.run_bind, Sem.run_pure, Result.andThen_ok, List.map_toArray, List.map_cons, List.map_nil, hs, hx, hrun]
  exact hK _ _ h
set_option maxHeartbeats 8000000 in
theorem readLine_size {w : World} {base g h : Nat} {A : Nat → Prop} {lv tv rv bv : Value} {d : Dz} {rest body : List UInt8} (p : DP w base A g h lv tv rv bv d rest body) (hf : FitD d) (hfn : d.fn = fnSize) (hw : d.whole = false) (hlf : d.fn = fnBody → d.left = 0 ∨ rest = []) (hm : MX w) (hb : 2 ≤ base) (hl : rest.length ≤ 140737488355328) :
    Calls Tryd.prog 32 #[.pointer (some ⟨g, 0, none⟩), .pointer (some ⟨h, 0, none⟩), .int .i64 8192, .func (.func 33) #[.pointer (some ⟨g, 0, none⟩)] #[]] w (StP w base A g h lv tv bv d rest body) := by
  have HP := hide p
  have HF := hide hf
  have HM := hide hm
  have HLF := hide hlf
  have HFN := hide hfn
  have HW := hide hw
  clear p hf hm hlf hfn hw
  go_enter Tryd.func32, Tryd.ntmps32
  go_wp2_with fail
  go_loopw [9] (fun _ wr => ∃ (k : Nat) (d' : Dz) (lv' tv' rv' : Value), Hid (Dn d rest k [] 0 d') ∧ Hid (FitD d') ∧ Hid (d'.whole = false) ∧ Hid (d'.fn = fnSize) ∧ Hid (d'.left = d.left) ∧ Hid (d'.wrong = d.wrong) ∧ Hid (DP wr base A g h lv' tv' rv' bv d' (rest.drop k) body) ∧ Hid (DK w wr g h lv tv bv lv' tv' bv)) (fun _ wr => restLen h wr)
  case atStart => exact ⟨0, d, lv, tv, rv, hide (Dn.refl d rest HW.out), HF, HW, HFN, hide rfl, hide rfl, by rw [List.drop_zero]; exact HP, hide (DK.refl _ _ _ _ _ _)⟩
  case round =>
    obtain ⟨k, d1, lv1, tv1, rv1, HD1, HF1, HW1, HFN1, HLE1, HWR1, HP1, HK1⟩ := hrel
    have HRL := hide HP1.out.restLen
    have HM1 := hide (HM.out.dk HP.out hb HK1.out)
    cases hrd : rest.drop k with
    | nil =>
      have HRD := hide hrd
      have hp1 := HP1.out
      rw [hrd] at hp1
      clear hrd
      obtain ⟨ra, rc, hre, _, _⟩ := hp1.pce.rest
      simp only [List.length_nil] at hre
      subst hre
      have c0 : wr.cell? ⟨h, 0, none⟩ = some (.slice ra 0 rc) := hp1.pce.cell 0
      clear hp1
      go_wp2_with fail
      go_ret
      exact ⟨0, k, [], d1, lv1, tv1, _, bv, rfl, HD1.out, HF1.out, fun hne => (by
        have := HRD.out
        have h2 := congrArg List.length this
        rw [List.length_drop, List.length_nil] at h2
        have h3 := List.length_pos_iff.2 hne
        omega), HWR1.out, by rw [List.append_nil]; exact HP1.out, HK1.out⟩
    | cons c r =>
      have hp1 := HP1.out
      rw [hrd] at hp1
      have HP1' := hide hp1
      have hrl : r.length ≤ 140737488355328 := by
        have h2 := congrArg List.length hrd
        rw [List.length_drop, List.length_cons] at h2
        omega
      obtain ⟨ra, rc, hre, _, _⟩ := hp1.pce.rest
      simp only [List.length_cons] at hre
      subst hre
      have c0 : wr.cell? ⟨h, 0, none⟩ = some (.slice ra (r.length + 1) rc) := hp1.pce.cell 0
      have hst := HD1.out.step HW1.out hrd
      have HST := hide hst.1
      have HDR := hide hst.2
      have HRL2 : Hid (restLen h wr = r.length + 1) := hide (by rw [HRL.out, hrd]; rfl)
      have hbd : ¬ (d1.fn = fnBody ∧ 0 < d1.left) := fun hx => by
        rcases HLF.out (HFN.out.trans (HFN1.out.symm.trans hx.1)) with h3 | h3
        · have := HLE1.out; omega
        · rw [h3] at hrd; simp at hrd
      have HNF := hide (HF1.out.next c)
      have HNX := hide hp1.pce
      clear hp1 hst hrd HRL
      go_upto_region 4 with (go_at_call 42; refine (next_any HNX.out hrl).mono ?_; rintro e w2 ⟨rfl, rv2, hp2, hk2⟩)
      have HP2 := hide (HP1'.out.of_QK hp2 hk2)
      have HK2 := hide (HK1.out.trans (DK.of_QK lv1 tv1 hk2))
      clear hp2 hk2 c0 HNX HP1 HP1'
      have c4 := HP2.out.dec.cell 4
      rw [show (dcells d1 g lv1 tv1)[4]? = some (.bool d1.ending) from rfl] at c4
      have t10 := byte_ten c
      have t13 := byte_cr c
      unfold dNext at HST HNF
      rw [if_neg hbd] at HST HNF
      cases he : d1.ending with
      | true =>
        rw [he] at c4 HST HNF
        by_cases h10 : c = 10
        · rw [decide_eq_true h10] at t10 HST HNF
          rw [if_neg (by simp), if_pos rfl] at HST HNF
          have HEN := hide he
          clear he t13 hbd
          obtain ⟨la, lc, hle, _, _⟩ := HP2.out.dec.line.shape
          rw [bc_len] at hle
          subst hle
          have HT := HP2.out.dec.line.text
          rw [show (⟨d1.line.toArray⟩ : ByteArray) = sS d1.line from rfl] at HT
          have hl8 := HF1.out.line
          have c3 := HP2.out.dec.cell 3
          rw [show (dcells d1 g (.slice la d1.line.length lc) tv1)[3]? = some (.slice la d1.line.length lc) from rfl] at c3
          have f3 := HP2.out.dec.froz 3
          have f4 := HP2.out.dec.froz 4
          go_upto_region 9 with fail
          obtain ⟨hP4, hK4⟩ := HP2.out.dec.cutl
          have HP4 := hide (hP4.set 4 (.bool false) { d1 with line := [], ending := false } rfl rfl rfl)
          have HK4 := hide (hK4.trans (PK.set _ g 4 (.bool false) (.slice la 0 lc) tv1))
          clear c3 c4 f3 f4 HT hP4 hK4
          generalize (w2.setCell ⟨g, 3, none⟩ (.slice la 0 lc)).setCell ⟨g, 4, none⟩ (.bool false) = w4 at HP4 HK4 ⊢
          have HDP4 := hide (HP2.out.of_PK HP4.out HK4.out)
          have HDK4 := hide (HK2.out.trans (DK.of_PK (h := h) bv HK4.out))
          have HM4 := hide (HM.out.dk HP.out hb HDK4.out)
          have HDE : Hid (dEnd { d1 with line := [], ending := false } (sS d1.line) = dSized { d1 with line := [], ending := false } (sS d1.line)) := hide (by
            unfold dEnd
            rw [show ({ d1 with line := [], ending := false } : Dz).fn = fnSize from HFN1.out]
            rw [if_pos rfl])
          rw [HDE.out] at HST HNF
          have hs8 : (sS d1.line).size ≤ 8192 := by rw [sS_size]; exact hl8
          have hro := HF1.out.room
          have htr := HF1.out.tr
          have HL := hide (sized_any HP4.out HM4.out (sS d1.line) hs8 hro)
          clear hl8 hro htr
          have HWE : Hid ((dSized { d1 with line := [], ending := false } (sS d1.line)).2.wrong = d1.wrong) := hide (by unfold dSized; (repeat' split) <;> rfl)
          generalize dSized { d1 with line := [], ending := false } (sS d1.line) = R at HL HST HNF HWE
          obtain ⟨en, d5⟩ := R
          dsimp only at HL HST HNF HWE
          go_wp2_with (refine HL.out.mono ?_; rintro e w5 ⟨rfl, fv5, h5, k5⟩)
          go_ret
          exact ⟨en, k + 1, [], d5, _, _, _, bv, rfl, HST.out, HNF.out, fun _ => by omega, HWE.out.trans HWR1.out, by rw [List.append_nil, HDR.out]; exact HDP4.out.of_PK h5 k5, HDK4.out.trans (DK.of_PK bv k5)⟩
        · rw [decide_eq_false h10] at t10 HST HNF
          rw [if_pos (by simp)] at HST HNF
          clear he t13 hbd
          go_wp2_with fail
          go_ret
          exact ⟨100, k + 1, [], d1, _, _, _, bv, rfl, HST.out, HF1.out, fun _ => by omega, HWR1.out, by rw [List.append_nil, HDR.out]; exact HP2.out, HK2.out⟩
      | false =>
        rw [he] at c4 HST HNF
        by_cases h10 : c = 10
        · rw [decide_eq_true h10] at t10 HST HNF
          rw [if_pos (by simp)] at HST HNF
          clear he t13 hbd
          go_wp2_with fail
          go_ret
          exact ⟨100, k + 1, [], d1, _, _, _, bv, rfl, HST.out, HF1.out, fun _ => by omega, HWR1.out, by rw [List.append_nil, HDR.out]; exact HP2.out, HK2.out⟩
        · rw [decide_eq_false h10] at t10 HST HNF
          rw [if_neg (by simp), if_neg (by simp)] at HST HNF
          clear hbd
          by_cases h13 : c = 13
          · rw [decide_eq_true h13] at t13
            rw [if_pos h13] at HST HNF
            have f4 := HP2.out.dec.froz 4
            clear he
            go_wp2_with fail
            have HD3 := hide (HP2.out.dec.set 4 (.bool true) { d1 with ending := true } rfl rfl rfl)
            have HP3 := hide (HP2.out.of_PK HD3.out (PK.set w2 g 4 (.bool true) lv1 tv1))
            exact ⟨⟨k + 1, { d1 with ending := true }, lv1, tv1, rv2, HST, HNF, HW1, HFN1, HLE1, HWR1, hide (by rw [HDR.out]; exact HP3.out), hide (HK2.out.trans (DK.of_PK bv (PK.set w2 g 4 (.bool true) lv1 tv1)))⟩, by rw [HP3.out.restLen, HRL2.out]; omega⟩
          · rw [decide_eq_false h13] at t13
            rw [if_neg h13] at HST HNF
            have hmo : dMost d1 = 8192 := by unfold dMost; rw [HFN1.out]; decide
            rw [hmo] at HST HNF
            have HEF := hide he
            clear he hmo
            obtain ⟨la, lc, hle, _, _⟩ := HP2.out.dec.line.shape
            rw [bc_len] at hle
            subst hle
            have c3 := HP2.out.dec.cell 3
            rw [show (dcells d1 g (.slice la d1.line.length lc) tv1)[3]? = some (.slice la d1.line.length lc) from rfl] at c3
            have f3 := HP2.out.dec.froz 3
            have hl8 := HF1.out.line
            by_cases h5 : d1.line.length = 8192
            · have t5 : ((d1.line.length : Int) == 8192) = true := by simp [h5]
              rw [if_pos h5] at HST HNF
              clear h5
              go_wp2_with fail
              go_ret
              exact ⟨100, k + 1, [], d1, _, _, _, bv, rfl, HST.out, HF1.out, fun _ => by omega, HWR1.out, by rw [List.append_nil, HDR.out]; exact HP2.out, HK2.out⟩
            · have t5 : ((d1.line.length : Int) == 8192) = false := by rw [beq_eq_false_iff_ne]; omega
              rw [if_neg h5] at HST HNF
              clear h5
              obtain ⟨ad, n, ca, W, hrun, q1, q2, hP, hK⟩ := HP2.out.dec.app_l 29 c (by omega)
              have HRUN := hide hrun
              have HP3 := hide (HP2.out.of_PK hP hK)
              have HK3 := hide (HK2.out.trans (DK.of_PK (h := h) bv hK))
              clear hP hK hrun
              go_wp2_with (at_builtin; apply Hid.out)
              unfold Hid
              refine wpList_append_is rfl _ _ 29 rfl (.slice la d1.line.length lc) (.slice (some ⟨w2.heap.size, 0, none⟩) 1 1) (.slice ad n ca) rfl rfl HRUN.out ?_
              go_wp2_with fail
              exact ⟨⟨k + 1, { d1 with line := d1.line ++ [c] }, _, tv1, rv2, hide (by have h := HST.out; rw [← HEF.out] at h; exact h), hide (by have h := HNF.out; rw [← HEF.out] at h; exact h), HW1, HFN1, HLE1, HWR1, hide (by rw [HDR.out]; exact HP3.out), HK3⟩, by rw [HP3.out.restLen, HRL2.out]; omega⟩
end Go.Proofs.YthciahpadninpaaDoor
/- A line, read on: at another caller. -/
namespace Go.Proofs.YthciahpadninpaaDoor
open Go.ChangeShapes Go.WideShapes Go.ChangeAt Go.RowKit

set_option maxHeartbeats 8000000 in
theorem readLine_body {w : World} {base g h : Nat} {A : Nat → Prop} {lv tv rv bv : Value} {d : Dz} {rest body : List UInt8} (p : DP w base A g h lv tv rv bv d rest body) (hf : FitD d) (hfn : d.fn = fnBody) (hw : d.whole = false) (hlf : d.fn = fnBody → d.left = 0 ∨ rest = []) (hm : MX w) (hb : 2 ≤ base) (hl : rest.length ≤ 140737488355328) :
    Calls Tryd.prog 32 #[.pointer (some ⟨g, 0, none⟩), .pointer (some ⟨h, 0, none⟩), .int .i64 0, .func (.func 59) #[.pointer (some ⟨g, 0, none⟩)] #[]] w (StP w base A g h lv tv bv d rest body) := by
  have HP := hide p
  have HF := hide hf
  have HM := hide hm
  have HLF := hide hlf
  have HFN := hide hfn
  have HW := hide hw
  clear p hf hm hlf hfn hw
  go_enter Tryd.func32, Tryd.ntmps32
  go_wp2_with fail
  go_loopw [9] (fun _ wr => ∃ (k : Nat) (d' : Dz) (lv' tv' rv' : Value), Hid (Dn d rest k [] 0 d') ∧ Hid (FitD d') ∧ Hid (d'.whole = false) ∧ Hid (d'.fn = fnBody) ∧ Hid (d'.left = d.left) ∧ Hid (d'.wrong = d.wrong) ∧ Hid (DP wr base A g h lv' tv' rv' bv d' (rest.drop k) body) ∧ Hid (DK w wr g h lv tv bv lv' tv' bv)) (fun _ wr => restLen h wr)
  case atStart => exact ⟨0, d, lv, tv, rv, hide (Dn.refl d rest HW.out), HF, HW, HFN, hide rfl, hide rfl, by rw [List.drop_zero]; exact HP, hide (DK.refl _ _ _ _ _ _)⟩
  case round =>
    obtain ⟨k, d1, lv1, tv1, rv1, HD1, HF1, HW1, HFN1, HLE1, HWR1, HP1, HK1⟩ := hrel
    have HRL := hide HP1.out.restLen
    have HM1 := hide (HM.out.dk HP.out hb HK1.out)
    cases hrd : rest.drop k with
    | nil =>
      have HRD := hide hrd
      have hp1 := HP1.out
      rw [hrd] at hp1
      clear hrd
      obtain ⟨ra, rc, hre, _, _⟩ := hp1.pce.rest
      simp only [List.length_nil] at hre
      subst hre
      have c0 : wr.cell? ⟨h, 0, none⟩ = some (.slice ra 0 rc) := hp1.pce.cell 0
      clear hp1
      go_wp2_with fail
      go_ret
      exact ⟨0, k, [], d1, lv1, tv1, _, bv, rfl, HD1.out, HF1.out, fun hne => (by
        have := HRD.out
        have h2 := congrArg List.length this
        rw [List.length_drop, List.length_nil] at h2
        have h3 := List.length_pos_iff.2 hne
        omega), HWR1.out, by rw [List.append_nil]; exact HP1.out, HK1.out⟩
    | cons c r =>
      have hp1 := HP1.out
      rw [hrd] at hp1
      have HP1' := hide hp1
      have hrl : r.length ≤ 140737488355328 := by
        have h2 := congrArg List.length hrd
        rw [List.length_drop, List.length_cons] at h2
        omega
      obtain ⟨ra, rc, hre, _, _⟩ := hp1.pce.rest
      simp only [List.length_cons] at hre
      subst hre
      have c0 : wr.cell? ⟨h, 0, none⟩ = some (.slice ra (r.length + 1) rc) := hp1.pce.cell 0
      have hst := HD1.out.step HW1.out hrd
      have HST := hide hst.1
      have HDR := hide hst.2
      have HRL2 : Hid (restLen h wr = r.length + 1) := hide (by rw [HRL.out, hrd]; rfl)
      have hbd : ¬ (d1.fn = fnBody ∧ 0 < d1.left) := fun hx => by
        rcases HLF.out (HFN.out.trans (HFN1.out.symm.trans hx.1)) with h3 | h3
        · have := HLE1.out; omega
        · rw [h3] at hrd; simp at hrd
      have HNF := hide (HF1.out.next c)
      have HNX := hide hp1.pce
      clear hp1 hst hrd HRL
      go_upto_region 4 with (go_at_call 42; refine (next_any HNX.out hrl).mono ?_; rintro e w2 ⟨rfl, rv2, hp2, hk2⟩)
      have HP2 := hide (HP1'.out.of_QK hp2 hk2)
      have HK2 := hide (HK1.out.trans (DK.of_QK lv1 tv1 hk2))
      clear hp2 hk2 c0 HNX HP1 HP1'
      have c4 := HP2.out.dec.cell 4
      rw [show (dcells d1 g lv1 tv1)[4]? = some (.bool d1.ending) from rfl] at c4
      have t10 := byte_ten c
      have t13 := byte_cr c
      unfold dNext at HST HNF
      rw [if_neg hbd] at HST HNF
      cases he : d1.ending with
      | true =>
        rw [he] at c4 HST HNF
        by_cases h10 : c = 10
        · rw [decide_eq_true h10] at t10 HST HNF
          rw [if_neg (by simp), if_pos rfl] at HST HNF
          have HEN := hide he
          clear he t13 hbd
          obtain ⟨la, lc, hle, _, _⟩ := HP2.out.dec.line.shape
          rw [bc_len] at hle
          subst hle
          have HT := HP2.out.dec.line.text
          rw [show (⟨d1.line.toArray⟩ : ByteArray) = sS d1.line from rfl] at HT
          have hl8 := HF1.out.line
          have c3 := HP2.out.dec.cell 3
          rw [show (dcells d1 g (.slice la d1.line.length lc) tv1)[3]? = some (.slice la d1.line.length lc) from rfl] at c3
          have f3 := HP2.out.dec.froz 3
          have f4 := HP2.out.dec.froz 4
          go_upto_region 9 with fail
          obtain ⟨hP4, hK4⟩ := HP2.out.dec.cutl
          have HP4 := hide (hP4.set 4 (.bool false) { d1 with line := [], ending := false } rfl rfl rfl)
          have HK4 := hide (hK4.trans (PK.set _ g 4 (.bool false) (.slice la 0 lc) tv1))
          clear c3 c4 f3 f4 HT hP4 hK4
          generalize (w2.setCell ⟨g, 3, none⟩ (.slice la 0 lc)).setCell ⟨g, 4, none⟩ (.bool false) = w4 at HP4 HK4 ⊢
          have HDP4 := hide (HP2.out.of_PK HP4.out HK4.out)
          have HDK4 := hide (HK2.out.trans (DK.of_PK (h := h) bv HK4.out))
          have HM4 := hide (HM.out.dk HP.out hb HDK4.out)
          have HDE : Hid (dEnd { d1 with line := [], ending := false } (sS d1.line) = dRead { d1 with line := [], ending := false } (sS d1.line)) := hide (by
            unfold dEnd
            rw [show ({ d1 with line := [], ending := false } : Dz).fn = fnBody from HFN1.out]
            rw [if_neg (Ne.symm fn_ne.1), if_pos rfl])
          rw [HDE.out] at HST HNF
          have hs8 : (sS d1.line).size ≤ 8192 := by rw [sS_size]; exact hl8
          have hro := HF1.out.room
          have htr := HF1.out.tr
          have HL := hide (chunkRead_any HP4.out (sS d1.line))
          clear hl8 hro htr
          have HWE : Hid ((dRead { d1 with line := [], ending := false } (sS d1.line)).2.wrong = d1.wrong) := hide (by unfold dRead; (repeat' split) <;> rfl)
          generalize dRead { d1 with line := [], ending := false } (sS d1.line) = R at HL HST HNF HWE
          obtain ⟨en, d5⟩ := R
          dsimp only at HL HST HNF HWE
          go_wp2_with (refine HL.out.mono ?_; rintro e w5 ⟨rfl, fv5, h5, k5⟩)
          go_ret
          exact ⟨en, k + 1, [], d5, _, _, _, bv, rfl, HST.out, HNF.out, fun _ => by omega, HWE.out.trans HWR1.out, by rw [List.append_nil, HDR.out]; exact HDP4.out.of_PK h5 k5, HDK4.out.trans (DK.of_PK bv k5)⟩
        · rw [decide_eq_false h10] at t10 HST HNF
          rw [if_pos (by simp)] at HST HNF
          clear he t13 hbd
          go_wp2_with fail
          go_ret
          exact ⟨100, k + 1, [], d1, _, _, _, bv, rfl, HST.out, HF1.out, fun _ => by omega, HWR1.out, by rw [List.append_nil, HDR.out]; exact HP2.out, HK2.out⟩
      | false =>
        rw [he] at c4 HST HNF
        by_cases h10 : c = 10
        · rw [decide_eq_true h10] at t10 HST HNF
          rw [if_pos (by simp)] at HST HNF
          clear he t13 hbd
          go_wp2_with fail
          go_ret
          exact ⟨100, k + 1, [], d1, _, _, _, bv, rfl, HST.out, HF1.out, fun _ => by omega, HWR1.out, by rw [List.append_nil, HDR.out]; exact HP2.out, HK2.out⟩
        · rw [decide_eq_false h10] at t10 HST HNF
          rw [if_neg (by simp), if_neg (by simp)] at HST HNF
          clear hbd
          by_cases h13 : c = 13
          · rw [decide_eq_true h13] at t13
            rw [if_pos h13] at HST HNF
            have f4 := HP2.out.dec.froz 4
            clear he
            go_wp2_with fail
            have HD3 := hide (HP2.out.dec.set 4 (.bool true) { d1 with ending := true } rfl rfl rfl)
            have HP3 := hide (HP2.out.of_PK HD3.out (PK.set w2 g 4 (.bool true) lv1 tv1))
            exact ⟨⟨k + 1, { d1 with ending := true }, lv1, tv1, rv2, HST, HNF, HW1, HFN1, HLE1, HWR1, hide (by rw [HDR.out]; exact HP3.out), hide (HK2.out.trans (DK.of_PK bv (PK.set w2 g 4 (.bool true) lv1 tv1)))⟩, by rw [HP3.out.restLen, HRL2.out]; omega⟩
          · rw [decide_eq_false h13] at t13
            rw [if_neg h13] at HST HNF
            have hmo : dMost d1 = 0 := by unfold dMost; rw [HFN1.out]; rfl
            rw [hmo] at HST HNF
            have HEF := hide he
            clear he hmo
            obtain ⟨la, lc, hle, _, _⟩ := HP2.out.dec.line.shape
            rw [bc_len] at hle
            subst hle
            have c3 := HP2.out.dec.cell 3
            rw [show (dcells d1 g (.slice la d1.line.length lc) tv1)[3]? = some (.slice la d1.line.length lc) from rfl] at c3
            have f3 := HP2.out.dec.froz 3
            have hl8 := HF1.out.line
            by_cases h5 : d1.line.length = 0
            · have t5 : ((d1.line.length : Int) == 0) = true := by simp [h5]
              rw [if_pos h5] at HST HNF
              clear h5
              go_wp2_with fail
              go_ret
              exact ⟨100, k + 1, [], d1, _, _, _, bv, rfl, HST.out, HF1.out, fun _ => by omega, HWR1.out, by rw [List.append_nil, HDR.out]; exact HP2.out, HK2.out⟩
            · have t5 : ((d1.line.length : Int) == 0) = false := by rw [beq_eq_false_iff_ne]; omega
              rw [if_neg h5] at HST HNF
              clear h5
              obtain ⟨ad, n, ca, W, hrun, q1, q2, hP, hK⟩ := HP2.out.dec.app_l 29 c (by omega)
              have HRUN := hide hrun
              have HP3 := hide (HP2.out.of_PK hP hK)
              have HK3 := hide (HK2.out.trans (DK.of_PK (h := h) bv hK))
              clear hP hK hrun
              go_wp2_with (at_builtin; apply Hid.out)
              unfold Hid
              refine wpList_append_is rfl _ _ 29 rfl (.slice la d1.line.length lc) (.slice (some ⟨w2.heap.size, 0, none⟩) 1 1) (.slice ad n ca) rfl rfl HRUN.out ?_
              go_wp2_with fail
              exact ⟨⟨k + 1, { d1 with line := d1.line ++ [c] }, _, tv1, rv2, hide (by have h := HST.out; rw [← HEF.out] at h; exact h), hide (by have h := HNF.out; rw [← HEF.out] at h; exact h), HW1, HFN1, HLE1, HWR1, hide (by rw [HDR.out]; exact HP3.out), HK3⟩, by rw [HP3.out.restLen, HRL2.out]; omega⟩
end Go.Proofs.YthciahpadninpaaDoor
/- A line, read on: at another caller. -/
namespace Go.Proofs.YthciahpadninpaaDoor
open Go.ChangeShapes Go.WideShapes Go.ChangeAt Go.RowKit

set_option maxHeartbeats 8000000 in
theorem readLine_trl {w : World} {base g h : Nat} {A : Nat → Prop} {lv tv rv bv : Value} {d : Dz} {rest body : List UInt8} (p : DP w base A g h lv tv rv bv d rest body) (hf : FitD d) (hfn : d.fn = fnTrl) (hw : d.whole = false) (hlf : d.fn = fnBody → d.left = 0 ∨ rest = []) (hm : MX w) (hb : 2 ≤ base) (hl : rest.length ≤ 140737488355328) :
    Calls Tryd.prog 32 #[.pointer (some ⟨g, 0, none⟩), .pointer (some ⟨h, 0, none⟩), .int .i64 8192, .func (.func 60) #[.pointer (some ⟨g, 0, none⟩)] #[]] w (StP w base A g h lv tv bv d rest body) := by
  have HP := hide p
  have HF := hide hf
  have HM := hide hm
  have HLF := hide hlf
  have HFN := hide hfn
  have HW := hide hw
  clear p hf hm hlf hfn hw
  go_enter Tryd.func32, Tryd.ntmps32
  go_wp2_with fail
  go_loopw [9] (fun _ wr => ∃ (k : Nat) (d' : Dz) (lv' tv' rv' : Value), Hid (Dn d rest k [] 0 d') ∧ Hid (FitD d') ∧ Hid (d'.whole = false) ∧ Hid (d'.fn = fnTrl) ∧ Hid (d'.left = d.left) ∧ Hid (d'.wrong = d.wrong) ∧ Hid (DP wr base A g h lv' tv' rv' bv d' (rest.drop k) body) ∧ Hid (DK w wr g h lv tv bv lv' tv' bv)) (fun _ wr => restLen h wr)
  case atStart => exact ⟨0, d, lv, tv, rv, hide (Dn.refl d rest HW.out), HF, HW, HFN, hide rfl, hide rfl, by rw [List.drop_zero]; exact HP, hide (DK.refl _ _ _ _ _ _)⟩
  case round =>
    obtain ⟨k, d1, lv1, tv1, rv1, HD1, HF1, HW1, HFN1, HLE1, HWR1, HP1, HK1⟩ := hrel
    have HRL := hide HP1.out.restLen
    have HM1 := hide (HM.out.dk HP.out hb HK1.out)
    cases hrd : rest.drop k with
    | nil =>
      have HRD := hide hrd
      have hp1 := HP1.out
      rw [hrd] at hp1
      clear hrd
      obtain ⟨ra, rc, hre, _, _⟩ := hp1.pce.rest
      simp only [List.length_nil] at hre
      subst hre
      have c0 : wr.cell? ⟨h, 0, none⟩ = some (.slice ra 0 rc) := hp1.pce.cell 0
      clear hp1
      go_wp2_with fail
      go_ret
      exact ⟨0, k, [], d1, lv1, tv1, _, bv, rfl, HD1.out, HF1.out, fun hne => (by
        have := HRD.out
        have h2 := congrArg List.length this
        rw [List.length_drop, List.length_nil] at h2
        have h3 := List.length_pos_iff.2 hne
        omega), HWR1.out, by rw [List.append_nil]; exact HP1.out, HK1.out⟩
    | cons c r =>
      have hp1 := HP1.out
      rw [hrd] at hp1
      have HP1' := hide hp1
      have hrl : r.length ≤ 140737488355328 := by
        have h2 := congrArg List.length hrd
        rw [List.length_drop, List.length_cons] at h2
        omega
      obtain ⟨ra, rc, hre, _, _⟩ := hp1.pce.rest
      simp only [List.length_cons] at hre
      subst hre
      have c0 : wr.cell? ⟨h, 0, none⟩ = some (.slice ra (r.length + 1) rc) := hp1.pce.cell 0
      have hst := HD1.out.step HW1.out hrd
      have HST := hide hst.1
      have HDR := hide hst.2
      have HRL2 : Hid (restLen h wr = r.length + 1) := hide (by rw [HRL.out, hrd]; rfl)
      have hbd : ¬ (d1.fn = fnBody ∧ 0 < d1.left) := fun hx => by
        rcases HLF.out (HFN.out.trans (HFN1.out.symm.trans hx.1)) with h3 | h3
        · have := HLE1.out; omega
        · rw [h3] at hrd; simp at hrd
      have HNF := hide (HF1.out.next c)
      have HNX := hide hp1.pce
      clear hp1 hst hrd HRL
      go_upto_region 4 with (go_at_call 42; refine (next_any HNX.out hrl).mono ?_; rintro e w2 ⟨rfl, rv2, hp2, hk2⟩)
      have HP2 := hide (HP1'.out.of_QK hp2 hk2)
      have HK2 := hide (HK1.out.trans (DK.of_QK lv1 tv1 hk2))
      clear hp2 hk2 c0 HNX HP1 HP1'
      have c4 := HP2.out.dec.cell 4
      rw [show (dcells d1 g lv1 tv1)[4]? = some (.bool d1.ending) from rfl] at c4
      have t10 := byte_ten c
      have t13 := byte_cr c
      unfold dNext at HST HNF
      rw [if_neg hbd] at HST HNF
      cases he : d1.ending with
      | true =>
        rw [he] at c4 HST HNF
        by_cases h10 : c = 10
        · rw [decide_eq_true h10] at t10 HST HNF
          rw [if_neg (by simp), if_pos rfl] at HST HNF
          have HEN := hide he
          clear he t13 hbd
          obtain ⟨la, lc, hle, _, _⟩ := HP2.out.dec.line.shape
          rw [bc_len] at hle
          subst hle
          have HT := HP2.out.dec.line.text
          rw [show (⟨d1.line.toArray⟩ : ByteArray) = sS d1.line from rfl] at HT
          have hl8 := HF1.out.line
          have c3 := HP2.out.dec.cell 3
          rw [show (dcells d1 g (.slice la d1.line.length lc) tv1)[3]? = some (.slice la d1.line.length lc) from rfl] at c3
          have f3 := HP2.out.dec.froz 3
          have f4 := HP2.out.dec.froz 4
          go_upto_region 9 with fail
          obtain ⟨hP4, hK4⟩ := HP2.out.dec.cutl
          have HP4 := hide (hP4.set 4 (.bool false) { d1 with line := [], ending := false } rfl rfl rfl)
          have HK4 := hide (hK4.trans (PK.set _ g 4 (.bool false) (.slice la 0 lc) tv1))
          clear c3 c4 f3 f4 HT hP4 hK4
          generalize (w2.setCell ⟨g, 3, none⟩ (.slice la 0 lc)).setCell ⟨g, 4, none⟩ (.bool false) = w4 at HP4 HK4 ⊢
          have HDP4 := hide (HP2.out.of_PK HP4.out HK4.out)
          have HDK4 := hide (HK2.out.trans (DK.of_PK (h := h) bv HK4.out))
          have HM4 := hide (HM.out.dk HP.out hb HDK4.out)
          have HDE : Hid (dEnd { d1 with line := [], ending := false } (sS d1.line) = dTrl { d1 with line := [], ending := false } (sS d1.line)) := hide (by
            unfold dEnd
            rw [show ({ d1 with line := [], ending := false } : Dz).fn = fnTrl from HFN1.out]
            rw [if_neg (Ne.symm fn_ne.2.1), if_neg (Ne.symm fn_ne.2.2)])
          rw [HDE.out] at HST HNF
          have hs8 : (sS d1.line).size ≤ 8192 := by rw [sS_size]; exact hl8
          have hro := HF1.out.room
          have htr := HF1.out.tr
          have HL := hide (trailer_any HP4.out HM4.out (sS d1.line) hs8 htr)
          clear hl8 hro htr
          have HWE : Hid ((dTrl { d1 with line := [], ending := false } (sS d1.line)).2.wrong = d1.wrong) := hide (by unfold dTrl; (repeat' split) <;> rfl)
          generalize dTrl { d1 with line := [], ending := false } (sS d1.line) = R at HL HST HNF HWE
          obtain ⟨en, d5⟩ := R
          dsimp only at HL HST HNF HWE
          go_wp2_with (refine HL.out.mono ?_; rintro e w5 ⟨rfl, fv5, h5, k5⟩)
          go_ret
          exact ⟨en, k + 1, [], d5, _, _, _, bv, rfl, HST.out, HNF.out, fun _ => by omega, HWE.out.trans HWR1.out, by rw [List.append_nil, HDR.out]; exact HDP4.out.of_PK h5 k5, HDK4.out.trans (DK.of_PK bv k5)⟩
        · rw [decide_eq_false h10] at t10 HST HNF
          rw [if_pos (by simp)] at HST HNF
          clear he t13 hbd
          go_wp2_with fail
          go_ret
          exact ⟨100, k + 1, [], d1, _, _, _, bv, rfl, HST.out, HF1.out, fun _ => by omega, HWR1.out, by rw [List.append_nil, HDR.out]; exact HP2.out, HK2.out⟩
      | false =>
        rw [he] at c4 HST HNF
        by_cases h10 : c = 10
        · rw [decide_eq_true h10] at t10 HST HNF
          rw [if_pos (by simp)] at HST HNF
          clear he t13 hbd
          go_wp2_with fail
          go_ret
          exact ⟨100, k + 1, [], d1, _, _, _, bv, rfl, HST.out, HF1.out, fun _ => by omega, HWR1.out, by rw [List.append_nil, HDR.out]; exact HP2.out, HK2.out⟩
        · rw [decide_eq_false h10] at t10 HST HNF
          rw [if_neg (by simp), if_neg (by simp)] at HST HNF
          clear hbd
          by_cases h13 : c = 13
          · rw [decide_eq_true h13] at t13
            rw [if_pos h13] at HST HNF
            have f4 := HP2.out.dec.froz 4
            clear he
            go_wp2_with fail
            have HD3 := hide (HP2.out.dec.set 4 (.bool true) { d1 with ending := true } rfl rfl rfl)
            have HP3 := hide (HP2.out.of_PK HD3.out (PK.set w2 g 4 (.bool true) lv1 tv1))
            exact ⟨⟨k + 1, { d1 with ending := true }, lv1, tv1, rv2, HST, HNF, HW1, HFN1, HLE1, HWR1, hide (by rw [HDR.out]; exact HP3.out), hide (HK2.out.trans (DK.of_PK bv (PK.set w2 g 4 (.bool true) lv1 tv1)))⟩, by rw [HP3.out.restLen, HRL2.out]; omega⟩
          · rw [decide_eq_false h13] at t13
            rw [if_neg h13] at HST HNF
            have hmo : dMost d1 = 8192 := by unfold dMost; rw [HFN1.out]; decide
            rw [hmo] at HST HNF
            have HEF := hide he
            clear he hmo
            obtain ⟨la, lc, hle, _, _⟩ := HP2.out.dec.line.shape
            rw [bc_len] at hle
            subst hle
            have c3 := HP2.out.dec.cell 3
            rw [show (dcells d1 g (.slice la d1.line.length lc) tv1)[3]? = some (.slice la d1.line.length lc) from rfl] at c3
            have f3 := HP2.out.dec.froz 3
            have hl8 := HF1.out.line
            by_cases h5 : d1.line.length = 8192
            · have t5 : ((d1.line.length : Int) == 8192) = true := by simp [h5]
              rw [if_pos h5] at HST HNF
              clear h5
              go_wp2_with fail
              go_ret
              exact ⟨100, k + 1, [], d1, _, _, _, bv, rfl, HST.out, HF1.out, fun _ => by omega, HWR1.out, by rw [List.append_nil, HDR.out]; exact HP2.out, HK2.out⟩
            · have t5 : ((d1.line.length : Int) == 8192) = false := by rw [beq_eq_false_iff_ne]; omega
              rw [if_neg h5] at HST HNF
              clear h5
              obtain ⟨ad, n, ca, W, hrun, q1, q2, hP, hK⟩ := HP2.out.dec.app_l 29 c (by omega)
              have HRUN := hide hrun
              have HP3 := hide (HP2.out.of_PK hP hK)
              have HK3 := hide (HK2.out.trans (DK.of_PK (h := h) bv hK))
              clear hP hK hrun
              go_wp2_with (at_builtin; apply Hid.out)
              unfold Hid
              refine wpList_append_is rfl _ _ 29 rfl (.slice la d1.line.length lc) (.slice (some ⟨w2.heap.size, 0, none⟩) 1 1) (.slice ad n ca) rfl rfl HRUN.out ?_
              go_wp2_with fail
              exact ⟨⟨k + 1, { d1 with line := d1.line ++ [c] }, _, tv1, rv2, hide (by have h := HST.out; rw [← HEF.out] at h; exact h), hide (by have h := HNF.out; rw [← HEF.out] at h; exact h), HW1, HFN1, HLE1, HWR1, hide (by rw [HDR.out]; exact HP3.out), HK3⟩, by rw [HP3.out.restLen, HRL2.out]; omega⟩
end Go.Proofs.YthciahpadninpaaDoor
/- The decoder's states. -/
namespace Go.Proofs.YthciahpadninpaaDoor
open Go.ChangeShapes Go.WideShapes Go.ChangeAt Go.RowKit

theorem sizeLine_any {w : World} {base g h : Nat} {A : Nat → Prop} {lv tv rv bv : Value} {d : Dz} {rest body : List UInt8} (p : DP w base A g h lv tv rv bv d rest body) (hf : FitD d) (hfn : d.fn = fnSize) (hw : d.whole = false) (hm : MX w) (hb : 2 ≤ base) (hl : rest.length ≤ 140737488355328) :
    Calls Tryd.prog 20 #[.pointer (some ⟨g, 0, none⟩), .pointer (some ⟨h, 0, none⟩)] w (StP w base A g h lv tv bv d rest body) := by
  have HL := hide (readLine_size p hf hfn hw (fun e => absurd (hfn.symm.trans e) fn_ne.1) hm hb hl)
  clear p hf hfn hw hm hb hl
  go_enter Tryd.func20, Tryd.ntmps20
  go_wp2_with fail
  refine HL.out.mono ?_
  rintro e w' ⟨en, k, o, d', lv', tv', rv', bv', rfl, h1, h2, h3, h4, h5, h6⟩
  have H := hide (And.intro h1 (And.intro h2 (And.intro h3 (And.intro h4 (And.intro h5 h6)))))
  clear h1 h2 h3 h4 h5 h6
  go_wp2_with fail
  go_ret
  exact ⟨en, k, o, d', lv', tv', rv', bv', rfl, H.out⟩
theorem trailerLine_any {w : World} {base g h : Nat} {A : Nat → Prop} {lv tv rv bv : Value} {d : Dz} {rest body : List UInt8} (p : DP w base A g h lv tv rv bv d rest body) (hf : FitD d) (hfn : d.fn = fnTrl) (hw : d.whole = false) (hm : MX w) (hb : 2 ≤ base) (hl : rest.length ≤ 140737488355328) :
    Calls Tryd.prog 47 #[.pointer (some ⟨g, 0, none⟩), .pointer (some ⟨h, 0, none⟩)] w (StP w base A g h lv tv bv d rest body) := by
  have HL := hide (readLine_trl p hf hfn hw (fun e => absurd (e.symm.trans hfn) fn_ne.2.2) hm hb hl)
  clear p hf hfn hw hm hb hl
  go_enter Tryd.func47, Tryd.ntmps47
  go_wp2_with fail
  refine HL.out.mono ?_
  rintro e w' ⟨en, k, o, d', lv', tv', rv', bv', rfl, h1, h2, h3, h4, h5, h6⟩
  have H := hide (And.intro h1 (And.intro h2 (And.intro h3 (And.intro h4 (And.intro h5 h6)))))
  clear h1 h2 h3 h4 h5 h6
  go_wp2_with fail
  go_ret
  exact ⟨en, k, o, d', lv', tv', rv', bv', rfl, H.out⟩
/-- Both, with more blocks. -/
theorem DP.below {w w' : World} {base g h : Nat} {A : Nat → Prop} {lv tv rv bv : Value} {d : Dz} {rest body : List UInt8} (p : DP w base A g h lv tv rv bv d rest body) (b : Below w.heap.size w w') : DP w' base A g h lv tv rv bv d rest body :=
  ⟨p.dec.below b, p.pce.below b, p.gh, p.lh, p.th, p.bg, p.bl, p.bt, p.gA, p.lA, p.tA⟩
theorem DK.of_below {w w' : World} (g h : Nat) (lv tv bv : Value) (b : Below w.heap.size w w') : DK w w' g h lv tv bv lv tv bv :=
  ⟨b.os, b.tape, b.output, b.size, fun k hk _ _ _ _ _ => b.block k hk, fun _ _ h => h, fun _ _ h => h, fun _ _ h => h⟩
/-- Behind bytes that were taken, what a state tells of the rest is told of all. -/
theorem StP.after {w w1 : World} {base g h : Nat} {A : Nat → Prop} {lv tv bv lv1 tv1 bv1 : Value} {d : Dz} {rest body : List UInt8} {n : Nat} (hn : n ≤ rest.length) (hw : d.whole = false) (hk : DK w w1 g h lv tv bv lv1 tv1 bv1) (hT : Dn d rest n (rest.take n) 0 { d with left := d.left - n }) (h0 : rest.drop n = [] → 1 ≤ n ∨ rest = []) {e : Ending} {w' : World} (hs : StP w1 base A g h lv1 tv1 bv1 { d with left := d.left - n } (rest.drop n) (body ++ rest.take n) e w') : StP w base A g h lv tv bv d rest body e w' := by
  obtain ⟨en, k, o, d', lv', tv', rv', bv', h1, h2, h3, h4, h5, h6, h7⟩ := hs
  refine ⟨en, n + k, rest.take n ++ o, d', lv', tv', rv', bv', h1, ?_, h3, fun hne => ?_, h5, ?_, hk.trans h7⟩
  · obtain ⟨a1, a2⟩ := hT
    obtain ⟨b1, b2⟩ := h2
    rw [if_neg (by simp [hw])] at a2
    rw [List.length_drop] at b1
    refine ⟨by omega, ?_⟩
    split at b2
    · rename_i hx
      rw [if_pos hx, a2, b2]
      simp [sh, Nat.add_comm]
    · rename_i hx
      rw [if_neg hx, a2, b2, List.drop_drop, sh_sh, Nat.add_comm k n]
  · by_cases hd : rest.drop n = []
    · rcases h0 hd with h8 | h8
      · omega
      · exact absurd h8 hne
    · have := h4 hd; omega
  · rw [← List.append_assoc, ← List.drop_drop]
    exact h6
set_option maxHeartbeats 8000000 in
set_option maxRecDepth 100000 in
theorem body_any {w : World} {base g h : Nat} {A : Nat → Prop} {lv tv rv bv : Value} {d : Dz} {rest body : List UInt8} (p : DP w base A g h lv tv rv bv d rest body) (hf : FitD d) (hfn : d.fn = fnBody) (hw : d.whole = false) (h0 : rest ≠ []) (hm : MX w) (hb : 2 ≤ base) (hl : rest.length + body.length ≤ 140737488355328) :
    Calls Tryd.prog 46 #[.pointer (some ⟨g, 0, none⟩), .pointer (some ⟨h, 0, none⟩)] w (StP w base A g h lv tv bv d rest body) := by
  have HP := hide p
  have HF := hide hf
  have HFN := hide hfn
  have HW := hide hw
  have HM := hide hm
  have hleft := hf.left
  have BD := hide ((Below.refl w.heap.size w).drew)
  have HPD := hide (p.below BD.out)
  have HKD := hide (DK.of_below g h lv tv bv BD.out)
  have hbs : base ≤ w.heap.size := Nat.le_of_lt (Nat.lt_of_le_of_lt p.dec.gb p.dec.lt)
  have HTK : Hid (Calls Tryd.prog 58 #[.pointer (some ⟨h, 0, none⟩), .int .i64 (d.left : Int)] w.drew fun e w' => ∃ r, e = .returned r ∧ (r = .int .i64 ((min d.left rest.length : Nat) : Int) ∧ ∃ rv' bv', Hid (DP w' base A g h lv tv rv' bv' d (rest.drop (min d.left rest.length)) (body ++ rest.take (min d.left rest.length))) ∧ Hid (DK w w' g h lv tv bv lv tv bv') ∧ w'.cell? ⟨g, 2, none⟩ = some (.int .i64 (d.left : Int)) ∧ w'.frozen? ⟨g, 2, none⟩ = false)) := hide (by
    refine (take_any HPD.out.pce hbs d.left h0 hl hleft).mono ?_
    rintro e w' ⟨rfl, rv', bv', hp, hk⟩
    have hq := HPD.out.of_QK hp hk
    exact ⟨_, rfl, rfl, rv', bv', hide hq, hide (HKD.out.trans (DK.of_QK lv tv hk)), hq.dec.cell 2, hq.dec.froz 2⟩)
  have c2 : w.cell? ⟨g, 2, none⟩ = some (.int .i64 (d.left : Int)) := p.dec.cell 2
  have HDN := hide (Dn.takes (d0 := d) (l := rest) (min d.left rest.length) (Dn.refl d rest hw) hw hfn (by omega) (by rw [List.drop_zero]; omega))
  rw [List.drop_zero, List.nil_append, Nat.zero_add] at HDN
  obtain ⟨n, hn⟩ : ∃ n, min d.left rest.length = n := ⟨_, rfl⟩
  have hn1 : n ≤ d.left := by omega
  have hn2 : n ≤ rest.length := by omega
  have hn3 : n = d.left ∨ n = rest.length := by omega
  rw [hn] at HTK HDN
  clear p hf hfn hw hm hn
  have i1 : (d.left : Int) - (n : Int) = ((d.left - n : Nat) : Int) := by omega
  have wr : IntKind.i64.wrap ((d.left - n : Nat) : Int) = ((d.left - n : Nat) : Int) := IntWalk.i64_in _ ⟨by omega, by omega⟩
  go_enter Tryd.func46, Tryd.ntmps46
  go_upto_region 1 with fail
  go_region_law (refine step_call rfl 58 _ _ rfl (enters_of Tryd.func58 (by kernel_rfl) rfl) #[.pointer (some ⟨h, 0, none⟩), .int .i64 (d.left : Int)] (by simp [Act.eval]) _ HTK.out ?_; rintro r w2 ⟨rfl, rv2, bv2, HP2, HK2, e2, f2⟩)
  all_goals (have HD3 := hide (HP2.out.dec.set 2 (.int .i64 ((d.left - n : Nat) : Int)) { d with left := d.left - n } rfl rfl rfl))
  all_goals (have HP3 := hide (HP2.out.of_PK HD3.out (PK.set w2 g 2 (.int .i64 ((d.left - n : Nat) : Int)) lv tv)))
  all_goals (have HK3 := hide (HK2.out.trans (DK.of_PK (h := h) bv2 (PK.set w2 g 2 (.int .i64 ((d.left - n : Nat) : Int)) lv tv))))
  all_goals (clear HD3 HP2 HK2 e2 f2 c2)
  all_goals (generalize w2.setCell ⟨g, 2, none⟩ (.int .i64 ((d.left - n : Nat) : Int)) = w3 at HP3 HK3 ⊢)
  all_goals (have HM3 := hide (HM.out.dk HP.out hb HK3.out))
  all_goals (have HL := hide (readLine_body HP3.out ⟨HF.out.fn, HF.out.room, (by show d.left - n ≤ _; omega), HF.out.line, HF.out.tr, HF.out.bd⟩ HFN.out HW.out (fun _ => (by
    rcases hn3 with h5 | h5
    · left; show d.left - n = 0; omega
    · right; exact List.drop_of_length_le (by omega))) HM3.out hb (by rw [List.length_drop]; omega)))
  all_goals (go_wp2_with fail)
  all_goals (refine HL.out.mono ?_)
  all_goals (rintro e w' ⟨en, k, o, d', lv', tv', rv', bv', rfl, h1, h2, h3, h4, h5, h6⟩)
  all_goals (have HS : Hid (StP w3 base A g h lv tv bv2 { d with left := d.left - n } (rest.drop n) (body ++ rest.take n) (.returned (.int .i64 (en : Int))) w') := hide ⟨en, k, o, d', lv', tv', rv', bv', rfl, h1, h2, h3, h4, h5, h6⟩)
  all_goals (clear h1 h2 h3 h4 h5 h6 HL)
  all_goals (go_wp2_with fail)
  all_goals go_ret
  all_goals exact StP.after hn2 HW.out HK3.out HDN.out (fun hd => (by
    have h7 := congrArg List.length hd
    rw [List.length_drop, List.length_nil] at h7
    have h8 := List.length_pos_iff.2 h0
    left; omega)) HS.out
end Go.Proofs.YthciahpadninpaaDoor
/- New and Feed. -/
namespace Go.Proofs.YthciahpadninpaaDoor
open Go.ChangeShapes Go.WideShapes Go.ChangeAt Go.RowKit

def dNew (most : Nat) : Dz := ⟨fnSize, most, 0, [], false, [], false, 0⟩
theorem fit_dnew (most : Nat) (h : most ≤ 9007199254740992) : FitD (dNew most) := ⟨.inl rfl, h, Nat.zero_le _, Nat.zero_le _, Nat.zero_le _, fun _ => rfl⟩
def overB (d : Dz) : Bool := d.whole || decide (d.wrong ≠ 0)
def dForget (d : Dz) : Dz := { d with line := if overB d then [] else d.line, tr := if d.wrong = 0 then d.tr else [] }
/-- What one piece makes of a decoder: the bytes told, how many were read, the decoder behind it. -/
def dFeed (d : Dz) (l : List UInt8) : List UInt8 × Nat × Dz :=
  if overB d then ([], 0, dForget d) else ((dBytes d l).2.2.1, (dBytes d l).2.1, dForget { (dBytes d l).2.2.2 with wrong := (dBytes d l).1 })
theorem new_bad (most : Int) (w : World) (h : most < 0 ∨ 9007199254740992 < most) :
    Calls Tryd.prog 9 #[.int .i64 most] w fun e w' => e = .returned (.tuple #[.pointer none, .int .i64 1]) ∧ w = w' := by
  by_cases h1 : most < 0
  · go_enter Tryd.func9, Tryd.ntmps9
    go_wp2
    go_ret2
    exact ⟨rfl, rfl⟩
  · have h2 : 9007199254740992 < most := by omega
    clear h
    go_enter Tryd.func9, Tryd.ntmps9
    go_wp2
    go_ret2
    exact ⟨rfl, rfl⟩
theorem dec_new {W : World} {base g : Nat} (d : Dz) (h : W.heap[g]? = some (.cells (dcells d g (.slice none 0 0) (.slice none 0 0)) 53 (0, 0))) (hb : base ≤ g) (hl : d.line = []) (hf : d.tr = []) : Dec W base g (.slice none 0 0) (.slice none 0 0) d := by
  refine ⟨h, ?_, ?_, hb, by simp [Value.ownBlock], by simp [Value.ownBlock], by intro k e; simp [Value.ownBlock] at e⟩
  · rw [hl]; exact Row.nil _ _ _
  · rw [hf]; exact FRow.nil _ _
set_option maxHeartbeats 2000000 in
theorem new_any (most : Nat) (w : World) (h2 : most ≤ 9007199254740992) :
    Calls Tryd.prog 9 #[.int .i64 (most : Int)] w fun e w' => e = .returned (.tuple #[.pointer (some ⟨w.heap.size, 0, none⟩), .int .i64 0]) ∧ Dec w' w.heap.size w.heap.size (.slice none 0 0) (.slice none 0 0) (dNew most) ∧ Below w.heap.size w w' := by
  have t1 : ¬ (most : Int) < 0 := by omega
  have t2 : ¬ (9007199254740992 : Int) < (most : Int) := by omega
  go_enter Tryd.func9, Tryd.ntmps9
  go_upto_region 4 with fail
  have HB := hide ((Below.refl w.heap.size w).alloc (Nat.le_refl _) (.cells #[.nilFunc, .int .i64 (most : Int), .int .i64 0, .slice none 0 0, .bool false, .slice none 0 0, .bool false, .int .i64 0] 53))
  have HD := hide (hp_new w (.cells #[.nilFunc, .int .i64 (most : Int), .int .i64 0, .slice none 0 0, .bool false, .slice none 0 0, .bool false, .int .i64 0] 53))
  generalize w.alloc (.cells #[.nilFunc, .int .i64 (most : Int), .int .i64 0, .slice none 0 0, .bool false, .slice none 0 0, .bool false, .int .i64 0] 53) = x at HB HD ⊢
  have d0 : x.cell? ⟨w.heap.size, 0, none⟩ = some .nilFunc := cell_at HD.out 0
  have f0 : x.frozen? ⟨w.heap.size, 0, none⟩ = false := by rw [frozen_at HD.out]; simp
  go_wp2_with fail
  go_ret2
  exact ⟨rfl, dec_new (dNew most) (hp_set HD.out 0 (stV fnSize w.heap.size)) (Nat.le_refl _) rfl rfl, HB.out.setCell (p := ⟨w.heap.size, 0, none⟩) (Nat.le_refl _) (stV fnSize w.heap.size)⟩
theorem over_any {w : World} {base g : Nat} {lv tv : Value} {d : Dz} (h : Dec w base g lv tv d) : Calls Tryd.prog 24 #[.pointer (some ⟨g, 0, none⟩)] w fun e w' => e = .returned (.bool (overB d)) ∧ w = w' := by
  have c6 : w.cell? ⟨g, 6, none⟩ = some (.bool d.whole) := h.cell 6
  have c7 : w.cell? ⟨g, 7, none⟩ = some (.int .i64 (d.wrong : Int)) := h.cell 7
  clear h
  obtain ⟨O, hO⟩ : ∃ O, overB d = O := ⟨_, rfl⟩
  rw [hO]
  unfold overB at hO
  have HO := hide hO
  clear hO
  cases hw : d.whole with
  | true =>
    rw [hw] at c6
    have HW := hide hw
    clear hw
    go_enter Tryd.func24, Tryd.ntmps24
    go_wp2
    go_ret
    exact ⟨ret_bool (by rw [← HO.out, HW.out]; rfl), rfl⟩
  | false =>
    rw [hw] at c6
    have HW := hide hw
    clear hw
    by_cases h1 : d.wrong = 0
    · have t1 : ((d.wrong : Int) != 0) = false := by rw [bne_eq_false_iff_eq]; omega
      have H1 := hide h1
      clear h1
      go_enter Tryd.func24, Tryd.ntmps24
      go_wp2
      go_ret
      exact ⟨ret_bool (by rw [← HO.out, HW.out, H1.out]; rfl), rfl⟩
    · have t1 : ((d.wrong : Int) != 0) = true := bne_iff_ne.2 (by omega)
      have H1 := hide h1
      clear h1
      go_enter Tryd.func24, Tryd.ntmps24
      go_wp2
      go_ret
      exact ⟨ret_bool (by rw [← HO.out, HW.out]; simp [H1.out]), rfl⟩
theorem Dec.nilL {w : World} {base g : Nat} {lv fv : Value} {d : Dz} (h : Dec w base g lv fv d) : Dec (w.setCell ⟨g, 3, none⟩ (.slice none 0 0)) base g (.slice none 0 0) fv { d with line := [] } := by
  refine ⟨hp_set h.blk 3 (.slice none 0 0), Row.nil _ _ _, ?_, h.gb, by simp [Value.ownBlock], h.gf, by intro k e; simp [Value.ownBlock] at e⟩
  exact h.trs.frame fun k hk => Below.heap_setCell w ⟨g, 3, none⟩ _ k (fun e => h.gf (by rw [hk, e]))
theorem Dec.nilF {w : World} {base g : Nat} {lv fv : Value} {d : Dz} (h : Dec w base g lv fv d) : Dec (w.setCell ⟨g, 5, none⟩ (.slice none 0 0)) base g lv (.slice none 0 0) { d with tr := [] } := by
  refine ⟨hp_set h.blk 5 (.slice none 0 0), ?_, FRow.nil _ _, h.gb, h.gl, by simp [Value.ownBlock], by intro k e; simp [Value.ownBlock]⟩
  exact h.line.frame fun k hk => Below.heap_setCell w ⟨g, 5, none⟩ _ k (fun e => h.gl (by rw [hk, e]))
theorem PK.nilL (w : World) (g i : Nat) (v lv fv : Value) : PK w (w.setCell ⟨g, i, none⟩ v) g lv fv (.slice none 0 0) fv :=
  ⟨rfl, rfl, rfl, by simp, fun k _ hk _ _ => Below.heap_setCell w ⟨g, i, none⟩ v k hk, fun _ _ _ => by simp [Value.ownBlock], fun _ _ h => h⟩
theorem PK.nilF (w : World) (g i : Nat) (v lv fv : Value) : PK w (w.setCell ⟨g, i, none⟩ v) g lv fv lv (.slice none 0 0) :=
  ⟨rfl, rfl, rfl, by simp, fun k _ hk _ _ => Below.heap_setCell w ⟨g, i, none⟩ v k hk, fun _ _ h => h, fun _ _ _ => by simp [Value.ownBlock]⟩
set_option maxHeartbeats 2000000 in
theorem forget_any {w : World} {base g : Nat} {lv tv : Value} {d : Dz} (h : Dec w base g lv tv d) :
    Calls Tryd.prog 25 #[.pointer (some ⟨g, 0, none⟩)] w fun e w' => e = .returned (.tuple #[]) ∧ ∃ lv' tv', Dec w' base g lv' tv' (dForget d) ∧ PK w w' g lv tv lv' tv' := by
  have HP := hide h
  have HO := hide (over_any h)
  have c7 : w.cell? ⟨g, 7, none⟩ = some (.int .i64 (d.wrong : Int)) := h.cell 7
  obtain ⟨la, lc, rfl, _, _⟩ := h.line.shape
  obtain ⟨ta, tc, rfl, _, _⟩ := h.trs.shape
  clear h
  generalize hD : dForget d = D
  unfold dForget at hD
  cases ho : overB d with
  | false =>
    rw [ho] at HO hD
    have h0 : d.wrong = 0 := by
      unfold overB at ho
      rw [Bool.or_eq_false_iff] at ho
      simpa using ho.2
    have t0 : ((d.wrong : Int) != 0) = false := by rw [bne_eq_false_iff_eq]; omega
    rw [if_neg (by simp), if_pos h0] at hD
    have HD := hide hD
    clear hD ho h0
    go_enter Tryd.func25, Tryd.ntmps25
    go_wp2_with (refine HO.out.mono ?_; rintro e w' ⟨rfl, rfl⟩)
    go_end0
    exact ⟨rfl, _, _, by rw [← HD.out]; exact HP.out, PK.refl _ _ _ _⟩
  | true =>
    rw [ho] at HO hD
    rw [if_pos rfl] at hD
    have c3 := HP.out.cell 3
    have f3 := HP.out.froz 3
    by_cases h0 : d.wrong = 0
    · have t0 : ((d.wrong : Int) != 0) = false := by rw [bne_eq_false_iff_eq]; omega
      rw [if_pos h0] at hD
      have HD := hide hD
      clear hD ho h0
      go_enter Tryd.func25, Tryd.ntmps25
      go_wp2_with (refine HO.out.mono ?_; rintro e w' ⟨rfl, rfl⟩)
      go_end0
      exact ⟨rfl, _, _, by rw [← HD.out]; exact HP.out.nilL, PK.nilL _ _ _ _ _ _⟩
    · have t0 : ((d.wrong : Int) != 0) = true := bne_iff_ne.2 (by omega)
      rw [if_neg h0] at hD
      have HD := hide hD
      clear hD ho h0
      go_enter Tryd.func25, Tryd.ntmps25
      go_wp2_with fail
      refine HO.out.mono ?_
      rintro e w' ⟨rfl, rfl⟩
      go_upto_region 2 with fail
      have HP2 := hide HP.out.nilL
      have HK2 := hide (PK.nilL w g 3 (.slice none 0 0) (.slice la (bc d.line).length lc) (.slice ta d.tr.length tc))
      clear c3 f3 c7
      generalize w.setCell ⟨g, 3, none⟩ (.slice none 0 0) = w2 at HP2 HK2 ⊢
      have c7 : w2.cell? ⟨g, 7, none⟩ = some (.int .i64 (d.wrong : Int)) := HP2.out.cell 7
      have c5 := HP2.out.cell 5
      have f5 := HP2.out.froz 5
      go_wp2_with fail
      go_end0
      exact ⟨rfl, _, _, by rw [← HD.out]; exact HP2.out.nilF, HK2.out.trans (PK.nilF _ _ _ _ _ _)⟩
end Go.Proofs.YthciahpadninpaaDoor
/- Feed, walked, at a decoder that reads on. -/
namespace Go.Proofs.YthciahpadninpaaDoor
open Go.ChangeShapes Go.WideShapes Go.ChangeAt Go.RowKit

/-- Two steps in a row. -/
theorem Dn.trans {d d1 d2 : Dz} {l : List UInt8} {k k2 e2 : Nat} {o o2 : List UInt8} (h : Dn d l k o 0 d1) (hw : d1.whole = false) (h2 : Dn d1 (l.drop k) k2 o2 e2 d2) : Dn d l (k + k2) (o ++ o2) e2 d2 := by
  obtain ⟨a1, a2⟩ := h
  obtain ⟨b1, b2⟩ := h2
  rw [if_neg (by simp [hw])] at a2
  rw [List.length_drop] at b1
  refine ⟨by omega, ?_⟩
  split at b2
  · rename_i hx
    rw [if_pos hx, a2, b2]
    simp [sh, Nat.add_comm]
  · rename_i hx
    rw [if_neg hx, a2, b2, List.drop_drop, sh_sh, Nat.add_comm k2 k]
theorem Dn.done {d d1 : Dz} {l : List UInt8} {k e : Nat} {o : List UInt8} (h : Dn d l k o e d1) (hx : (e ≠ 0 ∨ d1.whole = true) ∨ l.drop k = []) : dBytes d l = (e, k, o, d1) := by
  obtain ⟨a1, a2⟩ := h
  by_cases h1 : e ≠ 0 ∨ d1.whole = true
  · rw [if_pos h1] at a2; exact a2
  · rw [if_neg h1] at a2
    have h2 : l.drop k = [] := hx.resolve_left h1
    have h3 : e = 0 := by rw [not_or] at h1; simpa using h1.1
    rw [a2, h2, h3]
    simp [sh, dBytes]
theorem Row.raise {W : World} {base base2 : Nat} {e : TypeId} {v : Value} {xs : List Value} (h : Row W base e v xs) (hb : ∀ k, v.ownBlock = some k → base2 ≤ k) : Row W base2 e v xs := by
  refine ⟨h.1, ?_⟩
  rcases h.2 with x | ⟨g, cap, cur, rfl, h1, hg, hc, hmx, hs, ht⟩
  · exact .inl x
  · exact .inr ⟨g, cap, cur, rfl, hb g rfl, hg, hc, hmx, hs, ht⟩
theorem eta_wrong {d : Dz} {e : Nat} (h : d.wrong = e) : { d with wrong := e } = d := by subst h; rfl
theorem bytes_out : ∀ (l : List UInt8) (d : Dz), (dBytes d l).2.2.1.length ≤ (dBytes d l).2.1
  | [], _ => Nat.le_refl _
  | c :: r, d => by
    have h1 : (dNext d c).2.1.length ≤ 1 := by
      unfold dNext
      repeat' split
      all_goals simp
    rw [dBytes]
    split
    · exact h1
    · split
      · exact h1
      · have := bytes_out r (dNext d c).2.2
        simp only [List.length_append]
        omega
theorem bytes_len : ∀ (l : List UInt8) (d : Dz), (dBytes d l).2.1 ≤ l.length
  | [], _ => Nat.le_refl _
  | c :: r, d => by
    rw [dBytes, List.length_cons]
    split
    · exact Nat.le_add_left _ _
    · split
      · exact Nat.le_add_left _ _
      · have := bytes_len r (dNext d c).2.2
        dsimp only
        omega
theorem dn_out {d d1 : Dz} {l : List UInt8} {k e : Nat} {o : List UInt8} (h : Dn d l k o e d1) : o.length ≤ l.length := by
  have h1 := bytes_out l d
  have h2 := bytes_len l d
  obtain ⟨_, h4⟩ := h
  split at h4
  · rw [h4] at h1 h2; dsimp only at h1 h2; omega
  · rw [h4] at h1 h2; simp only [sh, List.length_append] at h1 h2; omega
theorem eq_nilFunc (fn g : Nat) (w : World) : (binOp BinOp.eql 51 (.func (.func fn) #[.pointer (some ⟨g, 0, none⟩)] #[]) .nilFunc).run Tryd.prog w = .ok (.bool false) w := by kernel_rfl
theorem DK.pk {w w' : World} {g h : Nat} {lv tv bv lv' tv' bv' : Value} (k : DK w w' g h lv tv bv lv' tv' bv') {w0 : World} (h0 : Below w0.heap.size w0 w) (hh : w0.heap.size ≤ h) (hb : ∀ i, bv.ownBlock = some i → w0.heap.size ≤ i) : PK w0 w' g lv tv lv' tv' :=
  ⟨k.os.trans h0.os, k.tape.trans h0.tape, k.output.trans h0.output, Nat.le_trans h0.size k.size,
    fun i hi h1 h2 h3 => (k.block i (Nat.lt_of_lt_of_le hi h0.size) h1 (by omega) h2 h3 (fun e => by have := hb i e; omega)).trans (h0.block i hi),
    fun i hi e => k.la i (Nat.lt_of_lt_of_le hi h0.size) e, fun i hi e => k.ta i (Nat.lt_of_lt_of_le hi h0.size) e⟩
set_option maxHeartbeats 8000000 in
set_option maxRecDepth 100000 in
theorem feed_on {w : World} {base g : Nat} {A : Nat → Prop} {lv tv : Value} {d : Dz} (hD : Dec w base g lv tv d) (hf : FitD d) (hw : d.whole = false) (hwr : d.wrong = 0) (hm : MX w) (hb : 2 ≤ base) (v : Value) (l : List UInt8) (hv : Bf w A v l) (hs : Shp v) (gA : ¬ A g) (lA : ∀ k, lv.ownBlock = some k → ¬ A k) (tA : ∀ k, tv.ownBlock = some k → ¬ A k) (AL : ∀ k, A k → k < w.heap.size) (hl : l.length ≤ 70368744177664) :
    Calls Tryd.prog 13 #[.pointer (some ⟨g, 0, none⟩), v] w fun e w' => ∃ bv lv' tv', e = .returned (.tuple #[bv, .int .i64 ((dBytes d l).2.1 : Int), .bool (dBytes d l).2.2.2.whole, .int .i64 ((dBytes d l).1 : Int)]) ∧ Row w' w.heap.size 5 bv (bc (dBytes d l).2.2.1) ∧ Dec w' base g lv' tv' (dForget { (dBytes d l).2.2.2 with wrong := (dBytes d l).1 }) ∧ PK w w' g lv tv lv' tv' := by
  have HD := hide hD
  have HF := hide hf
  have HM := hide hm
  have HV := hide hv
  have HSH := hide hs
  have HW := hide hw
  have HWR := hide hwr
  obtain ⟨va, vc, rfl, _, _⟩ := hv
  have c0 : w.cell? ⟨g, 0, none⟩ = some (stV d.fn g) := hD.cell 0
  unfold stV at c0
  have e5 := eq_nilFunc d.fn g
  have hgl : g < w.heap.size := hD.lt
  have hbs : base ≤ w.heap.size := Nat.le_of_lt (Nat.lt_of_le_of_lt hD.gb hD.lt)
  clear hD hf hm hs hw hwr
  generalize hRD : dBytes d l = RD
  have HRD := hide hRD
  clear hRD
  go_enter Tryd.func13, Tryd.ntmps13
  go_upto_region 4 with fail
  have B1 := hide ((Below.refl w.heap.size w).alloc (Nat.le_refl _) (.cells #[.slice va l.length vc, .slice none 0 0] 59))
  have HB1 := hide (hp_new w (.cells #[.slice va l.length vc, .slice none 0 0] 59))
  generalize w.alloc (.cells #[.slice va l.length vc, .slice none 0 0] 59) = w1 at B1 HB1 ⊢
  have HP1 : Hid (DP w1 base A g w.heap.size lv tv (.slice va l.length vc) (.slice none 0 0) d l []) := hide ⟨HD.out.below B1.out, ⟨HB1.out, HV.out.below B1.out, HSH.out, Row.nil _ _ _, hbs, by simp [Value.ownBlock], (fun hA => by have := AL _ hA; omega), (fun k e => by simp [Value.ownBlock] at e), (fun k hA => Nat.lt_of_lt_of_le (AL k hA) B1.out.size)⟩, by omega, (fun e => by have := (HD.out.line.lt e).2; omega), (fun e => by have := (HD.out.trs.lt e).2; omega), by simp [Value.ownBlock], (fun k e => by simp [Value.ownBlock] at e), (fun k e => by simp [Value.ownBlock] at e), gA, lA, tA⟩
  clear c0 e5
  go_loopw [20] (fun _ wr => ∃ (k : Nat) (o : List UInt8) (en : Nat) (d1 : Dz) (lv1 tv1 rv1 bv1 : Value), Hid (Dn d l k o en d1) ∧ Hid (FitD d1) ∧ Hid (d1.wrong = 0) ∧ Hid (DP wr base A g w.heap.size lv1 tv1 rv1 bv1 { d1 with wrong := en } (l.drop k) o) ∧ Hid (DK w1 wr g w.heap.size lv tv (.slice none 0 0) lv1 tv1 bv1)) (fun _ wr => restLen w.heap.size wr)
  case atStart => exact ⟨0, [], 0, d, lv, tv, _, _, hide (Dn.refl d l HW.out), HF, HWR, hide (by rw [List.drop_zero, eta_wrong HWR.out]; exact HP1.out), hide (DK.refl _ _ _ _ _ _)⟩
  case round =>
    obtain ⟨k, o, en, d1, lv1, tv1, rv1, bv1, HDN, HF1, HWR1, HP2, HK2⟩ := hrel
    have hkl : k ≤ l.length := HDN.out.1
    have HDL : Hid ((l.drop k).length = l.length - k) := hide (by rw [List.length_drop])
    have HRL := hide HP2.out.restLen
    obtain ⟨ra, rc, hre, _, _⟩ := HP2.out.pce.rest
    rw [HDL.out] at hre
    subst hre
    have p0 : wr.cell? ⟨w.heap.size, 0, none⟩ = some (.slice ra (l.length - k) rc) := HP2.out.pce.cell 0
    by_cases hr : k < l.length
    · have HOV := hide (over_any HP2.out.dec)
      have t1 : (0 : Int) < ((l.length - k : Nat) : Int) := by omega
      by_cases hov : en ≠ 0 ∨ d1.whole = true
      · have e1 : overB { d1 with wrong := en } = true := by
          unfold overB
          rw [Bool.or_eq_true]
          rcases hov with h5 | h5
          · exact .inr (decide_eq_true h5)
          · exact .inl h5
        rw [e1] at HOV
        have HBY := hide (HRD.out.symm.trans (HDN.out.done (.inl hov)))
        clear e1 hov
        go_wp2_with fail
        refine HOV.out.mono ?_
        rintro e w' ⟨rfl, rfl⟩
        have HFG := hide (forget_any HP2.out.dec)
        go_wp2_with fail
        refine HFG.out.mono ?_
        rintro e w5 ⟨rfl, lv5, tv5, hd5, hk5⟩
        have HP5 := hide (HP2.out.of_PK hd5 hk5)
        have HK5 := hide (HK2.out.trans (DK.of_PK (h := w.heap.size) _ hk5))
        clear hd5 hk5 HFG
        obtain ⟨ba5, bc5, hbe5, _, _⟩ := HP5.out.pce.body.shape
        rw [bc_len] at hbe5
        subst hbe5
        have p0 := HP5.out.pce.cell 0
        have p1 := HP5.out.pce.cell 1
        have c6 : w5.cell? ⟨g, 6, none⟩ = some (.bool d1.whole) := HP5.out.dec.cell 6
        have c7 : w5.cell? ⟨g, 7, none⟩ = some (.int .i64 (en : Int)) := HP5.out.dec.cell 7
        go_upto_region 7 with fail
        have hsub : (l.length : Int) - ((l.length - k : Nat) : Int) = (k : Int) := by omega
        have hwrap : IntKind.i64.wrap (k : Int) = (k : Int) := IntWalk.i64_in _ ⟨by omega, by omega⟩
        refine wp_region_cl (by kernel_rfl) (by kernel_rfl) ?_
        refine cl_val (v := ?_) rfl (fun W hW => ?_) ?_
        rotate_left
        · unfold Oper.quietAt; go_simp; try with_reducible rfl
        simp only [Act.put, List.setIfInBounds_toArray, List.set_cons_zero, List.set_cons_succ]
        refine cl_val (v := ?_) rfl (fun W hW => ?_) ?_
        rotate_left
        · have l0 := hW.cell p1; unfold Oper.quietAt; go_simp; try with_reducible rfl
        simp only [Act.put, List.setIfInBounds_toArray, List.set_cons_zero, List.set_cons_succ]
        refine cl_move _ rfl rfl ?_
        simp only [Act.put, List.setIfInBounds_toArray, List.set_cons_zero, List.set_cons_succ]
        refine cl_val (v := ?_) rfl (fun W hW => ?_) ?_
        rotate_left
        · unfold Oper.quietAt; go_simp; try with_reducible rfl
        simp only [Act.put, List.setIfInBounds_toArray, List.set_cons_zero, List.set_cons_succ]
        refine cl_val (v := ?_) rfl (fun W hW => ?_) ?_
        rotate_left
        · unfold Oper.quietAt; go_simp; try with_reducible rfl
        simp only [Act.put, List.setIfInBounds_toArray, List.set_cons_zero, List.set_cons_succ]
        refine cl_val (v := ?_) rfl (fun W hW => ?_) ?_
        rotate_left
        · have l0 := hW.cell p0; unfold Oper.quietAt; go_simp; try with_reducible rfl
        simp only [Act.put, List.setIfInBounds_toArray, List.set_cons_zero, List.set_cons_succ]
        refine cl_val (v := ?_) rfl (fun W hW => ?_) ?_
        rotate_left
        · unfold Oper.quietAt; go_simp; try with_reducible rfl
        simp only [Act.put, List.setIfInBounds_toArray, List.set_cons_zero, List.set_cons_succ]
        refine cl_val (v := ?_) rfl (fun W hW => ?_) ?_
        rotate_left
        · unfold Oper.quietAt; go_simp; try with_reducible rfl
        simp only [Act.put, List.setIfInBounds_toArray, List.set_cons_zero, List.set_cons_succ]
        refine cl_move _ rfl rfl ?_
        simp only [Act.put, List.setIfInBounds_toArray, List.set_cons_zero, List.set_cons_succ]
        refine cl_val (v := ?_) rfl (fun W hW => ?_) ?_
        rotate_left
        · unfold Oper.quietAt; go_simp; try with_reducible rfl
        simp only [Act.put, List.setIfInBounds_toArray, List.set_cons_zero, List.set_cons_succ]
        refine cl_val (v := ?_) rfl (fun W hW => ?_) ?_
        rotate_left
        · unfold Oper.quietAt; go_simp; try with_reducible rfl
        simp only [Act.put, List.setIfInBounds_toArray, List.set_cons_zero, List.set_cons_succ]
        refine cl_val (v := ?_) rfl (fun W hW => ?_) ?_
        rotate_left
        · have l0 := hW.cell c6; unfold Oper.quietAt; go_simp; try with_reducible rfl
        simp only [Act.put, List.setIfInBounds_toArray, List.set_cons_zero, List.set_cons_succ]
        refine cl_move _ rfl rfl ?_
        simp only [Act.put, List.setIfInBounds_toArray, List.set_cons_zero, List.set_cons_succ]
        refine cl_val (v := ?_) rfl (fun W hW => ?_) ?_
        rotate_left
        · unfold Oper.quietAt; go_simp; try with_reducible rfl
        simp only [Act.put, List.setIfInBounds_toArray, List.set_cons_zero, List.set_cons_succ]
        refine cl_val (v := ?_) rfl (fun W hW => ?_) ?_
        rotate_left
        · unfold Oper.quietAt; go_simp; try with_reducible rfl
        simp only [Act.put, List.setIfInBounds_toArray, List.set_cons_zero, List.set_cons_succ]
        refine cl_val (v := ?_) rfl (fun W hW => ?_) ?_
        rotate_left
        · have l0 := hW.cell c7; unfold Oper.quietAt; go_simp; try with_reducible rfl
        simp only [Act.put, List.setIfInBounds_toArray, List.set_cons_zero, List.set_cons_succ]
        refine cl_assign _ rfl rfl ?_
        simp only [Act.put, List.setIfInBounds_toArray, List.set_cons_zero, List.set_cons_succ]
        refine cl_assign _ rfl rfl ?_
        simp only [Act.put, List.setIfInBounds_toArray, List.set_cons_zero, List.set_cons_succ]
        refine cl_assign _ rfl rfl ?_
        simp only [Act.put, List.setIfInBounds_toArray, List.set_cons_zero, List.set_cons_succ]
        refine cl_assign _ rfl rfl ?_
        simp only [Act.put, List.setIfInBounds_toArray, List.set_cons_zero, List.set_cons_succ]
        refine wpQuiet_nil ?_
        intro z Hz
        have HP9 := hide (HP5.out.below Hz.out)
        have HK9 := hide (HK5.out.trans (DK.of_below g w.heap.size lv5 tv5 (.slice ba5 o.length bc5) Hz.out))
        clear p0 p1 c6 c7
        go_wp2
        exact bodyPost_ret (v := .tuple #[.slice ba5 o.length bc5, .int .i64 (k : Int), .bool d1.whole, .int .i64 (en : Int)]) (by simp [results, Tryd.results13, go_sem]) rfl ⟨_, _, _, by rw [HBY.out], by rw [HBY.out]; exact Row.raise HP9.out.pce.body (fun i e => Nat.le_of_not_lt fun h9 => HK9.out.ba i (Nat.lt_of_lt_of_le h9 B1.out.size) (by simp [Value.ownBlock]) e), by rw [HBY.out]; exact HP9.out.dec, HK9.out.pk B1.out (Nat.le_refl _) (fun i e => by simp [Value.ownBlock] at e)⟩
      · have e1 : overB { d1 with wrong := en } = false := by
          unfold overB
          rw [not_or] at hov
          rw [Bool.or_eq_false_iff]
          exact ⟨by simpa using hov.2, decide_eq_false (by simpa using hov.1)⟩
        rw [not_or] at hov
        have hen : en = 0 := by simpa using hov.1
        have hw1 : d1.whole = false := by simpa using hov.2
        subst hen
        have HW1 := hide hw1
        rw [e1] at HOV
        clear e1 hov hw1
        have hp2 := HP2.out
        rw [eta_wrong HWR1.out] at hp2
        have HP3 := hide hp2
        clear hp2 HP2
        have HM2 := hide ((HM.out.below B1.out).dk HP1.out hb HK2.out)
        have hdn : l.drop k ≠ [] := fun h6 => by
          have := HDL.out
          rw [h6] at this
          simp at this
          omega
        have hlo : (l.drop k).length + o.length ≤ 140737488355328 := by
          have h7 := dn_out HDN.out
          rw [HDL.out]
          omega
        have hld : (l.drop k).length ≤ 140737488355328 := by omega
        go_wp2_with fail
        refine HOV.out.mono ?_
        rintro e w' ⟨rfl, rfl⟩
        have c0 := HP3.out.dec.cell 0
        rw [show (dcells d1 g lv1 tv1)[0]? = some (stV d1.fn g) from rfl] at c0
        rcases HF1.out.fn with hfn | hfn | hfn
        · have HS := hide (sizeLine_any HP3.out HF1.out hfn HW1.out HM2.out hb hld)
          have c0' : wr.cell? ⟨g, 0, none⟩ = some (.func (.func 20) #[.pointer (some ⟨g, 0, none⟩)] #[]) := by
            rw [c0]
            unfold stV
            rw [hfn]
            rfl
          clear c0 hfn
          go_wp2_with fail
          refine HS.out.mono ?_
          rintro e w4 ⟨en, k2, o2, d2, lv2, tv2, rv2, bv2, rfl, h1, h2, h3, h4, h5, h6⟩
          have HDN2 := hide (HDN.out.trans HW1.out h1)
          have HF2 := hide h2
          have HWR2 := hide (h4.trans HWR1.out)
          have HDD := hide (h5.dec.set 7 (.int .i64 (en : Int)) { d2 with wrong := en } rfl rfl rfl)
          have HP4 := hide (h5.of_PK HDD.out (PK.set w4 g 7 (.int .i64 (en : Int)) lv2 tv2))
          have HK4 := hide (HK2.out.trans (h6.trans (DK.of_PK (h := w.heap.size) bv2 (PK.set w4 g 7 (.int .i64 (en : Int)) lv2 tv2))))
          have c7 := h5.dec.cell 7
          have f7 := h5.dec.froz 7
          have hk2 := h3 hdn
          have hk3 := h1.1
          rw [HDL.out] at hk3
          clear h1 h2 h3 h4 h5 h6 HS
          go_wp2_with fail
          exact ⟨⟨k + k2, o ++ o2, en, d2, lv2, tv2, rv2, bv2, HDN2, HF2, HWR2, hide (by rw [← List.drop_drop]; exact HP4.out), HK4⟩, by rw [HP4.out.restLen, HRL.out, List.length_drop, HDL.out]; omega⟩
        · have HS := hide (body_any HP3.out HF1.out hfn HW1.out hdn HM2.out hb hlo)
          have c0' : wr.cell? ⟨g, 0, none⟩ = some (.func (.func 46) #[.pointer (some ⟨g, 0, none⟩)] #[]) := by
            rw [c0]
            unfold stV
            rw [hfn]
            rfl
          clear c0 hfn
          go_wp2_with fail
          refine HS.out.mono ?_
          rintro e w4 ⟨en, k2, o2, d2, lv2, tv2, rv2, bv2, rfl, h1, h2, h3, h4, h5, h6⟩
          have HDN2 := hide (HDN.out.trans HW1.out h1)
          have HF2 := hide h2
          have HWR2 := hide (h4.trans HWR1.out)
          have HDD := hide (h5.dec.set 7 (.int .i64 (en : Int)) { d2 with wrong := en } rfl rfl rfl)
          have HP4 := hide (h5.of_PK HDD.out (PK.set w4 g 7 (.int .i64 (en : Int)) lv2 tv2))
          have HK4 := hide (HK2.out.trans (h6.trans (DK.of_PK (h := w.heap.size) bv2 (PK.set w4 g 7 (.int .i64 (en : Int)) lv2 tv2))))
          have c7 := h5.dec.cell 7
          have f7 := h5.dec.froz 7
          have hk2 := h3 hdn
          have hk3 := h1.1
          rw [HDL.out] at hk3
          clear h1 h2 h3 h4 h5 h6 HS
          go_wp2_with fail
          exact ⟨⟨k + k2, o ++ o2, en, d2, lv2, tv2, rv2, bv2, HDN2, HF2, HWR2, hide (by rw [← List.drop_drop]; exact HP4.out), HK4⟩, by rw [HP4.out.restLen, HRL.out, List.length_drop, HDL.out]; omega⟩
        · have HS := hide (trailerLine_any HP3.out HF1.out hfn HW1.out HM2.out hb hld)
          have c0' : wr.cell? ⟨g, 0, none⟩ = some (.func (.func 47) #[.pointer (some ⟨g, 0, none⟩)] #[]) := by
            rw [c0]
            unfold stV
            rw [hfn]
            rfl
          clear c0 hfn
          go_wp2_with fail
          refine HS.out.mono ?_
          rintro e w4 ⟨en, k2, o2, d2, lv2, tv2, rv2, bv2, rfl, h1, h2, h3, h4, h5, h6⟩
          have HDN2 := hide (HDN.out.trans HW1.out h1)
          have HF2 := hide h2
          have HWR2 := hide (h4.trans HWR1.out)
          have HDD := hide (h5.dec.set 7 (.int .i64 (en : Int)) { d2 with wrong := en } rfl rfl rfl)
          have HP4 := hide (h5.of_PK HDD.out (PK.set w4 g 7 (.int .i64 (en : Int)) lv2 tv2))
          have HK4 := hide (HK2.out.trans (h6.trans (DK.of_PK (h := w.heap.size) bv2 (PK.set w4 g 7 (.int .i64 (en : Int)) lv2 tv2))))
          have c7 := h5.dec.cell 7
          have f7 := h5.dec.froz 7
          have hk2 := h3 hdn
          have hk3 := h1.1
          rw [HDL.out] at hk3
          clear h1 h2 h3 h4 h5 h6 HS
          go_wp2_with fail
          exact ⟨⟨k + k2, o ++ o2, en, d2, lv2, tv2, rv2, bv2, HDN2, HF2, HWR2, hide (by rw [← List.drop_drop]; exact HP4.out), HK4⟩, by rw [HP4.out.restLen, HRL.out, List.length_drop, HDL.out]; omega⟩
    · have hd0 : l.drop k = [] := List.drop_of_length_le (by omega)
      have t1 : ¬ (0 : Int) < ((l.length - k : Nat) : Int) := by omega
      have HBY := hide (HRD.out.symm.trans (HDN.out.done (.inr hd0)))
      clear hd0
      have HFG := hide (forget_any HP2.out.dec)
      go_wp2_with fail
      refine HFG.out.mono ?_
      rintro e w5 ⟨rfl, lv5, tv5, hd5, hk5⟩
      have HP5 := hide (HP2.out.of_PK hd5 hk5)
      have HK5 := hide (HK2.out.trans (DK.of_PK (h := w.heap.size) _ hk5))
      clear hd5 hk5 HFG
      obtain ⟨ba5, bc5, hbe5, _, _⟩ := HP5.out.pce.body.shape
      rw [bc_len] at hbe5
      subst hbe5
      have p0 := HP5.out.pce.cell 0
      have p1 := HP5.out.pce.cell 1
      have c6 : w5.cell? ⟨g, 6, none⟩ = some (.bool d1.whole) := HP5.out.dec.cell 6
      have c7 : w5.cell? ⟨g, 7, none⟩ = some (.int .i64 (en : Int)) := HP5.out.dec.cell 7
      go_upto_region 7 with fail
      have hsub : (l.length : Int) - ((l.length - k : Nat) : Int) = (k : Int) := by omega
      have hwrap : IntKind.i64.wrap (k : Int) = (k : Int) := IntWalk.i64_in _ ⟨by omega, by omega⟩
      refine wp_region_cl (by kernel_rfl) (by kernel_rfl) ?_
      refine cl_val (v := ?_) rfl (fun W hW => ?_) ?_
      rotate_left
      · unfold Oper.quietAt; go_simp; try with_reducible rfl
      simp only [Act.put, List.setIfInBounds_toArray, List.set_cons_zero, List.set_cons_succ]
      refine cl_val (v := ?_) rfl (fun W hW => ?_) ?_
      rotate_left
      · have l0 := hW.cell p1; unfold Oper.quietAt; go_simp; try with_reducible rfl
      simp only [Act.put, List.setIfInBounds_toArray, List.set_cons_zero, List.set_cons_succ]
      refine cl_move _ rfl rfl ?_
      simp only [Act.put, List.setIfInBounds_toArray, List.set_cons_zero, List.set_cons_succ]
      refine cl_val (v := ?_) rfl (fun W hW => ?_) ?_
      rotate_left
      · unfold Oper.quietAt; go_simp; try with_reducible rfl
      simp only [Act.put, List.setIfInBounds_toArray, List.set_cons_zero, List.set_cons_succ]
      refine cl_val (v := ?_) rfl (fun W hW => ?_) ?_
      rotate_left
      · unfold Oper.quietAt; go_simp; try with_reducible rfl
      simp only [Act.put, List.setIfInBounds_toArray, List.set_cons_zero, List.set_cons_succ]
      refine cl_val (v := ?_) rfl (fun W hW => ?_) ?_
      rotate_left
      · have l0 := hW.cell p0; unfold Oper.quietAt; go_simp; try with_reducible rfl
      simp only [Act.put, List.setIfInBounds_toArray, List.set_cons_zero, List.set_cons_succ]
      refine cl_val (v := ?_) rfl (fun W hW => ?_) ?_
      rotate_left
      · unfold Oper.quietAt; go_simp; try with_reducible rfl
      simp only [Act.put, List.setIfInBounds_toArray, List.set_cons_zero, List.set_cons_succ]
      refine cl_val (v := ?_) rfl (fun W hW => ?_) ?_
      rotate_left
      · unfold Oper.quietAt; go_simp; try with_reducible rfl
      simp only [Act.put, List.setIfInBounds_toArray, List.set_cons_zero, List.set_cons_succ]
      refine cl_move _ rfl rfl ?_
      simp only [Act.put, List.setIfInBounds_toArray, List.set_cons_zero, List.set_cons_succ]
      refine cl_val (v := ?_) rfl (fun W hW => ?_) ?_
      rotate_left
      · unfold Oper.quietAt; go_simp; try with_reducible rfl
      simp only [Act.put, List.setIfInBounds_toArray, List.set_cons_zero, List.set_cons_succ]
      refine cl_val (v := ?_) rfl (fun W hW => ?_) ?_
      rotate_left
      · unfold Oper.quietAt; go_simp; try with_reducible rfl
      simp only [Act.put, List.setIfInBounds_toArray, List.set_cons_zero, List.set_cons_succ]
      refine cl_val (v := ?_) rfl (fun W hW => ?_) ?_
      rotate_left
      · have l0 := hW.cell c6; unfold Oper.quietAt; go_simp; try with_reducible rfl
      simp only [Act.put, List.setIfInBounds_toArray, List.set_cons_zero, List.set_cons_succ]
      refine cl_move _ rfl rfl ?_
      simp only [Act.put, List.setIfInBounds_toArray, List.set_cons_zero, List.set_cons_succ]
      refine cl_val (v := ?_) rfl (fun W hW => ?_) ?_
      rotate_left
      · unfold Oper.quietAt; go_simp; try with_reducible rfl
      simp only [Act.put, List.setIfInBounds_toArray, List.set_cons_zero, List.set_cons_succ]
      refine cl_val (v := ?_) rfl (fun W hW => ?_) ?_
      rotate_left
      · unfold Oper.quietAt; go_simp; try with_reducible rfl
      simp only [Act.put, List.setIfInBounds_toArray, List.set_cons_zero, List.set_cons_succ]
      refine cl_val (v := ?_) rfl (fun W hW => ?_) ?_
      rotate_left
      · have l0 := hW.cell c7; unfold Oper.quietAt; go_simp; try with_reducible rfl
      simp only [Act.put, List.setIfInBounds_toArray, List.set_cons_zero, List.set_cons_succ]
      refine cl_assign _ rfl rfl ?_
      simp only [Act.put, List.setIfInBounds_toArray, List.set_cons_zero, List.set_cons_succ]
      refine cl_assign _ rfl rfl ?_
      simp only [Act.put, List.setIfInBounds_toArray, List.set_cons_zero, List.set_cons_succ]
      refine cl_assign _ rfl rfl ?_
      simp only [Act.put, List.setIfInBounds_toArray, List.set_cons_zero, List.set_cons_succ]
      refine cl_assign _ rfl rfl ?_
      simp only [Act.put, List.setIfInBounds_toArray, List.set_cons_zero, List.set_cons_succ]
      refine wpQuiet_nil ?_
      intro z Hz
      have HP9 := hide (HP5.out.below Hz.out)
      have HK9 := hide (HK5.out.trans (DK.of_below g w.heap.size lv5 tv5 (.slice ba5 o.length bc5) Hz.out))
      clear p0 p1 c6 c7
      go_wp2
      exact bodyPost_ret (v := .tuple #[.slice ba5 o.length bc5, .int .i64 (k : Int), .bool d1.whole, .int .i64 (en : Int)]) (by simp [results, Tryd.results13, go_sem]) rfl ⟨_, _, _, by rw [HBY.out], by rw [HBY.out]; exact Row.raise HP9.out.pce.body (fun i e => Nat.le_of_not_lt fun h9 => HK9.out.ba i (Nat.lt_of_lt_of_le h9 B1.out.size) (by simp [Value.ownBlock]) e), by rw [HBY.out]; exact HP9.out.dec, HK9.out.pk B1.out (Nat.le_refl _) (fun i e => by simp [Value.ownBlock] at e)⟩
end Go.Proofs.YthciahpadninpaaDoor
