/- A line, read on. -/
import Derived.Test.YtggeihahbgeneaaDoorCRd
namespace Go.Proofs.YtggeihahbgeneaaDoor
open Go.ChangeShapes Go.WideShapes Go.ChangeAt Go.RowKit

theorem byte_ten (c : UInt8) : (((c.toNat : Int)) == 10) = decide (c = 10) := by
  rw [show (10 : Int) = ((10 : UInt8).toNat : Int) from rfl, byte_eqI, Bool.eq_iff_iff]; simp
theorem byte_cr (c : UInt8) : (((c.toNat : Int)) == 13) = decide (c = 13) := by
  rw [show (13 : Int) = ((13 : UInt8).toNat : Int) from rfl, byte_eqI, Bool.eq_iff_iff]; simp
/-- How many bytes the rest has, told by its cell. -/
def restLen (h : Nat) (w : World) : Nat := match w.cell? ⟨h, 0, none⟩ with | some (.slice _ n _) => n | _ => 0
theorem DP.restLen {w : World} {base g h : Nat} {A : Nat → Prop} {lv tv rv bv : Value} {d : Dz} {rest body : List UInt8} (p : DP w base A g h lv tv rv bv d rest body) : restLen h w = rest.length := by
  obtain ⟨a, c, he, _, _⟩ := p.pce.rest
  unfold Go.Proofs.YtggeihahbgeneaaDoor.restLen
  rw [p.pce.cell 0]
  subst he
  rfl
theorem MX.dk {w w' : World} {base g h : Nat} {A : Nat → Prop} {lv tv rv bv lv' tv' bv' : Value} {d : Dz} {rest body : List UInt8} (hm : MX w) (p : DP w base A g h lv tv rv bv d rest body) (hb : 2 ≤ base) (k : DK w w' g h lv tv bv lv' tv' bv') : MX w' := by
  obtain ⟨h0, m, hm⟩ := hm
  refine ⟨Nat.lt_of_lt_of_le h0 k.size, m, ?_⟩
  have e : w'.heap[0]? = w.heap[0]? := k.block 0 (by omega) (by have := p.dec.gb; omega) (by have := p.pce.hb; omega) (fun e => by have := (p.dec.line.lt e).1; omega) (fun e => by have := (p.dec.trs.lt e).1; omega) (fun e => by have := (p.pce.body.lt e).1; omega)
  unfold World.cell? at hm ⊢
  rw [show (⟨0, 0, none⟩ : Addr).block = 0 from rfl] at hm ⊢
  rw [e]
  exact hm
theorem Dec.cutl {w : World} {base g : Nat} {la : Option Addr} {n lc : Nat} {fv : Value} {d : Dz} (h : Dec w base g (.slice la n lc) fv d) :
    Dec (w.setCell ⟨g, 3, none⟩ (.slice la 0 lc)) base g (.slice la 0 lc) fv { d with line := [] } ∧ PK w (w.setCell ⟨g, 3, none⟩ (.slice la 0 lc)) g (.slice la n lc) fv (.slice la 0 lc) fv := by
  have hk : Kept w w (.slice la n lc) (.slice la 0 lc) := by
    refine ⟨Nat.le_refl _, fun _ _ _ => rfl, fun k _ e => ?_⟩
    cases la with
    | none => exact e
    | some a => exact e
  refine ⟨(h.grow_l hk (l := []) h.line.cut0).2, ?_⟩
  have hs := PK.set w g 3 (.slice la 0 lc) (.slice la n lc) fv
  exact ⟨hs.os, hs.tape, hs.output, hs.size, hs.block, fun k hk2 e => hk.apart k hk2 e, fun _ _ e => e⟩
/-- What a state tells. -/
def StP (w : World) (base : Nat) (A : Nat → Prop) (g h : Nat) (lv tv bv : Value) (d : Dz) (rest body : List UInt8) (e : Ending) (w' : World) : Prop :=
  ∃ (en k : Nat) (o : List UInt8) (d' : Dz) (lv' tv' rv' bv' : Value), e = .returned (.int .i64 (en : Int)) ∧ Dn d rest k o en d' ∧ FitD d' ∧ (rest ≠ [] → 1 ≤ k) ∧ d'.wrong = d.wrong ∧ DP w' base A g h lv' tv' rv' bv' d' (rest.drop k) (body ++ o) ∧ DK w w' g h lv tv bv lv' tv' bv'
theorem wpList_append_is {ops : Array Oper} {rest : List Oper} {o : Oper} {a : Act} {Q : Exit → Act → World → Prop} {W W' : World} (hgd : o.guard = none) (s x : Operand) (t : TypeId)
    (ho : o.op = .call { callee := .builtin .append, args := #[s, x], argTypes := #[t, t] }) (v src v' : Value) (hs : a.eval s = v) (hx : a.eval x = src)
    (hrun : (Builtin.append_ #[t, t] o.type #[v, src]).run Tryd.prog W = .ok v' W') (h : wpList Tryd.prog ops Q rest (a.put o.dst v') W') : wpList Tryd.prog ops Q (o :: rest) a W := by
  refine wpList_plain hgd fun K hK => ?_
  unfold Oper.wp execOp
  simp only [ho, resolve, invoke, builtin, Sem.run_bind, Sem.run_pure, Result.andThen_ok, List.map_toArray, List.map_cons, List.map_nil, hs, hx, hrun]
  exact hK _ _ h
set_option maxHeartbeats 8000000 in
theorem readLine_size {w : World} {base g h : Nat} {A : Nat → Prop} {lv tv rv bv : Value} {d : Dz} {rest body : List UInt8} (p : DP w base A g h lv tv rv bv d rest body) (hf : FitD d) (hfn : d.fn = fnSize) (hw : d.whole = false) (hlf : d.fn = fnBody → d.left = 0 ∨ rest = []) (hm : MX w) (hb : 2 ≤ base) (hl : rest.length ≤ 140737488355328) :
    Calls Tryd.prog 29 #[.pointer (some ⟨g, 0, none⟩), .pointer (some ⟨h, 0, none⟩), .int .i64 8192, .func (.func 30) #[.pointer (some ⟨g, 0, none⟩)] #[]] w (StP w base A g h lv tv bv d rest body) := by
  have HP := hide p
  have HF := hide hf
  have HM := hide hm
  have HLF := hide hlf
  have HFN := hide hfn
  have HW := hide hw
  clear p hf hm hlf hfn hw
  go_enter Tryd.func29, Tryd.ntmps29
  go_wp2_with fail
  go_loopw [9] (fun _ wr => ∃ (k : Nat) (d' : Dz) (lv' tv' rv' : Value), Hid (Dn d rest k [] 0 d') ∧ Hid (FitD d') ∧ Hid (d'.whole = false) ∧ Hid (d'.fn = fnSize) ∧ Hid (d'.left = d.left) ∧ Hid (d'.wrong = d.wrong) ∧ Hid (DP wr base A g h lv' tv' rv' bv d' (rest.drop k) body) ∧ Hid (DK w wr g h lv tv bv lv' tv' bv)) (fun _ wr => restLen h wr)
  case atStart => exact ⟨0, d, lv, tv, rv, hide (Dn.refl d rest HW.out), HF, HW, HFN, hide rfl, hide rfl, by rw [List.drop_zero]; exact HP, hide (DK.refl _ _ _ _ _ _)⟩
  case round =>
    obtain ⟨k, d1, lv1, tv1, rv1, HD1, HF1, HW1, HFN1, HLE1, HWR1, HP1, HK1⟩ := hrel
    have HRL := hide HP1.out.restLen
    have HM1 := hide (HM.out.dk HP.out hb HK1.out)
    cases hrd : rest.drop k with
    | nil =>
      have HRD := hide hrd
      have hp1 := HP1.out
      rw [hrd] at hp1
      clear hrd
      obtain ⟨ra, rc, hre, _, _⟩ := hp1.pce.rest
      simp only [List.length_nil] at hre
      subst hre
      have c0 : wr.cell? ⟨h, 0, none⟩ = some (.slice ra 0 rc) := hp1.pce.cell 0
      clear hp1
      go_wp2_with fail
      go_ret
      exact ⟨0, k, [], d1, lv1, tv1, _, bv, rfl, HD1.out, HF1.out, fun hne => (by
        have := HRD.out
        have h2 := congrArg List.length this
        rw [List.length_drop, List.length_nil] at h2
        have h3 := List.length_pos_iff.2 hne
        omega), HWR1.out, by rw [List.append_nil]; exact HP1.out, HK1.out⟩
    | cons c r =>
      have hp1 := HP1.out
      rw [hrd] at hp1
      have HP1' := hide hp1
      have hrl : r.length ≤ 140737488355328 := by
        have h2 := congrArg List.length hrd
        rw [List.length_drop, List.length_cons] at h2
        omega
      obtain ⟨ra, rc, hre, _, _⟩ := hp1.pce.rest
      simp only [List.length_cons] at hre
      subst hre
      have c0 : wr.cell? ⟨h, 0, none⟩ = some (.slice ra (r.length + 1) rc) := hp1.pce.cell 0
      have hst := HD1.out.step HW1.out hrd
      have HST := hide hst.1
      have HDR := hide hst.2
      have HRL2 : Hid (restLen h wr = r.length + 1) := hide (by rw [HRL.out, hrd]; rfl)
      have hbd : ¬ (d1.fn = fnBody ∧ 0 < d1.left) := fun hx => by
        rcases HLF.out (HFN.out.trans (HFN1.out.symm.trans hx.1)) with h3 | h3
        · have := HLE1.out; omega
        · rw [h3] at hrd; simp at hrd
      have HNF := hide (HF1.out.next c)
      have HNX := hide hp1.pce
      clear hp1 hst hrd HRL
      go_upto_region 4 with (go_at_call 34; refine (next_any HNX.out hrl).mono ?_; rintro e w2 ⟨rfl, rv2, hp2, hk2⟩)
      have HP2 := hide (HP1'.out.of_QK hp2 hk2)
      have HK2 := hide (HK1.out.trans (DK.of_QK lv1 tv1 hk2))
      clear hp2 hk2 c0 HNX HP1 HP1'
      have c4 := HP2.out.dec.cell 4
      rw [show (dcells d1 g lv1 tv1)[4]? = some (.bool d1.ending) from rfl] at c4
      have t10 := byte_ten c
      have t13 := byte_cr c
      unfold dNext at HST HNF
      rw [if_neg hbd] at HST HNF
      cases he : d1.ending with
      | true =>
        rw [he] at c4 HST HNF
        by_cases h10 : c = 10
        · rw [decide_eq_true h10] at t10 HST HNF
          rw [if_neg (by simp), if_pos rfl] at HST HNF
          have HEN := hide he
          clear he t13 hbd
          obtain ⟨la, lc, hle, _, _⟩ := HP2.out.dec.line.shape
          rw [bc_len] at hle
          subst hle
          have HT := HP2.out.dec.line.text
          rw [show (⟨d1.line.toArray⟩ : ByteArray) = sS d1.line from rfl] at HT
          have hl8 := HF1.out.line
          have c3 := HP2.out.dec.cell 3
          rw [show (dcells d1 g (.slice la d1.line.length lc) tv1)[3]? = some (.slice la d1.line.length lc) from rfl] at c3
          have f3 := HP2.out.dec.froz 3
          have f4 := HP2.out.dec.froz 4
          go_upto_region 9 with fail
          obtain ⟨hP4, hK4⟩ := HP2.out.dec.cutl
          have HP4 := hide (hP4.set 4 (.bool false) { d1 with line := [], ending := false } rfl rfl rfl)
          have HK4 := hide (hK4.trans (PK.set _ g 4 (.bool false) (.slice la 0 lc) tv1))
          clear c3 c4 f3 f4 HT hP4 hK4
          generalize (w2.setCell ⟨g, 3, none⟩ (.slice la 0 lc)).setCell ⟨g, 4, none⟩ (.bool false) = w4 at HP4 HK4 ⊢
          have HDP4 := hide (HP2.out.of_PK HP4.out HK4.out)
          have HDK4 := hide (HK2.out.trans (DK.of_PK (h := h) bv HK4.out))
          have HM4 := hide (HM.out.dk HP.out hb HDK4.out)
          have HDE : Hid (dEnd { d1 with line := [], ending := false } (sS d1.line) = dSized { d1 with line := [], ending := false } (sS d1.line)) := hide (by
            unfold dEnd
            rw [show ({ d1 with line := [], ending := false } : Dz).fn = fnSize from HFN1.out]
            rw [if_pos rfl])
          rw [HDE.out] at HST HNF
          have hs8 : (sS d1.line).size ≤ 8192 := by rw [sS_size]; exact hl8
          have hro := HF1.out.room
          have htr := HF1.out.tr
          have HL := hide (sized_any HP4.out HM4.out (sS d1.line) hs8 hro)
          clear hl8 hro htr
          have HWE : Hid ((dSized { d1 with line := [], ending := false } (sS d1.line)).2.wrong = d1.wrong) := hide (by unfold dSized; (repeat' split) <;> rfl)
          generalize dSized { d1 with line := [], ending := false } (sS d1.line) = R at HL HST HNF HWE
          obtain ⟨en, d5⟩ := R
          dsimp only at HL HST HNF HWE
          go_wp2_with (refine HL.out.mono ?_; rintro e w5 ⟨rfl, fv5, h5, k5⟩)
          go_ret
          exact ⟨en, k + 1, [], d5, _, _, _, bv, rfl, HST.out, HNF.out, fun _ => by omega, HWE.out.trans HWR1.out, by rw [List.append_nil, HDR.out]; exact HDP4.out.of_PK h5 k5, HDK4.out.trans (DK.of_PK bv k5)⟩
        · rw [decide_eq_false h10] at t10 HST HNF
          rw [if_pos (by simp)] at HST HNF
          clear he t13 hbd
          go_wp2_with fail
          go_ret
          exact ⟨100, k + 1, [], d1, _, _, _, bv, rfl, HST.out, HF1.out, fun _ => by omega, HWR1.out, by rw [List.append_nil, HDR.out]; exact HP2.out, HK2.out⟩
      | false =>
        rw [he] at c4 HST HNF
        by_cases h10 : c = 10
        · rw [decide_eq_true h10] at t10 HST HNF
          rw [if_pos (by simp)] at HST HNF
          clear he t13 hbd
          go_wp2_with fail
          go_ret
          exact ⟨100, k + 1, [], d1, _, _, _, bv, rfl, HST.out, HF1.out, fun _ => by omega, HWR1.out, by rw [List.append_nil, HDR.out]; exact HP2.out, HK2.out⟩
        · rw [decide_eq_false h10] at t10 HST HNF
          rw [if_neg (by simp), if_neg (by simp)] at HST HNF
          clear hbd
          by_cases h13 : c = 13
          · rw [decide_eq_true h13] at t13
            rw [if_pos h13] at HST HNF
            have f4 := HP2.out.dec.froz 4
            clear he
            go_wp2_with fail
            have HD3 := hide (HP2.out.dec.set 4 (.bool true) { d1 with ending := true } rfl rfl rfl)
            have HP3 := hide (HP2.out.of_PK HD3.out (PK.set w2 g 4 (.bool true) lv1 tv1))
            exact ⟨⟨k + 1, { d1 with ending := true }, lv1, tv1, rv2, HST, HNF, HW1, HFN1, HLE1, HWR1, hide (by rw [HDR.out]; exact HP3.out), hide (HK2.out.trans (DK.of_PK bv (PK.set w2 g 4 (.bool true) lv1 tv1)))⟩, by rw [HP3.out.restLen, HRL2.out]; omega⟩
          · rw [decide_eq_false h13] at t13
            rw [if_neg h13] at HST HNF
            have hmo : dMost d1 = 8192 := by unfold dMost; rw [HFN1.out]; decide
            rw [hmo] at HST HNF
            have HEF := hide he
            clear he hmo
            obtain ⟨la, lc, hle, _, _⟩ := HP2.out.dec.line.shape
            rw [bc_len] at hle
            subst hle
            have c3 := HP2.out.dec.cell 3
            rw [show (dcells d1 g (.slice la d1.line.length lc) tv1)[3]? = some (.slice la d1.line.length lc) from rfl] at c3
            have f3 := HP2.out.dec.froz 3
            have hl8 := HF1.out.line
            by_cases h5 : d1.line.length = 8192
            · have t5 : ((d1.line.length : Int) == 8192) = true := by simp [h5]
              rw [if_pos h5] at HST HNF
              clear h5
              go_wp2_with fail
              go_ret
              exact ⟨100, k + 1, [], d1, _, _, _, bv, rfl, HST.out, HF1.out, fun _ => by omega, HWR1.out, by rw [List.append_nil, HDR.out]; exact HP2.out, HK2.out⟩
            · have t5 : ((d1.line.length : Int) == 8192) = false := by rw [beq_eq_false_iff_ne]; omega
              rw [if_neg h5] at HST HNF
              clear h5
              obtain ⟨ad, n, ca, W, hrun, q1, q2, hP, hK⟩ := HP2.out.dec.app_l 31 c (by omega)
              have HRUN := hide hrun
              have HP3 := hide (HP2.out.of_PK hP hK)
              have HK3 := hide (HK2.out.trans (DK.of_PK (h := h) bv hK))
              clear hP hK hrun
              go_wp2_with (at_builtin; apply Hid.out)
              unfold Hid
              refine wpList_append_is rfl _ _ 31 rfl (.slice la d1.line.length lc) (.slice (some ⟨w2.heap.size, 0, none⟩) 1 1) (.slice ad n ca) rfl rfl HRUN.out ?_
              go_wp2_with fail
              exact ⟨⟨k + 1, { d1 with line := d1.line ++ [c] }, _, tv1, rv2, hide (by have h := HST.out; rw [← HEF.out] at h; exact h), hide (by have h := HNF.out; rw [← HEF.out] at h; exact h), HW1, HFN1, HLE1, HWR1, hide (by rw [HDR.out]; exact HP3.out), HK3⟩, by rw [HP3.out.restLen, HRL2.out]; omega⟩
end Go.Proofs.YtggeihahbgeneaaDoor
