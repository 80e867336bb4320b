/- A byte: what the parser makes of it. -/
import Derived.Test.YtcagjipdldlehaaGreatDoorHFld
import Derived.Deep.QuietTactic
namespace Go.Proofs.YtcagjipdldlehaaGreatDoor
open Go.ChangeShapes Go.WideShapes Go.ChangeAt Go.RowKit

/-- A row of which nothing is left. -/
theorem Row.cut0h {W : World} {base : Nat} {e : TypeId} {a : Option Addr} {n c : Nat} {xs : List Value} (h : Row W base e (.slice a n c) xs) : Row W base e (.slice a 0 c) [] := by
  refine ⟨rfl, ?_⟩
  rcases h.2 with ⟨h1, h0⟩ | ⟨g, cap, cur, hv, h1, hg, hc, hmx, hs, ht⟩
  · simp only [Value.slice.injEq] at h1
    obtain ⟨rfl, rfl, rfl⟩ := h1
    exact .inl ⟨rfl, rfl⟩
  · simp only [Value.slice.injEq] at hv
    obtain ⟨rfl, rfl, rfl⟩ := hv
    exact .inr ⟨g, _, cur, rfl, h1, hg, Nat.zero_le _, hmx, hs, by simp⟩
theorem wpList_append_ish {ops : Array Oper} {rest : List Oper} {o : Oper} {a : Act} {Q : Exit → Act → World → Prop} {W W' : World} (hgd : o.guard = none) (s x : Operand) (t : TypeId)
    (ho : o.op = .call { callee := .builtin .append, args := #[s, x], argTypes := #[t, t] }) (v src v' : Value) (hs : a.eval s = v) (hx : a.eval x = src)
    (hrun : (Builtin.append_ #[t, t] o.type #[v, src]).run Tryz.prog W = .ok v' W') (h : wpList Tryz.prog ops Q rest (a.put o.dst v') W') : wpList Tryz.prog ops Q (o :: rest) a W := by
  refine wpList_plain hgd fun K hK => ?_
  unfold Oper.wp execOp
  simp only [ho, resolve, invoke, builtin, Sem.run_bind, Sem.run_pure, Result.andThen_ok, List.map_toArray, List.map_cons, List.map_nil, hs, hx, hrun]
  exact hK _ _ h
def pLine (p : Pz) (s : ByteArray) : Nat × Pz := if p.fn = fnReq then pReq p s else if p.fn = fnRes then pRes p s else pFld p s
def pNext (p : Pz) (c : UInt8) : Nat × Pz :=
  if p.ending ≠ decide (c = 10) then (81, p)
  else if p.read = p.most then (85, p)
  else if c = 13 then (0, { p with read := p.read + 1, ending := true })
  else if c = 10 then pLine { p with read := p.read + 1, ending := false, line := [] } (sS p.line)
  else if p.line.length = 8192 then (85, { p with read := p.read + 1 })
  else (0, { p with read := p.read + 1, line := p.line ++ [c] })
/-- What is always so of a parser. -/
structure Fit (p : Pz) : Prop where
  fn : p.fn = fnReq ∨ p.fn = fnRes ∨ p.fn = fnFld
  most : p.most ≤ 65536
  read : p.read ≤ p.most
  line : p.line.length ≤ 8192
  passed : p.passed ≤ 4
  fs : p.fs.length ≤ 100
theorem byte_tenh (c : UInt8) : (((c.toNat : Int)) == 10) = decide (c = 10) := by
  rw [show (10 : Int) = ((10 : UInt8).toNat : Int) from rfl, byte_eqI, Bool.eq_iff_iff]; simp
theorem byte_crh (c : UInt8) : (((c.toNat : Int)) == 13) = decide (c = 13) := by
  rw [show (13 : Int) = ((13 : UInt8).toNat : Int) from rfl, byte_eqI, Bool.eq_iff_iff]; simp
set_option maxHeartbeats 4000000 in
theorem next_plain {w : World} {base g : Nat} {lv fv : Value} {p : Pz} (h : Par w base g lv fv p) (hf : Fit p) (c : UInt8) (h10 : c ≠ 10) :
    Calls Tryz.prog 86 #[.pointer (some ⟨g, 0, none⟩), .int .u8 (c.toNat : Int)] w fun e w' => e = .returned (errV (pNext p c).1) ∧ ∃ lv', Par w' base g lv' fv (pNext p c).2 ∧ PKh w w' g lv fv lv' fv := by
  obtain ⟨la, lc, hle, _, _⟩ := h.line.shape
  rw [bc_len] at hle
  subst hle
  have hlen := hf.line
  have hrd := hf.read
  have hmo := hf.most
  have HP := hide h
  have c3 := h.cell 3
  have c0 := h.cell 0
  have c1 := h.cell 1
  have f1 := h.froz 1
  rw [show (pcells p g (.slice la p.line.length lc) fv)[3]? = some (.bool p.ending) from rfl] at c3
  rw [show (pcells p g (.slice la p.line.length lc) fv)[0]? = some (.int .i64 (p.most : Int)) from rfl] at c0
  rw [show (pcells p g (.slice la p.line.length lc) fv)[1]? = some (.int .i64 (p.read : Int)) from rfl] at c1
  have t10 : (((c.toNat : Int)) == 10) = false := by rw [byte_tenh]; exact decide_eq_false h10
  clear h hf
  generalize hR0 : pNext p c = R
  unfold pNext at hR0
  rw [decide_eq_false h10] at hR0
  cases he : p.ending with
  | true =>
    rw [if_pos (by rw [he]; simp)] at hR0
    have HX := hide hR0
    rw [he] at c3
    clear he hR0
    go_enter Tryz.func86, Tryz.ntmps86
    go_wp2_with fail
    go_ret
    exact ⟨by rw [← HX.out]; rfl, _, by rw [← HX.out]; exact HP.out, PKh.refl _ _ _ _⟩
  | false =>
    rw [if_neg (by rw [he]; simp)] at hR0
    rw [he] at c3
    clear he
    by_cases h1 : p.read = p.most
    · rw [if_pos h1] at hR0
      have HX := hide hR0
      have t1 : ((p.read : Int) == (p.most : Int)) = true := by rw [h1]; simp
      clear hR0 h1
      go_enter Tryz.func86, Tryz.ntmps86
      go_upto_region 3 with fail
      go_quiet (fail)
      go_wp2_with fail
      go_ret
      exact ⟨by rw [← HX.out]; rfl, _, by rw [← HX.out]; exact HP.out.below (below_drewN _ _), PKh.of_below _ _ _ (below_drewN _ _)⟩
    · rw [if_neg h1] at hR0
      have t1 : ((p.read : Int) == (p.most : Int)) = false := by rw [beq_eq_false_iff_ne]; omega
      have hr2 : (p.read : Int) + 1 ≤ 65536 := by omega
      clear h1
      by_cases h13 : c = 13
      · rw [if_pos h13] at hR0
        have HX := hide hR0
        have t13 : (((c.toNat : Int)) == 13) = true := by rw [byte_crh]; exact decide_eq_true h13
        clear hR0 h13
        go_enter Tryz.func86, Tryz.ntmps86
        go_upto_region 3 with fail
        go_quiet (fail)
        go_upto_region 6 with fail
        have HPD := hide (HP.out.below (below_drewN w nq))
        have HP2 := hide (HPD.out.set 1 (.int .i64 ((p.read : Int) + 1)) { p with read := p.read + 1 } rfl rfl rfl)
        have HK2 := hide ((PKh.of_below g (.slice la p.line.length lc) fv (below_drewN w nq)).trans (PKh.set (w.drewN nq) g 1 (.int .i64 ((p.read : Int) + 1)) (.slice la p.line.length lc) fv))
        clear c0 c1 c3 f1
        generalize (w.drewN nq).setCell ⟨g, 1, none⟩ (.int .i64 ((p.read : Int) + 1)) = w2 at HP2 HK2 ⊢
        have c3 := HP2.out.cell 3
        rw [show (pcells { p with read := p.read + 1 } g (.slice la p.line.length lc) fv)[3]? = some (.bool p.ending) from rfl] at c3
        have f3 := HP2.out.froz 3
        go_wp2_with fail
        go_ret
        exact ⟨by rw [← HX.out]; rfl, _, by rw [← HX.out]; exact HP2.out.set 3 (.bool true) { p with read := p.read + 1, ending := true } rfl rfl rfl, HK2.out.trans (PKh.set _ _ _ _ _ _)⟩
      · rw [if_neg h13, if_neg h10] at hR0
        have t13 : (((c.toNat : Int)) == 13) = false := by rw [byte_crh]; exact decide_eq_false h13
        clear h13 h10
        by_cases hl : p.line.length = 8192
        · rw [if_pos hl] at hR0
          have HX := hide hR0
          have tl : ((p.line.length : Int) == 8192) = true := by simp [hl]
          clear hR0 hl
          go_enter Tryz.func86, Tryz.ntmps86
          go_upto_region 3 with fail
          go_quiet (fail)
          go_upto_region 6 with fail
          have HPD := hide (HP.out.below (below_drewN w nq))
          have HP2 := hide (HPD.out.set 1 (.int .i64 ((p.read : Int) + 1)) { p with read := p.read + 1 } rfl rfl rfl)
          have HK2 := hide ((PKh.of_below g (.slice la p.line.length lc) fv (below_drewN w nq)).trans (PKh.set (w.drewN nq) g 1 (.int .i64 ((p.read : Int) + 1)) (.slice la p.line.length lc) fv))
          clear c0 c1 c3 f1
          generalize (w.drewN nq).setCell ⟨g, 1, none⟩ (.int .i64 ((p.read : Int) + 1)) = w2 at HP2 HK2 ⊢
          have c2 := HP2.out.cell 2
          rw [show (pcells { p with read := p.read + 1 } g (.slice la p.line.length lc) fv)[2]? = some (.slice la p.line.length lc) from rfl] at c2
          go_wp2_with fail
          go_ret
          exact ⟨by rw [← HX.out]; rfl, _, by rw [← HX.out]; exact HP2.out, HK2.out⟩
        · rw [if_neg hl] at hR0
          have HX := hide hR0
          have tl : ((p.line.length : Int) == 8192) = false := by simp; omega
          clear hR0 hl
          go_enter Tryz.func86, Tryz.ntmps86
          go_upto_region 3 with fail
          go_quiet (fail)
          go_upto_region 6 with fail
          have HPD := hide (HP.out.below (below_drewN w nq))
          have HP2 := hide (HPD.out.set 1 (.int .i64 ((p.read : Int) + 1)) { p with read := p.read + 1 } rfl rfl rfl)
          have HK2 := hide ((PKh.of_below g (.slice la p.line.length lc) fv (below_drewN w nq)).trans (PKh.set (w.drewN nq) g 1 (.int .i64 ((p.read : Int) + 1)) (.slice la p.line.length lc) fv))
          clear c0 c1 c3 f1
          generalize (w.drewN nq).setCell ⟨g, 1, none⟩ (.int .i64 ((p.read : Int) + 1)) = w2 at HP2 HK2 ⊢
          have c2 := HP2.out.cell 2
          rw [show (pcells { p with read := p.read + 1 } g (.slice la p.line.length lc) fv)[2]? = some (.slice la p.line.length lc) from rfl] at c2
          obtain ⟨ad, n, ca, W, hrun, q1, q2, hP, hK⟩ := HP2.out.app_l 31 c (by show p.line.length ≤ 65536; omega)
          have HRUN := hide hrun
          have HPW := hide hP
          have HKW := hide (HK2.out.trans hK)
          clear hP hK hrun
          go_wp2_with (at_builtin; apply Hid.out)
          unfold Hid
          refine wpList_append_ish rfl _ _ 31 rfl (.slice la p.line.length lc) (.slice (some ⟨w2.heap.size, 0, none⟩) 1 1) (.slice ad n ca) rfl rfl HRUN.out ?_
          go_wp2_with fail
          go_ret
          exact ⟨by rw [← HX.out]; rfl, _, by rw [← HX.out]; exact HPW.out, HKW.out⟩
end Go.Proofs.YtcagjipdldlehaaGreatDoor
