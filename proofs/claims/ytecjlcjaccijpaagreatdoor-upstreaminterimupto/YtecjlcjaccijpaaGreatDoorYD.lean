/- YD. -/
import Derived.Test.YtecjlcjaccijpaaGreatDoorYC
import Derived.Test.YtecjlcjaccijpaaGreatDoorYP
namespace Go.Proofs.YtecjlcjaccijpaaGreatDoor
open Go.ChangeShapes Go.WideShapes Go.ChangeAt Go.RowKit
set_option linter.unusedVariables false
set_option maxHeartbeats 16000000
set_option maxRecDepth 100000
structure Ok (p q : Pz) : Prop where
 fn : q.fn = p.fn ∨ q.fn = fnFld
 most : q.most = p.most
 read : q.read = p.read
 line : q.line = p.line
 passed : q.passed = p.passed ∨ q.passed <= 4
 fs : q.fs = p.fs ∨ q.fs.length <= 100
 wrong : q.wrong = p.wrong
theorem Ok.refl (p : Pz) : Ok p p := ⟨.inl rfl, rfl, rfl, rfl, .inl rfl, .inl rfl, rfl⟩
theorem ok_begun (p : Pz) (v : ByteArray) : Ok p (pBegun p v).2 := by
 unfold pBegun
 split
 ·split
  ·exact ⟨.inr rfl, rfl, rfl, rfl, .inl rfl, .inl rfl, rfl⟩
  ·split
   ·exact ⟨.inr rfl, rfl, rfl, rfl, .inl rfl, .inl rfl, rfl⟩
   ·exact Ok.refl p
 ·exact Ok.refl p
theorem ok_req (p : Pz) (s : ByteArray) : Ok p (pReq p s).2 := by
 unfold pReq
 split
 ·rename_i h
  exact ⟨.inl rfl, rfl, rfl, rfl, .inr h.2, .inl rfl, rfl⟩
 ·split
  ·obtain ⟨a, b, c, d, e, f, g⟩ := ok_begun { p with me := k1 32 s, ta := k1 32 (k2 32 s) } (k2 32 (k2 32 s))
   exact ⟨a, b, c, d, e, f, g⟩
  ·exact Ok.refl p
theorem ok_res (p : Pz) (s : ByteArray) : Ok p (pRes p s).2 := by
 unfold pRes
 split
 ·obtain ⟨a, b, c, d, e, f, g⟩ := ok_begun { p with status := numV 10 (k1 32 (k2 32 s)).data.toList, re := k2 32 (k2 32 s) } (k1 32 s)
  exact ⟨a, b, c, d, e, f, g⟩
 ·exact Ok.refl p
theorem ok_fld (p : Pz) (s : ByteArray) (hl : p.fs.length <= 100) : Ok p (pFld p s).2 := by
 unfold pFld
 repeat' split
 all_goals first
  | exact Ok.refl p
  | exact ⟨.inl rfl, rfl, rfl, rfl, .inl rfl, .inl rfl, rfl⟩
  | (refine ⟨.inl rfl, rfl, rfl, rfl, .inl rfl, .inr ?_, rfl⟩; rw [List.length_append]; simp only [List.length_singleton]; omega)
theorem ok_line (p : Pz) (s : ByteArray) (hl : p.fs.length <= 100) : Ok p (pLine p s).2 := by
 unfold pLine
 split
 ·exact ok_req p s
 ·split
  ·exact ok_res p s
  ·exact ok_fld p s hl
theorem Fit.ok {p q : Pz} (h : Fit p) (k : Ok p q) : Fit q := by
 refine ⟨?_, by rw [k.most]; exact h.most, by rw [k.most, k.read]; exact h.read, by rw [k.line]; exact h.line, ?_, ?_⟩
 ·rcases k.fn with e | e
  ·rw [e]; exact h.fn
  ·exact .inr (.inr e)
 ·rcases k.passed with e | e
  ·rw [e]; exact h.passed
  ·exact e
 ·rcases k.fs with e | e
  ·rw [e]; exact h.fs
  ·exact e
theorem Fit.next {p : Pz} (h : Fit p) (c : UInt8) : Fit (pNext p c).2 := by
 have h1 := h.read
 unfold pNext
 split
 ·exact h
 ·split
  ·exact h
  ·rename_i hr
   split
   ·exact ⟨h.fn, h.most, by show p.read + 1 <= p.most; omega, h.line, h.passed, h.fs⟩
   ·split
    ·exact Fit.ok (p := { p with read := p.read + 1, ending := false, line := [] }) ⟨h.fn, h.most, by show p.read + 1 <= p.most; omega, by show (0 : Nat) <= 8192; omega, h.passed, h.fs⟩ (ok_line _ _ h.fs)
    ·split
     ·exact ⟨h.fn, h.most, by show p.read + 1 <= p.most; omega, h.line, h.passed, h.fs⟩
     ·rename_i hn
      refine ⟨h.fn, h.most, by show p.read + 1 <= p.most; omega, ?_, h.passed, h.fs⟩
      show (p.line ++ [c]).length <= 8192
      have := h.line
      rw [List.length_append, List.length_singleton]
      omega
theorem next_wrong (p : Pz) (c : UInt8) (hl : p.fs.length <= 100) : (pNext p c).2.wrong = p.wrong := by
 unfold pNext
 repeat' split
 all_goals first
  | rfl
  | exact (ok_line { p with read := p.read + 1, ending := false, line := [] } _ hl).wrong
def pBytes (p : Pz) : List UInt8 -> Nat × Nat × Pz
 | [] => (0, 0, p)
 | c :: r => if (pNext p c).1 ≠ 0 then ((pNext p c).1, 1, (pNext p c).2) else if (pNext p c).2.whole then (0, 1, (pNext p c).2) else
  ((pBytes (pNext p c).2 r).1, (pBytes (pNext p c).2 r).2.1 + 1, (pBytes (pNext p c).2 r).2.2)
def Ap (g : Nat) (lv fv : Value) (k : Nat) : Prop := k ≠ g /\ lv.ownBlock ≠ some k /\ fv.ownBlock ≠ some k
theorem Ap.pk {w w' : World} {g : Nat} {lv fv lv' fv' : Value} (k : PKh w w' g lv fv lv' fv') {b : Nat} (h : Ap g lv fv b) (hb : b < w.heap.size) : Ap g lv' fv' b := ⟨h.1, k.la b hb h.2.1, k.fa b hb h.2.2⟩
theorem PKh.at {w w' : World} {g : Nat} {lv fv lv' fv' : Value} (k : PKh w w' g lv fv lv' fv') {b o : Nat} (h : Ap g lv fv b) (hb : b < w.heap.size) : w'.cell? ⟨b, o, none⟩ = w.cell? ⟨b, o, none⟩ := by
 unfold World.cell?
 rw [show (⟨b, o, none⟩ : Addr).block = b from rfl, k.block b hb h.1 h.2.1 h.2.2]
def byV (R : Nat × Nat × Pz) : Value := if R.1 = 0 then .tuple #[.int .i64 (R.2.1 : Int), .nilIface] else .tuple #[.int .i64 0, .iface 119 (.agg #[.int .i64 (R.2.1 : Int), .iface 36 (.int .i64 (R.1 : Int))])]
theorem PKh.bs {w w' : World} {base g : Nat} {lv fv lv' fv' : Value} {p : Pz} (hP : Par w base g lv fv p) (k : PKh w w' g lv fv lv' fv') {b o : Nat} (hb : b < base) (hw : b < w.heap.size) : w'.cell? ⟨b, o, none⟩ = w.cell? ⟨b, o, none⟩ := by
 have e : w'.heap[b]? = w.heap[b]? := k.block b hw (by have := hP.gb; omega) (fun e => by have := (hP.line.lt e).1; omega) (fun e => by have := (hP.flds.lt e).1; omega)
 unfold World.cell?
 rw [show (⟨b, o, none⟩ : Addr).block = b from rfl, e]
def shh (R : Nat × Nat × Pz) (k : Nat) : Nat × Nat × Pz := (R.1, R.2.1 + k, R.2.2)
theorem by_end {p q : Pz} {l : List UInt8} {k : Nat} (hk : l.length <= k) (h : pBytes p l = shh (pBytes q (l.drop k)) k) : pBytes p l = (0, k, q) := by
 rw [h, List.drop_of_length_le hk]
 simp [shh, pBytes]
theorem by_err {p q : Pz} {l : List UInt8} {k : Nat} (hk : k < l.length) (h : pBytes p l = shh (pBytes q (l.drop k)) k) {e : Nat} {r : Pz} (hn : pNext q l[k] = (e, r)) (he : e ≠ 0) : pBytes p l = (e, k + 1, r) := by
 rw [h, List.drop_eq_getElem_cons hk, pBytes, hn]
 rw [if_pos he]
 simp [shh, Nat.add_comm]
theorem by_whole {p q : Pz} {l : List UInt8} {k : Nat} (hk : k < l.length) (h : pBytes p l = shh (pBytes q (l.drop k)) k) {r : Pz} (hn : pNext q l[k] = (0, r)) (hw : r.whole = true) : pBytes p l = (0, k + 1, r) := by
 rw [h, List.drop_eq_getElem_cons hk, pBytes, hn]
 rw [if_neg (by simp), if_pos hw]
 simp [shh, Nat.add_comm]
theorem by_on {p q : Pz} {l : List UInt8} {k : Nat} (hk : k < l.length) (h : pBytes p l = shh (pBytes q (l.drop k)) k) {r : Pz} (hn : pNext q l[k] = (0, r)) (hw : r.whole = false) : pBytes p l = shh (pBytes r (l.drop (k + 1))) (k + 1) := by
 rw [h, List.drop_eq_getElem_cons hk, pBytes, hn]
 rw [if_neg (by simp), if_neg (by simp [hw])]
 simp only [shh, Prod.mk.injEq, true_and, and_true]
 omega
theorem bytes_any {w : World} {base g : Nat} {lv fv : Value} {p : Pz} (h : Par w base g lv fv p) (hf : Fit p) (hm : MX w) (hb : 3 <= base) (v : Value) (l : List UInt8) (hv : Bf w (Ap g lv fv) v l) (hl : l.length <= 140737488355328) :
  Calls Tryz.prog 62 #[.pointer (some ⟨g, 0, none⟩), v] w fun e w' => e = .returned (byV (pBytes p l)) /\ ∃ lv' fv', Par w' base g lv' fv' (pBytes p l).2.2 /\ PKh w w' g lv fv lv' fv' := by
 obtain ⟨a, cp, rfl, _, hcells⟩ := hv
 have HC := hide hcells
 have HP := hide h
 have HM := hide hm
 have HF := hide hf
 clear hcells h hm hf
 generalize hR : pBytes p l = R
 have HR := hide hR
 clear hR
 go_enter Tryz.func62, Tryz.ntmps62
 go_wp2_with fail
 go_loopw [11] (fun i wr => ∃ (k : Nat) (q : Pz) (lv' fv' : Value), k <= l.length /\ i = .int .i64 k /\ Hid (Par wr base g lv' fv' q) /\ Hid (Fit q) /\ Hid (PKh w wr g lv fv lv' fv') /\ Hid (R = shh (pBytes q (l.drop k)) k)) (fun i _ => l.length - (intOf i).toNat)
 case atStart => exact ⟨0, p, lv, fv, Nat.zero_le _, rfl, HP, HF, hide (PKh.refl _ _ _ _), hide (by rw [<- HR.out]; simp [shh])⟩
 case round =>
  obtain ⟨k, q, lv', fv', hk, rfl, HPk, HFk, HKk, HRk⟩ := hrel
  have HM2 := hide (HM.out.pk HP.out hb HKk.out)
  by_cases hlt : k < l.length
  ·obtain ⟨b, o, rfl, hb1, hb2, hcell⟩ := HC.out k hlt
   have r1 : wr.cell? ⟨b, o + k, none⟩ = some (.int .u8 (l[k].toNat : Int)) := (HKk.out.at hb1 hb2).trans hcell
   clear hcell
   have HNX := hide (next_anyh HPk.out HFk.out HM2.out hb l[k])
   have HFN := hide (HFk.out.next l[k])
   have HRk2 := hide (HR.out.trans HRk.out)
   obtain ⟨re, rp, hre⟩ : ∃ re rp, pNext q l[k] = (re, rp) := ⟨_, _, rfl⟩
   have HN := hide hre
   rw [hre] at HNX HFN
   clear hre
   by_cases h0 : re = 0
   ·subst h0
    go_upto_region 5 with (go_at_call 82; refine HNX.out.mono ?_; rintro e w2 ⟨rfl, lv2, fv2, h2, k2⟩)
    have HP2 := hide h2
    have HK2 := hide (HKk.out.trans k2)
    clear h2 k2 r1
    have c13 := HP2.out.cell 13
    have c13' : w2.cell? ⟨g, 13, none⟩ = some (.bool rp.whole) := c13
    clear c13
    have eV : errV ((0, rp) : Nat × Pz).1 = .nilIface := rfl
    rw [eV]
    cases hw : rp.whole with
    | true =>
     rw [hw] at c13'
     have HX := hide (by_whole hlt HRk2.out HN.out hw)
     clear hw
     go_wp2_with fail
     go_ret2
     have eR := HR.out.symm.trans HX.out
     exact ⟨by rw [eR]; rfl, _, _, by rw [eR]; exact HP2.out, HK2.out⟩
    | false =>
     rw [hw] at c13'
     have HX := hide (by_on hlt HRk2.out HN.out hw)
     clear hw
     go_wp2_with fail
     exact ⟨⟨k + 1, rp, lv2, fv2, by omega, by go_num, HP2, HFN, HK2, hide (HR.out.symm.trans HX.out)⟩, by simp [intOf]; omega⟩
   ·have eV : errV ((re, rp) : Nat × Pz).1 = .iface 36 (.int .i64 (re : Int)) := by unfold errV; rw [if_neg h0]
    rw [eV] at HNX
    have HX := hide (by_err hlt HRk2.out HN.out h0)
    have H0 := hide h0
    clear h0 eV
    go_upto_region 5 with (go_at_call 82; refine HNX.out.mono ?_; rintro e w2 ⟨rfl, lv2, fv2, h2, k2⟩)
    go_wp2_with fail
    go_ret2
    have eR := HR.out.symm.trans HX.out
    refine ⟨?_, _, _, by rw [eR]; exact h2, HKk.out.trans k2⟩
    rw [eR]
    unfold byV
    rw [if_neg H0.out]
    rfl
  ·have HX := hide (by_end (by omega) (HR.out.trans HRk.out))
   go_wp2_with fail
   go_ret2
   have eR := HR.out.symm.trans HX.out
   have ek : k = l.length := by omega
   refine ⟨?_, _, _, by rw [eR]; exact HPk.out, HKk.out⟩
   rw [eR, ek]
   rfl
def pNew (rq : Bool) (most : Nat) : Pz := { most := most, read := 0, line := [], ending := false, passed := 0, fn := if rq then fnReq else fnRes, req := rq, me := ⟨#[]⟩, ta := ⟨#[]⟩, minor := 0, status := 0, re := ⟨#[]⟩, fs := [], whole := false, wrong := 0 }
theorem fit_new (rq : Bool) (most : Nat) (h : most <= 65536) : Fit (pNew rq most) := by
 refine ⟨?_, h, Nat.zero_le _, Nat.zero_le _, Nat.zero_le _, Nat.zero_le _⟩
 cases rq with
 | true => exact .inl rfl
 | false => exact .inr (.inl rfl)
theorem par_new {W : World} {base g : Nat} (p : Pz) (h : W.heap[g]? = some (.cells (pcells p g (.slice none 0 0) (.slice none 0 0)) 79 (0, 0))) (hb : base <= g) (hl : p.line = []) (hf : p.fs = []) : Par W base g (.slice none 0 0) (.slice none 0 0) p := by
 refine ⟨h, ?_, ?_, hb, by simp [Value.ownBlock], by simp [Value.ownBlock], by intro k e; simp [Value.ownBlock] at e⟩
 ·rw [hl]; exact Row.nil _ _ _
 ·rw [hf]; exact FRow.nil _ _
theorem hnew_any (rq : Bool) (most : Nat) (w : World) (h : 16 <= most) (h2 : most <= 65536) :
  Calls Tryz.prog 24 #[.bool rq, .int .i64 (most : Int)] w fun e w' => e = .returned (.tuple #[.pointer (some ⟨w.heap.size, 0, none⟩), .int .i64 0]) /\ Par w' w.heap.size w.heap.size (.slice none 0 0) (.slice none 0 0) (pNew rq most) /\ Below w.heap.size w w' := by
 have t1 : ¬ (most : Int) < 16 := by omega
 have t2 : ¬ (65536 : Int) < (most : Int) := by omega
 go_enter Tryz.func24, Tryz.ntmps24
 go_upto_region 4 with fail
 have HB := hide ((Below.refl w.heap.size w).alloc (Nat.le_refl _) (.cells #[.int .i64 (most : Int), .int .i64 0, .slice none 0 0, .bool false, .int .i64 0, .nilFunc, .bool rq, .string ⟨#[]⟩, .string ⟨#[]⟩, .int .i64 0, .int .i64 0, .string ⟨#[]⟩, .slice none 0 0, .bool false, .int .i64 0] 79))
 have HD := hide (hp_new w (.cells #[.int .i64 (most : Int), .int .i64 0, .slice none 0 0, .bool false, .int .i64 0, .nilFunc, .bool rq, .string ⟨#[]⟩, .string ⟨#[]⟩, .int .i64 0, .int .i64 0, .string ⟨#[]⟩, .slice none 0 0, .bool false, .int .i64 0] 79))
 generalize w.alloc (.cells #[.int .i64 (most : Int), .int .i64 0, .slice none 0 0, .bool false, .int .i64 0, .nilFunc, .bool rq, .string ⟨#[]⟩, .string ⟨#[]⟩, .int .i64 0, .int .i64 0, .string ⟨#[]⟩, .slice none 0 0, .bool false, .int .i64 0] 79) = x at HB HD |-
 have d5 : x.cell? ⟨w.heap.size, 5, none⟩ = some .nilFunc := cell_at HD.out 5
 have f5 : x.frozen? ⟨w.heap.size, 5, none⟩ = false := by rw [frozen_at HD.out]; simp
 go_upto_region 5 with fail
 have HD1 := hide (hp_set HD.out 5 (stVh fnRes w.heap.size))
 have HB1 := hide (HB.out.setCell (p := ⟨w.heap.size, 5, none⟩) (Nat.le_refl _) (stVh fnRes w.heap.size))
 have e5 : x.setCell ⟨w.heap.size, 5, none⟩ (.func (.func 39) #[.pointer (some ⟨w.heap.size, 0, none⟩)] #[]) = x.setCell ⟨w.heap.size, 5, none⟩ (stVh fnRes w.heap.size) := rfl
 rw [e5]
 clear HD HB d5 f5 e5
 generalize x.setCell ⟨w.heap.size, 5, none⟩ (stVh fnRes w.heap.size) = y at HB1 HD1 |-
 cases rq with
 | false =>
  go_wp2_with fail
  go_ret2
  exact ⟨rfl, par_new (pNew false most) HD1.out (Nat.le_refl _) rfl rfl, HB1.out⟩
 | true =>
  have d5 : y.cell? ⟨w.heap.size, 5, none⟩ = some (stVh fnRes w.heap.size) := cell_at HD1.out 5
  have f5 : y.frozen? ⟨w.heap.size, 5, none⟩ = false := by rw [frozen_at HD1.out]; simp
  go_wp2_with fail
  go_ret2
  exact ⟨rfl, par_new (pNew true most) (hp_set HD1.out 5 (stVh fnReq w.heap.size)) (Nat.le_refl _) rfl rfl, HB1.out.setCell (p := ⟨w.heap.size, 5, none⟩) (Nat.le_refl _) (stVh fnReq w.heap.size)⟩
end Go.Proofs.YtecjlcjaccijpaaGreatDoor
