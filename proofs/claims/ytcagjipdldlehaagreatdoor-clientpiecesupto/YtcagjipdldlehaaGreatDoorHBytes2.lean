/- The parser's bytes: one piece. -/
import Derived.Test.YtcagjipdldlehaaGreatDoorHBytes
namespace Go.Proofs.YtcagjipdldlehaaGreatDoor
open Go.ChangeShapes Go.WideShapes Go.ChangeAt Go.RowKit

def shh (R : Nat × Nat × Pz) (k : Nat) : Nat × Nat × Pz := (R.1, R.2.1 + k, R.2.2)
theorem by_end {p q : Pz} {l : List UInt8} {k : Nat} (hk : l.length ≤ k) (h : pBytes p l = shh (pBytes q (l.drop k)) k) : pBytes p l = (0, k, q) := by
  rw [h, List.drop_of_length_le hk]
  simp [shh, pBytes]
theorem by_err {p q : Pz} {l : List UInt8} {k : Nat} (hk : k < l.length) (h : pBytes p l = shh (pBytes q (l.drop k)) k) {e : Nat} {r : Pz} (hn : pNext q l[k] = (e, r)) (he : e ≠ 0) : pBytes p l = (e, k + 1, r) := by
  rw [h, List.drop_eq_getElem_cons hk, pBytes, hn]
  rw [if_pos he]
  simp [shh, Nat.add_comm]
theorem by_whole {p q : Pz} {l : List UInt8} {k : Nat} (hk : k < l.length) (h : pBytes p l = shh (pBytes q (l.drop k)) k) {r : Pz} (hn : pNext q l[k] = (0, r)) (hw : r.whole = true) : pBytes p l = (0, k + 1, r) := by
  rw [h, List.drop_eq_getElem_cons hk, pBytes, hn]
  rw [if_neg (by simp), if_pos hw]
  simp [shh, Nat.add_comm]
theorem by_on {p q : Pz} {l : List UInt8} {k : Nat} (hk : k < l.length) (h : pBytes p l = shh (pBytes q (l.drop k)) k) {r : Pz} (hn : pNext q l[k] = (0, r)) (hw : r.whole = false) : pBytes p l = shh (pBytes r (l.drop (k + 1))) (k + 1) := by
  rw [h, List.drop_eq_getElem_cons hk, pBytes, hn]
  rw [if_neg (by simp), if_neg (by simp [hw])]
  simp only [shh, Prod.mk.injEq, true_and, and_true]
  omega
set_option maxHeartbeats 4000000 in
theorem bytes_any {w : World} {base g : Nat} {lv fv : Value} {p : Pz} (h : Par w base g lv fv p) (hf : Fit p) (hm : MX w) (hb : 3 ≤ base) (v : Value) (l : List UInt8) (hv : Bf w (Ap g lv fv) v l) (hl : l.length ≤ 140737488355328) :
    Calls Tryz.prog 60 #[.pointer (some ⟨g, 0, none⟩), v] w fun e w' => e = .returned (byV (pBytes p l)) ∧ ∃ lv' fv', Par w' base g lv' fv' (pBytes p l).2.2 ∧ PKh w w' g lv fv lv' fv' := by
  obtain ⟨a, cp, rfl, _, hcells⟩ := hv
  have HC := hide hcells
  have HP := hide h
  have HM := hide hm
  have HF := hide hf
  clear hcells h hm hf
  generalize hR : pBytes p l = R
  have HR := hide hR
  clear hR
  go_enter Tryz.func60, Tryz.ntmps60
  go_wp2_with fail
  go_loopw [11] (fun i wr => ∃ (k : Nat) (q : Pz) (lv' fv' : Value), k ≤ l.length ∧ i = .int .i64 k ∧ Hid (Par wr base g lv' fv' q) ∧ Hid (Fit q) ∧ Hid (PKh w wr g lv fv lv' fv') ∧ Hid (R = shh (pBytes q (l.drop k)) k)) (fun i _ => l.length - (intOf i).toNat)
  case atStart => exact ⟨0, p, lv, fv, Nat.zero_le _, rfl, HP, HF, hide (PKh.refl _ _ _ _), hide (by rw [← HR.out]; simp [shh])⟩
  case round =>
    obtain ⟨k, q, lv', fv', hk, rfl, HPk, HFk, HKk, HRk⟩ := hrel
    have HM2 := hide (HM.out.pk HP.out hb HKk.out)
    by_cases hlt : k < l.length
    · obtain ⟨b, o, rfl, hb1, hb2, hcell⟩ := HC.out k hlt
      have r1 : wr.cell? ⟨b, o + k, none⟩ = some (.int .u8 (l[k].toNat : Int)) := (HKk.out.at hb1 hb2).trans hcell
      clear hcell
      have HNX := hide (next_anyh HPk.out HFk.out HM2.out hb l[k])
      have HFN := hide (HFk.out.next l[k])
      have HRk2 := hide (HR.out.trans HRk.out)
      obtain ⟨re, rp, hre⟩ : ∃ re rp, pNext q l[k] = (re, rp) := ⟨_, _, rfl⟩
      have HN := hide hre
      rw [hre] at HNX HFN
      clear hre
      by_cases h0 : re = 0
      · subst h0
        go_upto_region 5 with (go_at_call 86; refine HNX.out.mono ?_; rintro e w2 ⟨rfl, lv2, fv2, h2, k2⟩)
        have HP2 := hide h2
        have HK2 := hide (HKk.out.trans k2)
        clear h2 k2 r1
        have c13 := HP2.out.cell 13
        have c13' : w2.cell? ⟨g, 13, none⟩ = some (.bool rp.whole) := c13
        clear c13
        have eV : errV ((0, rp) : Nat × Pz).1 = .nilIface := rfl
        rw [eV]
        cases hw : rp.whole with
        | true =>
          rw [hw] at c13'
          have HX := hide (by_whole hlt HRk2.out HN.out hw)
          clear hw
          go_wp2_with fail
          go_ret2
          have eR := HR.out.symm.trans HX.out
          exact ⟨by rw [eR]; rfl, _, _, by rw [eR]; exact HP2.out, HK2.out⟩
        | false =>
          rw [hw] at c13'
          have HX := hide (by_on hlt HRk2.out HN.out hw)
          clear hw
          go_wp2_with fail
          exact ⟨⟨k + 1, rp, lv2, fv2, by omega, by go_num, HP2, HFN, HK2, hide (HR.out.symm.trans HX.out)⟩, by simp [intOf]; omega⟩
      · have eV : errV ((re, rp) : Nat × Pz).1 = .iface 24 (.int .i64 (re : Int)) := by unfold errV; rw [if_neg h0]
        rw [eV] at HNX
        have HX := hide (by_err hlt HRk2.out HN.out h0)
        have H0 := hide h0
        clear h0 eV
        go_upto_region 5 with (go_at_call 86; refine HNX.out.mono ?_; rintro e w2 ⟨rfl, lv2, fv2, h2, k2⟩)
        go_wp2_with fail
        go_ret2
        have eR := HR.out.symm.trans HX.out
        refine ⟨?_, _, _, by rw [eR]; exact h2, HKk.out.trans k2⟩
        rw [eR]
        unfold byV
        rw [if_neg H0.out]
        rfl
    · have HX := hide (by_end (by omega) (HR.out.trans HRk.out))
      go_wp2_with fail
      go_ret2
      have eR := HR.out.symm.trans HX.out
      have ek : k = l.length := by omega
      refine ⟨?_, _, _, by rw [eR]; exact HPk.out, HKk.out⟩
      rw [eR, ek]
      rfl
end Go.Proofs.YtcagjipdldlehaaGreatDoor
