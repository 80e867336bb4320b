/- What a call does to the timers, and the same call to the document's timers. -/
import Derived.Test.YtbmhhkpehilioaaDuo
namespace Go.Proofs.Ytbmhhkpehilioaa
open Go.ChangeShapes Go.WideShapes Go.ChangeAt Go.RowKit

section
variable {W0 wr : World} {b c most : Nat} {turns : Int} {S : List Slot} {D F P : List Nat} {L : List Tmr} {G : List Int} {M R : Nat → Prop} {hv : Value} {hs : List Int} {ko : Option (Nat × Go.Obj)}
theorem Duo.sizes (h : Duo W0 wr b c most turns S D F L G M R hv hs ko) (hr : Rel S D L G P) : D.length ≤ 4096 ∧ L.length ≤ 8192 ∧ G.length ≤ 8192 ∧ L.length = D.length := by
  have h1 := h.tm.inv.lens
  have h2 := h.tm.inv.len
  have h3 := h.tm.inv.m2
  have h4 := hr.len
  have h5 := hr.lenG
  omega
theorem d_set (h : Duo W0 wr b c most turns S D F L G M R hv hs ko) (hr : Rel S D L G P) (ht : turns < 1125899906842623) (time key : Int) :
    Calls Try.prog 12 #[.pointer (some ⟨b, 0, none⟩), .int .i64 time, .int .i64 key] wr fun e w' => ∃ (hh er turns' : Int) (S' : List Slot) (D' F' : List Nat) (M' : Nat → Prop), e = .returned (.tuple #[.int .i64 hh, .int .i64 er]) ∧ Duo W0 w' b c most turns' S' D' F' L G M' R hv hs ko ∧ turns' ≤ turns + 1 ∧ hh < 9223372036854775808 ∧
      ∀ V R2, Rm V W0.heap.size c most L G R2 → Calls Try.prog 13 #[.pointer (some ⟨c, 0, none⟩), .int .i64 time, .int .i64 key] V fun e V' => e = .returned (.tuple #[.int .i64 hh, .int .i64 er]) ∧ ∃ L' G' R' P', Rm V' W0.heap.size c most L' G' R' ∧ Kept V V' R2 R' ∧ Rel S' D' L' G' P' := by
  have hI := h.tm.inv
  obtain ⟨z1, z2, z3, z4⟩ := h.sizes hr
  by_cases hm : 0 ≤ time ∧ time ≤ 4611686018427387904
  · by_cases hroom : D.length < most
    · refine (set_any h.tm (by omega) time key hm hroom).mono ?_
      rintro e w' ⟨i, S1, D', F', M', rfl, pl, T, p, K⟩
      have hi := (pl.lt hI).1
      have hg : (sg S1 i).gen ≤ turns ∧ i < 4097 := by
        have h2 := hI.len
        have h3 := hI.m2
        cases pl with
        | fresh _ => rw [sg_last]; exact ⟨hI.t0, by omega⟩
        | old h0 hp => have := hI.sl _ hi; omega
      refine ⟨_, _, _, _, _, _, _, rfl, h.t T K, Int.le_refl _, by omega, fun V R2 hV => ?_⟩
      refine (rset2 hV time key hm (by omega) z2 z3 (hr.gen_lt hI (by omega))).mono ?_
      rintro e V' ⟨i', G1, R', rfl, q1, q2, T2, K2⟩
      obtain ⟨rfl, eG, eg⟩ := hr.set hI pl q1 q2
      rw [eg] at T2 ⊢
      exact ⟨rfl, _, _, R', _, T2, K2, hr.put hI pl time key p G1 eG⟩
    · refine (set_full h.tm time key hm (by omega)).mono ?_
      rintro e w' ⟨rfl, C⟩
      refine ⟨_, _, _, _, _, _, _, rfl, h.cl C, by omega, by omega, fun V R2 hV => ?_⟩
      refine (rset_full2 hV time key hm (by omega)).mono ?_
      rintro e V' ⟨rfl, C2⟩
      exact ⟨rfl, _, _, R2, _, hV.cl C2, Kept.cl C2, hr⟩
  · refine (set_bad wr _ (.inr ⟨b, rfl⟩) time key hm).mono ?_
    rintro e w' ⟨rfl, rfl⟩
    refine ⟨_, _, _, _, _, _, _, rfl, h, by omega, by omega, fun V R2 hV => ?_⟩
    refine (rset_bad V c time key hm).mono ?_
    rintro e V' ⟨rfl, rfl⟩
    exact ⟨rfl, _, _, R2, _, hV, Kept.cl (Cl.refl _), hr⟩
theorem d_has (h : Duo W0 wr b c most turns S D F L G M R hv hs ko) (hr : Rel S D L G P) (n : Int) (hn : n < 9223372036854775808) :
    Calls Try.prog 14 #[.pointer (some ⟨b, 0, none⟩), .int .i64 n] wr fun e w' => ∃ r : Bool, e = .returned (.bool r) ∧ wr = w' ∧
      ∀ V R2, Rm V W0.heap.size c most L G R2 → Calls Try.prog 15 #[.pointer (some ⟨c, 0, none⟩), .int .i64 n] V fun e V' => e = .returned (.bool r) ∧ Cl V V' := by
  obtain ⟨z1, z2, z3, z4⟩ := h.sizes hr
  refine (has_any h.tm n hn).mono ?_
  rintro e w' ⟨r, rfl, rfl, h1⟩
  refine ⟨r, rfl, rfl, fun V R2 hV => ?_⟩
  refine (rhas2 hV z2 n).mono ?_
  rintro e V' ⟨r2, rfl, C2, h2⟩
  have e : r2 = r := by
    have := hr.has n
    cases r <;> cases r2 <;> simp_all
  subst e
  exact ⟨rfl, C2⟩
theorem d_cancel (h : Duo W0 wr b c most turns S D F L G M R hv hs ko) (hr : Rel S D L G P) (ht : turns ≤ 1125899906842624) (n : Int) (hn : n < 9223372036854775808) :
    Calls Try.prog 16 #[.pointer (some ⟨b, 0, none⟩), .int .i64 n] wr fun e w' => ∃ (r : Bool) (D' F' : List Nat) (M' : Nat → Prop), e = .returned (.bool r) ∧ Duo W0 w' b c most turns S D' F' L G M' R hv hs ko ∧
      ∀ V R2, Rm V W0.heap.size c most L G R2 → Calls Try.prog 17 #[.pointer (some ⟨c, 0, none⟩), .int .i64 n] V fun e V' => e = .returned (.bool r) ∧ ∃ L' R' P', Rm V' W0.heap.size c most L' G R' ∧ Kept V V' R2 R' ∧ Rel S D' L' G P' := by
  have hI := h.tm.inv
  obtain ⟨z1, z2, z3, z4⟩ := h.sizes hr
  refine (cancel_any h.tm ht n hn).mono ?_
  rintro e w' (⟨rfl, rfl, hno⟩ | ⟨rfl, i, D', F', M', hi, T, p, K⟩)
  · refine ⟨false, _, _, _, rfl, h, fun V R2 hV => ?_⟩
    refine (rcancel2 hV z2 n).mono ?_
    rintro e V' ⟨rfl, R', T2, K2⟩
    rw [hr.keep_no hno] at T2 ⊢
    exact ⟨by simp, _, R', _, T2, K2, hr⟩
  · obtain ⟨hr2, hlt⟩ := hr.keep_yes hI hi p
    refine ⟨true, _, _, _, rfl, h.t T K, fun V R2 hV => ?_⟩
    refine (rcancel2 hV z2 n).mono ?_
    rintro e V' ⟨rfl, R', T2, K2⟩
    rw [decide_eq_true hlt]
    exact ⟨rfl, _, R', _, T2, K2, hr2⟩
theorem d_fire (h : Duo W0 wr b c most turns S D F L G M R hv hs ko) (hr : Rel S D L G P) (ht : turns ≤ 1125899906842624) (now : Int) :
    Calls Try.prog 19 #[.pointer (some ⟨b, 0, none⟩), .int .i64 now] wr fun e w' => ∃ (u : Value) (ks : List Int) (D' F' : List Nat) (M' : Nat → Prop), e = .returned u ∧ Duo W0 w' b c most turns S D' F' L G M' R hv hs ko ∧ w'.ownsRow wr.heap.size 3 1 u ks.length (ks.map fun x => Value.int .i64 x) ∧ ks.length ≤ 4096 ∧
      ∀ V R2, Rm V W0.heap.size c most L G R2 → Calls Try.prog 20 #[.pointer (some ⟨c, 0, none⟩), .int .i64 now] V fun e V' => ∃ u2 L' R' P', e = .returned u2 ∧ Rm V' W0.heap.size c most L' G R' ∧ Kept V V' R2 R' ∧ V'.ownsRow V.heap.size 3 1 u2 ks.length (ks.map fun x => Value.int .i64 x) ∧ Rel S D' L' G P' := by
  have hI := h.tm.inv
  obtain ⟨z1, z2, z3, z4⟩ := h.sizes hr
  refine (fire_any h.tm ht now).mono ?_
  rintro e w' ⟨u, D', F', M', fired, rfl, fd, hlate⟩
  have hrow := fd.row
  rw [keys_map] at hrow
  have hlen : fired.length ≤ 4096 := by have := fd.perm.length_eq; rw [List.length_append] at this; omega
  refine ⟨u, fired.map fun i => (sg S i).key, D', F', _, rfl, h.t fd.tm fd.kept, by rw [List.length_map]; exact hrow, by rw [List.length_map]; exact hlen, fun V R2 hV => ?_⟩
  refine (rfire2 hV z2 now).mono ?_
  rintro e V' ⟨u2, ks, X, R', rfl, hs, hend, T2, K2, row2⟩
  obtain ⟨e1, P', hr2⟩ := hr.fire hI ht hs hend fd.perm fd.sorted fd.due hlate
  subst e1
  exact ⟨u2, X, R', P', rfl, T2, K2, row2, hr2⟩
end
end Go.Proofs.Ytbmhhkpehilioaa
