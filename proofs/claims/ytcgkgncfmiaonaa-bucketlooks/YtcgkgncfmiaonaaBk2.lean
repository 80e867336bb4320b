/- A bucket's calls, the program's: what each tells, and what it leaves. -/
import Derived.Test.YtcgkgncfmiaonaaBk
namespace Go.Proofs.Ytcgkgncfmiaonaa
open Go.ChangeShapes Go.WideShapes Go.ChangeAt Go.RowKit

theorem Bk.fr {T : TypeId} {w w' : World} {b : Nat} {rt pe bu lv at_ : Int} {S : Nat → Prop} (h : Bk T w b rt pe bu lv at_) (f : Fr S w w') (hs : ¬ S b) : Bk T w' b rt pe bu lv at_ := f.hd hs h
theorem Bk.lt {T : TypeId} {w : World} {b : Nat} {rt pe bu lv at_ : Int} (h : Bk T w b rt pe bu lv at_) : b < w.heap.size := hp_lt h
theorem Bk.lvl {T : TypeId} {w : World} {b : Nat} {rt pe bu lv at_ : Int} (h : Bk T w b rt pe bu lv at_) (x : Int) : Bk T (w.setCell ⟨b, 3, none⟩ (.int .i64 x)) b rt pe bu x at_ := hp_set h 3 _
theorem Bk.at {T : TypeId} {w : World} {b : Nat} {rt pe bu lv at_ : Int} (h : Bk T w b rt pe bu lv at_) (x : Int) : Bk T (w.setCell ⟨b, 4, none⟩ (.int .i64 x)) b rt pe bu lv x := hp_set h 4 _

theorem Bk.cs {T : TypeId} {w : World} {b : Nat} {rt pe bu lv at_ : Int} (h : Bk T w b rt pe bu lv at_) : w.cell? ⟨b, 0, none⟩ = some (.int .i64 rt) ∧ w.cell? ⟨b, 1, none⟩ = some (.int .i64 pe) ∧ w.cell? ⟨b, 2, none⟩ = some (.int .i64 bu) ∧ w.cell? ⟨b, 3, none⟩ = some (.int .i64 lv) ∧ w.cell? ⟨b, 4, none⟩ = some (.int .i64 at_) ∧ w.frozen? ⟨b, 3, none⟩ = false ∧ w.frozen? ⟨b, 4, none⟩ = false :=
  ⟨cell_of h 0, cell_of h 1, cell_of h 2, cell_of h 3, cell_of h 4, frozen_of h 3, frozen_of h 4⟩
theorem bring_any (w : World) (b : Nat) (rt pe bu lv at_ now : Int) (h : Bk 54 w b rt pe bu lv at_) (L : Lim rt pe bu lv at_) :
    Calls Try.prog 24 #[.pointer (some ⟨b, 0, none⟩), .int .i64 now] w fun e w' => e = .returned (.int .i64 (bE now)) ∧ Bk 54 w' b rt pe bu (bL rt (bu * pe) lv at_ now) (bA at_ now) ∧ Fr (fun k => k = b) w w' := by
  have c4 : w.cell? ⟨b, 4, none⟩ = some (.int .i64 at_) := cell_of h 4
  have HH := hide h
  have HL := hide L
  have a0 := L.a0
  have a1 := L.a1
  clear h L
  by_cases hm : mom now = true
  · have hm2 := mom_iff.1 hm
    have HE : Hid (bE now = 0) := hide (by unfold bE; rw [if_pos hm])
    have HB : Hid (bL rt (bu * pe) lv at_ now = nl rt (bu * pe) lv (untR at_ now)) := hide (by unfold bL; rw [if_pos hm])
    have HA : Hid (bA at_ now = at_ + untR at_ now) := hide (by unfold bA; rw [if_pos hm])
    have e0 : untE at_ now = 0 := by unfold untE; rw [if_pos ⟨⟨a0, a1⟩, hm2⟩]
    have g0 := unt_ge at_ now
    have g1 : at_ + untR at_ now ≤ 4611686018427387904 := by unfold untR; split <;> omega
    rw [HE.out, HB.out, HA.out]
    have HLt := hide (later_any w b rt pe bu lv at_ _ HH.out HL.out g0)
    clear hm hm2 HE HB HA
    generalize nl rt (bu * pe) lv (untR at_ now) = x at *
    go_enter Try.func24, Try.ntmps24
    go_wp2_with (go_at_call 23; refine (until_any _ _ _).mono ?_; rintro e w' ⟨rfl, rfl⟩)
    refine HLt.out.mono ?_
    rintro e w1 ⟨rfl, F1⟩
    have K1 := HH.out.fr F1 id
    obtain ⟨k0, k1, k2, k3, k4, z3, z4⟩ := K1.cs
    have K2 := hide (K1.lvl x)
    have F2 := hide ((F1.mono (T := fun k => k = b) (fun _ _ x => x.elim)).trans (Fr.set w1 b 3 (.int .i64 x)) (fun _ _ x => x))
    clear K1 F1
    go_wp2_with fail
    go_ret
    exact ⟨rfl, K2.out.at _, F2.out.trans (Fr.set _ _ _ _) (fun _ _ x => x)⟩
  · have hm2 : ¬ (0 ≤ now ∧ now ≤ 4611686018427387904) := fun x => hm (mom_iff.2 x)
    have HE : Hid (bE now = 1) := hide (by unfold bE; rw [if_neg hm])
    have HB : Hid (bL rt (bu * pe) lv at_ now = lv) := hide (by unfold bL; rw [if_neg hm])
    have HA : Hid (bA at_ now = at_) := hide (by unfold bA; rw [if_neg hm])
    have e0 : untE at_ now = 1 := by unfold untE; rw [if_neg (fun x => hm2 x.2)]
    rw [HE.out, HB.out, HA.out]
    clear hm hm2 HE HB HA
    go_enter Try.func24, Try.ntmps24
    go_wp2_with (go_at_call 23; refine (until_any _ _ _).mono ?_; rintro e w' ⟨rfl, rfl⟩)
    go_ret
    exact ⟨rfl, HH.out, Fr.refl _ _⟩

theorem whole_any (w : World) (b : Nat) (rt pe bu lv at_ : Int) (h : Bk 54 w b rt pe bu lv at_) (L : Lim rt pe bu lv at_) :
    Calls Try.prog 25 #[.pointer (some ⟨b, 0, none⟩)] w fun e w' => e = .returned (.int .i64 (lv.tdiv pe)) ∧ Fr none' w w' := by
  obtain ⟨k0, k1, k2, k3, k4, -, -⟩ := h.cs
  have l0 := L.l0
  have l1 := L.l1
  have p0 := L.p0
  have hp : 0 < pe := by omega
  obtain ⟨f0, f1⟩ := full_le L
  obtain ⟨d0, d1⟩ := div_bd l0 hp
  clear h L
  go_enter Try.func25, Try.ntmps25
  go_wp2_with fail
  go_quiet (fail)
  go_wp2_with fail
  go_ret
  refine ⟨rfl, ?_⟩
  repeat apply Fr.d
  exact Fr.refl _ _

theorem tokens_any (w : World) (b : Nat) (rt pe bu lv at_ now : Int) (h : Bk 54 w b rt pe bu lv at_) (L : Lim rt pe bu lv at_) :
    Calls Try.prog 12 #[.pointer (some ⟨b, 0, none⟩), .int .i64 now] w fun e w' => e = .returned (.tuple #[.int .i64 (tkN rt pe (bu * pe) lv at_ now), .int .i64 (bE now)]) ∧ Bk 54 w' b rt pe bu (bL rt (bu * pe) lv at_ now) (bA at_ now) ∧ Fr (fun k => k = b) w w' := by
  have HB := hide (bring_any w b rt pe bu lv at_ now h L)
  have HL := hide (L.bring now)
  clear h L
  by_cases hm : mom now = true
  · have e0 : bE now = 0 := by unfold bE; rw [if_pos hm]
    have e1 : Hid (tkN rt pe (bu * pe) lv at_ now = (bL rt (bu * pe) lv at_ now).tdiv pe) := hide (by unfold tkN; rw [if_pos hm])
    rw [e0] at HB ⊢
    rw [e1.out]
    clear e1 hm
    generalize bL rt (bu * pe) lv at_ now = x at *
    generalize bA at_ now = y at *
    go_enter Try.func12, Try.ntmps12
    go_wp2_with fail
    refine HB.out.mono ?_
    rintro e w1 ⟨rfl, K1, F1⟩
    have HK := hide K1
    have HF := hide F1
    clear K1 F1
    go_wp2_with (go_at_call 25; refine (whole_any _ b rt pe bu x y HK.out HL.out).mono ?_)
    rintro e w2 ⟨rfl, F2⟩
    go_wp2_with fail
    go_ret2
    exact ⟨rfl, HK.out.fr F2 id, HF.out.trans F2 (fun _ _ x => x.elim)⟩
  · have e0 : bE now = 1 := by unfold bE; rw [if_neg hm]
    have e1 : Hid (tkN rt pe (bu * pe) lv at_ now = 0) := hide (by unfold tkN; rw [if_neg hm])
    rw [e0] at HB ⊢
    rw [e1.out]
    clear e1 hm
    go_enter Try.func12, Try.ntmps12
    go_wp2_with fail
    refine HB.out.mono ?_
    rintro e w1 ⟨rfl, K1, F1⟩
    have HK := hide K1
    have HF := hide F1
    clear K1 F1
    go_wp2_with fail
    go_ret2
    exact ⟨rfl, HK.out, HF.out⟩

theorem take_any (w : World) (b : Nat) (rt pe bu lv at_ now : Int) (h : Bk 54 w b rt pe bu lv at_) (L : Lim rt pe bu lv at_) :
    Calls Try.prog 14 #[.pointer (some ⟨b, 0, none⟩), .int .i64 now] w fun e w' => e = .returned (.tuple #[.bool (tkB rt pe (bu * pe) lv at_ now), .int .i64 (bE now)]) ∧ Bk 54 w' b rt pe bu (tkL rt pe (bu * pe) lv at_ now) (bA at_ now) ∧ Fr (fun k => k = b) w w' := by
  have HB := hide (tokens_any w b rt pe bu lv at_ now h L)
  have L2 := L.bring now
  have l0 := L2.l0
  have l1 := L2.l1
  have p0 := L2.p0
  have p1 := L2.p1
  have hp : 0 < pe := by omega
  obtain ⟨f0, f1⟩ := full_le L
  clear h L L2
  by_cases hm : mom now = true
  · have e0 : bE now = 0 := by unfold bE; rw [if_pos hm]
    have e1 : Hid (tkN rt pe (bu * pe) lv at_ now = (bL rt (bu * pe) lv at_ now).tdiv pe) := hide (by unfold tkN; rw [if_pos hm])
    rw [e1.out, e0] at HB
    rw [e0]
    clear e1
    have d := div_lt (x := bL rt (bu * pe) lv at_ now) (rt := pe) (g := 1) l0 hp
    have d2 := div_bd (x := bL rt (bu * pe) lv at_ now) (rt := pe) l0 hp
    by_cases hq : pe ≤ bL rt (bu * pe) lv at_ now
    · have e2 : Hid (tkB rt pe (bu * pe) lv at_ now = true) := hide (by unfold tkB; simp [hm, hq])
      have e3 : Hid (tkL rt pe (bu * pe) lv at_ now = bL rt (bu * pe) lv at_ now - pe) := hide (by unfold tkL; rw [e2.out, if_pos rfl])
      rw [e2.out, e3.out]
      clear e2 e3 hm e0
      generalize bL rt (bu * pe) lv at_ now = x at *
      generalize bA at_ now = y at *
      have hn : ¬ x.tdiv pe = 0 := by omega
      generalize x.tdiv pe = n at *
      go_enter Try.func14, Try.ntmps14
      go_wp2_with fail
      refine HB.out.mono ?_
      rintro e w1 ⟨rfl, K1, F1⟩
      obtain ⟨k0, k1, k2, k3, k4, z3, z4⟩ := K1.cs
      have HK := hide K1
      have HF := hide F1
      clear K1 F1 d d2
      go_wp2_with fail
      go_region
      go_wp2_with fail
      go_ret2
      exact ⟨rfl, HK.out.lvl _, (HF.out.trans (Fr.set _ _ _ _) (fun _ _ x => x)).e⟩
    · have e2 : Hid (tkB rt pe (bu * pe) lv at_ now = false) := hide (by unfold tkB; simp [hm]; omega)
      have e3 : Hid (tkL rt pe (bu * pe) lv at_ now = bL rt (bu * pe) lv at_ now) := hide (by unfold tkL; rw [e2.out, if_neg (by simp)])
      rw [e2.out, e3.out]
      clear e2 e3 hm e0
      generalize bL rt (bu * pe) lv at_ now = x at *
      generalize bA at_ now = y at *
      have hn : x.tdiv pe = 0 := by omega
      rw [hn] at HB
      clear hn d d2
      go_enter Try.func14, Try.ntmps14
      go_wp2_with fail
      refine HB.out.mono ?_
      rintro e w1 ⟨rfl, K1, F1⟩
      have HK := hide K1
      have HF := hide F1
      clear K1 F1
      go_wp2_with fail
      go_ret2
      exact ⟨rfl, HK.out, HF.out⟩
  · have e0 : bE now = 1 := by unfold bE; rw [if_neg hm]
    have e1 : Hid (tkN rt pe (bu * pe) lv at_ now = 0) := hide (by unfold tkN; rw [if_neg hm])
    have e2 : Hid (tkB rt pe (bu * pe) lv at_ now = false) := hide (by unfold tkB; simp [hm])
    have e3 : Hid (tkL rt pe (bu * pe) lv at_ now = bL rt (bu * pe) lv at_ now) := hide (by unfold tkL; rw [e2.out, if_neg (by simp)])
    rw [e0, e1.out] at HB
    rw [e0, e2.out, e3.out]
    clear e1 hm e2 e3 e0
    go_enter Try.func14, Try.ntmps14
    go_wp2_with fail
    refine HB.out.mono ?_
    rintro e w1 ⟨rfl, K1, F1⟩
    have HK := hide K1
    have HF := hide F1
    clear K1 F1
    go_wp2_with fail
    go_ret2
    exact ⟨rfl, HK.out, HF.out⟩
end Go.Proofs.Ytcgkgncfmiaonaa
