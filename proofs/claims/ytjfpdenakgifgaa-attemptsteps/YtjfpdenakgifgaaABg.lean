/- A request begins. -/
import Derived.Test.YtjfpdenakgifgaaAFa
namespace Go.Proofs.Ytjfpdenakgifgaa
open Go.ChangeShapes Go.WideShapes Go.ChangeAt Go.RowKit
set_option linter.unusedVariables false

def plV (re hg ha pt tt : Int) (sf : Bool) : Value := .agg #[.int .i64 re, .int .i64 hg, .int .i64 ha, .int .i64 pt, .int .i64 tt, .bool sf]
def plO (re hg ha pt tt : Int) (sf : Bool) : Obj := .cells #[.int .i64 re, .int .i64 hg, .int .i64 ha, .int .i64 pt, .int .i64 tt, .bool sf] 23
theorem pl_cells {w : World} {b : Nat} {re hg ha pt tt : Int} {sf : Bool} (h : w.heap[b]? = some (plO re hg ha pt tt sf)) : w.cell? ⟨b, 0, none⟩ = some (.int .i64 re) ∧ w.cell? ⟨b, 1, none⟩ = some (.int .i64 hg) ∧ w.cell? ⟨b, 2, none⟩ = some (.int .i64 ha) ∧ w.cell? ⟨b, 3, none⟩ = some (.int .i64 pt) ∧ w.cell? ⟨b, 4, none⟩ = some (.int .i64 tt) ∧ w.cell? ⟨b, 5, none⟩ = some (.bool sf) :=
  ⟨cell_of h 0, cell_of h 1, cell_of h 2, cell_of h 3, cell_of h 4, cell_of h 5⟩
instance (re hg ha pt tt : Int) : Decidable (okPl re hg ha pt tt) := by unfold okPl; infer_instance
set_option maxHeartbeats 2000000 in
theorem isRight_any (w : World) (re hg ha pt tt : Int) (sf : Bool) : Calls Try.prog 26 #[plV re hg ha pt tt sf] w fun e w' => e = .returned (.bool (decide (okPl re hg ha pt tt))) ∧ Fr none' w w' := by
  have HF := hide (Fr.alloc none' w (plO re hg ha pt tt sf))
  have HB : Hid ((w.alloc (plO re hg ha pt tt sf)).heap[w.heap.size]? = some (plO re hg ha pt tt sf)) := hide (hp_new _ _)
  obtain ⟨R, HR⟩ : ∃ R, Hid (decide (okPl re hg ha pt tt) = R) := ⟨_, hide rfl⟩
  rw [HR.out]
  unfold plV
  unfold plO at HF HB
  have no : ¬ okPl re hg ha pt tt → R = false := fun h => by rw [← HR.out]; exact decide_eq_false h
  have NO := hide no
  have HS := hide (fun t V => isSpan_any t V)
  clear no
  by_cases q0 : re < 0
  · have hR := NO.out (fun h => by unfold okPl at h; omega)
    subst hR
    have d0 : decide (re < 0) = true := decide_eq_true q0
    go_enter Try.func26, Try.ntmps26
    go_upto_region 1 with fail
    obtain ⟨r0, r1, r2, r3, r4, r5⟩ := pl_cells HB.out
    clear HB
    generalize w.alloc _ = w1 at *
    generalize w.heap.size = gg at *
    go_wp2_with fail
    go_ret
    exact ⟨rfl, HF.out⟩
  have d0 : decide (re < 0) = false := decide_eq_false q0
  by_cases q1 : 5 < re
  · have hR := NO.out (fun h => by unfold okPl at h; omega)
    subst hR
    have d1 : decide (5 < re) = true := decide_eq_true q1
    go_enter Try.func26, Try.ntmps26
    go_upto_region 1 with fail
    obtain ⟨r0, r1, r2, r3, r4, r5⟩ := pl_cells HB.out
    clear HB
    generalize w.alloc _ = w1 at *
    generalize w.heap.size = gg at *
    go_wp2_with fail
    go_ret
    exact ⟨rfl, HF.out⟩
  have d1 : decide (5 < re) = false := decide_eq_false q1
  by_cases q2 : hg < 0
  · have hR := NO.out (fun h => by unfold okPl at h; omega)
    subst hR
    have d2 : decide (hg < 0) = true := decide_eq_true q2
    go_enter Try.func26, Try.ntmps26
    go_upto_region 1 with fail
    obtain ⟨r0, r1, r2, r3, r4, r5⟩ := pl_cells HB.out
    clear HB
    generalize w.alloc _ = w1 at *
    generalize w.heap.size = gg at *
    go_wp2_with fail
    go_ret
    exact ⟨rfl, HF.out⟩
  have d2 : decide (hg < 0) = false := decide_eq_false q2
  by_cases q3 : 3 < hg
  · have hR := NO.out (fun h => by unfold okPl at h; omega)
    subst hR
    have d3 : decide (3 < hg) = true := decide_eq_true q3
    go_enter Try.func26, Try.ntmps26
    go_upto_region 1 with fail
    obtain ⟨r0, r1, r2, r3, r4, r5⟩ := pl_cells HB.out
    clear HB
    generalize w.alloc _ = w1 at *
    generalize w.heap.size = gg at *
    go_wp2_with fail
    go_ret
    exact ⟨rfl, HF.out⟩
  have d3 : decide (3 < hg) = false := decide_eq_false q3
  have HE : Hid ((decide (1 ≤ ha ∧ ha ≤ 1000000) && (decide (1 ≤ pt ∧ pt ≤ 1000000) && decide (1 ≤ tt ∧ tt ≤ 1000000))) = R) := hide (by
    rw [← HR.out]
    unfold okPl
    rw [← Bool.decide_and, ← Bool.decide_and]
    exact decide_eq_decide.2 ⟨fun h => ⟨⟨by omega, by omega⟩, ⟨by omega, by omega⟩, h⟩, fun h => h.2.2⟩)
  have S1 := hide (fun V => (HS.out ha V))
  have S2 := hide (fun V => (HS.out pt V))
  have S3 := hide (fun V => (HS.out tt V))
  clear HS NO HR q0 q1 q2 q3
  generalize decide (1 ≤ ha ∧ ha ≤ 1000000) = b1 at *
  generalize decide (1 ≤ pt ∧ pt ≤ 1000000) = b2 at *
  generalize decide (1 ≤ tt ∧ tt ≤ 1000000) = b3 at *
  cases b1 with
  | false =>
    go_enter Try.func26, Try.ntmps26
    go_upto_region 1 with fail
    obtain ⟨r0, r1, r2, r3, r4, r5⟩ := pl_cells HB.out
    clear HB
    generalize w.alloc _ = w1 at *
    generalize w.heap.size = gg at *
    go_wp2_with fail
    refine (S1.out _).mono ?_
    rintro e w' ⟨rfl, rfl⟩
    go_wp2_with fail
    go_ret
    exact ⟨ret_bool (by rw [← HE.out]; rfl), HF.out⟩
  | true =>
    cases b2 with
    | false =>
      go_enter Try.func26, Try.ntmps26
      go_upto_region 1 with fail
      obtain ⟨r0, r1, r2, r3, r4, r5⟩ := pl_cells HB.out
      clear HB
      generalize w.alloc _ = w1 at *
      generalize w.heap.size = gg at *
      go_wp2_with fail
      refine (S1.out _).mono ?_
      rintro e w' ⟨rfl, rfl⟩
      go_wp2_with fail
      refine (S2.out _).mono ?_
      rintro e w' ⟨rfl, rfl⟩
      go_wp2_with fail
      go_ret
      exact ⟨ret_bool (by rw [← HE.out]; rfl), HF.out⟩
    | true =>
      go_enter Try.func26, Try.ntmps26
      go_upto_region 1 with fail
      obtain ⟨r0, r1, r2, r3, r4, r5⟩ := pl_cells HB.out
      clear HB
      generalize w.alloc _ = w1 at *
      generalize w.heap.size = gg at *
      go_wp2_with fail
      refine (S1.out _).mono ?_
      rintro e w' ⟨rfl, rfl⟩
      go_wp2_with fail
      refine (S2.out _).mono ?_
      rintro e w' ⟨rfl, rfl⟩
      go_wp2_with fail
      refine (S3.out _).mono ?_
      rintro e w' ⟨rfl, rfl⟩
      go_wp2_with fail
      go_ret
      exact ⟨ret_bool (by rw [← HE.out]; rfl), HF.out⟩
theorem QX.new (w : World) (re hg ha pt tt : Int) (sf : Bool) (now : Int) : Does (QX (pz re hg ha pt tt sf now) w.heap.size) none' w (w.alloc (.cells #[.int .i64 re, .int .i64 hg, .int .i64 ha, .int .i64 pt, .int .i64 tt, .bool sf, .int .i64 (latI now tt), .int .i64 0, .int .i64 0, .int .i64 0, .int .i64 0, .slice none 0 0] 62 (0, 0))) :=
  ⟨_, ⟨_, QT.mk (p := pz re hg ha pt tt sf now) (hp_new _ _) (Rw.nil _ _ _) (by simp [Value.ownBlock])⟩, Fr.alloc _ _ _, fun k hk => .inr (by rcases hk with x | x; omega; simp [Value.ownBlock] at x)⟩
theorem pz_ok {re hg ha pt tt now : Int} {sf : Bool} (h : okPl re hg ha pt tt) (hm : mom now = true) : QOk (pz re hg ha pt tt sf now) := by
  obtain ⟨⟨a, b⟩, ⟨c, d⟩, ⟨e, f⟩, ⟨g, i⟩, j, k⟩ := h
  obtain ⟨n0, n1⟩ := mom_iff.1 hm
  have := lat_bd n0 n1 (d := tt) (by omega)
  exact ⟨a, b, c, d, e, f, g, i, this.1, this.2, by simp [pz], by simp [pz], by simp [pz], by simp [pz], by simp [pz], by simp [pz], by simp [pz], by simp [pz], by simp [pz, numP], fun r hr => by simp [pz] at hr, fun r hr => by simp [pz] at hr⟩
set_option maxHeartbeats 4000000 in
set_option maxRecDepth 100000 in
theorem new_any (w : World) (re hg ha pt tt : Int) (sf : Bool) (now : Int) (h : okPl re hg ha pt tt) (hm : mom now = true) :
    Calls Try.prog 9 #[plV re hg ha pt tt sf, .int .i64 now] w fun e w' => ∃ b v, e = .returned (.tuple #[.pointer (some ⟨b, 0, none⟩), v, .int .i64 0]) ∧ Does (Two (RA v [⟨1, 0, 0⟩]) (QX (p1 re hg ha pt tt sf now) b)) none' w w' := by
  have HM := hide (fun V => isMom_any now V)
  rw [hm] at HM
  have HR := hide (fun V => isRight_any V re hg ha pt tt sf)
  rw [decide_eq_true h] at HR
  have HK := hide (pz_ok (sf := sf) h hm)
  obtain ⟨n0, n1⟩ := mom_iff.1 hm
  have HA := hide (fun V => lat_any now tt V n0 n1 (by unfold okPl at h; omega) (by unfold okPl at h; omega))
  have HF := hide (Fr.alloc none' w (plO re hg ha pt tt sf))
  have HB : Hid ((w.alloc (plO re hg ha pt tt sf)).heap[w.heap.size]? = some (plO re hg ha pt tt sf)) := hide (hp_new _ _)
  have HQ := hide (fun V => QX.new V re hg ha pt tt sf now)
  clear h hm n0 n1
  unfold plV at HR ⊢
  unfold plO at HF HB
  generalize latI now tt = en at *
  go_enter Try.func9, Try.ntmps9
  go_upto_region 1 with fail
  obtain ⟨r0, r1, r2, r3, r4, r5⟩ := pl_cells HB.out
  generalize w.alloc _ = w1 at *
  generalize w.heap.size = gg at *
  go_wp2_with fail
  refine (HR.out _).mono ?_
  rintro e w2 ⟨rfl, F⟩
  have HF2 := hide (HF.out.trans F (fun _ _ x => x))
  have HB2 := hide (F.hd id HB.out)
  clear F HR HF HB r0 r1 r2 r3 r4 r5
  obtain ⟨r0, r1, r2, r3, r4, r5⟩ := pl_cells HB2.out
  go_wp2_with (go_at_call 27; refine (HM.out _).mono ?_; rintro e w' ⟨rfl, rfl⟩)
  go_region_with (go_at_call 28; refine (HA.out _).mono ?_; rintro e w' ⟨rfl, rfl⟩)
  all_goals
    have T2 : Hid (Does (QX (pz re hg ha pt tt sf now) w2.heap.size) none' w (w2.alloc (.cells #[.int .i64 re, .int .i64 hg, .int .i64 ha, .int .i64 pt, .int .i64 tt, .bool sf, .int .i64 en, .int .i64 0, .int .i64 0, .int .i64 0, .int .i64 0, .slice none 0 0] 62)).drew) := hide ((Does.more HF2.out (fun _ x => x.elim) (HQ.out w2)).e (Fr.drew none' _))
    clear HQ r0 r1 r2 r3 r4 r5
    generalize (w2.alloc _).drew = w3 at *
    generalize w2.heap.size = b at *
    obtain ⟨P3, x, hx⟩ := T2.out.foc
    have HX := hide hx
    have HBG := hide (begin_any _ b w3 P3 now 0 x HK.out (.inl rfl))
    clear x hx T2
    go_wp2_with fail
    refine HBG.out.mono ?_
    rintro e w4 ⟨v, rfl, d⟩
    have T4 := hide (HX.out _ _ d)
    clear d HX HBG
    go_wp2_with fail
    go_ret3
    exact ⟨_, _, rfl, T4.out⟩
set_option maxHeartbeats 4000000 in
set_option maxRecDepth 100000 in
theorem new_bad (w : World) (re hg ha pt tt : Int) (sf : Bool) (now : Int) (h : ¬ (okPl re hg ha pt tt ∧ mom now = true)) :
    Calls Try.prog 9 #[plV re hg ha pt tt sf, .int .i64 now] w fun e w' => e = .returned (.tuple #[.pointer none, .slice none 0 0, .int .i64 1]) ∧ Fr none' w w' := by
  have HM := hide (fun V => isMom_any now V)
  have HR := hide (fun V => isRight_any V re hg ha pt tt sf)
  have HF := hide (Fr.alloc none' w (plO re hg ha pt tt sf))
  have HB : Hid ((w.alloc (plO re hg ha pt tt sf)).heap[w.heap.size]? = some (plO re hg ha pt tt sf)) := hide (hp_new _ _)
  unfold plV at HR ⊢
  unfold plO at HF HB
  cases hr : decide (okPl re hg ha pt tt) with
  | false =>
    rw [hr] at HR
    clear h hr
    go_enter Try.func9, Try.ntmps9
    go_upto_region 1 with fail
    obtain ⟨r0, r1, r2, r3, r4, r5⟩ := pl_cells HB.out
    generalize w.alloc _ = w1 at *
    generalize w.heap.size = gg at *
    go_wp2_with fail
    refine (HR.out _).mono ?_
    rintro e w2 ⟨rfl, F⟩
    have HF2 := hide (HF.out.trans F (fun _ _ x => x))
    clear F HR HF HB r0 r1 r2 r3 r4 r5
    go_wp2_with fail
    go_ret3
    exact ⟨rfl, HF2.out⟩
  | true =>
    have hm : mom now = false := Bool.eq_false_iff.2 (fun x => h ⟨of_decide_eq_true hr, x⟩)
    rw [hr] at HR
    rw [hm] at HM
    clear h hr hm
    go_enter Try.func9, Try.ntmps9
    go_upto_region 1 with fail
    obtain ⟨r0, r1, r2, r3, r4, r5⟩ := pl_cells HB.out
    generalize w.alloc _ = w1 at *
    generalize w.heap.size = gg at *
    go_wp2_with fail
    refine (HR.out _).mono ?_
    rintro e w2 ⟨rfl, F⟩
    have HF2 := hide (HF.out.trans F (fun _ _ x => x))
    clear F HR HF HB r0 r1 r2 r3 r4 r5
    go_wp2_with (go_at_call 27; refine (HM.out _).mono ?_; rintro e w' ⟨rfl, rfl⟩)
    go_ret3
    exact ⟨rfl, HF2.out⟩
end Go.Proofs.Ytjfpdenakgifgaa
