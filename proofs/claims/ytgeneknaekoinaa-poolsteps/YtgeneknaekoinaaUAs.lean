/- A step done with a pool and with the document's pool: both do the same. -/
import Derived.Test.YtgeneknaekoinaaURl10
import Derived.Test.YtgeneknaekoinaaUDo
namespace Go.Proofs.Ytgeneknaekoinaa
open Go.ChangeShapes Go.WideShapes Go.ChangeAt Go.RowKit
set_option linter.unusedVariables false

theorem RA.len {v : Value} {A : List Ac} {w : World} {P : Nat → Prop} (h : RA v A w P) : ∃ a cap, v = .slice a A.length cap := by obtain ⟨a, c, e, _⟩ := h.1.shape; exact ⟨a, c, e⟩
theorem RB.len {v : Value} {A : List Ac} {w : World} {P : Nat → Prop} (h : RB v A w P) : ∃ a cap, v = .slice a A.length cap := by obtain ⟨a, c, e, _⟩ := h.1.shape; exact ⟨a, c, e⟩
/-- Both rows of acts are let go. -/
theorem Does.bare {v u : Value} {A B : List Ac} {X Y : Thing} [Ob X] [Ob Y] {P : Nat → Prop} {w w' : World} (h : Does (Two (Two (RA v A) X) (Two (RB u B) Y)) P w w') : Does (Two X Y) P w w' :=
  Does.right (Does.left h (fun _ x => (Does.refl x).snd)) (fun _ x => (Does.refl x).snd)
theorem svA_len : ∀ (n : Nat) {p : Pm} {now : Int}, p.Q.length = n → (svA p now).length ≤ n
  | 0, p, now, hn => by rw [(sv_nil (List.eq_nil_of_length_eq_zero hn)).1]; exact Nat.le_refl _
  | n + 1, p, now, hn => by
    obtain ⟨x, Q, hp⟩ := List.exists_cons_of_length_eq_add_one hn
    cases hg : gvB p now with
    | false => rw [(sv_stop hg).1]; exact Nat.zero_le _
    | true =>
      rw [(sv_go hg hp).1, List.length_cons]
      have := svA_len n (p := { gvP p now x with Q := Q }) (now := now) (by rw [hp] at hn; simpa using hn)
      omega
theorem gnA_len {p : Pm} {K : Int} (k : POk p K) (now c : Int) : (gnA p now c).length ≤ 1000 := by
  unfold gnA
  have := k.q64
  split
  · have := svA_len _ (p := rmP p (idx (isC c) p.R).toNat) (now := now) rfl
    rw [show (rmP p (idx (isC c) p.R).toNat).Q = p.Q from rfl] at this
    omega
  · simp
theorem dnA_len {p : Pm} {K : Int} (k : POk p K) (now c : Int) (keep : Bool) : (dnA p now c keep).length ≤ 1000 := by
  unfold dnA
  have := k.q64
  split
  · rw [List.length_append]
    have h1 : (dn0 p now c keep).length ≤ 1 := by unfold dn0; split <;> simp
    have := svA_len _ (p := dn1 p now c keep) (now := now) rfl
    rw [show (dn1 p now c keep).Q = p.Q by unfold dn1; split <;> rfl] at this
    omega
  · simp
theorem drA_len {p : Pm} {K : Int} (k : POk p K) (now who : Int) : (drA p now who).length ≤ 1000 := by
  unfold drA
  have := k.q64
  split
  · rw [List.length_append]
    have h1 : (dr0 p who).length ≤ 1 := by unfold dr0; split <;> simp
    have h2 := svA_len _ (p := dr1 p who) (now := now) rfl
    have h3 : (dr1 p who).Q.length ≤ p.Q.length := by
      unfold dr1
      split
      · exact List.length_eraseIdx_le _ _
      · exact Nat.le_refl _
    omega
  · simp
theorem exA_len {p : Pm} {K : Int} (k : POk p K) (now : Int) : (exA p now).length ≤ 1000 := by
  unfold exA
  have := k.q64
  have := k.r64
  split
  · rw [List.length_append]
    have h1 := exC_len p now p.R
    have h2 := svA_len _ (p := ex1 p now) (now := now) rfl
    rw [show (ex1 p now).Q = p.Q from rfl] at h2
    omega
  · simp
section
variable {p : Pm} {q : Rm} {b c : Nat} {w : World} {P : Nat → Prop} {K : Int}
set_option maxHeartbeats 4000000 in
set_option maxRecDepth 100000 in
theorem asks1 (now who : Int) (h : Two (PX p b) (QX q c) w P) (k0 : POk p K) (hR : Rel p q) (hq : QOk q (K - q.Q.length)) (hK : K < 9223372036854775805) :
    Calls Try.prog 11 #[.pointer (some ⟨b, 0, none⟩), .pointer (some ⟨c, 0, none⟩), stV 1 now who] w fun e w' => e = .returned (.bool true) ∧ Does (Two (PX (upP p who) b) (QX (ruP q who) c)) P w w' := by
  have T0 : Hid (Does (Two (Blk w.heap.size (stO 1 now who)) (Two (PX p b) (QX q c))) P w (w.alloc (stO 1 now who))) := hide ((Does.refl h).new _)
  have HK := hide k0
  have HQ := hide hq
  have HR := hide hR
  have hcap : q.cap ≤ 64 := by rw [hR.cap]; exact k0.cap1
  skip
  clear h k0 hq hR
  rw [show stO 1 now who = .cells #[.int .i64 1, .int .i64 now, .int .i64 who] 34 (0, 0) from rfl] at T0
  unfold stV
  go_enter Try.func11, Try.ntmps11
  go_upto_region 1 with fail
  generalize w.alloc _ = w1 at *
  generalize w.heap.size = sb at *
  obtain ⟨_, x⟩ := T0.out.fst_of
  obtain ⟨e0, e1, e2⟩ := st_cells (kd := 1) (nw := now) (who := who) x.1
  clear x
  obtain ⟨P2, x, hx⟩ := T0.out.focR
  obtain ⟨P3, y, hy⟩ := (Does.refl x).focL
  have HX := hide (fun A' w2 d => hx _ w2 (hy A' w2 d))
  have HC := hide (up_any p b w1 P3 who K y HK.out)
  clear x hx y hy T0
  go_wp2_with fail
  refine HC.out.mono ?_
  rintro e w2 ⟨rfl, d⟩
  have T2 := hide (HX.out _ _ d)
  clear d HX HC e0 e1 e2
  obtain ⟨_, x⟩ := T2.out.fst_of
  obtain ⟨e0, e1, e2⟩ := st_cells (kd := 1) (nw := now) (who := who) x.1
  clear x
  have T3 := hide T2.out.snd
  clear T2
  obtain ⟨P4, y, hy⟩ := T3.out.focR
  have HX := hide hy
  have HC := hide (rup_any q c w2 P4 who _ y HQ.out)
  clear y hy T3
  rw [← (HR.out.up who).1, ← (HR.out.up who).2.1] at HC
  generalize upW p who = uw at *
  generalize upE p who = ue at *
  go_wp2_with fail
  refine HC.out.mono ?_
  rintro e w3 ⟨rfl, d⟩
  have T4 := hide (HX.out _ _ d)
  clear d HX HC e0 e1 e2
  go_wp2_with fail
  go_ret
  exact ⟨rfl, T4.out⟩
set_option maxHeartbeats 4000000 in
set_option maxRecDepth 100000 in
theorem asks2 (now who : Int) (h : Two (PX p b) (QX q c) w P) (k0 : POk p K) (hR : Rel p q) (hq : QOk q (K - q.Q.length)) (hK : K < 9223372036854775805) :
    Calls Try.prog 11 #[.pointer (some ⟨b, 0, none⟩), .pointer (some ⟨c, 0, none⟩), stV 2 now who] w fun e w' => e = .returned (.bool true) ∧ Does (Two (PX (gnP p now who) b) (QX (rnP q now who) c)) P w w' := by
  have T0 : Hid (Does (Two (Blk w.heap.size (stO 2 now who)) (Two (PX p b) (QX q c))) P w (w.alloc (stO 2 now who))) := hide ((Does.refl h).new _)
  have HK := hide k0
  have HQ := hide hq
  have HR := hide hR
  have hcap : q.cap ≤ 64 := by rw [hR.cap]; exact k0.cap1
  have hlenA : Hid ((gnA p now who).length ≤ 1000) := hide (gnA_len k0 now who)
  clear h k0 hq hR
  rw [show stO 2 now who = .cells #[.int .i64 2, .int .i64 now, .int .i64 who] 34 (0, 0) from rfl] at T0
  unfold stV
  go_enter Try.func11, Try.ntmps11
  go_upto_region 1 with fail
  generalize w.alloc _ = w1 at *
  generalize w.heap.size = sb at *
  obtain ⟨_, x⟩ := T0.out.fst_of
  obtain ⟨e0, e1, e2⟩ := st_cells (kd := 2) (nw := now) (who := who) x.1
  clear x
  obtain ⟨P2, x, hx⟩ := T0.out.focR
  obtain ⟨P3, y, hy⟩ := (Does.refl x).focL
  have HX := hide (fun A' w2 d => hx _ w2 (hy A' w2 d))
  have HC := hide (gone_any p b w1 P3 now who K y HK.out (by omega))
  clear x hx y hy T0
  go_wp2_with fail
  refine HC.out.mono ?_
  rintro e w2 ⟨v, rfl, d⟩
  have T2 := hide (HX.out _ _ d)
  clear d HX HC e0 e1 e2
  obtain ⟨_, x⟩ := T2.out.fst_of
  obtain ⟨e0, e1, e2⟩ := st_cells (kd := 2) (nw := now) (who := who) x.1
  clear x
  obtain ⟨sa, sc, rfl⟩ : ∃ a cap, v = .slice a (gnA p now who).length cap := by obtain ⟨_, y⟩ := T2.out.snd.fst_of; obtain ⟨_, _, z, -⟩ := y; exact RA.len z
  have T3 := hide T2.out.snd
  clear T2
  obtain ⟨P4, y, hy⟩ := T3.out.focR
  have HX := hide hy
  have HC := hide (rgone_any q c w2 P4 now who K y HQ.out HR.out.nodS (by omega) hcap)
  clear y hy T3
  rw [← (HR.out.gone now who).1, ← (HR.out.gone now who).2.1, ← (HR.out.gone now who).2.2.1] at HC
  generalize gnW p now who = uw at *
  generalize gnE p now who = ue at *
  go_wp2_with fail
  refine HC.out.mono ?_
  rintro e w3 ⟨u, rfl, d⟩
  have T4 := hide (HX.out _ _ d)
  clear d HX HC e0 e1 e2
  obtain ⟨ta, tc, rfl⟩ : ∃ a cap, u = .slice a (gnA p now who).length cap := by obtain ⟨_, y⟩ := T4.out.snd_of; obtain ⟨_, _, z, -⟩ := y; exact RB.len z
  obtain ⟨_, y⟩ := T4.out.fst_of
  obtain ⟨_, _, y1, -⟩ := y
  obtain ⟨_, y⟩ := T4.out.snd_of
  obtain ⟨_, _, y2, -⟩ := y
  have HG := hide (acts_same w3 _ _ (gnA p now who) y1.1 y2.1 hlenA.out)
  have T5 := hide T4.out.bare
  clear y1 y2 hlenA T4
  generalize (gnA p now who).length = len at *
  go_wp2_with fail
  refine HG.out.mono ?_
  rintro e w4 ⟨rfl, F⟩
  have T6 := hide (T5.out.e F)
  clear HG T5
  go_wp2_with fail
  go_ret
  exact ⟨rfl, T6.out⟩
set_option maxHeartbeats 4000000 in
set_option maxRecDepth 100000 in
theorem asks3 (now who : Int) (h : Two (PX p b) (QX q c) w P) (k0 : POk p K) (hR : Rel p q) (hq : QOk q (K - q.Q.length)) (hK : K < 9223372036854775805) :
    Calls Try.prog 11 #[.pointer (some ⟨b, 0, none⟩), .pointer (some ⟨c, 0, none⟩), stV 3 now who] w fun e w' => e = .returned (.bool true) ∧ Does (Two (PX (dnP p now who true) b) (QX (roP q now who true) c)) P w w' := by
  have T0 : Hid (Does (Two (Blk w.heap.size (stO 3 now who)) (Two (PX p b) (QX q c))) P w (w.alloc (stO 3 now who))) := hide ((Does.refl h).new _)
  have HK := hide k0
  have HQ := hide hq
  have HR := hide hR
  have hcap : q.cap ≤ 64 := by rw [hR.cap]; exact k0.cap1
  have hlenA : Hid ((dnA p now who true).length ≤ 1000) := hide (dnA_len k0 now who true)
  clear h k0 hq hR
  rw [show stO 3 now who = .cells #[.int .i64 3, .int .i64 now, .int .i64 who] 34 (0, 0) from rfl] at T0
  unfold stV
  go_enter Try.func11, Try.ntmps11
  go_upto_region 1 with fail
  generalize w.alloc _ = w1 at *
  generalize w.heap.size = sb at *
  obtain ⟨_, x⟩ := T0.out.fst_of
  obtain ⟨e0, e1, e2⟩ := st_cells (kd := 3) (nw := now) (who := who) x.1
  clear x
  obtain ⟨P2, x, hx⟩ := T0.out.focR
  obtain ⟨P3, y, hy⟩ := (Does.refl x).focL
  have HX := hide (fun A' w2 d => hx _ w2 (hy A' w2 d))
  have HC := hide (done_any p b w1 P3 now who K true y HK.out (by omega))
  clear x hx y hy T0
  go_wp2_with fail
  refine HC.out.mono ?_
  rintro e w2 ⟨v, rfl, d⟩
  have T2 := hide (HX.out _ _ d)
  clear d HX HC e0 e1 e2
  obtain ⟨_, x⟩ := T2.out.fst_of
  obtain ⟨e0, e1, e2⟩ := st_cells (kd := 3) (nw := now) (who := who) x.1
  clear x
  obtain ⟨sa, sc, rfl⟩ : ∃ a cap, v = .slice a (dnA p now who true).length cap := by obtain ⟨_, y⟩ := T2.out.snd.fst_of; obtain ⟨_, _, z, -⟩ := y; exact RA.len z
  have T3 := hide T2.out.snd
  clear T2
  obtain ⟨P4, y, hy⟩ := T3.out.focR
  have HX := hide hy
  have HC := hide (rdone_any q c w2 P4 now who K true y HQ.out HR.out.nodS (by have := HK.out.r64; intro x; have := HR.out.spare x; omega) (by omega) hcap)
  clear y hy T3
  rw [← (HR.out.done now who true).1, ← (HR.out.done now who true).2.1] at HC
  generalize dnE p now who = ue at *
  go_wp2_with fail
  refine HC.out.mono ?_
  rintro e w3 ⟨u, rfl, d⟩
  have T4 := hide (HX.out _ _ d)
  clear d HX HC e0 e1 e2
  obtain ⟨ta, tc, rfl⟩ : ∃ a cap, u = .slice a (dnA p now who true).length cap := by obtain ⟨_, y⟩ := T4.out.snd_of; obtain ⟨_, _, z, -⟩ := y; exact RB.len z
  obtain ⟨_, y⟩ := T4.out.fst_of
  obtain ⟨_, _, y1, -⟩ := y
  obtain ⟨_, y⟩ := T4.out.snd_of
  obtain ⟨_, _, y2, -⟩ := y
  have HG := hide (acts_same w3 _ _ (dnA p now who true) y1.1 y2.1 hlenA.out)
  have T5 := hide T4.out.bare
  clear y1 y2 hlenA T4
  generalize (dnA p now who true).length = len at *
  go_wp2_with fail
  refine HG.out.mono ?_
  rintro e w4 ⟨rfl, F⟩
  have T6 := hide (T5.out.e F)
  clear HG T5
  go_wp2_with fail
  go_ret
  exact ⟨rfl, T6.out⟩
set_option maxHeartbeats 4000000 in
set_option maxRecDepth 100000 in
theorem asks4 (now who : Int) (h : Two (PX p b) (QX q c) w P) (k0 : POk p K) (hR : Rel p q) (hq : QOk q (K - q.Q.length)) (hK : K < 9223372036854775805) :
    Calls Try.prog 11 #[.pointer (some ⟨b, 0, none⟩), .pointer (some ⟨c, 0, none⟩), stV 4 now who] w fun e w' => e = .returned (.bool true) ∧ Does (Two (PX (dnP p now who false) b) (QX (roP q now who false) c)) P w w' := by
  have T0 : Hid (Does (Two (Blk w.heap.size (stO 4 now who)) (Two (PX p b) (QX q c))) P w (w.alloc (stO 4 now who))) := hide ((Does.refl h).new _)
  have HK := hide k0
  have HQ := hide hq
  have HR := hide hR
  have hcap : q.cap ≤ 64 := by rw [hR.cap]; exact k0.cap1
  have hlenA : Hid ((dnA p now who false).length ≤ 1000) := hide (dnA_len k0 now who false)
  clear h k0 hq hR
  rw [show stO 4 now who = .cells #[.int .i64 4, .int .i64 now, .int .i64 who] 34 (0, 0) from rfl] at T0
  unfold stV
  go_enter Try.func11, Try.ntmps11
  go_upto_region 1 with fail
  generalize w.alloc _ = w1 at *
  generalize w.heap.size = sb at *
  obtain ⟨_, x⟩ := T0.out.fst_of
  obtain ⟨e0, e1, e2⟩ := st_cells (kd := 4) (nw := now) (who := who) x.1
  clear x
  obtain ⟨P2, x, hx⟩ := T0.out.focR
  obtain ⟨P3, y, hy⟩ := (Does.refl x).focL
  have HX := hide (fun A' w2 d => hx _ w2 (hy A' w2 d))
  have HC := hide (done_any p b w1 P3 now who K false y HK.out (by omega))
  clear x hx y hy T0
  go_wp2_with fail
  refine HC.out.mono ?_
  rintro e w2 ⟨v, rfl, d⟩
  have T2 := hide (HX.out _ _ d)
  clear d HX HC e0 e1 e2
  obtain ⟨_, x⟩ := T2.out.fst_of
  obtain ⟨e0, e1, e2⟩ := st_cells (kd := 4) (nw := now) (who := who) x.1
  clear x
  obtain ⟨sa, sc, rfl⟩ : ∃ a cap, v = .slice a (dnA p now who false).length cap := by obtain ⟨_, y⟩ := T2.out.snd.fst_of; obtain ⟨_, _, z, -⟩ := y; exact RA.len z
  have T3 := hide T2.out.snd
  clear T2
  obtain ⟨P4, y, hy⟩ := T3.out.focR
  have HX := hide hy
  have HC := hide (rdone_any q c w2 P4 now who K false y HQ.out HR.out.nodS (by have := HK.out.r64; intro x; have := HR.out.spare x; omega) (by omega) hcap)
  clear y hy T3
  rw [← (HR.out.done now who false).1, ← (HR.out.done now who false).2.1] at HC
  generalize dnE p now who = ue at *
  go_wp2_with fail
  refine HC.out.mono ?_
  rintro e w3 ⟨u, rfl, d⟩
  have T4 := hide (HX.out _ _ d)
  clear d HX HC e0 e1 e2
  obtain ⟨ta, tc, rfl⟩ : ∃ a cap, u = .slice a (dnA p now who false).length cap := by obtain ⟨_, y⟩ := T4.out.snd_of; obtain ⟨_, _, z, -⟩ := y; exact RB.len z
  obtain ⟨_, y⟩ := T4.out.fst_of
  obtain ⟨_, _, y1, -⟩ := y
  obtain ⟨_, y⟩ := T4.out.snd_of
  obtain ⟨_, _, y2, -⟩ := y
  have HG := hide (acts_same w3 _ _ (dnA p now who false) y1.1 y2.1 hlenA.out)
  have T5 := hide T4.out.bare
  clear y1 y2 hlenA T4
  generalize (dnA p now who false).length = len at *
  go_wp2_with fail
  refine HG.out.mono ?_
  rintro e w4 ⟨rfl, F⟩
  have T6 := hide (T5.out.e F)
  clear HG T5
  go_wp2_with fail
  go_ret
  exact ⟨rfl, T6.out⟩
set_option maxHeartbeats 4000000 in
set_option maxRecDepth 100000 in
theorem asks5 (now who : Int) (h : Two (PX p b) (QX q c) w P) (k0 : POk p K) (hR : Rel p q) (hq : QOk q (K - q.Q.length)) (hK : K < 9223372036854775805) :
    Calls Try.prog 11 #[.pointer (some ⟨b, 0, none⟩), .pointer (some ⟨c, 0, none⟩), stV 5 now who] w fun e w' => e = .returned (.bool true) ∧ Does (Two (PX (drP p now who) b) (QX (rdP q now who) c)) P w w' := by
  have T0 : Hid (Does (Two (Blk w.heap.size (stO 5 now who)) (Two (PX p b) (QX q c))) P w (w.alloc (stO 5 now who))) := hide ((Does.refl h).new _)
  have HK := hide k0
  have HQ := hide hq
  have HR := hide hR
  have hcap : q.cap ≤ 64 := by rw [hR.cap]; exact k0.cap1
  have hlenA : Hid ((drA p now who).length ≤ 1000) := hide (drA_len k0 now who)
  clear h k0 hq hR
  rw [show stO 5 now who = .cells #[.int .i64 5, .int .i64 now, .int .i64 who] 34 (0, 0) from rfl] at T0
  unfold stV
  go_enter Try.func11, Try.ntmps11
  go_upto_region 1 with fail
  generalize w.alloc _ = w1 at *
  generalize w.heap.size = sb at *
  obtain ⟨_, x⟩ := T0.out.fst_of
  obtain ⟨e0, e1, e2⟩ := st_cells (kd := 5) (nw := now) (who := who) x.1
  clear x
  obtain ⟨P2, x, hx⟩ := T0.out.focR
  obtain ⟨P3, y, hy⟩ := (Does.refl x).focL
  have HX := hide (fun A' w2 d => hx _ w2 (hy A' w2 d))
  have HC := hide (drop_any p b w1 P3 now who K y HK.out (by omega))
  clear x hx y hy T0
  go_wp2_with fail
  refine HC.out.mono ?_
  rintro e w2 ⟨v, rfl, d⟩
  have T2 := hide (HX.out _ _ d)
  clear d HX HC e0 e1 e2
  obtain ⟨_, x⟩ := T2.out.fst_of
  obtain ⟨e0, e1, e2⟩ := st_cells (kd := 5) (nw := now) (who := who) x.1
  clear x
  obtain ⟨sa, sc, rfl⟩ : ∃ a cap, v = .slice a (drA p now who).length cap := by obtain ⟨_, y⟩ := T2.out.snd.fst_of; obtain ⟨_, _, z, -⟩ := y; exact RA.len z
  have T3 := hide T2.out.snd
  clear T2
  obtain ⟨P4, y, hy⟩ := T3.out.focR
  have HX := hide hy
  have HC := hide (rdrop_any q c w2 P4 now who K y HQ.out HR.out.nodS (by omega) hcap)
  clear y hy T3
  rw [← (HR.out.drop now who).1, ← (HR.out.drop now who).2.1] at HC
  generalize drE p now who = ue at *
  go_wp2_with fail
  refine HC.out.mono ?_
  rintro e w3 ⟨u, rfl, d⟩
  have T4 := hide (HX.out _ _ d)
  clear d HX HC e0 e1 e2
  obtain ⟨ta, tc, rfl⟩ : ∃ a cap, u = .slice a (drA p now who).length cap := by obtain ⟨_, y⟩ := T4.out.snd_of; obtain ⟨_, _, z, -⟩ := y; exact RB.len z
  obtain ⟨_, y⟩ := T4.out.fst_of
  obtain ⟨_, _, y1, -⟩ := y
  obtain ⟨_, y⟩ := T4.out.snd_of
  obtain ⟨_, _, y2, -⟩ := y
  have HG := hide (acts_same w3 _ _ (drA p now who) y1.1 y2.1 hlenA.out)
  have T5 := hide T4.out.bare
  clear y1 y2 hlenA T4
  generalize (drA p now who).length = len at *
  go_wp2_with fail
  refine HG.out.mono ?_
  rintro e w4 ⟨rfl, F⟩
  have T6 := hide (T5.out.e F)
  clear HG T5
  go_wp2_with fail
  go_ret
  exact ⟨rfl, T6.out⟩
set_option maxHeartbeats 4000000 in
set_option maxRecDepth 100000 in
theorem asks6 (now who : Int) (kd : Int) (h : Two (PX p b) (QX q c) w P) (k0 : POk p K) (hR : Rel p q) (hq : QOk q (K - q.Q.length)) (hK : K < 9223372036854775805) (n0 : ¬ kd = 0) (n1 : ¬ kd = 1) (n2 : ¬ kd = 2) (n3 : ¬ kd = 3) (n4 : ¬ kd = 4) (n5 : ¬ kd = 5) :
    Calls Try.prog 11 #[.pointer (some ⟨b, 0, none⟩), .pointer (some ⟨c, 0, none⟩), stV kd now who] w fun e w' => e = .returned (.bool true) ∧ Does (Two (PX (exP p now) b) (QX (rxP q now) c)) P w w' := by
  have T0 : Hid (Does (Two (Blk w.heap.size (stO kd now who)) (Two (PX p b) (QX q c))) P w (w.alloc (stO kd now who))) := hide ((Does.refl h).new _)
  have HK := hide k0
  have HQ := hide hq
  have HR := hide hR
  have hcap : q.cap ≤ 64 := by rw [hR.cap]; exact k0.cap1
  have hlenA : Hid ((exA p now).length ≤ 1000) := hide (exA_len k0 now)
  clear h k0 hq hR
  rw [show stO kd now who = .cells #[.int .i64 kd, .int .i64 now, .int .i64 who] 34 (0, 0) from rfl] at T0
  unfold stV
  have m0 : (kd == 0) = false := by simpa using n0
  have m1 : (kd == 1) = false := by simpa using n1
  have m2 : (kd == 2) = false := by simpa using n2
  have m3 : (kd == 3) = false := by simpa using n3
  have m4 : (kd == 4) = false := by simpa using n4
  have m5 : (kd == 5) = false := by simpa using n5
  go_enter Try.func11, Try.ntmps11
  go_upto_region 1 with fail
  generalize w.alloc _ = w1 at *
  generalize w.heap.size = sb at *
  obtain ⟨_, x⟩ := T0.out.fst_of
  obtain ⟨e0, e1, e2⟩ := st_cells (kd := kd) (nw := now) (who := who) x.1
  clear x
  obtain ⟨P2, x, hx⟩ := T0.out.focR
  obtain ⟨P3, y, hy⟩ := (Does.refl x).focL
  have HX := hide (fun A' w2 d => hx _ w2 (hy A' w2 d))
  have HC := hide (expire_any p b w1 P3 now K y HK.out (by omega))
  clear x hx y hy T0
  go_wp2_with fail
  refine HC.out.mono ?_
  rintro e w2 ⟨v, rfl, d⟩
  have T2 := hide (HX.out _ _ d)
  clear d HX HC e0 e1 e2
  obtain ⟨_, x⟩ := T2.out.fst_of
  obtain ⟨e0, e1, e2⟩ := st_cells (kd := kd) (nw := now) (who := who) x.1
  clear x
  obtain ⟨sa, sc, rfl⟩ : ∃ a cap, v = .slice a (exA p now).length cap := by obtain ⟨_, y⟩ := T2.out.snd.fst_of; obtain ⟨_, _, z, -⟩ := y; exact RA.len z
  have T3 := hide T2.out.snd
  clear T2
  obtain ⟨P4, y, hy⟩ := T3.out.focR
  have HX := hide hy
  have HC := hide (rexpire_any q c w2 P4 now K y HQ.out HR.out.nodS (by omega) hcap)
  clear y hy T3
  rw [← (HR.out.expire now).1, show rxE now = exE now from rfl] at HC
  generalize exE now = ue at *
  go_wp2_with fail
  refine HC.out.mono ?_
  rintro e w3 ⟨u, rfl, d⟩
  have T4 := hide (HX.out _ _ d)
  clear d HX HC e0 e1 e2
  obtain ⟨ta, tc, rfl⟩ : ∃ a cap, u = .slice a (exA p now).length cap := by obtain ⟨_, y⟩ := T4.out.snd_of; obtain ⟨_, _, z, -⟩ := y; exact RB.len z
  obtain ⟨_, y⟩ := T4.out.fst_of
  obtain ⟨_, _, y1, -⟩ := y
  obtain ⟨_, y⟩ := T4.out.snd_of
  obtain ⟨_, _, y2, -⟩ := y
  have HG := hide (acts_same w3 _ _ (exA p now) y1.1 y2.1 hlenA.out)
  have T5 := hide T4.out.bare
  clear y1 y2 hlenA T4
  generalize (exA p now).length = len at *
  go_wp2_with fail
  refine HG.out.mono ?_
  rintro e w4 ⟨rfl, F⟩
  have T6 := hide (T5.out.e F)
  clear HG T5
  go_wp2_with fail
  go_ret
  exact ⟨rfl, T6.out⟩
end
end Go.Proofs.Ytgeneknaekoinaa
