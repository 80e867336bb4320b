/- A step that asks, and every step: both do the same. -/
import Derived.Test.YtgeneknaekoinaaUAs
namespace Go.Proofs.Ytgeneknaekoinaa
open Go.ChangeShapes Go.WideShapes Go.ChangeAt Go.RowKit
set_option linter.unusedVariables false

theorem Does.newRB {B : Thing} [o : Ob B] {P : Nat → Prop} {w w1 : World} (h : Does B P w w1) (a : Ac) : Does (Two (RB (.slice (some ⟨w1.heap.size, 0, none⟩) 1 1) [a]) B) P w (w1.alloc (.cells #[.int .i64 a.k, .int .i64 a.c, .int .i64 a.w] 64)) := by
  obtain ⟨P', h1, h2, h3⟩ := h
  have hr := rw_new infRac w1 (encA a) rfl
  refine ⟨fun k => k = w1.heap.size ∨ P' k, ⟨fun k => k = w1.heap.size, P', ⟨by show Rw _ _ _ _ 1 (fl encA [a]); rw [show fl encA [a] = encA a by simp [fl]]; exact hr, fun k => by simp [Value.ownBlock, eq_comm]⟩, o.fr _ _ _ _ h1 (Fr.alloc none' w1 _) (fun _ _ x => x), fun k hk x => ?_, fun _ => Iff.rfl⟩, h2.trans (Fr.alloc none' w1 _) (fun _ _ x => x.elim), fun k hk => ?_⟩
  · have := o.lt _ _ _ h1 x; omega
  · rcases hk with rfl | hk
    · exact .inr h2.size
    · exact h3 k hk
def rcO (a : Ac) : Obj := .cells #[.int .i64 a.k, .int .i64 a.c, .int .i64 a.w] 64 (0, 0)
section
variable {p : Pm} {q : Rm} {b c : Nat} {w : World} {P : Nat → Prop} {K : Int}
set_option maxHeartbeats 4000000 in
set_option maxRecDepth 100000 in
theorem asks0 (now who : Int) (h : Two (PX p b) (QX q c) w P) (k0 : POk p K) (hR : Rel p q) (hq : QOk q (K - q.Q.length)) (hK : K < 9223372036854775805) :
    Calls Try.prog 11 #[.pointer (some ⟨b, 0, none⟩), .pointer (some ⟨c, 0, none⟩), stV 0 now who] w fun e w' => e = .returned (.bool true) ∧ Does (Two (PX (askP p now who) b) (QX (rkP q now who) c)) P w w' := by
  have T0 : Hid (Does (Two (Blk w.heap.size (stO 0 now who)) (Two (PX p b) (QX q c))) P w (w.alloc (stO 0 now who))) := hide ((Does.refl h).new _)
  have HK := hide k0
  have HQ := hide hq
  have HR := hide hR
  clear h k0 hq hR
  rw [show stO 0 now who = .cells #[.int .i64 0, .int .i64 now, .int .i64 who] 34 (0, 0) from rfl] at T0
  unfold stV
  go_enter Try.func11, Try.ntmps11
  go_upto_region 1 with fail
  generalize w.alloc _ = w1 at *
  generalize w.heap.size = sb at *
  obtain ⟨_, x⟩ := T0.out.fst_of
  obtain ⟨e0, e1, e2⟩ := st_cells (kd := 0) (nw := now) (who := who) x.1
  clear x
  obtain ⟨P2, x, hx⟩ := T0.out.focR
  obtain ⟨P3, y, hy⟩ := (Does.refl x).focL
  have HX := hide (fun A' w2 d => hx _ w2 (hy A' w2 d))
  have HC := hide (ask_any p b w1 P3 now who K y HK.out (by omega))
  clear x hx y hy T0
  obtain ⟨⟨ak, ac, aw⟩, Hac⟩ : ∃ a, Hid (askA p now who = a) := ⟨_, hide rfl⟩
  obtain ⟨er, Her⟩ : ∃ er, Hid (askE p now who = er) := ⟨_, hide rfl⟩
  rw [Hac.out, Her.out] at HC
  unfold acV at HC
  go_wp2_with fail
  refine HC.out.mono ?_
  rintro e w2 ⟨rfl, d⟩
  have T2 := hide (HX.out _ _ d)
  clear d HX HC e0 e1 e2
  have T3 := hide (T2.out.new (acO ⟨ak, ac, aw⟩))
  rw [show acO ⟨ak, ac, aw⟩ = .cells #[.int .i64 ak, .int .i64 ac, .int .i64 aw] 49 (0, 0) from rfl] at T3
  go_upto_region 4 with fail
  clear T2
  generalize w2.alloc _ = w3 at *
  generalize w2.heap.size = ab at *
  obtain ⟨_, x⟩ := T3.out.snd.fst_of
  obtain ⟨e0, e1, e2⟩ := st_cells (kd := 0) (nw := now) (who := who) x.1
  clear x
  obtain ⟨P2, x, hx⟩ := T3.out.focR
  obtain ⟨P3, y, hy⟩ := (Does.refl x).focR
  obtain ⟨P4, z, hz⟩ := (Does.refl y).focR
  have HX := hide (fun A' w2 d => hx _ w2 (hy _ w2 (hz A' w2 d)))
  have HC := hide (rask_any q c w3 P4 now who _ z HQ.out (by omega))
  clear x hx y hy z hz T3
  rw [← (HR.out.ask now who).1, ← (HR.out.ask now who).2.1, Hac.out, Her.out] at HC
  unfold acV at HC
  go_wp2_with fail
  refine HC.out.mono ?_
  rintro e w4 ⟨rfl, d⟩
  have T4 := hide (HX.out _ _ d)
  clear d HX HC e0 e1 e2 HK HQ HR Hac Her
  have T5 := hide (T4.out.new (rcO ⟨ak, ac, aw⟩))
  rw [show rcO ⟨ak, ac, aw⟩ = .cells #[.int .i64 ak, .int .i64 ac, .int .i64 aw] 64 (0, 0) from rfl] at T5
  go_upto_region 5 with fail
  clear T4
  generalize w4.alloc _ = w5 at *
  generalize w4.heap.size = rb at *
  obtain ⟨_, x⟩ := T5.out.fst_of
  have r0 : w5.cell? ⟨rb, 0, none⟩ = some (.int .i64 ak) := cell_of x.1 0
  have r1 : w5.cell? ⟨rb, 1, none⟩ = some (.int .i64 ac) := cell_of x.1 1
  have r2 : w5.cell? ⟨rb, 2, none⟩ = some (.int .i64 aw) := cell_of x.1 2
  clear x
  obtain ⟨_, x⟩ := T5.out.snd.fst_of
  obtain ⟨a0, a1, a2, -⟩ := ac_cells (a := ⟨ak, ac, aw⟩) x.1
  dsimp only at a0 a1 a2
  clear x
  have T6 := hide ((T5.out.snd.snd.snd.newRA ⟨ak, ac, aw⟩).newRB ⟨ak, ac, aw⟩)
  dsimp only at T6
  have s0 : (w5.alloc (.cells #[.int .i64 ak, .int .i64 ac, .int .i64 aw] 49)).cell? ⟨rb, 0, none⟩ = some (.int .i64 ak) := ((Fr.alloc none' w5 _).cl.cell r0)
  have s1 : (w5.alloc (.cells #[.int .i64 ak, .int .i64 ac, .int .i64 aw] 49)).cell? ⟨rb, 1, none⟩ = some (.int .i64 ac) := ((Fr.alloc none' w5 _).cl.cell r1)
  have s2 : (w5.alloc (.cells #[.int .i64 ak, .int .i64 ac, .int .i64 aw] 49)).cell? ⟨rb, 2, none⟩ = some (.int .i64 aw) := ((Fr.alloc none' w5 _).cl.cell r2)
  obtain ⟨_, y⟩ := T6.out.fst_of
  obtain ⟨_, y2⟩ := T6.out.snd.fst_of
  have HG := hide (acts_same _ _ _ [⟨ak, ac, aw⟩] y2.1 y.1 (by simp))
  have hsz : (w5.alloc (.cells #[.int .i64 ak, .int .i64 ac, .int .i64 aw] 49)).heap.size = w5.heap.size + 1 := Array.size_push _
  rw [hsz] at HG
  have T7 := hide T6.out.snd.snd
  clear y y2 T5 T6 hsz
  go_wp2_with fail
  refine HG.out.mono ?_
  rintro e w6 ⟨rfl, F⟩
  have T8 := hide (T7.out.e F)
  clear HG T7
  go_wp2_with fail
  go_ret
  exact ⟨rfl, T8.out⟩
theorem asks_any (kd now who : Int) (h : Two (PX p b) (QX q c) w P) (k0 : POk p K) (hR : Rel p q) (hq : QOk q (K - q.Q.length)) (hK : K < 9223372036854775805) :
    Calls Try.prog 11 #[.pointer (some ⟨b, 0, none⟩), .pointer (some ⟨c, 0, none⟩), stV kd now who] w fun e w' => e = .returned (.bool true) ∧ Does (Two (PX (dsP p kd now who) b) (QX (dqP q kd now who) c)) P w w' := by
  by_cases n0 : kd = 0
  · subst n0; exact asks0 now who h k0 hR hq hK
  by_cases n1 : kd = 1
  · subst n1; exact asks1 now who h k0 hR hq hK
  by_cases n2 : kd = 2
  · subst n2; exact asks2 now who h k0 hR hq hK
  by_cases n3 : kd = 3
  · subst n3; exact asks3 now who h k0 hR hq hK
  by_cases n4 : kd = 4
  · subst n4; exact asks4 now who h k0 hR hq hK
  by_cases n5 : kd = 5
  · subst n5; exact asks5 now who h k0 hR hq hK
  have e3 : dsP p kd now who = exP p now := by unfold dsP; rw [if_neg n0, if_neg n1, if_neg n2, if_neg n3, if_neg n4, if_neg n5]
  have e4 : dqP q kd now who = rxP q now := by unfold dqP; rw [if_neg n0, if_neg n1, if_neg n2, if_neg n3, if_neg n4, if_neg n5]
  rw [e3, e4]
  exact asks6 now who kd h k0 hR hq hK n0 n1 n2 n3 n4 n5
end
end Go.Proofs.Ytgeneknaekoinaa
