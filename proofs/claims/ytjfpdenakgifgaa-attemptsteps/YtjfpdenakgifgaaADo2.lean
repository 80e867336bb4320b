/- The document's request: an attempt is made, ended; the request is over. -/
import Derived.Test.YtjfpdenakgifgaaADo1
namespace Go.Proofs.Ytjfpdenakgifgaa
open Go.ChangeShapes Go.WideShapes Go.ChangeAt Go.RowKit
set_option linter.unusedVariables false

/-- Whatever rows it has just now. -/
def DY (x : Ex) (p : Rq) (mk : Int) (ov : Bool) (I B : List Int) (A : List Ac) (b : Nat) : Thing := fun w P => ∃ vi vb vo, DT x p mk ov I B A b vi vb vo w P
instance DY.ob (x : Ex) (p : Rq) (mk : Int) (ov : Bool) (I B : List Int) (A : List Ac) (b : Nat) : Ob (DY x p mk ov I B A b) := ⟨fun w w' P Q ⟨vi, vb, vo, h⟩ F d => ⟨vi, vb, vo, Ob.fr w w' P Q h F d⟩, fun w P k ⟨vi, vb, vo, h⟩ hk => Ob.lt w P k h hk⟩
theorem Does.dy {x : Ex} {p : Rq} {mk : Int} {ov : Bool} {I B : List Int} {A : List Ac} {b : Nat} {vi vb vo : Value} {P : Nat → Prop} {w w' : World} (h : Does (DT x p mk ov I B A b vi vb vo) P w w') : Does (DY x p mk ov I B A b) P w w' := by
  obtain ⟨P', h1, h2, h3⟩ := h
  exact ⟨P', ⟨vi, vb, vo, h1⟩, h2, h3⟩
theorem RA.sh2 {v : Value} {A : List Ac} {w : World} {P : Nat → Prop} (h : RB v A w P) : ∃ a cap, v = .slice a A.length cap := by
  obtain ⟨a, cap, e, -, -⟩ := h.1.shape
  exact ⟨a, cap, e⟩
section
variable {x : Ex} {p : Rq} {mk : Int} {ov : Bool} {I B : List Int} {A : List Ac} {b : Nat} {vi vb vo : Value} {w : World} {P : Nat → Prop}
set_option maxHeartbeats 8000000 in
set_option maxRecDepth 100000 in
theorem rmake_any (now n : Int) (h : DT x p mk ov I B A b vi vb vo w P) (hI : I.length ≤ 100) (hB : B.length ≤ 100) (hA : A.length ≤ 100) (m0 : 0 ≤ mk) (m1 : mk ≤ 100) :
    Calls Try.prog 31 #[.pointer (some ⟨b, 0, none⟩), .int .i64 now, .int .i64 n] w fun e w' => e = .returned (.tuple #[]) ∧ Does (DY x { p with la := now } (mk + 1) ov (I ++ [mk]) (B ++ [now]) (A ++ [⟨1, mk, n⟩]) b) P w w' := by
  have T0 := hide ((Does.refl h).e (Fr.drew none' _))
  obtain ⟨_, y⟩ := T0.out.of
  have q := y.pt
  obtain ⟨c0, c1, c2, c3, c4, c5, c6, c7, c8, c9, c10, c11, c12, c13, c14, c15⟩ := q.c
  obtain ⟨ai, ci, rfl, hi0, hi1⟩ := q.I.shape
  obtain ⟨v', W', hrun, s', F', o'⟩ := append_rw infInt w.drew 45 _ _ _ [mk] q.I rfl (by omega) (by omega)
  obtain ⟨a2, cap2, rfl, hd0, hd1⟩ := s'.shape
  have c11' : W'.cell? ⟨b, 11, none⟩ = some (.slice ai I.length ci) := cell_of (F'.hd q.nI q.B0) 11
  have z11' : W'.frozen? ⟨b, 11, none⟩ = false := frozen_of (F'.hd q.nI q.B0) 11
  have c11o : w.cell? ⟨b, 11, none⟩ = some (.slice ai I.length ci) := c11
  have c8o : w.cell? ⟨b, 8, none⟩ = some (.int .i64 mk) := c8
  have c11a : (w.alloc (.cells #[.int .i64 mk] 3)).cell? ⟨b, 11, none⟩ = some (.slice ai I.length ci) := (World.cell?_of_block ((Fr.alloc none' w _).block b (World.block_lt_of_cell? _ _ c11o) (fun y => y))).trans c11o
  have T1 := hide (T0.out.trans (fun _ z => z.setI (w' := W') (I' := I ++ [mk]) (by rw [List.length_append]; exact s') F' o'))
  simp only [ints, List.map_cons, List.map_nil] at hrun
  clear y q s' F' o' T0 c0 c1 c2 c3 c4 c5 c6 c7 c9 c10 c11 c8 c12 c13 c14 c15 h
  go_enter Try.func31, Try.ntmps31
  go_wp2_with fail
  go_region_law (refine step_append_is rfl (.tmp 10) (.tmp 15) 45 rfl _ _ _ (by simp [Act.eval]) (by simp [Act.eval]) hrun ?_)
  all_goals
    generalize W'.setCell ⟨b, 11, none⟩ (.slice a2 (I.length + 1) cap2) = w2 at *
    clear c11' z11' c11o c11a hrun c8o
    obtain ⟨_, y⟩ := T1.out.of
    have q := y.pt
    obtain ⟨c0, c1, c2, c3, c4, c5, c6, c7, c8, c9, c10, c11, c12, c13, c14, c15⟩ := q.c
    obtain ⟨ab, cb, rfl, hb0, hb1⟩ := q.B.shape
    have HS := hide q.B
    have HQ := hide q
    clear y q c0 c1 c2 c3 c4 c5 c6 c7 c8 c9 c10 c11 c13 c14 c15
    obtain ⟨bn, Hbn⟩ : ∃ bn, Hid (B.length = bn) := ⟨_, hide rfl⟩
    rw [Hbn.out] at c12 hb0 HS hB T1
    go_wp2_with (at_builtin; apply Hid.out)
    unfold Hid
    refine wpList_append_rw infInt rfl _ _ rfl w2 (.slice ab bn cb) bn _ [now] rfl (by simp [Act.eval, go_sem]) HS.out rfl (by omega) (by omega) ?_
    intro v3 w3 q1 F o
    obtain ⟨a3, cap3, rfl, -, -⟩ := q1.shape
    have k12 : w3.cell? ⟨b, 12, none⟩ = some (.slice ab bn cb) := by have := cell_of (F.hd (by rw [← Hbn.out]; exact HQ.out.nB) HQ.out.B0) 12; rw [Hbn.out] at this; exact this
    have z12 : w3.frozen? ⟨b, 12, none⟩ = false := frozen_of (F.hd (by rw [← Hbn.out]; exact HQ.out.nB) HQ.out.B0) 12
    have T2 : Hid (Does (DT x p mk ov (I ++ [mk]) (B ++ [now]) A b (.slice a2 (I.length + 1) cap2) (.slice a3 (bn + 1) cap3) vo) P w (w3.setCell ⟨b, 12, none⟩ (.slice a3 (bn + 1) cap3))) := hide (T1.out.trans (fun _ z => z.setB (B' := B ++ [now]) (by rw [List.length_append, Hbn.out]; exact q1) F o))
    clear q1 F o HS HQ T1 c12
    go_upto_region 2 with fail
    clear k12 z12
    generalize w3.setCell _ _ = w4 at *
    have T3 := hide (T2.out.e (Fr.drew none' _))
    clear T2
    obtain ⟨_, y⟩ := T3.out.of
    have q := y.pt
    obtain ⟨c0, c1, c2, c3, c4, c5, c6, c7, c8, c9, c10, c11, c12, c13, c14, c15⟩ := q.c
    obtain ⟨ao, co, rfl, ho0, ho1⟩ := q.A.shape
    obtain ⟨v5, w5, hrun, s', F', o'⟩ := append_rw infRac w4.drew 33 _ _ _ (encA ⟨1, mk, n⟩) q.A rfl (by omega) (by omega)
    obtain ⟨a5, cap5, rfl, hd0, hd1⟩ := s'.shape
    have c15' : w5.cell? ⟨b, 15, none⟩ = some (.slice ao A.length co) := cell_of (F'.hd q.nA q.B0) 15
    have z15' : w5.frozen? ⟨b, 15, none⟩ = false := frozen_of (F'.hd q.nA q.B0) 15
    have c15o : w4.cell? ⟨b, 15, none⟩ = some (.slice ao A.length co) := c15
    have c8o : w4.cell? ⟨b, 8, none⟩ = some (.int .i64 mk) := c8
    have c15a : (w4.alloc (.cells #[.int .i64 1, .int .i64 mk, .int .i64 n] 66)).cell? ⟨b, 15, none⟩ = some (.slice ao A.length co) := (World.cell?_of_block ((Fr.alloc none' w4 _).block b (World.block_lt_of_cell? _ _ c15o) (fun y => y))).trans c15o
    have T4 := hide (T3.out.trans (fun _ z => z.setA (w' := w5) (A' := A ++ [⟨1, mk, n⟩]) (by rw [fl_app, List.length_append]; exact s') F' o'))
    simp only [ints, encA, List.map_cons, List.map_nil] at hrun
    clear y q s' F' o' T3 c0 c1 c2 c3 c4 c5 c6 c7 c9 c10 c11 c8 c12 c13 c14 c15
    go_region_law (refine step_append_is rfl (.tmp 33) (.tmp 40) 33 rfl _ _ _ (by simp [Act.eval]) (by simp [Act.eval]) hrun ?_)
    all_goals
      generalize w5.setCell ⟨b, 15, none⟩ (.slice a5 (A.length + 1) cap5) = w6 at *
      clear c15' z15' c15o c15a hrun c8o
      obtain ⟨_, y⟩ := T4.out.of
      have q := y.pt
      obtain ⟨c0, c1, c2, c3, c4, c5, c6, c7, c8, c9, c10, c11, c12, c13, c14, c15⟩ := q.c
      have z8 := q.fz 8
      have T5 := hide (T4.out.trans (fun _ z => z.setN (x' := x) (p' := p) (mk' := mk + 1) (ov' := ov) 8 (.int .i64 (mk + 1)) rfl))
      clear y q c0 c1 c2 c3 c4 c5 c6 c7 c9 c10 c11 c12 c13 c14 c15 T4
      go_upto_region 4 with fail
      clear c8 z8
      generalize w6.setCell _ _ = w7 at *
      obtain ⟨_, y⟩ := T5.out.of
      have q := y.pt
      obtain ⟨c0, c1, c2, c3, c4, c5, c6, c7, c8, c9, c10, c11, c12, c13, c14, c15⟩ := q.c
      have z7 := q.fz 7
      have T6 := hide (T5.out.trans (fun _ z => z.setN (x' := x) (p' := { p with la := now }) (mk' := mk + 1) (ov' := ov) 7 (.int .i64 now) rfl)).dy
      clear y q c0 c1 c2 c3 c4 c5 c6 c8 c9 c10 c11 c12 c13 c14 c15 T5
      go_wp2_with fail
      go_end0
      exact ⟨rfl, T6.out⟩
set_option maxHeartbeats 8000000 in
set_option maxRecDepth 100000 in
theorem rdone_any (a : Ac) (h : DT x p mk ov I B A b vi vb vo w P) (hA : A.length ≤ 100) :
    Calls Try.prog 37 #[.pointer (some ⟨b, 0, none⟩), acV a] w fun e w' => e = .returned (.tuple #[]) ∧ Does (DY x p mk true [] [] (A ++ [a]) b) P w w' := by
  have T0 : Hid (Does (Two (Blk w.heap.size (.cells #[.int .i64 a.k, .int .i64 a.c, .int .i64 a.w] 66 (0, 0))) (DT x p mk ov I B A b vi vb vo)) P w (w.alloc (.cells #[.int .i64 a.k, .int .i64 a.c, .int .i64 a.w] 66))) := hide ((Does.refl h).new _)
  unfold acV
  clear h
  go_enter Try.func37, Try.ntmps37
  go_upto_region 1 with fail
  generalize w.alloc _ = w1 at *
  generalize w.heap.size = ab at *
  have nilI : ∀ {x : Ex} {p : Rq} {mk : Int} {ov : Bool} {I B : List Int} {A : List Ac} {b : Nat} {vi vb vo : Value} {w : World} {P : Nat → Prop}, DT x p mk ov I B A b vi vb vo w P → Does (DT x p mk ov [] B A b (.slice none 0 0) vb vo) P w (w.setCell ⟨b, 11, none⟩ (.slice none 0 0)) := fun y => y.setI (w' := _) (I' := []) (Rw.nil _ _ _) (Fr.refl _ _) (fun k hk => by simp [Value.ownBlock] at hk)
  have nilB : ∀ {x : Ex} {p : Rq} {mk : Int} {ov : Bool} {I B : List Int} {A : List Ac} {b : Nat} {vi vb vo : Value} {w : World} {P : Nat → Prop}, DT x p mk ov I B A b vi vb vo w P → Does (DT x p mk ov I [] A b vi (.slice none 0 0) vo) P w (w.setCell ⟨b, 12, none⟩ (.slice none 0 0)) := fun y => y.setB (w' := _) (B' := []) (Rw.nil _ _ _) (Fr.refl _ _) (fun k hk => by simp [Value.ownBlock] at hk)
  obtain ⟨_, y⟩ := T0.out.snd_of
  have q := y.pt
  obtain ⟨c0, c1, c2, c3, c4, c5, c6, c7, c8, c9, c10, c11, c12, c13, c14, c15⟩ := q.c
  have z11 := q.fz 11
  have z12 := q.fz 12
  have z13 := q.fz 13
  have T1 := hide (((T0.out.right (fun _ y => y.setN (x' := x) (p' := p) (mk' := mk) (ov' := true) 13 (.bool true) rfl)).right (fun _ y => nilI y)).right (fun _ y => nilB y))
  clear y q T0 nilI nilB c0 c1 c2 c3 c4 c5 c6 c7 c8 c9 c10 c14 c15
  go_upto_region 4 with fail
  clear c11 c12 c13 z11 z12 z13
  generalize World.setCell (World.setCell (World.setCell _ _ _) _ _) _ _ = w4 at *
  have T3 := hide (T1.out.e (Fr.drew none' _))
  obtain ⟨_, yb⟩ := T1.out.fst_of
  have e0 : w4.cell? ⟨ab, 0, none⟩ = some (.int .i64 a.k) := cell_of yb.1 0
  have e1 : w4.cell? ⟨ab, 1, none⟩ = some (.int .i64 a.c) := cell_of yb.1 1
  have e2 : w4.cell? ⟨ab, 2, none⟩ = some (.int .i64 a.w) := cell_of yb.1 2
  obtain ⟨_, y⟩ := T3.out.snd_of
  have q := y.pt
  obtain ⟨c0, c1, c2, c3, c4, c5, c6, c7, c8, c9, c10, c11, c12, c13, c14, c15⟩ := q.c
  obtain ⟨ao, co, rfl, ho0, ho1⟩ := q.A.shape
  obtain ⟨v5, w5, hrun, s', F', o'⟩ := append_rw infRac w4.drew 33 _ _ _ (encA a) q.A rfl (by omega) (by omega)
  obtain ⟨a5, cap5, rfl, hd0, hd1⟩ := s'.shape
  have c15' : w5.cell? ⟨b, 15, none⟩ = some (.slice ao A.length co) := cell_of (F'.hd q.nA q.B0) 15
  have z15' : w5.frozen? ⟨b, 15, none⟩ = false := frozen_of (F'.hd q.nA q.B0) 15
  have c15o : w4.cell? ⟨b, 15, none⟩ = some (.slice ao A.length co) := c15
  have c15a : (w4.alloc (.cells #[.int .i64 a.k, .int .i64 a.c, .int .i64 a.w] 66)).cell? ⟨b, 15, none⟩ = some (.slice ao A.length co) := (World.cell?_of_block ((Fr.alloc none' w4 _).block b (World.block_lt_of_cell? _ _ c15o) (fun y => y))).trans c15o
  have T4 := hide (T3.out.snd.trans (fun _ z => z.setA (w' := w5) (A' := A ++ [a]) (by rw [fl_app, List.length_append]; exact s') F' o')).dy
  simp only [ints, encA, List.map_cons, List.map_nil] at hrun
  clear y yb q s' F' o' T3 T1 c0 c1 c2 c3 c4 c5 c6 c7 c9 c10 c11 c8 c12 c13 c14 c15
  go_region_law (refine step_append_is rfl (.tmp 17) (.tmp 19) 33 rfl _ _ _ (by simp [Act.eval]) (by simp [Act.eval]) hrun ?_)
  all_goals
    generalize w5.setCell ⟨b, 15, none⟩ (.slice a5 (A.length + 1) cap5) = w6 at *
    clear c15' z15' c15o c15a hrun e0 e1 e2
    go_end0
    exact ⟨rfl, T4.out⟩
end
end Go.Proofs.Ytjfpdenakgifgaa
